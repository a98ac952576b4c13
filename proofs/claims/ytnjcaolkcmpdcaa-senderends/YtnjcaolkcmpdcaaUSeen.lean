/- slices.Index and slices.Contains of numbers of 32 bits. -/
import Derived.Test.YtnjcaolkcmpdcaaUCopy
namespace Go.Proofs.Ytnjcaolkcmpdcaa
open Go.RowKit
set_option linter.unusedVariables false
theorem row32_get {w : World} {a : Option Addr} {l : List Nat} (h : Row32 w a l) {i : Nat} (hi : i < l.length) : ∃ b o, a = some ⟨b, o, none⟩ ∧ w.cell? ⟨b, o + i, none⟩ = some (.int .u32 ((l[i] : Nat) : Int)) := by
  obtain ⟨b, o, e, hc⟩ := h.2.2 (by omega)
  refine ⟨b, o, e, ?_⟩
  have := hc i hi
  rw [List.getD_eq_getElem?_getD, List.getElem?_eq_getElem hi] at this
  exact this
theorem take_contains {l : List Nat} {x j : Nat} (hlt : j < l.length) (h : (l.take j).contains x = false) : (l.take (j + 1)).contains x = (x == l[j]) := by
  have h' : x ∉ l.take j := by simpa using h
  rw [List.take_succ_eq_append_getElem hlt, Bool.eq_iff_iff]
  simp only [List.contains_eq_mem, decide_eq_true_eq, List.mem_append, List.mem_singleton, beq_iff_eq]
  exact ⟨fun q => q.elim (fun q => absurd q h') id, .inr⟩
set_option maxHeartbeats 1000000 in
theorem index32_any (w : World) (a : Option Addr) (c : Nat) (l : List Nat) (x : Nat) (h : Row32 w a l) (hl : l.length ≤ 1000) (hx : x < 4294967296) :
    Calls Try.prog 88 #[.slice a l.length c, .int .u32 (x : Nat)] w fun e w' => ∃ r : Int, e = .returned (.int .i64 r) ∧ decide (0 ≤ r) = l.contains x ∧ w = w' := by
  have HR : Hid (Row32 w a l) := h
  clear h
  go_enter Try.func88, Try.ntmps88
  go_wp2
  go_loopw [8] (fun i wr => ∃ j : Nat, j ≤ l.length ∧ i = .int .i64 j ∧ Hid ((l.take j).contains x = false) ∧ w = wr) (fun i _ => l.length - (intOf i).toNat)
  case atStart => exact ⟨0, Nat.zero_le _, rfl, rfl, rfl⟩
  case round =>
    obtain ⟨j, hj, rfl, HB, rfl⟩ := hrel
    by_cases hlt : j < l.length
    · obtain ⟨b, o, rfl, c0⟩ := row32_get HR.out hlt
      have HT : Hid ((l.take (j + 1)).contains x = (x == l[j])) := take_contains hlt HB.out
      have HX : Hid (l.contains l[j] = true) := by
        show _ = _
        simp only [List.contains_eq_mem, decide_eq_true_eq]
        exact List.getElem_mem hlt
      have hy : (l[j]) < 4294967296 := HR.out.1 _ (List.getElem_mem hlt)
      generalize l[j] = y at c0 HT HX hy
      by_cases e : x = y
      · subst e
        go_wp2
        go_ret
        exact ⟨(j : Int), rfl, by rw [HX.out]; simp, rfl⟩
      · have HN : Hid ((l.take (j + 1)).contains x = false) := by show _ = _; rw [HT.out]; simpa using e
        have e2 : ¬ ((x : Int) = (y : Int)) := by omega
        clear HX HT
        go_wp2
        go_roundw
        case rel => exact ⟨j + 1, by omega, by go_num, HN, trivial⟩
        case measure => simp [intOf]; omega
    · obtain rfl : j = l.length := by omega
      go_wp2
      go_ret
      have e := HB.out
      rw [List.take_length] at e
      exact ⟨-1, rfl, by rw [e]; rfl, rfl⟩
theorem contains32_any (w : World) (a : Option Addr) (c : Nat) (l : List Nat) (x : Nat) (h : Row32 w a l) (hl : l.length ≤ 1000) (hx : x < 4294967296) :
    Calls Try.prog 74 #[.slice a l.length c, .int .u32 (x : Nat)] w fun e w' => e = .returned (.bool (l.contains x)) ∧ w = w' := by
  have HI : Hid (Calls Try.prog 88 #[.slice a l.length c, .int .u32 (x : Nat)] w fun e w' => ∃ r : Int, e = .returned (.int .i64 r) ∧ decide (0 ≤ r) = l.contains x ∧ w = w') := index32_any w a c l x h hl hx
  clear h
  go_enter Try.func74, Try.ntmps74
  go_wp2_with (go_at_call 88; refine HI.out.mono ?_; rintro e w' ⟨r, rfl, hr, rfl⟩)
  go_ret
  exact ⟨by show Ending.returned (.bool (decide (x ∈ l))) = _; simp, rfl⟩
end Go.Proofs.Ytnjcaolkcmpdcaa
