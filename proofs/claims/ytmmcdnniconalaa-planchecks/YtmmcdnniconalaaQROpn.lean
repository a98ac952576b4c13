/- The walk of the reference's Open. -/
import Derived.Test.YtmmcdnniconalaaQOpn
namespace Go.Proofs.Ytmmcdnniconalaa
open Go.RowKit
set_option linter.unusedVariables false
theorem opnK_next {X : List Ct} {f t n : Int} {k : Nat} {c : Ct} (hc : X[k]? = some c) (h : opnK X f t n k = -1) : opnK X f t n (k + 1) = if c.frm = f ∧ hit t n c = true then (k : Int) else -1 := by
  rw [opnK, h, if_pos (by omega), hc]
set_option maxRecDepth 20000 in
set_option maxHeartbeats 8000000 in
theorem ropen_any (w : World) (nn f t n : Int) (a : Option Addr) (m k : Nat) (X : List Ct) (hm : X.length = m) (hmk : m ≤ k) (hk : k ≤ maxLen) (hX : CtAt (fun _ => False) w a X) :
    Calls Try.prog 13 #[pv nn a m k, .int .i64 f, .int .i64 t, .int .i64 n] w fun e w' => e = .returned (.int .i64 (opnK X f t n m)) ∧ Hid (Below w.heap.size w w') := by
  unfold pv
  have hm9 : (m : Int) ≤ 9223372036854775807 := by unfold maxLen at hk; omega
  obtain ⟨R, hR⟩ : ∃ R, opnK X f t n m = R := ⟨_, rfl⟩
  have HR : Hid (opnK X f t n m = R) := hR
  rw [hR]
  clear hR
  have HX : Hid (CtAt (fun _ => False) w a X) := hX
  clear hX
  go_enter Try.func13, Try.ntmps13
  go_wp2
  go_loopw [9] (fun i wr => ∃ j : Nat, j ≤ m ∧ i = .int .i64 j ∧ Hid (Below w.heap.size w wr ∧ opnK X f t n j = -1) ∧ wr.cell? ⟨w.heap.size, 0, none⟩ = some (.int .i64 nn) ∧ wr.cell? ⟨w.heap.size, 1, none⟩ = some (.slice a m k)) (fun i _ => m - (intOf i).toNat)
  case atStart => exact ⟨0, Nat.zero_le _, rfl, ⟨(Below.refl _ w).alloc (Nat.le_refl _) _, rfl⟩, by rw [cell_of (heap_alloc_new w _)]; rfl, by rw [cell_of (heap_alloc_new w _)]; rfl⟩
  case round =>
    obtain ⟨j, hj, rfl, HB, cn, cs⟩ := hrel
    by_cases hlt : j < m
    · obtain ⟨c, hc⟩ : ∃ c, X[j]? = some c := ⟨_, List.getElem?_eq_getElem (by omega)⟩
      obtain ⟨b', o, rfl, c0, c1, c2, c3, c4, c5⟩ := (HX.out.later HB.out.1).cells6 hc
      have hji : (j : Int) < (m : Int) := by omega
      have HNX : Hid (opnK X f t n (j + 1) = if c.frm = f ∧ hit t n c = true then (j : Int) else -1) := opnK_next hc HB.out.2
      have HBB : Hid (Below wr.heap.size wr (wr.alloc (.cells (cc c) 43))) := (Below.refl _ wr).alloc (Nat.le_refl _) _
      have cn' := cell_later HBB.out cn
      have cs' := cell_later HBB.out cs
      unfold cc at cn' cs' HBB
      have hw1 : IntKind.i64.wrap ((j : Int) + 1) = (j : Int) + 1 := by rw [IntKind.wrap_i64]; omega
      clear hc
      by_cases hh : c.frm = f ∧ hit t n c = true
      · have HR2 : Hid (R = (j : Int)) := by
          show _ = _
          have h1 := HNX.out
          rw [if_pos hh] at h1
          rw [← HR.out, opnK_stay (j := j + 1) (by rw [h1]; omega) m (by omega), h1]
        obtain ⟨h1, h2⟩ := hh
        unfold hit at h2
        simp only [Bool.and_eq_true, decide_eq_true_eq] at h2
        obtain ⟨⟨h2, h3⟩, h4⟩ := h2
        have h1' : (c.frm == f) = true := by simp [h1]
        clear h1 HNX
        go_wp2
        go_ret
        exact ⟨congrArg (fun x => Ending.returned (.int .i64 x)) HR2.out.symm, below_of HB.out.1 HBB.out⟩
      · have HN1 : Hid (opnK X f t n (j + 1) = -1) := by have := HNX.out; rw [if_neg hh] at this; exact this
        have HQ : Hid (Below w.heap.size w (wr.alloc (.cells #[.int .i64 c.frm, .int .i64 c.to, .int .i64 c.st, .int .i64 c.en, .int .i64 c.rt, .int .i64 c.dl] 43)) ∧ opnK X f t n (j + 1) = -1) := ⟨below_of HB.out.1 HBB.out, HN1.out⟩
        clear HNX HBB
        cases b0 : (c.frm == f) with
        | false =>
          clear hh
          go_wp2
          go_roundw
          case rel => exact ⟨j + 1, by omega, by go_num, HQ, cn', cs'⟩
          case measure => simp [intOf]; omega
        | true =>
          have h1 : c.frm = f := by simpa using b0
          have hh2 : hit t n c = false := by
            cases hq : hit t n c with
            | false => rfl
            | true => exact absurd ⟨h1, hq⟩ hh
          unfold hit at hh2
          clear hh h1
          cases b1 : (c.to == t) with
          | false =>
            clear hh2
            go_wp2
            go_roundw
            case rel => exact ⟨j + 1, by omega, by go_num, HQ, cn', cs'⟩
            case measure => simp [intOf]; omega
          | true =>
            rw [b1] at hh2
            by_cases b2 : c.st ≤ n
            · have b3 : ¬ n < c.en := by intro q; simp [b2, q] at hh2
              clear hh2
              go_wp2
              go_roundw
              case rel => exact ⟨j + 1, by omega, by go_num, HQ, cn', cs'⟩
              case measure => simp [intOf]; omega
            · clear hh2
              go_wp2
              go_roundw
              case rel => exact ⟨j + 1, by omega, by go_num, HQ, cn', cs'⟩
              case measure => simp [intOf]; omega
    · obtain rfl : j = m := by omega
      have HR2 : Hid (R = -1) := by show _ = _; rw [← HR.out, HB.out.2]
      go_wp2
      go_ret
      exact ⟨congrArg (fun x => Ending.returned (.int .i64 x)) HR2.out.symm, HB.out.1⟩
end Go.Proofs.Ytmmcdnniconalaa
