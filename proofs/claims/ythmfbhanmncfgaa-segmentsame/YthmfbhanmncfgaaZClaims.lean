/- segment.rightClaims, rightReport. -/
import Derived.Test.YthmfbhanmncfgaaZWalk
namespace Go.Proofs.Ythmfbhanmncfgaa
open Go.RowKit
set_option linter.unusedVariables false
/-- The claims l lie in memory from a on. -/
def RowC (w : World) (a : Option Addr) (l : List (Int × Int)) : Prop :=
  l.length ≤ maxLen ∧ (0 < l.length → ∃ b off, a = some ⟨b, off, none⟩ ∧ ∀ i (h : i < l.length), w.cell? ⟨b, off + i * 2, none⟩ = some (.int .i64 l[i].1) ∧ w.cell? ⟨b, off + i * 2 + 1, none⟩ = some (.int .i64 l[i].2))
theorem RowC.later {w w' : World} {a : Option Addr} {l : List (Int × Int)} (h : RowC w a l) (hb : Below w.heap.size w w') : RowC w' a l := by
  obtain ⟨h2, h3⟩ := h
  refine ⟨h2, fun h0 => ?_⟩
  obtain ⟨b, off, rfl, hc⟩ := h3 h0
  exact ⟨b, off, rfl, fun i hi => ⟨cell_later hb (hc i hi).1, cell_later hb (hc i hi).2⟩⟩
set_option maxRecDepth 20000 in
set_option maxHeartbeats 1000000 in
theorem claims_any (s : Sg) (a : Option Addr) (c : Nat) (a2 : Option Addr) (c2 : Nat) (w : World) (hz : s.cls.length ≤ 140737488351232) (h0 : 0 ≤ s.low) (hlu : s.low < s.upp) (hu : s.upp ≤ 512) (hr : RowC w a2 s.cls) (hm : ∀ c ∈ s.cls, in64 c.1 ∧ in64 c.2) : Calls Try.prog 46 #[sv s a c a2 c2] w fun e w' => e = .returned (.bool (clsOk s.upp s.low s.cls)) ∧ Hid (Below w.heap.size w w') := by
  have HR : Hid (RowC w a2 s.cls) := hr
  have HM : Hid (∀ c ∈ s.cls, in64 c.1 ∧ in64 c.2) := hm
  clear hr hm
  go_enter Try.func46, Try.ntmps46
  have HX : Hid (Below (w.heap.size + 1) (w.alloc (sc s a c a2 c2)) (w.alloc (sc s a c a2 c2))) := Below.refl _ _
  have HP : Hid ((w.alloc (sc s a c a2 c2)).heap[w.heap.size]? = some (sc s a c a2 c2)) := heap_alloc_new w _
  have HB : Hid (Below w.heap.size w (w.alloc (sc s a c a2 c2))) := (Below.refl _ w).alloc (Nat.le_refl _) _
  go_wp2
  go_loopw [3, 11] (fun u i wr => ∃ (k : Nat) (least : Int), k ≤ s.cls.length ∧ i = .int .i64 k ∧ u = .int .i64 least ∧ 0 ≤ least ∧ least ≤ 1000 ∧ Hid (clsOk s.upp s.low s.cls = clsOk s.upp least (s.cls.drop k)) ∧ Hid (Below (w.heap.size + 1) (w.alloc (sc s a c a2 c2)) wr)) (fun _ i _ => s.cls.length - (intOf i).toNat)
  case atStart => exact ⟨0, s.low, by omega, rfl, rfl, h0, by omega, rfl, HX.out⟩
  case round =>
    obtain ⟨k, least, hk, rfl, rfl, hl0, hl1, HC, HW⟩ := hrel
    by_cases hlt : k < s.cls.length
    · obtain ⟨b, off, rfl, hc⟩ := (HR.out.later (below_of HB.out (HW.out.mono (by simp)))).2 (by omega)
      obtain ⟨hc1, hc2⟩ := hc k hlt
      obtain ⟨i1, i2⟩ := HM.out s.cls[k] (List.getElem_mem hlt)
      have HD : Hid (clsOk s.upp least (s.cls.drop k) = (!decide (s.cls[k].1 < least) && (inB s.cls[k].2 1 (s.upp - s.cls[k].1) && clsOk s.upp (s.cls[k].1 + s.cls[k].2 + 1) (s.cls.drop (k + 1))))) := by
        show _ = _
        rw [List.drop_eq_getElem_cons hlt, clsOk]
      have HU : ∀ A, (wr.alloc A).cell? ⟨w.heap.size, 8, none⟩ = some (.int .i64 s.upp) := fun A => (scells (W := wr.alloc A) (p := w.heap.size) (old_block ((Below.refl _ wr).alloc (Nat.le_refl _) A) (by rw [HW.out.block _ (by omega)]; exact HP.out))).2.2.2.2.2.2.2.2.1
      clear hc
      generalize s.cls[k].1 = x at hc1 i1 HD
      generalize s.cls[k].2 = y at hc2 i2 HD
      obtain ⟨i3, i4⟩ := i1
      obtain ⟨i5, i6⟩ := i2
      have HBW : Hid (∀ A, Below w.heap.size w (wr.alloc A)) := fun A => below_of (below_of HB.out (HW.out.mono (by simp))) ((Below.refl _ wr).alloc (Nat.le_refl _) A)
      by_cases hx : x < least
      · go_wp2
        go_ret
        refine ⟨ret_bool ?_, HBW.out _⟩
        rw [HC.out, HD.out, decide_eq_true hx]
        rfl
      · have hx2 : least ≤ x := by omega
        cases hin : inB y 1 (s.upp - x) with
        | false =>
          go_wp2_with (go_at_call 36; refine (within_any _ _ _ _).mono ?_; rintro e w' ⟨rfl, rfl⟩)
          go_ret
          refine ⟨ret_bool ?_, HBW.out _⟩
          rw [HC.out, HD.out, hin]
          simp
        | true =>
          obtain ⟨j1, j2⟩ := inB_of hin
          go_wp2_with (go_at_call 36; refine (within_any _ _ _ _).mono ?_; rintro e w' ⟨rfl, rfl⟩)
          go_roundw
          case rel => exact ⟨k + 1, x + y + 1, by omega, by go_num, by go_num, by omega, by omega, by show _ = _; rw [HC.out, HD.out, hin, decide_eq_false (show ¬ x < least by omega)]; simp, (HW.out).trans (((Below.refl _ wr).alloc (Nat.le_refl _) _).mono (by have := HW.out.size; simpa using this))⟩
          case measure => simp [intOf]; omega
    · obtain rfl : k = s.cls.length := by omega
      go_wp2
      go_ret
      refine ⟨ret_bool ?_, below_of HB.out (HW.out.mono (by simp))⟩
      rw [HC.out, List.drop_of_length_le (Nat.le_refl _), clsOk]
set_option maxRecDepth 20000 in
set_option maxHeartbeats 1000000 in
theorem report_any (s : Sg) (a : Option Addr) (c : Nat) (a2 : Option Addr) (c2 : Nat) (w : World) (hz : s.cls.length ≤ 140737488351232) (hr : RowC w a2 s.cls) (hm : ∀ c ∈ s.cls, in64 c.1 ∧ in64 c.2) : Calls Try.prog 38 #[sv s a c a2 c2] w fun e w' => e = .returned (.bool (repS s)) ∧ Hid (Below w.heap.size w w') := by
  have HE : Hid (repS s = (decide (0 < s.ser) && (decide (0 < s.cks) && (decide (0 ≤ s.low) && (decide (s.low < s.upp) && (decide (s.upp ≤ 512) && (decide ((s.cls.length : Int) ≤ 20) && clsOk s.upp s.low s.cls))))))) := rfl
  have HB : Hid (∀ X : Obj, Below w.heap.size w (w.alloc X)) := fun X => (Below.refl _ w).alloc (Nat.le_refl _) X
  have HC : Hid (0 ≤ s.low → s.low < s.upp → s.upp ≤ 512 → ∀ X, Calls Try.prog 46 #[sv s a c a2 c2] (w.alloc X) fun e w' => e = .returned (.bool (clsOk s.upp s.low s.cls)) ∧ Hid (Below (w.alloc X).heap.size (w.alloc X) w')) := fun h0 h1 h2 X => claims_any s a c a2 c2 _ hz h0 h1 h2 (hr.later (HB.out X)) hm
  generalize repS s = R at HE ⊢
  clear hr hm
  go_enter Try.func38, Try.ntmps38
  go_wp2_with (go_at_call 46; refine (HC.out (by omega) (by omega) (by omega) _).mono ?_; rintro e w1 ⟨rfl, hb1⟩)
  all_goals
    go_ret
    refine ⟨ret_bool ?_, ?_⟩
    · rw [HE.out]
      simp_all
      try (intros; exfalso; omega)
  all_goals first | exact below_of (HB.out _) hb1.out | exact HB.out _
end Go.Proofs.Ythmfbhanmncfgaa
