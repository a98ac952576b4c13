/- pdu.rightFields. -/
import Derived.Test.YtfkkaihnmnjadaaPWalk
namespace Go.Proofs.Ytfkkaihnmnjadaa
open Go.RowKit
set_option linter.unusedVariables false
theorem lstI_is (k : Int) {b : Nat} (hb : b ∈ [1, 2, 4, 8, 16, 32]) : lstI ((fld k : Nat) : Int) (b : Nat) = lst (fld k) b := by
  unfold lstI lst
  rw [hsI_is _ (fld_mem k) _ hb]
theorem within_v (x a b : Int) (R : Bool) (h : inB x a b = R) (W : World) : Calls Try.prog 37 #[.int .i64 x, .int .i64 a, .int .i64 b] W fun e w' => e = .returned (.bool R) ∧ w' = W := (within_any x a b W).mono fun e w' ⟨h1, h2⟩ => ⟨by rw [h1, h], h2.symm⟩
theorem least_v (f b : Int) (W : World) : Calls Try.prog 38 #[.int .u8 f, .int .u8 b] W fun e w' => e = .returned (.int .i64 (lstI f b)) ∧ w' = W := (least_any f b W).mono fun e w' ⟨h1, h2⟩ => ⟨h1, h2.symm⟩
theorem right_pre {w : World} {e : Ending} {w' : World} {R : Bool} (h : e = .returned (.bool R)) (hb : Below w.heap.size w w') : e = .returned (.bool R) ∧ Hid (Below w.heap.size w w') := ⟨h, hb⟩
set_option maxRecDepth 20000 in
set_option maxHeartbeats 4000000 in
theorem right_1 (m : Ms) (a : Option Addr) (c : Nat) (f : Int) (w : World) (hz : m.bts.length ≤ 140737488351232) (h1 : inB (m.nam.size : Nat) (lstI f 1) 24 = false) : Calls Try.prog 27 #[mv m a c, .int .u8 f] w fun e w' => e = .returned (.bool false) ∧ Hid (Below w.heap.size w w') := by
  have HB : Hid (∀ X : Obj, Below w.heap.size w (w.alloc X)) := fun X => (Below.refl _ w).alloc (Nat.le_refl _) X
  have H1 : Hid _ := h1
  clear h1
  go_enter Try.func27, Try.ntmps27
  go_wp2_with fail
  go_quiet (first
        | (go_at_call 38; exact Calls.quiet_of_same (least_v _ _ _))
        | (go_at_call 37; exact Calls.quiet_of_same (within_v _ _ _ _ (by first | exact H1.out) _)))
  go_wp2
  go_ret
  exact ⟨rfl, below_drewN (HB.out _) _⟩
set_option maxRecDepth 20000 in
set_option maxHeartbeats 4000000 in
theorem right_2 (m : Ms) (a : Option Addr) (c : Nat) (f : Int) (w : World) (hz : m.bts.length ≤ 140737488351232) (h1 : inB (m.nam.size : Nat) (lstI f 1) 24 = true) (h2 : inB m.siz 0 4096 = false) : Calls Try.prog 27 #[mv m a c, .int .u8 f] w fun e w' => e = .returned (.bool false) ∧ Hid (Below w.heap.size w w') := by
  have HB : Hid (∀ X : Obj, Below w.heap.size w (w.alloc X)) := fun X => (Below.refl _ w).alloc (Nat.le_refl _) X
  have H1 : Hid _ := h1
  have H2 : Hid _ := h2
  clear h1 h2
  go_enter Try.func27, Try.ntmps27
  go_wp2_with fail
  go_quiet (first
        | (go_at_call 38; exact Calls.quiet_of_same (least_v _ _ _))
        | (go_at_call 37; exact Calls.quiet_of_same (within_v _ _ _ _ (by first | exact H1.out | exact H2.out) _)))
  go_wp2
  go_ret
  exact ⟨rfl, below_drewN (HB.out _) _⟩
set_option maxRecDepth 20000 in
set_option maxHeartbeats 4000000 in
theorem right_3 (m : Ms) (a : Option Addr) (c : Nat) (f : Int) (w : World) (hz : m.bts.length ≤ 140737488351232) (h1 : inB (m.nam.size : Nat) (lstI f 1) 24 = true) (h2 : inB m.siz 0 4096 = true) (h3 : inB m.cod 0 255 = false) : Calls Try.prog 27 #[mv m a c, .int .u8 f] w fun e w' => e = .returned (.bool false) ∧ Hid (Below w.heap.size w w') := by
  have HB : Hid (∀ X : Obj, Below w.heap.size w (w.alloc X)) := fun X => (Below.refl _ w).alloc (Nat.le_refl _) X
  have H1 : Hid _ := h1
  have H2 : Hid _ := h2
  have H3 : Hid _ := h3
  clear h1 h2 h3
  go_enter Try.func27, Try.ntmps27
  go_wp2_with fail
  go_quiet (first
        | (go_at_call 38; exact Calls.quiet_of_same (least_v _ _ _))
        | (go_at_call 37; exact Calls.quiet_of_same (within_v _ _ _ _ (by first | exact H1.out | exact H2.out | exact H3.out) _)))
  go_wp2
  go_ret
  exact ⟨rfl, below_drewN (HB.out _) _⟩
set_option maxRecDepth 20000 in
set_option maxHeartbeats 4000000 in
theorem right_4 (m : Ms) (a : Option Addr) (c : Nat) (f : Int) (w : World) (hz : m.bts.length ≤ 140737488351232) (h1 : inB (m.nam.size : Nat) (lstI f 1) 24 = true) (h2 : inB m.siz 0 4096 = true) (h3 : inB m.cod 0 255 = true) (h4 : inB (m.bts.length : Nat) (lstI f 4) 256 = false) : Calls Try.prog 27 #[mv m a c, .int .u8 f] w fun e w' => e = .returned (.bool false) ∧ Hid (Below w.heap.size w w') := by
  have HB : Hid (∀ X : Obj, Below w.heap.size w (w.alloc X)) := fun X => (Below.refl _ w).alloc (Nat.le_refl _) X
  have H1 : Hid _ := h1
  have H2 : Hid _ := h2
  have H3 : Hid _ := h3
  have H4 : Hid _ := h4
  clear h1 h2 h3 h4
  go_enter Try.func27, Try.ntmps27
  go_wp2_with fail
  go_quiet (first
        | (go_at_call 38; exact Calls.quiet_of_same (least_v _ _ _))
        | (go_at_call 37; exact Calls.quiet_of_same (within_v _ _ _ _ (by first | exact H1.out | exact H2.out | exact H3.out | exact H4.out) _)))
  go_wp2
  go_ret
  exact ⟨rfl, below_drewN (HB.out _) _⟩
set_option maxRecDepth 20000 in
set_option maxHeartbeats 4000000 in
theorem right_5 (m : Ms) (a : Option Addr) (c : Nat) (f : Int) (w : World) (hz : m.bts.length ≤ 140737488351232) (h1 : inB (m.nam.size : Nat) (lstI f 1) 24 = true) (h2 : inB m.siz 0 4096 = true) (h3 : inB m.cod 0 255 = true) (h4 : inB (m.bts.length : Nat) (lstI f 4) 256 = true) (h5 : inB m.off 0 (4096 - (m.bts.length : Int)) = false) : Calls Try.prog 27 #[mv m a c, .int .u8 f] w fun e w' => e = .returned (.bool false) ∧ Hid (Below w.heap.size w w') := by
  have HB : Hid (∀ X : Obj, Below w.heap.size w (w.alloc X)) := fun X => (Below.refl _ w).alloc (Nat.le_refl _) X
  have H1 : Hid _ := h1
  have H2 : Hid _ := h2
  have H3 : Hid _ := h3
  have H4 : Hid _ := h4
  have H5 : Hid _ := h5
  clear h1 h2 h3 h4 h5
  go_enter Try.func27, Try.ntmps27
  go_wp2_with fail
  go_quiet (first
        | (go_at_call 38; exact Calls.quiet_of_same (least_v _ _ _))
        | (go_at_call 37; exact Calls.quiet_of_same (within_v _ _ _ _ (by first | exact H1.out | exact H2.out | exact H3.out | exact H4.out | exact H5.out) _)))
  go_wp2
  go_ret
  exact ⟨rfl, below_drewN (HB.out _) _⟩
set_option maxRecDepth 20000 in
set_option maxHeartbeats 4000000 in
theorem right_6 (m : Ms) (a : Option Addr) (c : Nat) (f : Int) (w : World) (hz : m.bts.length ≤ 140737488351232) (h1 : inB (m.nam.size : Nat) (lstI f 1) 24 = true) (h2 : inB m.siz 0 4096 = true) (h3 : inB m.cod 0 255 = true) (h4 : inB (m.bts.length : Nat) (lstI f 4) 256 = true) (h5 : inB m.off 0 (4096 - (m.bts.length : Int)) = true) : Calls Try.prog 27 #[mv m a c, .int .u8 f] w fun e w' => e = .returned (.bool true) ∧ Hid (Below w.heap.size w w') := by
  have HB : Hid (∀ X : Obj, Below w.heap.size w (w.alloc X)) := fun X => (Below.refl _ w).alloc (Nat.le_refl _) X
  have H1 : Hid _ := h1
  have H2 : Hid _ := h2
  have H3 : Hid _ := h3
  have H4 : Hid _ := h4
  have H5 : Hid _ := h5
  clear h1 h2 h3 h4 h5
  go_enter Try.func27, Try.ntmps27
  go_wp2_with fail
  go_quiet (first
        | (go_at_call 38; exact Calls.quiet_of_same (least_v _ _ _))
        | (go_at_call 37; exact Calls.quiet_of_same (within_v _ _ _ _ (by first | exact H1.out | exact H2.out | exact H3.out | exact H4.out | exact H5.out) _)))
  go_wp2
  go_ret
  exact ⟨rfl, below_drewN (HB.out _) _⟩
theorem right_any (m : Ms) (a : Option Addr) (c : Nat) (w : World) (hz : m.bts.length ≤ 140737488351232) : Calls Try.prog 27 #[mv m a c, .int .u8 (fld m.knd : Nat)] w fun e w' => e = .returned (.bool (rightM m)) ∧ Hid (Below w.heap.size w w') := by
  have e1 := lstI_is m.knd (b := 1) (by decide)
  have e4 := lstI_is m.knd (b := 4) (by decide)
  unfold rightM
  rw [← e1, ← e4]
  cases h1 : inB (m.nam.size : Nat) (lstI (fld m.knd : Nat) 1) 24 with
  | false => exact (right_1 m a c _ w hz h1).mono fun e w' h => ⟨by rw [h.1]; simp, h.2⟩
  | true => cases h2 : inB m.siz 0 4096 with
    | false => exact (right_2 m a c _ w hz h1 h2).mono fun e w' h => ⟨by rw [h.1]; simp, h.2⟩
    | true => cases h3 : inB m.cod 0 255 with
      | false => exact (right_3 m a c _ w hz h1 h2 h3).mono fun e w' h => ⟨by rw [h.1]; simp, h.2⟩
      | true => cases h4 : inB (m.bts.length : Nat) (lstI (fld m.knd : Nat) 4) 256 with
        | false => exact (right_4 m a c _ w hz h1 h2 h3 h4).mono fun e w' h => ⟨by rw [h.1]; simp, h.2⟩
        | true => cases h5 : inB m.off 0 (4096 - (m.bts.length : Int)) with
          | false => exact (right_5 m a c _ w hz h1 h2 h3 h4 h5).mono fun e w' h => ⟨by rw [h.1]; simp, h.2⟩
          | true => exact (right_6 m a c _ w hz h1 h2 h3 h4 h5).mono fun e w' h => ⟨by rw [h.1]; simp, h.2⟩
end Go.Proofs.Ytfkkaihnmnjadaa
