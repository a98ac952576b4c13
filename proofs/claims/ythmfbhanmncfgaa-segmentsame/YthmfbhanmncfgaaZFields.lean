/- segment.rightFields, Forward. -/
import Derived.Test.YthmfbhanmncfgaaZClaims
namespace Go.Proofs.Ythmfbhanmncfgaa
open Go.RowKit
set_option linter.unusedVariables false
set_option maxRecDepth 20000 in
set_option maxHeartbeats 4000000 in
theorem fields_any (s : Sg) (a : Option Addr) (c : Nat) (a2 : Option Addr) (c2 : Nat) (w : World) (hz : s.dat.length ≤ 140737488351232) (hz2 : s.cls.length ≤ 140737488351232) (hr : RowC w a2 s.cls) (hm : ∀ c ∈ s.cls, in64 c.1 ∧ in64 c.2) : Calls Try.prog 24 #[sv s a c a2 c2] w fun e w' => e = .returned (.bool (fieldsS s)) ∧ Hid (Below w.heap.size w w') := by
  have HE : Hid (fieldsS s = if s.knd = 1 then dataS s else if s.knd = 2 then repS s else if s.knd = 3 then decide (0 < s.ser)
  else if s.knd = 4 ∨ s.knd = 6 then inB s.rea 0 255 else if s.knd = 5 ∨ s.knd = 7 then true else false) := rfl
  have HB : Hid (∀ X : Obj, Below w.heap.size w (w.alloc X)) := fun X => (Below.refl _ w).alloc (Nat.le_refl _) X
  have HD : Hid (∀ X, Calls Try.prog 37 #[sv s a c a2 c2] (w.alloc X) fun e w' => e = .returned (.bool (dataS s)) ∧ Hid (Below (w.alloc X).heap.size (w.alloc X) w')) := fun X => data_any s a c a2 c2 _ hz
  have HR : Hid (∀ X, Calls Try.prog 38 #[sv s a c a2 c2] (w.alloc X) fun e w' => e = .returned (.bool (repS s)) ∧ Hid (Below (w.alloc X).heap.size (w.alloc X) w')) := fun X => report_any s a c a2 c2 _ hz2 (hr.later (HB.out X)) hm
  generalize fieldsS s = R at HE ⊢
  clear hr hm
  go_enter Try.func24, Try.ntmps24
  go_wp2_with (first | (go_at_call 36; refine (within_any _ _ _ _).mono ?_; rintro e w' ⟨rfl, rfl⟩) | (go_at_call 37; refine (HD.out _).mono ?_; rintro e w1 ⟨rfl, hb1⟩) | (go_at_call 38; refine (HR.out _).mono ?_; rintro e w1 ⟨rfl, hb1⟩))
  all_goals
    go_ret
    refine ⟨ret_bool ?_, ?_⟩
    · rw [HE.out]
      clear HE HD HR HB
      simp_all
  all_goals first | exact HB.out _ | exact below_of (HB.out _) hb1.out
/-- does its Kind go forward? -/
def fwdS (s : Sg) : Bool := decide (s.knd = 1) || (decide (s.knd = 3) || (decide (s.knd = 4) || decide (s.knd = 7)))
set_option maxRecDepth 20000 in
set_option maxHeartbeats 4000000 in
theorem forward_any (s : Sg) (a : Option Addr) (c : Nat) (a2 : Option Addr) (c2 : Nat) (w : World) : Calls Try.prog 12 #[sv s a c a2 c2] w fun e w' => e = .returned (.bool (fwdS s)) ∧ Hid (Below w.heap.size w w') := by
  have HE : Hid (fwdS s = (decide (s.knd = 1) || (decide (s.knd = 3) || (decide (s.knd = 4) || decide (s.knd = 7))))) := rfl
  have HB : Hid (∀ X : Obj, Below w.heap.size w (w.alloc X)) := fun X => (Below.refl _ w).alloc (Nat.le_refl _) X
  generalize fwdS s = R at HE ⊢
  go_enter Try.func12, Try.ntmps12
  go_wp2
  all_goals
    go_ret
    refine ⟨ret_bool ?_, HB.out _⟩
    rw [HE.out]
    clear HE HB
    simp_all
end Go.Proofs.Ythmfbhanmncfgaa
