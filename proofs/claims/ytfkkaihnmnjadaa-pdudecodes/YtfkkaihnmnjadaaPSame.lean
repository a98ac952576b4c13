/- pdu.Same. -/
import Derived.Test.YtfkkaihnmnjadaaPWalk
namespace Go.Proofs.Ytfkkaihnmnjadaa
open Go.RowKit
set_option linter.unusedVariables false
set_option maxRecDepth 20000 in
set_option maxHeartbeats 8000000 in
theorem same_any (s t : Ms) (a : Option Addr) (c : Nat) (b : Option Addr) (d : Nat) (w : World) (h1 : Row w a s.bts) (h3 : Row w b t.bts) :
    Calls Try.prog 18 #[mv s a c, mv t b d] w fun e w' => e = .returned (.bool (sameM s t)) ∧ Hid (Below w.heap.size w w') := by
  have HB : Hid (∀ X Y : Obj, Below w.heap.size w ((w.alloc X).alloc Y)) := fun X Y => ((Below.refl _ w).alloc (Nat.le_refl _) X).alloc (by simp) Y
  have HD : Hid (∀ X Y : Obj, Calls Try.prog 19 #[.slice a s.bts.length c, .slice b t.bts.length d] ((w.alloc X).alloc Y) fun e w' => e = .returned (.bool (decide (s.bts = t.bts))) ∧ ((w.alloc X).alloc Y) = w') := fun X Y => equal_any a b c d _ _ _ (h1.later (HB.out X Y)) (h3.later (HB.out X Y))
  have HE : Hid (sameM s t = (decide (s.knd = t.knd) && (decide ((s.num : Int) = (t.num : Int)) && ((s.nam.toList == t.nam.toList) && (decide (s.siz = t.siz) && (decide (s.off = t.off) && (decide ((s.sum : Int) = (t.sum : Int)) && (decide (s.cod = t.cod) && decide (s.bts = t.bts))))))))) := by
    show _ = _
    unfold sameM
    have e : ∀ x y : Nat, decide (x = y) = decide ((x : Int) = (y : Int)) := fun x y => decide_eq_decide.2 (by omega)
    rw [e s.num, e s.sum, nam_eq]
  generalize sameM s t = R at HE ⊢
  clear h1 h3
  go_enter Try.func18, Try.ntmps18
  go_wp2_with (go_at_call 19; refine (HD.out _ _).mono ?_; rintro e w1 ⟨rfl, rfl⟩)
  all_goals
    go_ret
    refine ⟨ret_bool ?_, HB.out _ _⟩
    rw [HE.out]
    clear HE HD HB
    simp_all
end Go.Proofs.Ytfkkaihnmnjadaa
