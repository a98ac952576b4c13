/- segment.Same. -/
import Derived.Test.YtnjcaolkcmpdcaaTSeg
namespace Go.Proofs.Ytnjcaolkcmpdcaa
open Go.RowKit
set_option linter.unusedVariables false
set_option maxRecDepth 20000 in
set_option maxHeartbeats 8000000 in
theorem same_any (s t : Sg) (a : Option Addr) (c : Nat) (a2 : Option Addr) (c2 : Nat) (b : Option Addr) (d : Nat) (b2 : Option Addr) (d2 : Nat) (w : World) (h1 : Row w a s.dat) (h2 : RowC w a2 s.cls) (h3 : Row w b t.dat) (h4 : RowC w b2 t.cls) (z1 : s.cls.length ≤ 140737488351232) (z2 : t.cls.length ≤ 140737488351232) :
    Calls Try.prog 62 #[sv s a c a2 c2, sv t b d b2 d2] w fun e w' => e = .returned (.bool (sameS s t)) ∧ Hid (Below w.heap.size w w') := by
  have HB : Hid (∀ X Y : Obj, Below w.heap.size w ((w.alloc X).alloc Y)) := fun X Y => ((Below.refl _ w).alloc (Nat.le_refl _) X).alloc (by simp) Y
  have HD : Hid (∀ X Y : Obj, Calls Try.prog 83 #[.slice a s.dat.length c, .slice b t.dat.length d] ((w.alloc X).alloc Y) fun e w' => e = .returned (.bool (decide (s.dat = t.dat))) ∧ ((w.alloc X).alloc Y) = w') := fun X Y => equal_any a b c d _ _ _ (h1.later (HB.out X Y)) (h3.later (HB.out X Y))
  have HC : Hid (∀ X Y : Obj, Calls Try.prog 61 #[.slice a2 s.cls.length c2, .slice b2 t.cls.length d2] ((w.alloc X).alloc Y) fun e w' => e = .returned (.bool (decide (s.cls = t.cls))) ∧ ∃ n, w' = ((w.alloc X).alloc Y).drewN n) := fun X Y => claimsEq_any a2 b2 c2 d2 _ _ _ (h2.later (HB.out X Y)) (h4.later (HB.out X Y)) z1 z2
  have HE : Hid (sameS s t = (decide (s.knd = t.knd) && (decide (s.src = t.src) && (decide ((s.ses : Int) = (t.ses : Int)) && (decide ((s.ser : Int) = (t.ser : Int)) && (decide ((s.cks : Int) = (t.cks : Int)) && (decide (s.off = t.off) && (decide (s.tot = t.tot) && (decide (s.low = t.low) && (decide (s.upp = t.upp) && (decide (s.rea = t.rea) && (decide (s.chk = t.chk) && (decide (s.dat = t.dat) && decide (s.cls = t.cls)))))))))))))) := by
    show _ = _
    unfold sameS
    have e : ∀ x y : Nat, decide (x = y) = decide ((x : Int) = (y : Int)) := fun x y => decide_eq_decide.2 (by omega)
    rw [e s.ses, e s.ser, e s.cks]
  generalize sameS s t = R at HE ⊢
  clear h1 h2 h3 h4
  go_enter Try.func62, Try.ntmps62
  go_wp2_with (first | (go_at_call 83; refine (HD.out _ _).mono ?_; rintro e w1 ⟨rfl, rfl⟩) | (go_at_call 61; refine (HC.out _ _).mono ?_; rintro e w2 ⟨rfl, n2, rfl⟩))
  all_goals
    go_ret
    refine ⟨ret_bool ?_, ?_⟩
    · rw [HE.out]
      clear HE HD HC HB
      simp_all
  all_goals first | exact HB.out _ _ | exact below_drewN (HB.out _ _) _
end Go.Proofs.Ytnjcaolkcmpdcaa
