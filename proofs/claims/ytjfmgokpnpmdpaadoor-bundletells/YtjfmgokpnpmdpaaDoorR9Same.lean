/- heliographref09.Same. -/
import Derived.Test.YtjfmgokpnpmdpaaDoorBEql
import Derived.Test.YtjfmgokpnpmdpaaDoorR01Same
namespace Go.Proofs.YtjfmgokpnpmdpaaDoor
open Go.RowKit
set_option linter.unusedVariables false
set_option maxRecDepth 20000 in
set_option maxHeartbeats 4000000 in
theorem rsame9_any (x y : Bn) (a b : Option Addr) (c d : Nat) (w : World) (hx : Row w a x.pay) (hy : Row w b y.pay) : Calls Tryd.prog 19 #[bv x a c, bv y b d] w fun e w' => e = .returned (.bool (sameB x y)) ∧ Hid (Below w.heap.size w w') := by
  have HB : Hid (∀ (w : World) (X : Obj), Below w.heap.size w (w.alloc X)) := fun w X => (Below.refl _ w).alloc (Nat.le_refl _) X
  have HSM : Hid (∀ W, Below w.heap.size w W → Calls Tryd.prog 16 #[.slice a x.pay.length c, .slice b y.pay.length d] W fun e w' => e = .returned (.bool (decide (x.pay = y.pay))) ∧ Hid (Below W.heap.size W w')) := fun W hb => (rsame_any a b c d x.pay y.pay W (hx.later hb) (hy.later hb)).mono (by rintro e w' ⟨rfl, n, rfl⟩; exact ⟨rfl, below_drewN (Below.refl _ _) n⟩)
  have HE : Hid (sameB x y = (flB x y && decide (x.pay = y.pay))) := rfl
  generalize sameB x y = R at HE ⊢
  clear hx hy
  go_enter Tryd.func19, Tryd.ntmps19
  go_wp2_with (go_at_call 16; refine (HSM.out _ (below_of (HB.out w _) (HB.out _ _))).mono ?_; rintro e w1 ⟨rfl, hb1⟩)
  all_goals
    go_ret
    refine ⟨ret_bool ?_, ?_⟩
    · rw [HE.out]
      clear HE HSM HB
      simp_all [flB]
      try (intros; omega)
  all_goals first | exact below_of (below_of (HB.out w _) (HB.out _ _)) hb1.out | exact below_of (HB.out w _) (HB.out _ _)
end Go.Proofs.YtjfmgokpnpmdpaaDoor
