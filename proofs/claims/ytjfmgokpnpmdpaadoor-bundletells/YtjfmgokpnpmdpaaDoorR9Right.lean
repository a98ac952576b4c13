/- heliographref09.Right. -/
import Derived.Test.YtjfmgokpnpmdpaaDoorBWalk
namespace Go.Proofs.YtjfmgokpnpmdpaaDoor
open Go.RowKit
set_option linter.unusedVariables false
set_option maxRecDepth 20000 in
set_option maxHeartbeats 4000000 in
theorem right9_any (b : Bn) (a : Option Addr) (c : Nat) (w : World) (hz : Bz b) : Calls Tryd.prog 12 #[bv b a c] w fun e w' => e = .returned (.bool (okB b)) ∧ Hid (Below w.heap.size w w') := by
  go_enter Tryd.func12, Tryd.ntmps12
  have hz1 := hz.pay
  go_wp2
  all_goals
    try go_ret
    try refine ⟨ret_bool ?_, (Below.refl _ w).alloc (Nat.le_refl _) _⟩
  all_goals
    try (rw [Bool.eq_iff_iff]; simp [okB, wayB, timeB, payB, inB] at *; omega)
end Go.Proofs.YtjfmgokpnpmdpaaDoor
