/- bundle.Id, Whole. -/
import Derived.Test.YtjfmgokpnpmdpaaDoorBEql
namespace Go.Proofs.YtjfmgokpnpmdpaaDoor
open Go.RowKit
set_option linter.unusedVariables false
set_option maxRecDepth 20000 in
set_option maxHeartbeats 2000000 in
theorem id_any (b : Bn) (a : Option Addr) (c : Nat) (w : World) : Calls Tryd.prog 21 #[bv b a c] w fun e w' => e = .returned (.agg #[.int .i64 b.src, .int .u32 (b.seq : Nat)]) ∧ Hid (Below w.heap.size w w') := by
  go_enter Tryd.func21, Tryd.ntmps21
  go_wp2
  exact bodyPost_ret (v := .agg #[.int .i64 b.src, .int .u32 (b.seq : Nat)]) (by simp [results, Tryd.results21, go_sem]) rfl ⟨rfl, ((Below.refl _ w).alloc (Nat.le_refl _) _).alloc (by simp) _⟩
set_option maxRecDepth 20000 in
set_option maxHeartbeats 2000000 in
theorem whole_any (b : Bn) (a : Option Addr) (c : Nat) (w : World) : Calls Tryd.prog 22 #[bv b a c] w fun e w' => e = .returned (.bool ((b.pay.length : Int) == b.tot)) ∧ Hid (Below w.heap.size w w') := by
  go_enter Tryd.func22, Tryd.ntmps22
  go_wp2
  go_ret
  exact ⟨rfl, (Below.refl _ w).alloc (Nat.le_refl _) _⟩
theorem Tryd.heldI : Tryd.prog.stoodInHeld 41 = false := by kernel_rfl
set_option maxRecDepth 20000 in
set_option maxHeartbeats 2000000 in
theorem neqI (w : World) (x : Int) (s : Nat) : (binOp .neq 41 (.agg #[.int .i64 x, .int .u32 (s : Nat)]) (.agg #[.int .i64 x, .int .u32 (s : Nat)])).run Tryd.prog w = .ok (.bool false) w := by
  have hu := Tryd.underlying41
  rw [run_neq_struct, show (10000 : Nat) = 9999 + 1 from rfl, run_equalIn_struct w 9999 41 _ _ (by rw [Program.fieldsOf, hu]) Tryd.heldI, Program.fieldsOf, hu]
  simp only
  rw [eq_step w _ _ _ _ .i64 .i64 x x (by decide) Tryd.underlying3 (part_int w _ _ _ rfl) (part_int w _ _ _ rfl), if_pos rfl,
    eq_step w _ _ _ _ .u32 .u32 (s : Nat) (s : Nat) (by decide) Tryd.underlying22 (part_uint32 w _ _ _ rfl) (part_uint32 w _ _ _ rfl), if_pos rfl]
  rfl
end Go.Proofs.YtjfmgokpnpmdpaaDoor
