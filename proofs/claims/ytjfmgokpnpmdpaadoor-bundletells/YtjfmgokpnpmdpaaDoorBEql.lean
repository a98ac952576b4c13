/- bundle.fieldsOf; two of its answers compared. -/
import Derived.Test.YtjfmgokpnpmdpaaDoorBWalk
import Derived.Deep.RegionWith
namespace Go.Proofs.YtjfmgokpnpmdpaaDoor
open Go.RowKit
set_option linter.unusedVariables false
/-- the fields but the payload. -/
abbrev fv (b : Bn) : Value := .agg #[.int .i64 b.src, .int .i64 b.dst, .int .u32 (b.seq : Nat), .int .i64 b.cre, .int .i64 b.lif, .int .i64 b.lim, .int .i64 b.hop, .int .i64 b.pri, .int .i64 b.off, .int .i64 b.tot]
/-- are all fields but the payload the same? -/
def flB (a b : Bn) : Bool := decide (a.src = b.src) && (decide (a.dst = b.dst) && (decide (a.seq = b.seq) && (decide (a.cre = b.cre) && (decide (a.lif = b.lif) && (decide (a.lim = b.lim) && (decide (a.hop = b.hop) && (decide (a.pri = b.pri) && (decide (a.off = b.off) && decide (a.tot = b.tot)))))))))
def sameB (a b : Bn) : Bool := flB a b && decide (a.pay = b.pay)
theorem sameB_self (a : Bn) : sameB a a = true := by simp [sameB, flB]
set_option maxRecDepth 20000 in
set_option maxHeartbeats 2000000 in
theorem fields_any (b : Bn) (a : Option Addr) (c : Nat) (w : World) : Calls Tryd.prog 45 #[bv b a c] w fun e w' => e = .returned (fv b) ∧ Hid (Below w.heap.size w w') := by
  go_enter Tryd.func45, Tryd.ntmps45
  go_wp2
  exact bodyPost_ret (v := fv b) (by simp [results, Tryd.results45, go_sem]) rfl ⟨rfl, ((Below.refl _ w).alloc (Nat.le_refl _) _).alloc (by simp) _⟩
theorem Tryd.heldF : Tryd.prog.stoodInHeld 70 = false := by kernel_rfl
theorem eq_step (w : World) (xs ys : Array Value) (f : Field) (fs : List Field) (k k' : IntKind) (a b : Int) (hn : f.name ≠ "_") (hu : Tryd.prog.underlying f.type = some (.int k')) (hx : (part f.type xs f.offset).run Tryd.prog w = .ok (.int k a) w) (hy : (part f.type ys f.offset).run Tryd.prog w = .ok (.int k b) w) :
    (Op.eqFields 9999 xs ys (f :: fs)).run Tryd.prog w = if a = b then (Op.eqFields 9999 xs ys fs).run Tryd.prog w else .ok false w := by
  simp only [Op.eqFields, Sem.run_ite, Sem.run_bind, hx, hy, Result.andThen_ok, run_equalIn_int w 9998 f.type k k' a b hu]
  rw [if_pos hn]
  by_cases h : a = b
  · rw [if_pos h, if_neg (by simp [h])]
  · rw [if_neg h, if_pos (by simp [h])]
    rfl
theorem part_int (w : World) (xs : Array Value) (o : Nat) (v : Value) (h : xs[o]? = some v) : (part 3 xs o).run Tryd.prog w = .ok v w := by
  simp [part, go_sem, h]
theorem part_uint32 (w : World) (xs : Array Value) (o : Nat) (v : Value) (h : xs[o]? = some v) : (part 22 xs o).run Tryd.prog w = .ok v w := by
  simp [part, go_sem, h]
theorem ite_ok {p : Prop} [Decidable p] (b : Bool) (w : World) : (if p then (Result.ok b w) else .ok false w) = .ok (decide p && b) w := by
  by_cases h : p <;> simp [h]
set_option maxRecDepth 20000 in
set_option maxHeartbeats 2000000 in
theorem eqlF (w : World) (x y : Bn) : (binOp .eql 70 (fv x) (fv y)).run Tryd.prog w = .ok (.bool (flB x y)) w := by
  have hu := Tryd.underlying70
  rw [run_eql_struct, show (10000 : Nat) = 9999 + 1 from rfl, run_equalIn_struct w 9999 70 _ _ (by rw [Program.fieldsOf, hu]) Tryd.heldF, Program.fieldsOf, hu]
  simp only
  rw [eq_step w _ _ _ _ .i64 .i64 x.src y.src (by decide) Tryd.underlying3 (part_int w _ _ _ rfl) (part_int w _ _ _ rfl),
    eq_step w _ _ _ _ .i64 .i64 x.dst y.dst (by decide) Tryd.underlying3 (part_int w _ _ _ rfl) (part_int w _ _ _ rfl),
    eq_step w _ _ _ _ .u32 .u32 (x.seq : Nat) (y.seq : Nat) (by decide) Tryd.underlying22 (part_uint32 w _ _ _ rfl) (part_uint32 w _ _ _ rfl),
    eq_step w _ _ _ _ .i64 .i64 x.cre y.cre (by decide) Tryd.underlying3 (part_int w _ _ _ rfl) (part_int w _ _ _ rfl),
    eq_step w _ _ _ _ .i64 .i64 x.lif y.lif (by decide) Tryd.underlying3 (part_int w _ _ _ rfl) (part_int w _ _ _ rfl),
    eq_step w _ _ _ _ .i64 .i64 x.lim y.lim (by decide) Tryd.underlying3 (part_int w _ _ _ rfl) (part_int w _ _ _ rfl),
    eq_step w _ _ _ _ .i64 .i64 x.hop y.hop (by decide) Tryd.underlying3 (part_int w _ _ _ rfl) (part_int w _ _ _ rfl),
    eq_step w _ _ _ _ .i64 .i64 x.pri y.pri (by decide) Tryd.underlying3 (part_int w _ _ _ rfl) (part_int w _ _ _ rfl),
    eq_step w _ _ _ _ .i64 .i64 x.off y.off (by decide) Tryd.underlying3 (part_int w _ _ _ rfl) (part_int w _ _ _ rfl),
    eq_step w _ _ _ _ .i64 .i64 x.tot y.tot (by decide) Tryd.underlying3 (part_int w _ _ _ rfl) (part_int w _ _ _ rfl)]
  simp only [Op.eqFields, Sem.run_pure, ite_ok, Result.andThen_ok, Bool.and_true]
  simp only [flB, Int.ofNat_inj]
end Go.Proofs.YtjfmgokpnpmdpaaDoor
