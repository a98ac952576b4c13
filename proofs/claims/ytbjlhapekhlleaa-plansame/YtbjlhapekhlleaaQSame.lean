/- The walks of slices.Equal at contacts, and of Same. -/
import Derived.Test.YtbjlhapekhlleaaQSome
namespace Go.Proofs.Ytbjlhapekhlleaa
open Go.RowKit
set_option linter.unusedVariables false
/-- are two contacts the same? -/
def eqC (c d : Ct) : Bool := decide (c.frm = d.frm) && (decide (c.to = d.to) && (decide (c.st = d.st) && (decide (c.en = d.en) && (decide (c.rt = d.rt) && decide (c.dl = d.dl)))))
/-- the first k are. -/
def eqK (X Y : List Ct) : Nat → Bool
  | 0 => true
  | k + 1 => eqK X Y k && (match X[k]?, Y[k]? with | some c, some d => eqC c d | _, _ => true)
def sameP (nn mm : Int) (X Y : List Ct) : Bool := decide (nn = mm) && (decide (X.length = Y.length) && eqK X Y X.length)
theorem eqK_succ {X Y : List Ct} {k : Nat} {c d : Ct} (h1 : X[k]? = some c) (h2 : Y[k]? = some d) : eqK X Y (k + 1) = (eqK X Y k && eqC c d) := by rw [eqK, h1, h2]
theorem eqK_le {X Y : List Ct} {k m : Nat} (h : k ≤ m) (hk : eqK X Y k = false) : eqK X Y m = false := by
  obtain ⟨d, rfl⟩ : ∃ d, m = k + d := ⟨m - k, by omega⟩
  clear h
  induction d with
  | zero => exact hk
  | succ d ih => rw [← Nat.add_assoc, eqK, ih, Bool.false_and]
theorem eqC_self (c : Ct) : eqC c c = true := by simp [eqC]
theorem eqK_self (X : List Ct) : ∀ k, eqK X X k = true
  | 0 => rfl
  | k + 1 => by
    rw [eqK, eqK_self X k]
    cases X[k]? with
    | none => rfl
    | some c => exact eqC_self c
theorem Try.heldC : Try.prog.stoodInHeld 43 = false := by kernel_rfl
theorem eq_step (w : World) (xs ys : Array Value) (f : Field) (fs : List Field) (k k' : IntKind) (a b : Int) (hn : f.name ≠ "_") (hu : Try.prog.underlying f.type = some (.int k')) (hx : (part f.type xs f.offset).run Try.prog w = .ok (.int k a) w) (hy : (part f.type ys f.offset).run Try.prog w = .ok (.int k b) w) :
    (Op.eqFields 9999 xs ys (f :: fs)).run Try.prog w = if a = b then (Op.eqFields 9999 xs ys fs).run Try.prog w else .ok false w := by
  simp only [Op.eqFields, Sem.run_ite, Sem.run_bind, hx, hy, Result.andThen_ok, run_equalIn_int w 9998 f.type k k' a b hu]
  rw [if_pos hn]
  by_cases h : a = b
  · rw [if_pos h, if_neg (by simp [h])]
  · rw [if_neg h, if_pos (by simp [h])]
    rfl
theorem part_int (w : World) (xs : Array Value) (o : Nat) (v : Value) (h : xs[o]? = some v) : (part 3 xs o).run Try.prog w = .ok v w := by
  simp [part, go_sem, h]
theorem ite_ok {p : Prop} [Decidable p] (b : Bool) (w : World) : (if p then (Result.ok b w) else .ok false w) = .ok (decide p && b) w := by
  by_cases h : p <;> simp [h]
set_option maxRecDepth 20000 in
set_option maxHeartbeats 2000000 in
theorem eqInC (w : World) (c d : Ct) : (Op.equalIn 10000 43 (.agg #[.int .i64 c.frm, .int .i64 c.to, .int .i64 c.st, .int .i64 c.en, .int .i64 c.rt, .int .i64 c.dl]) (.agg #[.int .i64 d.frm, .int .i64 d.to, .int .i64 d.st, .int .i64 d.en, .int .i64 d.rt, .int .i64 d.dl])).run Try.prog w = .ok (eqC c d) w := by
  have hu := Try.underlying43
  rw [show (10000 : Nat) = 9999 + 1 from rfl, run_equalIn_struct w 9999 43 _ _ (by rw [Program.fieldsOf, hu]) Try.heldC, Program.fieldsOf, hu]
  simp only
  rw [eq_step w _ _ _ _ .i64 .i64 c.frm d.frm (by decide) Try.underlying3 (part_int w _ _ _ rfl) (part_int w _ _ _ rfl),
    eq_step w _ _ _ _ .i64 .i64 c.to d.to (by decide) Try.underlying3 (part_int w _ _ _ rfl) (part_int w _ _ _ rfl),
    eq_step w _ _ _ _ .i64 .i64 c.st d.st (by decide) Try.underlying3 (part_int w _ _ _ rfl) (part_int w _ _ _ rfl),
    eq_step w _ _ _ _ .i64 .i64 c.en d.en (by decide) Try.underlying3 (part_int w _ _ _ rfl) (part_int w _ _ _ rfl),
    eq_step w _ _ _ _ .i64 .i64 c.rt d.rt (by decide) Try.underlying3 (part_int w _ _ _ rfl) (part_int w _ _ _ rfl),
    eq_step w _ _ _ _ .i64 .i64 c.dl d.dl (by decide) Try.underlying3 (part_int w _ _ _ rfl) (part_int w _ _ _ rfl)]
  simp only [Op.eqFields, Sem.run_pure, ite_ok, Bool.and_true]
  rfl
theorem eqlC (w : World) (c d : Ct) : (binOp .eql 43 (.agg #[.int .i64 c.frm, .int .i64 c.to, .int .i64 c.st, .int .i64 c.en, .int .i64 c.rt, .int .i64 c.dl]) (.agg #[.int .i64 d.frm, .int .i64 d.to, .int .i64 d.st, .int .i64 d.en, .int .i64 d.rt, .int .i64 d.dl])).run Try.prog w = .ok (.bool (eqC c d)) w := by
  rw [run_eql_struct, eqInC]
  rfl
theorem neqC (w : World) (c d : Ct) : (binOp .neq 43 (.agg #[.int .i64 c.frm, .int .i64 c.to, .int .i64 c.st, .int .i64 c.en, .int .i64 c.rt, .int .i64 c.dl]) (.agg #[.int .i64 d.frm, .int .i64 d.to, .int .i64 d.st, .int .i64 d.en, .int .i64 d.rt, .int .i64 d.dl])).run Try.prog w = .ok (.bool (!eqC c d)) w := by
  rw [run_neq_struct, eqInC]
  rfl
end Go.Proofs.Ytbjlhapekhlleaa
