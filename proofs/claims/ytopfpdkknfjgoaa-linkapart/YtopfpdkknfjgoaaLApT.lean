/- LinkApart: two links beside each other; what stands between two operations. -/
import Derived.Test.YtopfpdkknfjgoaaLApartP
import Derived.Test.YtopfpdkknfjgoaaLWakes
import Derived.Test.YtopfpdkknfjgoaaLOps
import Derived.Sort.CutIn

namespace Go.Proofs.Ytopfpdkknfjgoaa
open Go.RowKit Go.Shelf
set_option linter.unusedVariables false
theorem eqlP (f t p q : Int) (W : World) : (binOp .eql 55 (.agg #[.int .i64 f, .int .i64 t]) (.agg #[.int .i64 p, .int .i64 q])).run Try.prog W = .ok (.bool (f == p && t == q)) W := by
  obtain ⟨i, hi⟩ : ∃ i, Try.prog.info? 3 = some i := by
    cases h : Try.prog.info? 3 with
    | none => have : Try.prog.cellsOf 3 = 1 := cellsInt; unfold Program.cellsOf at this; rw [h] at this; simp at this
    | some i => exact ⟨i, rfl⟩
  have p0 : ∀ (x y : Int), (part 3 #[.int .i64 x, .int .i64 y] (0 * 1)).run Try.prog W = .ok (.int .i64 x) W := fun x y => by kernel_rfl
  rw [run_eql_struct, run_equalIn_array W 9999 _ _ Try.underlying55 hi, cellsInt]
  have e : List.range 2 = [0, 1] := rfl
  rw [e]
  simp only [Op.eqItems, Sem.run_bind, p0, Result.andThen_ok, run_equalIn_int W 9998 3 .i64 .i64 _ _ Try.underlying3]
  have p2 : ∀ (x y : Int), (part 3 #[.int .i64 x, .int .i64 y] 1).run Try.prog W = .ok (.int .i64 y) W := fun x y => by kernel_rfl
  cases h1 : (f == p) <;> cases h2 : (t == q) <;> simp [p2, run_equalIn_int W 9998 3 .i64 .i64 _ _ Try.underlying3, h2]
theorem idx0 (lb lb' : Nat) (W : World) : (Instr.index 56 (.agg #[.pointer (some ⟨lb, 0, none⟩), .pointer (some ⟨lb', 0, none⟩)]) (.int .i64 0)).run Try.prog W = .ok (.pointer (some ⟨lb, 0, none⟩)) W := by kernel_rfl
theorem idx1 (lb lb' : Nat) (W : World) : (Instr.index 56 (.agg #[.pointer (some ⟨lb, 0, none⟩), .pointer (some ⟨lb', 0, none⟩)]) (.int .i64 1)).run Try.prog W = .ok (.pointer (some ⟨lb', 0, none⟩)) W := by kernel_rfl

/-- the two links, and the operations, between two steps. -/
structure ApS (w W : World) (p q : Int) (lb mb lb' mb' n : Nat) (L M : List Fl) (a : Option Addr) (X : List OX) : Prop where
  box : W.heap[w.heap.size]? = some (.cells #[.int .i64 p, .int .i64 q] 55 (0, 0))
  lk : Lk No W lb mb n L
  lk' : Lk No W lb' mb' n M
  ne : mb ≠ mb'
  bel : Below w.heap.size w W
  ge : w.heap.size ≤ mb
  ge' : w.heap.size ≤ mb'
  ops : OxAt W a X
theorem off_cell {w w' : World} {mb : Nat} (ho : Off (fun k => k = mb) w w') (hm : ∃ es c, w.heap[mb]? = some (.map es c)) {a : Addr} {u : Value} (hc : w.cell? a = some u) : w'.cell? a = some u := cell_same hc (fun C t fr hk => off_at ho hm hk)
theorem off_came {w w' : World} {mb : Nat} (ho : Off (fun k => k = mb) w w') (hm : ∃ es c, w.heap[mb]? = some (.map es c)) {o : OX} (h : CameO w o) : CameO w' o :=
  ⟨⟨h.f.row.same (fun _ b _ C t fr hk => off_at ho hm hk), h.f.le, h.f.cap, h.f.len, h.f.i1, h.f.i2, h.f.i3⟩, h.k, h.n, h.bit, h.now⟩
theorem off_ops {w w' : World} {mb : Nat} (ho : Off (fun k => k = mb) w w') (hm : ∃ es c, w.heap[mb]? = some (.map es c)) {a : Option Addr} {X : List OX} (h : OxAt w a X) : OxAt w' a X :=
  ⟨fun o hx => off_came ho hm (h.ok o hx), fun h0 => by obtain ⟨b, o, rfl, hc⟩ := h.here h0; exact ⟨b, o, rfl, fun j u hu => off_cell ho hm (hc j u hu)⟩⟩
theorem off_below {w W W' : World} {mb : Nat} (h : Below w.heap.size w W) (ho : Off (fun k => k = mb) W W') (hge : w.heap.size ≤ mb) : Below w.heap.size w W' :=
  ⟨ho.os.trans h.os, ho.tape.trans h.tape, ho.output.trans h.output, Nat.le_trans h.size ho.size, fun k hk => (ho.block k (Nat.lt_of_lt_of_le hk h.size) (fun e => by omega)).trans (h.block k hk)⟩
theorem ApS.later {w W W' : World} {p q : Int} {lb mb lb' mb' n : Nat} {L M : List Fl} {a : Option Addr} {X : List OX} (h : ApS w W p q lb mb lb' mb' n L M a X) (hb : Below W.heap.size W W') : ApS w W' p q lb mb lb' mb' n L M a X :=
  ⟨old_block hb h.box, h.lk.later hb, h.lk'.later hb, h.ne, below_of h.bel hb, h.ge, h.ge', h.ops.later hb⟩
theorem ApS.off {w W W' : World} {p q : Int} {lb mb lb' mb' n : Nat} {L L2 M : List Fl} {a : Option Addr} {X : List OX} (h : ApS w W p q lb mb lb' mb' n L M a X) (hl : Lk No W' lb mb (n + 1) L2) (ho : Off (fun k => k = mb) W W') : ApS w W' p q lb mb lb' mb' (n + 1) L2 M a X :=
  ⟨off_at ho h.lk.mb h.box, hl, (h.lk'.off ho (fun e => h.ne e.symm) (fun k C t fr hk e => by subst e; obtain ⟨es, c, hm⟩ := h.lk.mb; rw [hk] at hm; cases hm)).mono (Nat.le_succ n), h.ne, off_below h.bel ho h.ge, h.ge, h.ge', off_ops ho h.lk.mb h.ops⟩
theorem ApS.off' {w W W' : World} {p q : Int} {lb mb lb' mb' n : Nat} {L M M2 : List Fl} {a : Option Addr} {X : List OX} (h : ApS w W p q lb mb lb' mb' n L M a X) (hl : Lk No W' lb' mb' (n + 1) M2) (ho : Off (fun k => k = mb') W W') : ApS w W' p q lb mb lb' mb' (n + 1) L M2 a X :=
  ⟨off_at ho h.lk'.mb h.box, (h.lk.off ho (fun e => h.ne e) (fun k C t fr hk e => by subst e; obtain ⟨es, c, hm⟩ := h.lk'.mb; rw [hk] at hm; cases hm)).mono (Nat.le_succ n), hl, h.ne, off_below h.bel ho h.ge', h.ge, h.ge', off_ops ho h.lk'.mb h.ops⟩
/-- the operation at hand and its flight, in boxes of their own. -/
structure Ob (W : World) (s : Nat) (o : OX) : Prop where
  op : W.heap[s]? = some (.cells #[.int .i64 o.knd, .int .i64 o.f.x.frm, .int .i64 o.f.x.to, .int .i64 o.f.x.at_, .slice o.f.a o.f.x.bytes.length o.f.c, .int .i64 o.n, .int .i64 o.bit, .int .i64 o.now] 34 (0, 0))
  fl : W.heap[s + 1]? = some (.cells #[.int .i64 o.f.x.frm, .int .i64 o.f.x.to, .int .i64 o.f.x.at_, .slice o.f.a o.f.x.bytes.length o.f.c] 32 (0, 0))
theorem Ob.later {W W' : World} {s : Nat} {o : OX} (h : Ob W s o) (hb : Below W.heap.size W W') : Ob W' s o := ⟨old_block hb h.op, old_block hb h.fl⟩
theorem Ob.off {W W' : World} {s mb : Nat} {o : OX} (h : Ob W s o) (ho : Off (fun k => k = mb) W W') (hm : ∃ es c, W.heap[mb]? = some (.map es c)) : Ob W' s o := ⟨off_at ho hm h.op, off_at ho hm h.fl⟩
theorem opL_send (L : List Fl) (o : OX) : opL L 0 o = sendL L o.f.x := rfl
theorem opL_del (L : List Fl) (o : OX) : opL L 1 o = delL L o.f.x.frm o.f.x.to o.now o.n := rfl
theorem opL_lose (L : List Fl) (o : OX) : opL L 2 o = loseL L o.f.x.frm o.f.x.to o.n := rfl
theorem opL_doub (L : List Fl) (o : OX) : opL L 3 o = doubL L o.f.x.frm o.f.x.to o.n := rfl
theorem opL_cor (L : List Fl) (o : OX) : opL L 4 o = corL L o.f.x.frm o.f.x.to o.n o.bit := rfl
theorem send_e {L : List Fl} {x : Fl} (h : L.length < 512) : sendE L x ≠ 6 := by unfold sendE; split <;> simp
theorem doub_e {L : List Fl} {a b k : Int} (h : L.length < 512) : doubE L a b k ≠ 6 := by unfold doubE; split <;> simp
theorem no_lt {w : World} : ∀ k, No k → k < w.heap.size := fun _ h => h.elim
end Go.Proofs.Ytopfpdkknfjgoaa
