/- The walk of files.DecodeOps. -/
import Derived.Test.YtfocejmfmnijpaaDOps
import Derived.Test.YtfocejmfmnijpaaESay
import Derived.Test.YtfocejmfmnijpaaFOpsNew
namespace Go.Proofs.Ytfocejmfmnijpaa
open Go.RowKit

/-- what is read, operation by operation. -/
def rOps (l : List Nat) : Nat → Nat → Int → List OpS → Option (List OpS × Nat × Int)
  | 0, at_, er, acc => some (acc, at_, er)
  | n + 1, at_, er, acc => if sayB (rOp l at_ er).1 = true then rOps l n (rOp l at_ er).2.1 (rOp l at_ er).2.2 (acc ++ [(rOp l at_ er).1]) else none
/-- the end: no error, nothing left. -/
def finO (len : Nat) : Option (List OpS × Nat × Int) → Option (List OpS)
  | none => none
  | some (m, at_, er) => if (er != 0) = true ∨ 0 < len - at_ then none else some m
/-- the operations of bytes, if they are any. -/
def decO (l : List Nat) : Option (List OpS) :=
  if 64 < numN (takes l 0 0 2).1 then none else finO l.length (rOps l (numN (takes l 0 0 2).1) (takes l 0 0 2).2.1 (takes l 0 0 2).2.2 [])

/-- An operation, and where its bytes lie. -/
structure OX where
  o : OpS
  ad : Option Addr
  cap : Nat
def OX.cells (x : OX) : List Value := [.int .i64 x.o.kind, .string x.o.name, .string x.o.new, .int .i64 x.o.at_, .slice x.ad x.o.bytes.length x.cap]
def ocells : List OX → List Value
  | [] => []
  | x :: r => x.cells ++ ocells r
theorem ocells_length : ∀ X : List OX, (ocells X).length = X.length * 5
  | [] => rfl
  | x :: r => by simp [ocells, OX.cells, ocells_length r]; omega
theorem ocells_append : ∀ X Y : List OX, ocells (X ++ Y) = ocells X ++ ocells Y
  | [], _ => rfl
  | x :: r, Y => by simp [ocells, ocells_append r Y]
theorem ocells_at : ∀ (X : List OX) (i : Nat) (h : i < X.length) (j : Nat), j < 5 → (ocells X)[i * 5 + j]? = X[i].cells[j]?
  | [], _, h, _, _ => by simp at h
  | x :: r, 0, _, j, hj => by
    rw [ocells, List.getElem?_append_left (by simp [OX.cells]; omega)]
    simp
  | x :: r, i + 1, h, j, hj => by
    rw [ocells, List.getElem?_append_right (by simp [OX.cells]; omega)]
    have := ocells_at r i (by simpa using h) j hj
    simp only [List.getElem_cons_succ]
    rw [← this]
    congr 1
    simp [OX.cells]
    omega

/-- an operation whose bytes lie outside the list's own block. -/
def OGood (w : World) (B : Nat) (v : Value) (x : OX) : Prop := OpFits x.o ∧ x.o.bytes.length ≤ x.cap ∧ x.cap ≤ maxLen ∧ Row w x.ad x.o.bytes ∧ (0 < x.o.bytes.length → ∀ b, x.ad = some b → B ≤ b.block ∧ v.ownBlock ≠ some b.block)
/-- the world within DecodeOps. -/
structure OW (w1 : World) (p q : Nat) (l : List Nat) (at_ : Nat) (er : Int) (wr : World) (v : Value) (X : List OX) : Prop where
  list : wr.ownsRow w1.heap.size 44 5 v X.length (ocells X)
  rows : ∀ x ∈ X, OGood wr w1.heap.size v x
  rd : Rd wr p q l at_ er
  off : Off (fun k => k = p) w1 wr
  pq : p < w1.heap.size ∧ q < w1.heap.size
theorem OGood.off {w w' : World} {B : Nat} {v : Value} {x : OX} {S : Nat → Prop} (h : OGood w B v x) (ho : Off S w w') (hS : ∀ k, B ≤ k → v.ownBlock ≠ some k → ¬ S k) : OGood w' B v x :=
  ⟨h.1, h.2.1, h.2.2.1, h.2.2.2.1.off ho (fun h0 b hb => hS _ (h.2.2.2.2 h0 b hb).1 (h.2.2.2.2 h0 b hb).2), h.2.2.2.2⟩
theorem OW.read {w1 wr w' : World} {p q : Nat} {l : List Nat} {at_ at2 : Nat} {er er2 : Int} {v : Value} {X : List OX} (h : OW w1 p q l at_ er wr v X) (hrd : Rd w' p q l at2 er2) (ho : Off (fun k => k = p) wr w') : OW w1 p q l at2 er2 w' v X :=
  ⟨ho.owns h.list (fun g hg => by have := (h.list.lt g hg).1; have := h.pq; omega), fun x hx => (h.rows x hx).off ho (fun k hk _ => by have := h.pq; omega), hrd, h.off.trans ho (fun _ _ t => t), h.pq⟩
theorem OW.later {w1 wr w' : World} {p q : Nat} {l : List Nat} {at_ : Nat} {er : Int} {v : Value} {X : List OX} (h : OW w1 p q l at_ er wr v X) (hb : Below wr.heap.size wr w') : OW w1 p q l at_ er w' v X :=
  ⟨(Off.of_below (S := fun _ => False) hb).owns h.list (fun _ _ => id), fun x hx => (h.rows x hx).off (S := fun _ => False) (Off.of_below hb) (fun _ _ _ => id), h.rd.later hb, h.off.trans (Off.of_below (S := fun _ => False) hb) (fun _ _ t => t.elim), h.pq⟩
theorem OW.push {w1 wr wc : World} {p q : Nat} {l : List Nat} {at_ : Nat} {er : Int} {v : Value} {X : List OX} {y : OX} {g cap H : Nat} (h : OW w1 p q l at_ er wr v X)
    (hown : wc.ownsRow w1.heap.size 44 5 (.slice (some ⟨g, 0, none⟩) (X.length + 1) cap) (X.length + 1) (ocells X ++ y.cells)) (hgrow : wr.grownBy wc v.ownBlock) (hat : v.ownBlock = some g ∨ g = H) (hH : wr.heap.size = H) (hy : OGood wr w1.heap.size v y) :
    OW w1 p q l at_ er wc (.slice (some ⟨g, 0, none⟩) (X.length + 1) cap) (X ++ [y]) := by
  have ho : Off (fun k => v.ownBlock = some k) wr wc := (Off.refl _ wr).grown hgrow (fun _ e => .inr e)
  have hv : ∀ k, v.ownBlock = some k → w1.heap.size ≤ k := fun k e => (h.list.lt k e).1
  have tr : ∀ x, OGood wr w1.heap.size v x → OGood wc w1.heap.size (.slice (some ⟨g, 0, none⟩) (X.length + 1) cap) x := fun x hx => by
    refine ⟨hx.1, hx.2.1, hx.2.2.1, hx.2.2.2.1.off ho (fun h0 b hb e => (hx.2.2.2.2 h0 b hb).2 e), fun h0 b hb => ⟨(hx.2.2.2.2 h0 b hb).1, fun e => ?_⟩⟩
    have e1 : g = b.block := by simpa [Value.ownBlock] using e
    rcases hat with ha | ha
    · exact (hx.2.2.2.2 h0 b hb).2 (by rw [ha, e1])
    · have := hx.2.2.2.1.lt h0 b hb; omega
  have hp := h.pq
  refine ⟨?_, fun x hx => ?_, h.rd.off ho (fun e => by have := hv _ e; omega) (fun e => by have := hv _ e; omega), h.off.trans ho (fun i hi e => by have := hv _ e; omega), h.pq⟩
  · rw [ocells_append, List.length_append, List.length_singleton]
    simpa [ocells] using hown
  · rcases List.mem_append.1 hx with hx | hx
    · exact tr x (h.rows x hx)
    · obtain rfl := List.mem_singleton.1 hx
      exact tr x hy
/-- the operations lie there. -/
theorem OW.ops {w1 wr : World} {p q : Nat} {l : List Nat} {at_ : Nat} {er : Int} {a : Option Addr} {n c : Nat} {X : List OX} (h : OW w1 p q l at_ er wr (.slice a n c) X) (hX : X.length ≤ 1000) : OpsAt wr a (X.map OX.o) := by
  refine ⟨fun x hx => ?_, by simp; omega, fun h0 => ?_⟩
  · obtain ⟨y, hy, rfl⟩ := List.mem_map.1 hx
    exact (h.rows y hy).1
  · have hn : 0 < X.length := by simpa using h0
    obtain ⟨g, cap, hv, _, _⟩ := h.list.form hn
    cases hv
    refine ⟨g, 0, rfl, fun i hi => ?_⟩
    have hi' : i < X.length := by simpa using hi
    have hg := h.rows _ (List.getElem_mem hi')
    have hc : ∀ j, j < 5 → wr.cell? ⟨g, i * 5 + j, none⟩ = X[i].cells[j]? := fun j hj => by rw [h.list.cellAt (i * 5 + j) (by omega), ocells_at X i hi' j hj]
    simp only [List.getElem_map, Nat.zero_add]
    exact ⟨by have := hc 0 (by omega); rw [Nat.add_zero] at this; rw [this]; rfl, by rw [hc 1 (by omega)]; rfl, by rw [hc 2 (by omega)]; rfl, by rw [hc 3 (by omega)]; rfl, X[i].ad, X[i].cap, by rw [hc 4 (by omega)]; rfl, hg.2.1, hg.2.2.1, hg.2.2.2.1⟩
end Go.Proofs.Ytfocejmfmnijpaa
