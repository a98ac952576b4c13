/- Files that are gathered out of other files: what is held while one is appended. -/
import Derived.Test.YtfocejmfmnijpaaFCopied
import Derived.Test.YtfocejmfmnijpaaFRefSame
import Derived.Test.YtfocejmfmnijpaaFMore
namespace Go.Proofs.Ytfocejmfmnijpaa
open Go.RowKit

/-- the cell of a struct of files, and the two cells of a file. -/
abbrev S3 (F : Nat) (fv : Value) (b o : Nat) (s : ByteArray) (v : Value) (w : World) : Prop := w.cell? ⟨F, 0, none⟩ = some fv ∧ w.cell? ⟨b, o, none⟩ = some (.string s) ∧ w.cell? ⟨b, o + 1, none⟩ = some v
theorem S3.off {F b o : Nat} {fv : Value} {s : ByteArray} {v : Value} {w w' : World} {S : Nat → Prop} (h : S3 F fv b o s v w) (ho : Off S w w') (hF : ¬ S F) (hn : ¬ S b) : S3 F fv b o s v w' := ⟨ho.cell h.1 hF, ho.cell h.2.1 hn, ho.cell h.2.2 hn⟩
theorem S3.alloc {F b o : Nat} {fv : Value} {s : ByteArray} {v : Value} {w : World} (h : S3 F fv b o s v w) (x : Obj) : S3 F fv b o s v (w.alloc x) := h.off (S := fun _ => False) ((Off.refl _ w).alloc x) id id
theorem S3.grown {F b o : Nat} {fv : Value} {s : ByteArray} {v : Value} {w w' : World} {row : Option Nat} (h : S3 F fv b o s v w) (hg : w.grownBy w' row) (hF : row ≠ some F) (hn : row ≠ some b) : S3 F fv b o s v w' := h.off (S := fun k => row = some k) ((Off.refl _ w).grown hg (fun _ e => .inr e)) hF hn
theorem S3.set {F b o p : Nat} {fv : Value} {s : ByteArray} {v u : Value} {w : World} (h : S3 F fv b o s v w) (hF : F ≠ p) (hn : b ≠ p) : S3 F fv b o s v (w.setCell ⟨p, 0, none⟩ u) := h.off (S := fun k => k = p) ((Off.refl (fun k => k = p) w).setCell (p := ⟨p, 0, none⟩) (.inr rfl) u) hF hn

/-- the file is of another name. -/
def neB (n : ByteArray) (x : Fil) : Bool := !decide (x.name = n)
theorem eq_list {x : Fil} {n : ByteArray} : (x.name.toList == n.toList) = !neB n x := by
  unfold neB
  rw [Bool.not_not, name_same]

/-- what stands in the round of a loop that gathers files out of files that lie in the block b. -/
structure Gath (w : World) (a : Option Addr) (c : Nat) (L : List Fil) (wr : World) (v : Value) (X : List FX) : Prop where
  out : Out wr (w.heap.size + 1 + 1) v X
  below : Below w.heap.size w wr
  box : wr.heap[w.heap.size]? = some (.cells #[.slice a L.length c] 24 (0, 0))
  res : wr.heap[w.heap.size + 1]? = some (.cells #[.slice none 0 0] 24 (0, 0))

theorem gath_start (w : World) (a : Option Addr) (c : Nat) (L : List Fil) : Gath w a c L (((w.alloc (.cells #[.slice a L.length c] 24)).alloc (.cells #[.slice none 0 0] 24)).alloc (.cells #[.slice none 0 0] 24)) (.slice none 0 0) [] := by
  obtain ⟨t1, t2, t3⟩ := three_new (w := w) (A := .cells #[.slice a L.length c] 24) (B := .cells #[.slice none 0 0] 24) (C := .cells #[.slice none 0 0] 24)
  exact ⟨⟨t3, World.ownsRow_nil _ _ _ _, by simp⟩, (((Below.refl _ w).alloc (Nat.le_refl _) _).alloc (by simp) _).alloc (by simp; omega) _, t1, t2⟩

/-- a file of old memory. -/
theorem Gath.good {w : World} {a : Option Addr} {c : Nat} {L : List Fil} {wr : World} {v : Value} {X : List FX} (h : Gath w a c L wr v X) {n : ByteArray} {a2 : Option Addr} {c2 : Nat} {l : List Nat} (hn : n.size ≤ 140737488351232) (hr : Row w a2 l) (h1 : l.length ≤ c2) (h2 : c2 ≤ maxLen) : Good wr (own (w.heap.size + 1 + 1) v) ⟨n, a2, c2, l⟩ :=
  ⟨hn, h1, h2, hr.later h.below, fun h0 b hb hk => by have := hr.lt h0 b hb; have := out_own h.out _ hk; omega⟩

/-- a file more. -/
theorem Gath.push {w : World} {a : Option Addr} {c : Nat} {L : List Fil} {wr wb wc : World} {v : Value} {X : List FX} {y : FX} {g cap : Nat} (h : Gath w a c L wr v X) (hab : Below wr.heap.size wr wb)
    (hown : wc.ownsRow (w.heap.size + 1 + 1 + 1) 53 2 (.slice (some ⟨g, 0, none⟩) (X.length + 1) cap) (X.length + 1) (fcells X ++ [.string y.name, y.val])) (hgrow : wb.grownBy wc v.ownBlock) (hat : v.ownBlock = some g ∨ g = wb.heap.size)
    (hy : Good wr (own (w.heap.size + 1 + 1) v) y) : Gath w a c L (wc.setCell ⟨w.heap.size + 1 + 1, 0, none⟩ (.slice (some ⟨g, 0, none⟩) (X.length + 1) cap)) (.slice (some ⟨g, 0, none⟩) (X.length + 1) cap) (X ++ [y]) := by
  obtain ⟨h1, h2⟩ := out_snoc (wa := wr) h.out (Below.refl _ _) hown hgrow hab hat (good_later hy hab)
  refine ⟨h1, h.below.trans (h2.below h.below.size (fun k hk => by have := out_own h.out k hk; omega)), h2.at h.box (fun h' => by have := out_own h.out _ h'; omega), h2.at h.res (fun h' => by have := out_own h.out _ h'; omega)⟩

/-- the end: the files are stored into the result. -/
theorem Gath.ends {w : World} {a : Option Addr} {c : Nat} {L : List Fil} {wr : World} {va : Option Addr} {vc : Nat} {X : List FX} (h : Gath w a c L wr (.slice va X.length vc) X) (hX : X.length ≤ 1000) (u : Value) : ListAt (wr.setCell ⟨w.heap.size + 1, 0, none⟩ u) va (X.map FX.fil) ∧ Below w.heap.size w (wr.setCell ⟨w.heap.size + 1, 0, none⟩ u) := by
  have hl := (own_list h.out.list h.out.files (by omega)).1
  exact ⟨list_put hl h.res u, h.below.setCell (by simp) u⟩
end Go.Proofs.Ytfocejmfmnijpaa
