/- pdu.read: what lies in memory on the way. -/
import Derived.Test.YtfkkaihnmnjadaaPCheck
import Derived.Test.YtfkkaihnmnjadaaPPureB
namespace Go.Proofs.Ytfkkaihnmnjadaa
open Go.RowKit
set_option linter.unusedVariables false
/-- on the way: the Reader, the answer's block, the message's. -/
structure St (w W : World) (p q pm : Nat) (l : List Nat) (s : Nat × Int) (C : Array Value) : Prop where
  rd : Rd W p q l s.1 s.2
  res : W.heap[w.heap.size]? = some (mc zeroM none 0)
  blk : W.heap[pm]? = some (.cells C 25 (0, 0))
  off : Off (fun k => k = p) w W
  np : p < w.heap.size
  nq : q < w.heap.size
  nm : w.heap.size < pm
theorem St.reads {w W V : World} {p q pm : Nat} {l : List Nat} {s t : Nat × Int} {C : Array Value} (h : St w W p q pm l s C) (hr : Rd V p q l t.1 t.2) (ho : Off (fun k => k = p) W V) : St w V p q pm l t C :=
  ⟨hr, ho.at h.res (by show ¬ _ = _; have := h.np; omega), ho.at h.blk (by show ¬ _ = _; have := h.np; have := h.nm; omega), h.off.trans ho (fun _ _ t => t), h.np, h.nq, h.nm⟩
theorem St.set {w W : World} {p q pm : Nat} {l : List Nat} {s : Nat × Int} {C : Array Value} (h : St w W p q pm l s C) (j : Nat) (v : Value) : St w (W.setCell ⟨pm, j, none⟩ v) p q pm l s (C.setIfInBounds j v) := by
  have ho : Off (fun k => k = pm) W (W.setCell ⟨pm, j, none⟩ v) := off_set W pm j v
  have h1 := h.np
  have h2 := h.nq
  have h3 := h.nm
  refine ⟨h.rd.off ho (by show ¬ _ = _; omega) (by show ¬ _ = _; omega), ho.at h.res (by show ¬ _ = _; omega), ?_, h.off.trans ho (fun i hi t => by have : i = pm := t; omega), h1, h2, h3⟩
  rw [heap_setCell_same _ _ _ _ _ _ h.blk]
theorem St.first {w W : World} {p q : Nat} {l : List Nat} {s : Nat × Int} (hr : Rd W p q l s.1 s.2) (h0 : Off (fun k => k = p) (w.alloc (mc zeroM none 0)) W) (hp : p < w.heap.size) (hq : q < w.heap.size) (C : Array Value) : St w (W.alloc (.cells C 25)) p q W.heap.size l s C := by
  have hs := h0.size
  have ha : Below W.heap.size W (W.alloc (.cells C 25)) := (Below.refl _ W).alloc (Nat.le_refl _) _
  refine ⟨hr.later ha, old_block ha (h0.at (heap_alloc_new w _) (by show ¬ _ = _; omega)), heap_alloc_new W _, ?_, hp, hq, by simp at hs; omega⟩
  exact ((Off.of_below ((Below.refl _ w).alloc (Nat.le_refl _) (mc zeroM none 0))).trans h0 (fun _ _ t => t)).trans (Off.of_below (S := fun _ => False) ha) (fun _ _ t => t.elim)
theorem cells8 {W : World} {p : Nat} {u0 u1 u2 u3 u4 u5 u6 u7 : Value} (h : W.heap[p]? = some (.cells #[u0, u1, u2, u3, u4, u5, u6, u7] 25 (0, 0))) : W.cell? ⟨p, 0, none⟩ = some u0 ∧ W.cell? ⟨p, 1, none⟩ = some u1 ∧ W.cell? ⟨p, 2, none⟩ = some u2 ∧ W.cell? ⟨p, 3, none⟩ = some u3 ∧ W.cell? ⟨p, 4, none⟩ = some u4 ∧ W.cell? ⟨p, 5, none⟩ = some u5 ∧ W.cell? ⟨p, 6, none⟩ = some u6 ∧ W.cell? ⟨p, 7, none⟩ = some u7 ∧ ∀ j, W.frozen? ⟨p, j, none⟩ = false := by
  refine ⟨?_, ?_, ?_, ?_, ?_, ?_, ?_, ?_, fun j => frozen_of h j⟩
  all_goals (rw [cell_of h]; rfl)
/-- what read answers. -/
def RdY (l : List Nat) (w : World) (p q : Nat) (e : Ending) (w' : World) : Prop := ∃ a c, e = .returned (mv (rdM l) a c) ∧ Hid (Row w' a (rdM l).bts ∧ (rdM l).bts.length ≤ c ∧ c ≤ maxLen ∧ Rd w' p q l (rd8 l).2.1 (rd8 l).2.2 ∧ Off (fun k => k = p) w w' ∧ ∀ b, a = some b → w.heap.size ≤ b.block)
/-- the answer's cells laid. -/
theorem St.end {w W : World} {p q pm : Nat} {l : List Nat} {s : Nat × Int} {C : Array Value} (h : St w W p q pm l s C) (v0 v1 v2 v3 v4 v5 v6 v7 : Value) :
    Rd ((((((((W.setCell ⟨w.heap.size, 0, none⟩ v0).setCell ⟨w.heap.size, 1, none⟩ v1).setCell ⟨w.heap.size, 2, none⟩ v2).setCell ⟨w.heap.size, 3, none⟩ v3).setCell ⟨w.heap.size, 4, none⟩ v4).setCell ⟨w.heap.size, 5, none⟩ v5).setCell ⟨w.heap.size, 6, none⟩ v6).setCell ⟨w.heap.size, 7, none⟩ v7) p q l s.1 s.2 ∧ Off (fun k => k = w.heap.size) W ((((((((W.setCell ⟨w.heap.size, 0, none⟩ v0).setCell ⟨w.heap.size, 1, none⟩ v1).setCell ⟨w.heap.size, 2, none⟩ v2).setCell ⟨w.heap.size, 3, none⟩ v3).setCell ⟨w.heap.size, 4, none⟩ v4).setCell ⟨w.heap.size, 5, none⟩ v5).setCell ⟨w.heap.size, 6, none⟩ v6).setCell ⟨w.heap.size, 7, none⟩ v7) ∧ Off (fun k => k = p) w ((((((((W.setCell ⟨w.heap.size, 0, none⟩ v0).setCell ⟨w.heap.size, 1, none⟩ v1).setCell ⟨w.heap.size, 2, none⟩ v2).setCell ⟨w.heap.size, 3, none⟩ v3).setCell ⟨w.heap.size, 4, none⟩ v4).setCell ⟨w.heap.size, 5, none⟩ v5).setCell ⟨w.heap.size, 6, none⟩ v6).setCell ⟨w.heap.size, 7, none⟩ v7) := by
  have ho : Off (fun k => k = w.heap.size) W ((((((((W.setCell ⟨w.heap.size, 0, none⟩ v0).setCell ⟨w.heap.size, 1, none⟩ v1).setCell ⟨w.heap.size, 2, none⟩ v2).setCell ⟨w.heap.size, 3, none⟩ v3).setCell ⟨w.heap.size, 4, none⟩ v4).setCell ⟨w.heap.size, 5, none⟩ v5).setCell ⟨w.heap.size, 6, none⟩ v6).setCell ⟨w.heap.size, 7, none⟩ v7) := (((((((((Off.refl (fun k => k = w.heap.size) W).setCell (p := ⟨w.heap.size, 0, none⟩) (.inr rfl) v0).setCell (p := ⟨w.heap.size, 1, none⟩) (.inr rfl) v1).setCell (p := ⟨w.heap.size, 2, none⟩) (.inr rfl) v2).setCell (p := ⟨w.heap.size, 3, none⟩) (.inr rfl) v3).setCell (p := ⟨w.heap.size, 4, none⟩) (.inr rfl) v4).setCell (p := ⟨w.heap.size, 5, none⟩) (.inr rfl) v5).setCell (p := ⟨w.heap.size, 6, none⟩) (.inr rfl) v6).setCell (p := ⟨w.heap.size, 7, none⟩) (.inr rfl) v7)
  have h1 := h.np
  have h2 := h.nq
  exact ⟨h.rd.off ho (by show ¬ _ = _; omega) (by show ¬ _ = _; omega), ho, h.off.trans ho (fun i hi t => by have : i = w.heap.size := t; omega)⟩
end Go.Proofs.Ytfkkaihnmnjadaa
