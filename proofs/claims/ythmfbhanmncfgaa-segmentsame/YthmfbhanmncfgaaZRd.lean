/- segment.read. -/
import Derived.Test.YthmfbhanmncfgaaZRD
import Derived.Test.YthmfbhanmncfgaaZRR
import Derived.Deep.RegionWith
import Derived.Deep.Cut
namespace Go.Proofs.Ythmfbhanmncfgaa
open Go.RowKit
set_option linter.unusedVariables false
/-- a world in which the reader at w.heap.size + 1 stands at st, the answer's block is zero, and all else is as in w. -/
structure InvR (w W : World) (b : Nat) (st : List Nat × Bool) : Prop where
  rdr : Rdr W (w.heap.size + 1) b st
  res : W.heap[w.heap.size]? = some (sc zeroS none 0 none 0)
  bel : Below w.heap.size w W
  two : w.heap.size + 2 ≤ W.heap.size
theorem InvR.later {w W W' : World} {b : Nat} {st : List Nat × Bool} (h : InvR w W b st) (hb : Below W.heap.size W W') : InvR w W' b st :=
  ⟨h.rdr.off (S := fun _ => False) (Off.of_below hb) id id, old_block hb h.res, below_of h.bel hb, Nat.le_trans h.two hb.size⟩
theorem InvR.drew {w W : World} {b : Nat} {st : List Nat × Bool} (h : InvR w W b st) : InvR w W.drew b st := h.later ((Below.refl _ W).drew)
theorem InvR.alloc {w W : World} {b : Nat} {st : List Nat × Bool} (h : InvR w W b st) (X : Obj) : InvR w (W.alloc X) b st := h.later ((Below.refl _ W).alloc (Nat.le_refl _) X)
theorem InvR.read {w W W' : World} {b : Nat} {st st2 : List Nat × Bool} (h : InvR w W b st) (hr : Rd1 W (w.heap.size + 1) b st2 W') : InvR w W' b st2 :=
  ⟨hr.1, hr.2.at h.res (by show ¬ _ = _; omega), h.bel.trans (hr.2.below h.bel.size (fun i e => by have : i = w.heap.size + 1 := e; omega)), Nat.le_trans h.two hr.2.size⟩
theorem InvR.cell {w W : World} {b o : Nat} {st : List Nat × Bool} {u : Value} (h : InvR w W b st) (hc : w.cell? ⟨b, o, none⟩ = some u) : W.cell? ⟨b, o, none⟩ = some u := cell_later h.bel hc
/-- a whole segment stored into a block. -/
theorem seg_store {W : World} {q : Nat} {t : TypeId} {z0 z1 z2 z3 z4 z5 z6 z7 z8 z9 z10 z11 z12 : Value} {v0 v1 v2 v3 v4 v5 v6 v7 v8 v9 v10 v11 v12 : Value} (h : W.heap[q]? = some (.cells #[z0, z1, z2, z3, z4, z5, z6, z7, z8, z9, z10, z11, z12] t (0, 0))) :
    (((((((((((((W.setCell ⟨q, 0, none⟩ v0).setCell ⟨q, 1, none⟩ v1).setCell ⟨q, 2, none⟩ v2).setCell ⟨q, 3, none⟩ v3).setCell ⟨q, 4, none⟩ v4).setCell ⟨q, 5, none⟩ v5).setCell ⟨q, 6, none⟩ v6).setCell ⟨q, 7, none⟩ v7).setCell ⟨q, 8, none⟩ v8).setCell ⟨q, 9, none⟩ v9).setCell ⟨q, 10, none⟩ v10).setCell ⟨q, 11, none⟩ v11).setCell ⟨q, 12, none⟩ v12).heap[q]? = some (.cells #[v0, v1, v2, v3, v4, v5, v6, v7, v8, v9, v10, v11, v12] t (0, 0)) := by
  have h0 : (W.setCell ⟨q, 0, none⟩ v0).heap[q]? = some (.cells #[v0, z1, z2, z3, z4, z5, z6, z7, z8, z9, z10, z11, z12] t (0, 0)) := (heap_setCell_same _ _ _ _ _ _ h).trans (by simp)
  have h1 : ((W.setCell ⟨q, 0, none⟩ v0).setCell ⟨q, 1, none⟩ v1).heap[q]? = some (.cells #[v0, v1, z2, z3, z4, z5, z6, z7, z8, z9, z10, z11, z12] t (0, 0)) := (heap_setCell_same _ _ _ _ _ _ h0).trans (by simp)
  have h2 : (((W.setCell ⟨q, 0, none⟩ v0).setCell ⟨q, 1, none⟩ v1).setCell ⟨q, 2, none⟩ v2).heap[q]? = some (.cells #[v0, v1, v2, z3, z4, z5, z6, z7, z8, z9, z10, z11, z12] t (0, 0)) := (heap_setCell_same _ _ _ _ _ _ h1).trans (by simp)
  have h3 : ((((W.setCell ⟨q, 0, none⟩ v0).setCell ⟨q, 1, none⟩ v1).setCell ⟨q, 2, none⟩ v2).setCell ⟨q, 3, none⟩ v3).heap[q]? = some (.cells #[v0, v1, v2, v3, z4, z5, z6, z7, z8, z9, z10, z11, z12] t (0, 0)) := (heap_setCell_same _ _ _ _ _ _ h2).trans (by simp)
  have h4 : (((((W.setCell ⟨q, 0, none⟩ v0).setCell ⟨q, 1, none⟩ v1).setCell ⟨q, 2, none⟩ v2).setCell ⟨q, 3, none⟩ v3).setCell ⟨q, 4, none⟩ v4).heap[q]? = some (.cells #[v0, v1, v2, v3, v4, z5, z6, z7, z8, z9, z10, z11, z12] t (0, 0)) := (heap_setCell_same _ _ _ _ _ _ h3).trans (by simp)
  have h5 : ((((((W.setCell ⟨q, 0, none⟩ v0).setCell ⟨q, 1, none⟩ v1).setCell ⟨q, 2, none⟩ v2).setCell ⟨q, 3, none⟩ v3).setCell ⟨q, 4, none⟩ v4).setCell ⟨q, 5, none⟩ v5).heap[q]? = some (.cells #[v0, v1, v2, v3, v4, v5, z6, z7, z8, z9, z10, z11, z12] t (0, 0)) := (heap_setCell_same _ _ _ _ _ _ h4).trans (by simp)
  have h6 : (((((((W.setCell ⟨q, 0, none⟩ v0).setCell ⟨q, 1, none⟩ v1).setCell ⟨q, 2, none⟩ v2).setCell ⟨q, 3, none⟩ v3).setCell ⟨q, 4, none⟩ v4).setCell ⟨q, 5, none⟩ v5).setCell ⟨q, 6, none⟩ v6).heap[q]? = some (.cells #[v0, v1, v2, v3, v4, v5, v6, z7, z8, z9, z10, z11, z12] t (0, 0)) := (heap_setCell_same _ _ _ _ _ _ h5).trans (by simp)
  have h7 : ((((((((W.setCell ⟨q, 0, none⟩ v0).setCell ⟨q, 1, none⟩ v1).setCell ⟨q, 2, none⟩ v2).setCell ⟨q, 3, none⟩ v3).setCell ⟨q, 4, none⟩ v4).setCell ⟨q, 5, none⟩ v5).setCell ⟨q, 6, none⟩ v6).setCell ⟨q, 7, none⟩ v7).heap[q]? = some (.cells #[v0, v1, v2, v3, v4, v5, v6, v7, z8, z9, z10, z11, z12] t (0, 0)) := (heap_setCell_same _ _ _ _ _ _ h6).trans (by simp)
  have h8 : (((((((((W.setCell ⟨q, 0, none⟩ v0).setCell ⟨q, 1, none⟩ v1).setCell ⟨q, 2, none⟩ v2).setCell ⟨q, 3, none⟩ v3).setCell ⟨q, 4, none⟩ v4).setCell ⟨q, 5, none⟩ v5).setCell ⟨q, 6, none⟩ v6).setCell ⟨q, 7, none⟩ v7).setCell ⟨q, 8, none⟩ v8).heap[q]? = some (.cells #[v0, v1, v2, v3, v4, v5, v6, v7, v8, z9, z10, z11, z12] t (0, 0)) := (heap_setCell_same _ _ _ _ _ _ h7).trans (by simp)
  have h9 : ((((((((((W.setCell ⟨q, 0, none⟩ v0).setCell ⟨q, 1, none⟩ v1).setCell ⟨q, 2, none⟩ v2).setCell ⟨q, 3, none⟩ v3).setCell ⟨q, 4, none⟩ v4).setCell ⟨q, 5, none⟩ v5).setCell ⟨q, 6, none⟩ v6).setCell ⟨q, 7, none⟩ v7).setCell ⟨q, 8, none⟩ v8).setCell ⟨q, 9, none⟩ v9).heap[q]? = some (.cells #[v0, v1, v2, v3, v4, v5, v6, v7, v8, v9, z10, z11, z12] t (0, 0)) := (heap_setCell_same _ _ _ _ _ _ h8).trans (by simp)
  have h10 : (((((((((((W.setCell ⟨q, 0, none⟩ v0).setCell ⟨q, 1, none⟩ v1).setCell ⟨q, 2, none⟩ v2).setCell ⟨q, 3, none⟩ v3).setCell ⟨q, 4, none⟩ v4).setCell ⟨q, 5, none⟩ v5).setCell ⟨q, 6, none⟩ v6).setCell ⟨q, 7, none⟩ v7).setCell ⟨q, 8, none⟩ v8).setCell ⟨q, 9, none⟩ v9).setCell ⟨q, 10, none⟩ v10).heap[q]? = some (.cells #[v0, v1, v2, v3, v4, v5, v6, v7, v8, v9, v10, z11, z12] t (0, 0)) := (heap_setCell_same _ _ _ _ _ _ h9).trans (by simp)
  have h11 : ((((((((((((W.setCell ⟨q, 0, none⟩ v0).setCell ⟨q, 1, none⟩ v1).setCell ⟨q, 2, none⟩ v2).setCell ⟨q, 3, none⟩ v3).setCell ⟨q, 4, none⟩ v4).setCell ⟨q, 5, none⟩ v5).setCell ⟨q, 6, none⟩ v6).setCell ⟨q, 7, none⟩ v7).setCell ⟨q, 8, none⟩ v8).setCell ⟨q, 9, none⟩ v9).setCell ⟨q, 10, none⟩ v10).setCell ⟨q, 11, none⟩ v11).heap[q]? = some (.cells #[v0, v1, v2, v3, v4, v5, v6, v7, v8, v9, v10, v11, z12] t (0, 0)) := (heap_setCell_same _ _ _ _ _ _ h10).trans (by simp)
  have h12 : (((((((((((((W.setCell ⟨q, 0, none⟩ v0).setCell ⟨q, 1, none⟩ v1).setCell ⟨q, 2, none⟩ v2).setCell ⟨q, 3, none⟩ v3).setCell ⟨q, 4, none⟩ v4).setCell ⟨q, 5, none⟩ v5).setCell ⟨q, 6, none⟩ v6).setCell ⟨q, 7, none⟩ v7).setCell ⟨q, 8, none⟩ v8).setCell ⟨q, 9, none⟩ v9).setCell ⟨q, 10, none⟩ v10).setCell ⟨q, 11, none⟩ v11).setCell ⟨q, 12, none⟩ v12).heap[q]? = some (.cells #[v0, v1, v2, v3, v4, v5, v6, v7, v8, v9, v10, v11, v12] t (0, 0)) := (heap_setCell_same _ _ _ _ _ _ h11).trans (by simp)
  exact h12
theorem off_store (W : World) (q : Nat) (v0 v1 v2 v3 v4 v5 v6 v7 v8 v9 v10 v11 v12 : Value) :
    Off (fun k => k = q) W (((((((((((((W.setCell ⟨q, 0, none⟩ v0).setCell ⟨q, 1, none⟩ v1).setCell ⟨q, 2, none⟩ v2).setCell ⟨q, 3, none⟩ v3).setCell ⟨q, 4, none⟩ v4).setCell ⟨q, 5, none⟩ v5).setCell ⟨q, 6, none⟩ v6).setCell ⟨q, 7, none⟩ v7).setCell ⟨q, 8, none⟩ v8).setCell ⟨q, 9, none⟩ v9).setCell ⟨q, 10, none⟩ v10).setCell ⟨q, 11, none⟩ v11).setCell ⟨q, 12, none⟩ v12) :=
  (((((((((((((Off.refl (fun k => k = q) W).setCell (p := ⟨q, 0, none⟩) (.inr rfl) _).setCell (p := ⟨q, 1, none⟩) (.inr rfl) _).setCell (p := ⟨q, 2, none⟩) (.inr rfl) _).setCell (p := ⟨q, 3, none⟩) (.inr rfl) _).setCell (p := ⟨q, 4, none⟩) (.inr rfl) _).setCell (p := ⟨q, 5, none⟩) (.inr rfl) _).setCell (p := ⟨q, 6, none⟩) (.inr rfl) _).setCell (p := ⟨q, 7, none⟩) (.inr rfl) _).setCell (p := ⟨q, 8, none⟩) (.inr rfl) _).setCell (p := ⟨q, 9, none⟩) (.inr rfl) _).setCell (p := ⟨q, 10, none⟩) (.inr rfl) _).setCell (p := ⟨q, 11, none⟩) (.inr rfl) _).setCell (p := ⟨q, 12, none⟩) (.inr rfl) _
/-- the segment as it is behind Kind, Source and Session. -/
def S0 (x n m : Nat) : Sg := { zeroS with knd := (x : Int), src := (n : Int), ses := m }
/-- what bytes say behind them. -/
def tailR (x : Nat) (s : Sg) (st : List Nat × Bool) : Sg × (List Nat × Bool) :=
  if x = 1 then dataR s st else if x = 2 then repR s st
  else if x = 3 then ({ s with ser := (numR 4294967295 st).1 }, (numR 4294967295 st).2)
  else if x = 4 ∨ x = 6 then ({ s with rea := ((numR 255 st).1 : Int) }, (numR 255 st).2) else (s, st)
theorem readS_tail (x : Nat) (l : List Nat) : readS x l = tailR x (S0 x (numR 6 (l, false)).1 (numR 4294967295 (numR 6 (l, false)).2).1) (numR 4294967295 (numR 6 (l, false)).2).2 := rfl
/-- what the cut behind them says. -/
def CutA (w W : World) (b q : Nat) (st : List Nat × Bool) (s : Sg) : Prop := Seg W (w.heap.size + 1) b q st s none 0 none 0 ∧ W.heap[w.heap.size]? = some (sc zeroS none 0 none 0) ∧ Below w.heap.size w W ∧ w.heap.size + 2 ≤ q
theorem cutA_new {w W : World} {b : Nat} {st : List Nat × Bool} {s : Sg} {h : Nat} (hI : InvR w W b st) (hb : b < w.heap.size) (e : W.heap.size = h) : CutA w (W.alloc (sc s none 0 none 0)) b h st s := by
  subst e
  exact ⟨⟨heap_alloc_new _ _, (hI.alloc _).rdr, by have := hI.two; omega, by have := hI.two; omega⟩, (hI.alloc _).res, (hI.alloc _).bel, hI.two⟩
theorem cutA_new2 {w W : World} {b x n m : Nat} {st : List Nat × Bool} {h : Nat} (hI : InvR w W b st) (hb : b < w.heap.size) (e : W.heap.size = h) : CutA w (W.alloc (.cells #[.int .i64 (x : Nat), .int .i64 (n : Nat), .int .u32 (m : Nat), .int .u32 0, .int .u32 0, .int .i64 0, .int .i64 0, .int .i64 0, .int .i64 0, .int .i64 0, .bool false, .slice none 0 0, .slice none 0 0] 26)) b h st (S0 x n m) := cutA_new (s := S0 x n m) hI hb e
theorem cutA_set {w W : World} {b q x n m : Nat} {st : List Nat × Bool} (hI : InvR w W b st) (hb : b < w.heap.size) (hq : w.heap.size + 2 ≤ q) (hz : W.heap[q]? = some (sc zeroS none 0 none 0)) :
    CutA w (((((((((((((W.setCell ⟨q, 0, none⟩ (.int .i64 (x : Nat))).setCell ⟨q, 1, none⟩ (.int .i64 (n : Nat))).setCell ⟨q, 2, none⟩ (.int .u32 (m : Nat))).setCell ⟨q, 3, none⟩ (.int .u32 0)).setCell ⟨q, 4, none⟩ (.int .u32 0)).setCell ⟨q, 5, none⟩ (.int .i64 0)).setCell ⟨q, 6, none⟩ (.int .i64 0)).setCell ⟨q, 7, none⟩ (.int .i64 0)).setCell ⟨q, 8, none⟩ (.int .i64 0)).setCell ⟨q, 9, none⟩ (.int .i64 0)).setCell ⟨q, 10, none⟩ (.bool false)).setCell ⟨q, 11, none⟩ (.slice none 0 0)).setCell ⟨q, 12, none⟩ (.slice none 0 0)) b q st (S0 x n m) := by
  have ho := off_store W q (.int .i64 (x : Nat)) (.int .i64 (n : Nat)) (.int .u32 (m : Nat)) (.int .u32 0) (.int .u32 0) (.int .i64 0) (.int .i64 0) (.int .i64 0) (.int .i64 0) (.int .i64 0) (.bool false) (.slice none 0 0) (.slice none 0 0)
  refine ⟨⟨(seg_store hz).trans rfl, hI.rdr.off ho (by show ¬ _ = _; omega) (by show ¬ _ = _; omega), by omega, by omega⟩, ho.at hI.res (by show ¬ _ = _; omega), hI.bel.trans (ho.below hI.bel.size (fun i e => by have : i = q := e; omega)), hq⟩
/-- what the second cut says. -/
def CutB (w W : World) (b q : Nat) (R : Sg × (List Nat × Bool)) (a' : Option Addr) (c' : Nat) (a2' : Option Addr) (c2' : Nat) : Prop :=
  Seg W (w.heap.size + 1) b q R.2 R.1 a' c' a2' c2' ∧ W.heap[w.heap.size]? = some (sc zeroS none 0 none 0) ∧ Below w.heap.size w W ∧ Fresh w W a' c' R.1.dat ∧ FreshC w W a2' c2' R.1.cls ∧ (∀ bb, a' = some bb → w.heap.size + 1 ≤ bb.block) ∧ (∀ bb, a2' = some bb → w.heap.size + 1 ≤ bb.block)
theorem cutB {w wc wd : World} {b q : Nat} {st : List Nat × Bool} {s : Sg} {R : Sg × (List Nat × Bool)} {a' : Option Addr} {c' : Nat} {a2' : Option Addr} {c2' : Nat} (hA : CutA w wc b q st s) (hS : Seg wd (w.heap.size + 1) b q R.2 R.1 a' c' a2' c2') (ho : OffS (w.heap.size + 1) q wc wd) (hF : Fresh wc wd a' c' R.1.dat) (hC : FreshC wc wd a2' c2' R.1.cls) : CutB w wd b q R a' c' a2' c2' := by
  obtain ⟨h1, h2, h3, h4⟩ := hA
  have hqs := (Array.getElem?_eq_some_iff.1 h1.seg).1
  refine ⟨hS, ho.at h2 (by show ¬ (_ = _ ∨ _ = _); omega), h3.trans (ho.below h3.size (fun i e => by have : i = w.heap.size + 1 ∨ i = q := e; omega)), ⟨hF.row, hF.le, hF.cap, fun b hb => Nat.le_trans h3.size (hF.new b hb)⟩, ⟨hC.row, hC.le, hC.cap, fun b hb => Nat.le_trans h3.size (hC.new b hb)⟩, fun bb hb => by have := hF.new bb hb; omega, fun bb hb => by have := hC.new bb hb; omega⟩
theorem fresh_nil (w0 w : World) : Fresh w0 w none 0 [] := ⟨row_nil _ _, by simp, by simp, fun b hb => by cases hb⟩
theorem freshC_nil (w0 w : World) : FreshC w0 w none 0 [] := ⟨⟨by simp, fun h => absurd h (by simp)⟩, by simp, by simp, fun b hb => by cases hb⟩
theorem rdata_any (w : World) (p B q : Nat) (st : List Nat × Bool) (s : Sg) (a : Option Addr) (c : Nat) (a2 : Option Addr) (c2 : Nat) (h : Seg w p B q st s a c a2 c2) (hs0 : s.ser = 0) :
    Calls Try.prog 34 #[.pointer (some ⟨p, 0, none⟩), .pointer (some ⟨q, 0, none⟩)] w fun e w' => e = .returned (.tuple #[]) ∧ ∃ a' c', Hid (Seg w' p B q (dataR s st).2 (dataR s st).1 a' c' a2 c2 ∧ OffS p q w w' ∧ Fresh w w' a' c' (dataR s st).1.dat) := by
  by_cases h1 : (numR 1 st).1 = 1
  · exact rdata_yes w p B q st s a c a2 c2 h h1
  · exact rdata_no w p B q st s a c a2 c2 h h1 hs0
set_option maxRecDepth 20000 in
set_option maxHeartbeats 8000000 in
theorem sread_any (w : World) (b o c : Nat) (x : Nat) (l : List Nat) (hr : Row w (some ⟨b, o, none⟩) (x :: l)) (hlc : l.length + 1 ≤ c) (hcm : c ≤ maxLen) (hz : l.length ≤ 100000) (hc1 : ¬ c = 1) :
    Calls Try.prog 22 #[.slice (some ⟨b, o, none⟩) (l.length + 1) c] w fun e w' => ∃ a' c' a2' c2', e = .returned (.tuple #[sv (readS x l).1 a' c' a2' c2', .bool (!(readS x l).2.2 && decide ((readS x l).2.1.length = 0))]) ∧ Hid (Below w.heap.size w w' ∧ Fresh w w' a' c' (readS x l).1.dat ∧ FreshC w w' a2' c2' (readS x l).1.cls) := by
  have HR : Hid (Row w (some ⟨b, o, none⟩) (x :: l)) := hr
  have c0 : w.cell? ⟨b, o, none⟩ = some (.int .u8 x) := by
    obtain ⟨b', o', e, hc⟩ := hr.2.2 (by simp)
    cases e
    exact hc 0 (by simp)
  have hb0 : b < w.heap.size := hr.lt (by simp) _ rfl
  have hx : x < 256 := hr.1 x List.mem_cons_self
  have HI0 : Hid (InvR w ((w.alloc (sc zeroS none 0 none 0)).alloc (.cells #[.slice (some ⟨b, o + 1, none⟩) l.length (c - 1), .bool false] 65)) b (l, false)) := by
    have hb2 : Below w.heap.size w ((w.alloc (sc zeroS none 0 none 0)).alloc (.cells #[.slice (some ⟨b, o + 1, none⟩) l.length (c - 1), .bool false] 65)) := ((Below.refl _ w).alloc (Nat.le_refl _) _).alloc (by simp) _
    refine ⟨⟨some ⟨b, o + 1, none⟩, c - 1, made_at (by simp), ?_, by show l.length ≤ _; omega, by omega, by show l.length ≤ _; omega, .inr ⟨o + 1, rfl, by omega⟩⟩, ?_, hb2, by simp⟩
    · exact (row_drop hr 1 (by simp)).later hb2
    · exact old_block ((Below.refl _ _).alloc (Nat.le_refl _) _) (heap_alloc_new w _)
  have HP1 : Hid (∀ W, InvR w W b (l, false) → Calls Try.prog 32 #[.pointer (some ⟨w.heap.size + 1, 0, none⟩), .int .u64 6] W fun e w' => e = .returned (.int .u64 ((numR 6 (l, false)).1 : Nat)) ∧ Hid (InvR w w' b (numR 6 (l, false)).2 ∧ Off (fun k => k = w.heap.size + 1) W w')) := fun W h => (snum_any W _ b (l, false) 6 (by omega) h.rdr).mono (by rintro e w' ⟨rfl, hq⟩; exact ⟨rfl, h.read hq.out, hq.out.2⟩)
  have HP2 : Hid (∀ W, InvR w W b (numR 6 (l, false)).2 → Calls Try.prog 33 #[.pointer (some ⟨w.heap.size + 1, 0, none⟩)] W fun e w' => e = .returned (.int .u32 ((numR 4294967295 (numR 6 (l, false)).2).1 : Nat)) ∧ Hid (InvR w w' b (numR 4294967295 (numR 6 (l, false)).2).2 ∧ Off (fun k => k = w.heap.size + 1) W w')) := fun W h => (long_any W _ b _ h.rdr).mono (by rintro e w' ⟨rfl, hq⟩; exact ⟨rfl, h.read hq.out, hq.out.2⟩)
  have hm1 := numR_le 6 (l, false)
  have HRS : Hid _ := readS_tail x l
  have HWX : Hid (IntKind.i64.wrap ((x : Nat) : Int) = ((x : Nat) : Int)) := by show _ = _; rw [IntKind.wrap_i64]; omega
  have HWN : Hid (IntKind.i64.wrap (((numR 6 (l, false)).1 : Nat) : Int) = (((numR 6 (l, false)).1 : Nat) : Int)) := by show _ = _; rw [IntKind.wrap_i64]; omega
  have d0 : ∀ X Y, ((w.alloc X).alloc Y).cell? ⟨b, o, none⟩ = some (.int .u8 x) := fun X Y => cell_later (((Below.refl _ w).alloc (Nat.le_refl _) X).alloc (by simp) Y) c0
  have d1 : ∀ X Y Z, (((w.alloc X).alloc Y).alloc Z).cell? ⟨b, o, none⟩ = some (.int .u8 x) := fun X Y Z => cell_later ((((Below.refl _ w).alloc (Nat.le_refl _) X).alloc (by simp) Y).alloc (by simp; omega) Z) c0
  have HC0 : Hid (w.cell? ⟨b, o, none⟩ = some (.int .u8 x)) := c0
  clear hr c0
  generalize readS x l = R at HRS ⊢
  generalize numR 6 (l, false) = A at HP1 HP2 hm1 HRS HWN
  obtain ⟨n1, st1⟩ := A
  simp only at HP1 HP2 hm1 HRS HWN
  generalize numR 4294967295 st1 = A2 at HP2 HRS
  obtain ⟨n2, st2⟩ := A2
  simp only at HP2 HRS
  go_enter Try.func22, Try.ntmps22
  go_wp2_with fail
  go_cut [5] from 9 (fun s wc => ∃ q, s = .pointer (some ⟨q, 0, none⟩) ∧ Hid (CutA w wc b q st2 (S0 x n1 n2)))
  case first =>
    go_region_with (first
      | (go_at_call 32; refine (HP1.out _ (by repeat (first | exact HI0.out | apply InvR.drew | apply InvR.alloc))).mono ?_; rintro e wa ⟨rfl, hIa⟩; have ca := hIa.out.1.cell HC0.out; have ca2 := (fun Z => (hIa.out.1.alloc Z).cell HC0.out); first | (have hza : wa.heap[w.heap.size + 1 + 1]? = some (sc zeroS none 0 none 0) := hIa.out.2.at (made_at (by simp)) (by show ¬ _ = _; omega)) | skip)
      | (go_at_call 33; refine (HP2.out _ (by repeat (first | exact hIa.out.1 | apply InvR.drew | apply InvR.alloc))).mono ?_; rintro e wb ⟨rfl, hIb⟩; have cb := hIb.out.1.cell HC0.out; have cb2 := (fun Z => (hIb.out.1.alloc Z).cell HC0.out); first | (have hzb : wb.heap[w.heap.size + 1 + 1]? = some (sc zeroS none 0 none 0) := hIb.out.2.at hza (by show ¬ _ = _; omega); obtain ⟨z0, z1, z2, z3, z4, z5, z6, z7, z8, z9, z10, z11, z12⟩ := scells hzb; have fz := frozen_of hzb) | (have hzb : wb.heap[wa.heap.size]? = some (sc zeroS none 0 none 0) := hIb.out.2.at (made_at rfl) (by show ¬ _ = _; have := hIa.out.1.two; omega); obtain ⟨z0, z1, z2, z3, z4, z5, z6, z7, z8, z9, z10, z11, z12⟩ := scells hzb; have fz := frozen_of hzb) | skip))
    all_goals
      go_wp2
      go_meet
      case rel =>
        rw [HWX.out, HWN.out]
        first
        | (have hzz := hzb; exact ⟨_, rfl, cutA_set hIb.out.1 hb0 hIa.out.1.two hzz⟩)
        | (have hzz := hzb; exact ⟨_, rfl, cutA_set hIb.out.1 hb0 (Nat.le_refl _) hzz⟩)
        | exact ⟨_, rfl, cutA_new2 hIb.out.1 hb0 rfl⟩
  case rest =>
    obtain ⟨q, rfl, HQ⟩ := hcut
    clear HP1 HP2 HI0 d0 d1
    rename_i Q9 K9 hK9
    refine hK9 _ _ ?_
    clear hK9
    go_step
    have hk0 : wc.cell? ⟨q, 0, none⟩ = some (.int .i64 (x : Nat)) := (scells HQ.out.1.seg).1
    go_cut [] from 9 (fun wd => ∃ a' c' a2' c2', Hid (CutB w wd b q R a' c' a2' c2'))
    case first =>
      by_cases x1 : x = 1
      · subst x1
        have HE : Hid (R = dataR (S0 1 n1 n2) st2) := HRS.out
        go_wp2_with (go_at_call 34; refine (rdata_any _ _ _ _ _ _ _ _ _ _ HQ.out.1 rfl).mono ?_; rintro e wd ⟨rfl, a', c', hq⟩)
        go_meet
        case rel =>
          refine ⟨a', c', none, 0, ?_⟩
          rw [HE.out]
          exact cutB HQ.out hq.out.1 hq.out.2.1 hq.out.2.2 (freshC_nil _ _)
      · by_cases x2 : x = 2
        · subst x2
          have HE : Hid (R = repR (S0 2 n1 n2) st2) := HRS.out
          go_wp2_with (go_at_call 35; refine (rreport_any _ _ _ _ _ _ _ _ HQ.out.1 (Nat.lt_of_lt_of_le hb0 HQ.out.2.2.1.size) rfl).mono ?_; rintro e wd ⟨rfl, a2', c2', hq⟩)
          go_meet
          case rel =>
            refine ⟨none, 0, a2', c2', ?_⟩
            rw [HE.out]
            exact cutB HQ.out hq.out.1 hq.out.2.1 (fresh_nil _ _) hq.out.2.2
        · by_cases x3 : x = 3
          · subst x3
            have HE : Hid (R = ({ S0 3 n1 n2 with ser := (numR 4294967295 st2).1 }, (numR 4294967295 st2).2)) := HRS.out
            go_wp2_with (go_at_call 33; refine (long_any _ _ _ _ HQ.out.1.rdr).mono ?_; rintro e wd ⟨rfl, hq⟩; have hS := HQ.out.1.read hq.out; have k3 := (scells hS.seg).2.2.2.1; have f3 := frozen_of hS.seg 3)
            go_meet
            case rel =>
              refine ⟨none, 0, none, 0, ?_⟩
              rw [HE.out]
              exact cutB HQ.out ((HQ.out.1.read hq.out).set 3 _ (by simp [S0, zeroS])) (((Off.refl _ wc).trans hq.out.2 (fun _ _ t => .inl t)).setCell (p := ⟨q, 3, none⟩) (.inr (.inr rfl)) _) (fresh_nil _ _) (freshC_nil _ _)
          · by_cases x4 : x = 4 ∨ x = 6
            · have HE : Hid (R = ({ S0 x n1 n2 with rea := ((numR 255 st2).1 : Int) }, (numR 255 st2).2)) := by
                show _ = _
                rw [HRS.out, tailR, if_neg x1, if_neg x2, if_neg x3, if_pos x4]
              have hle := numR_le 255 st2
              rcases x4 with rfl | rfl
              all_goals
                go_wp2_with (go_at_call 32; refine (snum_any _ _ _ _ 255 (by omega) HQ.out.1.rdr).mono ?_; rintro e wd ⟨rfl, hq⟩; have hS := HQ.out.1.read hq.out; have k3 := (scells hS.seg).2.2.2.2.2.2.2.2.2.1; have f3 := frozen_of hS.seg 9)
                go_meet
                case rel =>
                  refine ⟨none, 0, none, 0, ?_⟩
                  rw [HE.out]
                  exact cutB HQ.out ((HQ.out.1.read hq.out).set 9 _ (by simp [S0, zeroS])) (((Off.refl _ wc).trans hq.out.2 (fun _ _ t => .inl t)).setCell (p := ⟨q, 9, none⟩) (.inr (.inr rfl)) _) (fresh_nil _ _) (freshC_nil _ _)
            · have HE : Hid (R = (S0 x n1 n2, st2)) := by
                show _ = _
                rw [HRS.out, tailR, if_neg x1, if_neg x2, if_neg x3, if_neg x4]
              have y1 : ((x : Int) == 1) = false := by simp; omega
              have y2 : ((x : Int) == 2) = false := by simp; omega
              have y3 : ((x : Int) == 3) = false := by simp; omega
              have y4 : ((x : Int) == 4) = false := by simp; omega
              have y6 : ((x : Int) == 6) = false := by simp; omega
              go_wp2
              go_meet
              case rel =>
                refine ⟨none, 0, none, 0, ?_⟩
                rw [HE.out]
                exact cutB HQ.out HQ.out.1 (Off.refl _ _) (fresh_nil _ _) (freshC_nil _ _)
    case rest =>
      obtain ⟨a', c', a2', c2', HB2⟩ := hcut
      clear hk0 HQ
      obtain ⟨e0, e1, e2, e3, e4, e5, e6, e7, e8, e9, e10, e11, e12⟩ := scells HB2.out.1.seg
      obtain ⟨z0, z1, z2, z3, z4, z5, z6, z7, z8, z9, z10, z11, z12⟩ := scells HB2.out.2.1
      have fz := frozen_of HB2.out.2.1
      obtain ⟨la, lc, g1, g2, g3, g4, g5, g6⟩ := HB2.out.1.rdr
      have r0 : wc.cell? ⟨w.heap.size + 1, 0, none⟩ = some (.slice la R.2.1.length lc) := by rw [cell_of g1]; rfl
      have r1 : wc.cell? ⟨w.heap.size + 1, 1, none⟩ = some (.bool R.2.2) := by rw [cell_of g1]; rfl
      clear g1 g2 g3 g4 g6
      have hbl : R.2.1.length ≤ 1000000 := g5
      clear g5
      have HFIN : Hid (∀ v0 v1 v2 v3 v4 v5 v6 v7 v8 v9 v10 v11 v12, Below w.heap.size w (((((((((((((wc.setCell ⟨w.heap.size, 0, none⟩ v0).setCell ⟨w.heap.size, 1, none⟩ v1).setCell ⟨w.heap.size, 2, none⟩ v2).setCell ⟨w.heap.size, 3, none⟩ v3).setCell ⟨w.heap.size, 4, none⟩ v4).setCell ⟨w.heap.size, 5, none⟩ v5).setCell ⟨w.heap.size, 6, none⟩ v6).setCell ⟨w.heap.size, 7, none⟩ v7).setCell ⟨w.heap.size, 8, none⟩ v8).setCell ⟨w.heap.size, 9, none⟩ v9).setCell ⟨w.heap.size, 10, none⟩ v10).setCell ⟨w.heap.size, 11, none⟩ v11).setCell ⟨w.heap.size, 12, none⟩ v12).drew ∧ Fresh w (((((((((((((wc.setCell ⟨w.heap.size, 0, none⟩ v0).setCell ⟨w.heap.size, 1, none⟩ v1).setCell ⟨w.heap.size, 2, none⟩ v2).setCell ⟨w.heap.size, 3, none⟩ v3).setCell ⟨w.heap.size, 4, none⟩ v4).setCell ⟨w.heap.size, 5, none⟩ v5).setCell ⟨w.heap.size, 6, none⟩ v6).setCell ⟨w.heap.size, 7, none⟩ v7).setCell ⟨w.heap.size, 8, none⟩ v8).setCell ⟨w.heap.size, 9, none⟩ v9).setCell ⟨w.heap.size, 10, none⟩ v10).setCell ⟨w.heap.size, 11, none⟩ v11).setCell ⟨w.heap.size, 12, none⟩ v12).drew a' c' R.1.dat ∧ FreshC w (((((((((((((wc.setCell ⟨w.heap.size, 0, none⟩ v0).setCell ⟨w.heap.size, 1, none⟩ v1).setCell ⟨w.heap.size, 2, none⟩ v2).setCell ⟨w.heap.size, 3, none⟩ v3).setCell ⟨w.heap.size, 4, none⟩ v4).setCell ⟨w.heap.size, 5, none⟩ v5).setCell ⟨w.heap.size, 6, none⟩ v6).setCell ⟨w.heap.size, 7, none⟩ v7).setCell ⟨w.heap.size, 8, none⟩ v8).setCell ⟨w.heap.size, 9, none⟩ v9).setCell ⟨w.heap.size, 10, none⟩ v10).setCell ⟨w.heap.size, 11, none⟩ v11).setCell ⟨w.heap.size, 12, none⟩ v12).drew a2' c2' R.1.cls) := fun v0 v1 v2 v3 v4 v5 v6 v7 v8 v9 v10 v11 v12 => by
        have ho := off_store wc w.heap.size v0 v1 v2 v3 v4 v5 v6 v7 v8 v9 v10 v11 v12
        obtain ⟨h1, h2, h3, h4, h5, h6, h7⟩ := HB2.out
        have hd := (Below.refl (((((((((((((wc.setCell ⟨w.heap.size, 0, none⟩ v0).setCell ⟨w.heap.size, 1, none⟩ v1).setCell ⟨w.heap.size, 2, none⟩ v2).setCell ⟨w.heap.size, 3, none⟩ v3).setCell ⟨w.heap.size, 4, none⟩ v4).setCell ⟨w.heap.size, 5, none⟩ v5).setCell ⟨w.heap.size, 6, none⟩ v6).setCell ⟨w.heap.size, 7, none⟩ v7).setCell ⟨w.heap.size, 8, none⟩ v8).setCell ⟨w.heap.size, 9, none⟩ v9).setCell ⟨w.heap.size, 10, none⟩ v10).setCell ⟨w.heap.size, 11, none⟩ v11).setCell ⟨w.heap.size, 12, none⟩ v12).heap.size (((((((((((((wc.setCell ⟨w.heap.size, 0, none⟩ v0).setCell ⟨w.heap.size, 1, none⟩ v1).setCell ⟨w.heap.size, 2, none⟩ v2).setCell ⟨w.heap.size, 3, none⟩ v3).setCell ⟨w.heap.size, 4, none⟩ v4).setCell ⟨w.heap.size, 5, none⟩ v5).setCell ⟨w.heap.size, 6, none⟩ v6).setCell ⟨w.heap.size, 7, none⟩ v7).setCell ⟨w.heap.size, 8, none⟩ v8).setCell ⟨w.heap.size, 9, none⟩ v9).setCell ⟨w.heap.size, 10, none⟩ v10).setCell ⟨w.heap.size, 11, none⟩ v11).setCell ⟨w.heap.size, 12, none⟩ v12)).drew
        refine ⟨(h3.trans (ho.below h3.size (fun i e => by have : i = w.heap.size := e; omega))).drew, ⟨(h4.row.off ho (fun _ bb hb e => ?_)).later hd, h4.le, h4.cap, h4.new⟩, ⟨(h5.row.off ho (fun _ bb hb e => ?_)).later hd, h5.le, h5.cap, h5.new⟩⟩
        · have := h6 bb hb
          have e2 : bb.block = w.heap.size := e
          omega
        · have := h7 bb hb
          have e2 : bb.block = w.heap.size := e
          omega
      obtain ⟨bd, hbd⟩ : ∃ y, R.2.2 = y := ⟨_, rfl⟩
      obtain ⟨ll, hll⟩ : ∃ y, R.2.1.length = y := ⟨_, rfl⟩
      rw [hbd] at r1
      rw [hll] at r0 hbl
      have HBD : Hid (R.2.2 = bd) := hbd
      have HLL : Hid (R.2.1.length = ll) := hll
      clear hbd hll
      cases bd with
      | true =>
        go_wp2_with fail
        first | go_region | fail
        all_goals
          go_wp2
          refine bodyPost_ret (v := .tuple #[sv R.1 a' c' a2' c2', .bool false]) (by simp [results, Try.results22, go_sem, z0, z1, z2, z3, z4, z5, z6, z7, z8, z9, z10, z11, z12]) rfl ⟨a', c', a2', c2', ?_, HFIN.out _ _ _ _ _ _ _ _ _ _ _ _ _⟩
          rw [HBD.out]
          rfl
      | false =>
        by_cases h0 : ll = 0
        · have h0b : ((ll : Int) == 0) = true := by simp [h0]
          clear h0
          go_wp2_with fail
          go_region
          all_goals
            go_wp2
            refine bodyPost_ret (v := .tuple #[sv R.1 a' c' a2' c2', .bool true]) (by simp [results, Try.results22, go_sem, z0, z1, z2, z3, z4, z5, z6, z7, z8, z9, z10, z11, z12]) rfl ⟨a', c', a2', c2', ?_, HFIN.out _ _ _ _ _ _ _ _ _ _ _ _ _⟩
            have h1 : ll = 0 := by simpa using h0b
            rw [HBD.out, HLL.out, h1]
            rfl
        · have h0b : ((ll : Int) == 0) = false := by simp; omega
          go_wp2_with fail
          go_region
          all_goals
            go_wp2
            refine bodyPost_ret (v := .tuple #[sv R.1 a' c' a2' c2', .bool false]) (by simp [results, Try.results22, go_sem, z0, z1, z2, z3, z4, z5, z6, z7, z8, z9, z10, z11, z12]) rfl ⟨a', c', a2', c2', ?_, HFIN.out _ _ _ _ _ _ _ _ _ _ _ _ _⟩
            rw [HBD.out, HLL.out, decide_eq_false h0]
            rfl
end Go.Proofs.Ythmfbhanmncfgaa
