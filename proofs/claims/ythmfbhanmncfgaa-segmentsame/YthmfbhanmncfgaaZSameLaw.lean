/- The walk of SegmentSame. -/
import Derived.Test.YthmfbhanmncfgaaZWakes
import Derived.Test.YthmfbhanmncfgaaZRSame
import Derived.Test.YthmfbhanmncfgaaZCopied
import Derived.Deep.Cut
import Derived.Deep.MidRow
import Derived.Deep.RegionHeld3
namespace Go.Proofs.Ythmfbhanmncfgaa
open Go.RowKit
set_option linter.unusedVariables false
/-- both segments made short, in the parameters' blocks. -/
structure Two (w wc : World) (S T : Sg) (b : Option Addr) (d : Nat) (b2 : Option Addr) (d2 : Nat) (g : Option Addr) (f : Nat) (g2 : Option Addr) (f2 : Nat) : Prop where
  one : wc.heap[w.heap.size]? = some (sc S b d b2 d2)
  two : wc.heap[w.heap.size + 1]? = some (sc T g f g2 f2)
  bel : Below w.heap.size w wc
  c1 : Came wc S b d b2 d2
  c2 : Came wc T g f g2 f2
theorem size_two {W : World} {n : Nat} {o : Obj} (h : W.heap[n + 1]? = some o) : n + 2 ≤ W.heap.size := by
  obtain ⟨h, _⟩ := Array.getElem?_eq_some_iff.1 h
  omega
theorem Came.store {W : World} {X S : Sg} {x : Option Addr} {y : Nat} {x2 : Option Addr} {y2 : Nat} {b : Option Addr} {d : Nat} {b2 : Option Addr} {d2 q : Nat} (h : Came W X x y x2 y2) (n1 : ∀ bb, x = some bb → q < bb.block) (n2 : ∀ bb, x2 = some bb → q < bb.block) : Came (((((((((((((W.setCell ⟨q, 0, none⟩ (.int .i64 S.knd)).setCell ⟨q, 1, none⟩ (.int .i64 S.src)).setCell ⟨q, 2, none⟩ (.int .u32 (S.ses : Nat))).setCell ⟨q, 3, none⟩ (.int .u32 (S.ser : Nat))).setCell ⟨q, 4, none⟩ (.int .u32 (S.cks : Nat))).setCell ⟨q, 5, none⟩ (.int .i64 S.off)).setCell ⟨q, 6, none⟩ (.int .i64 S.tot)).setCell ⟨q, 7, none⟩ (.int .i64 S.low)).setCell ⟨q, 8, none⟩ (.int .i64 S.upp)).setCell ⟨q, 9, none⟩ (.int .i64 S.rea)).setCell ⟨q, 10, none⟩ (.bool S.chk)).setCell ⟨q, 11, none⟩ (.slice b S.dat.length d)).setCell ⟨q, 12, none⟩ (.slice b2 S.cls.length d2)) X x y x2 y2 := by
  have ho := off_store W q (.int .i64 S.knd) (.int .i64 S.src) (.int .u32 (S.ses : Nat)) (.int .u32 (S.ser : Nat)) (.int .u32 (S.cks : Nat)) (.int .i64 S.off) (.int .i64 S.tot) (.int .i64 S.low) (.int .i64 S.upp) (.int .i64 S.rea) (.bool S.chk) (.slice b S.dat.length d) (.slice b2 S.cls.length d2)
  exact ⟨h.fit, h.row.off ho (fun _ bb hb e => by have := n1 bb hb; have e2 : bb.block = q := e; omega), h.rowc.off ho (fun _ bb hb e => by have := n2 bb hb; have e2 : bb.block = q := e; omega), h.le, h.cap, h.lec, h.capc⟩
theorem two_set {w W : World} {s t S T : Sg} {a : Option Addr} {c : Nat} {a2 : Option Addr} {c2 : Nat} {p : Option Addr} {q : Nat} {p2 : Option Addr} {q2 : Nat} {b : Option Addr} {d : Nat} {b2 : Option Addr} {d2 : Nat} {g : Option Addr} {f : Nat} {g2 : Option Addr} {f2 h : Nat} (hb : Below w.heap.size w W) (hp : W.heap[w.heap.size]? = some (sc s a c a2 c2)) (hq : W.heap[w.heap.size + 1]? = some (sc t p q p2 q2)) (hc : Came W S b d b2 d2) (hd : Came W T g f g2 f2) (hh : w.heap.size + 2 ≤ h) (n1 : ∀ bb, b = some bb → h ≤ bb.block) (n2 : ∀ bb, b2 = some bb → h ≤ bb.block) (n3 : ∀ bb, g = some bb → h ≤ bb.block) (n4 : ∀ bb, g2 = some bb → h ≤ bb.block) :
    Two w ((((((((((((((((((((((((((W.setCell ⟨w.heap.size, 0, none⟩ (.int .i64 S.knd)).setCell ⟨w.heap.size, 1, none⟩ (.int .i64 S.src)).setCell ⟨w.heap.size, 2, none⟩ (.int .u32 (S.ses : Nat))).setCell ⟨w.heap.size, 3, none⟩ (.int .u32 (S.ser : Nat))).setCell ⟨w.heap.size, 4, none⟩ (.int .u32 (S.cks : Nat))).setCell ⟨w.heap.size, 5, none⟩ (.int .i64 S.off)).setCell ⟨w.heap.size, 6, none⟩ (.int .i64 S.tot)).setCell ⟨w.heap.size, 7, none⟩ (.int .i64 S.low)).setCell ⟨w.heap.size, 8, none⟩ (.int .i64 S.upp)).setCell ⟨w.heap.size, 9, none⟩ (.int .i64 S.rea)).setCell ⟨w.heap.size, 10, none⟩ (.bool S.chk)).setCell ⟨w.heap.size, 11, none⟩ (.slice b S.dat.length d)).setCell ⟨w.heap.size, 12, none⟩ (.slice b2 S.cls.length d2)).setCell ⟨w.heap.size + 1, 0, none⟩ (.int .i64 T.knd)).setCell ⟨w.heap.size + 1, 1, none⟩ (.int .i64 T.src)).setCell ⟨w.heap.size + 1, 2, none⟩ (.int .u32 (T.ses : Nat))).setCell ⟨w.heap.size + 1, 3, none⟩ (.int .u32 (T.ser : Nat))).setCell ⟨w.heap.size + 1, 4, none⟩ (.int .u32 (T.cks : Nat))).setCell ⟨w.heap.size + 1, 5, none⟩ (.int .i64 T.off)).setCell ⟨w.heap.size + 1, 6, none⟩ (.int .i64 T.tot)).setCell ⟨w.heap.size + 1, 7, none⟩ (.int .i64 T.low)).setCell ⟨w.heap.size + 1, 8, none⟩ (.int .i64 T.upp)).setCell ⟨w.heap.size + 1, 9, none⟩ (.int .i64 T.rea)).setCell ⟨w.heap.size + 1, 10, none⟩ (.bool T.chk)).setCell ⟨w.heap.size + 1, 11, none⟩ (.slice g T.dat.length f)).setCell ⟨w.heap.size + 1, 12, none⟩ (.slice g2 T.cls.length f2)) S T b d b2 d2 g f g2 f2 := by
  have ho1 := off_store W w.heap.size (.int .i64 S.knd) (.int .i64 S.src) (.int .u32 (S.ses : Nat)) (.int .u32 (S.ser : Nat)) (.int .u32 (S.cks : Nat)) (.int .i64 S.off) (.int .i64 S.tot) (.int .i64 S.low) (.int .i64 S.upp) (.int .i64 S.rea) (.bool S.chk) (.slice b S.dat.length d) (.slice b2 S.cls.length d2)
  have k1 : (((((((((((((W.setCell ⟨w.heap.size, 0, none⟩ (.int .i64 S.knd)).setCell ⟨w.heap.size, 1, none⟩ (.int .i64 S.src)).setCell ⟨w.heap.size, 2, none⟩ (.int .u32 (S.ses : Nat))).setCell ⟨w.heap.size, 3, none⟩ (.int .u32 (S.ser : Nat))).setCell ⟨w.heap.size, 4, none⟩ (.int .u32 (S.cks : Nat))).setCell ⟨w.heap.size, 5, none⟩ (.int .i64 S.off)).setCell ⟨w.heap.size, 6, none⟩ (.int .i64 S.tot)).setCell ⟨w.heap.size, 7, none⟩ (.int .i64 S.low)).setCell ⟨w.heap.size, 8, none⟩ (.int .i64 S.upp)).setCell ⟨w.heap.size, 9, none⟩ (.int .i64 S.rea)).setCell ⟨w.heap.size, 10, none⟩ (.bool S.chk)).setCell ⟨w.heap.size, 11, none⟩ (.slice b S.dat.length d)).setCell ⟨w.heap.size, 12, none⟩ (.slice b2 S.cls.length d2)).heap[w.heap.size]? = some (sc S b d b2 d2) := seg_store hp
  have k2 : (((((((((((((W.setCell ⟨w.heap.size, 0, none⟩ (.int .i64 S.knd)).setCell ⟨w.heap.size, 1, none⟩ (.int .i64 S.src)).setCell ⟨w.heap.size, 2, none⟩ (.int .u32 (S.ses : Nat))).setCell ⟨w.heap.size, 3, none⟩ (.int .u32 (S.ser : Nat))).setCell ⟨w.heap.size, 4, none⟩ (.int .u32 (S.cks : Nat))).setCell ⟨w.heap.size, 5, none⟩ (.int .i64 S.off)).setCell ⟨w.heap.size, 6, none⟩ (.int .i64 S.tot)).setCell ⟨w.heap.size, 7, none⟩ (.int .i64 S.low)).setCell ⟨w.heap.size, 8, none⟩ (.int .i64 S.upp)).setCell ⟨w.heap.size, 9, none⟩ (.int .i64 S.rea)).setCell ⟨w.heap.size, 10, none⟩ (.bool S.chk)).setCell ⟨w.heap.size, 11, none⟩ (.slice b S.dat.length d)).setCell ⟨w.heap.size, 12, none⟩ (.slice b2 S.cls.length d2)).heap[w.heap.size + 1]? = some (sc t p q p2 q2) := by
    rw [ho1.block _ (by have := size_two hq; omega) (by show ¬ (_ = _); omega)]
    exact hq
  have c1 := Came.store (S := S) (b := b) (d := d) (b2 := b2) (d2 := d2) (q := w.heap.size) hc (fun bb e => by have := n1 bb e; omega) (fun bb e => by have := n2 bb e; omega)
  have c2 := Came.store (S := S) (b := b) (d := d) (b2 := b2) (d2 := d2) (q := w.heap.size) hd (fun bb e => by have := n3 bb e; omega) (fun bb e => by have := n4 bb e; omega)
  have b1 : Below w.heap.size w (((((((((((((W.setCell ⟨w.heap.size, 0, none⟩ (.int .i64 S.knd)).setCell ⟨w.heap.size, 1, none⟩ (.int .i64 S.src)).setCell ⟨w.heap.size, 2, none⟩ (.int .u32 (S.ses : Nat))).setCell ⟨w.heap.size, 3, none⟩ (.int .u32 (S.ser : Nat))).setCell ⟨w.heap.size, 4, none⟩ (.int .u32 (S.cks : Nat))).setCell ⟨w.heap.size, 5, none⟩ (.int .i64 S.off)).setCell ⟨w.heap.size, 6, none⟩ (.int .i64 S.tot)).setCell ⟨w.heap.size, 7, none⟩ (.int .i64 S.low)).setCell ⟨w.heap.size, 8, none⟩ (.int .i64 S.upp)).setCell ⟨w.heap.size, 9, none⟩ (.int .i64 S.rea)).setCell ⟨w.heap.size, 10, none⟩ (.bool S.chk)).setCell ⟨w.heap.size, 11, none⟩ (.slice b S.dat.length d)).setCell ⟨w.heap.size, 12, none⟩ (.slice b2 S.cls.length d2)) := hb.trans (ho1.below hb.size (fun i e => by have : i = w.heap.size := e; omega))
  generalize (((((((((((((W.setCell ⟨w.heap.size, 0, none⟩ (.int .i64 S.knd)).setCell ⟨w.heap.size, 1, none⟩ (.int .i64 S.src)).setCell ⟨w.heap.size, 2, none⟩ (.int .u32 (S.ses : Nat))).setCell ⟨w.heap.size, 3, none⟩ (.int .u32 (S.ser : Nat))).setCell ⟨w.heap.size, 4, none⟩ (.int .u32 (S.cks : Nat))).setCell ⟨w.heap.size, 5, none⟩ (.int .i64 S.off)).setCell ⟨w.heap.size, 6, none⟩ (.int .i64 S.tot)).setCell ⟨w.heap.size, 7, none⟩ (.int .i64 S.low)).setCell ⟨w.heap.size, 8, none⟩ (.int .i64 S.upp)).setCell ⟨w.heap.size, 9, none⟩ (.int .i64 S.rea)).setCell ⟨w.heap.size, 10, none⟩ (.bool S.chk)).setCell ⟨w.heap.size, 11, none⟩ (.slice b S.dat.length d)).setCell ⟨w.heap.size, 12, none⟩ (.slice b2 S.cls.length d2)) = V at k1 k2 c1 c2 b1 ⊢
  have ho2 := off_store V (w.heap.size + 1) (.int .i64 T.knd) (.int .i64 T.src) (.int .u32 (T.ses : Nat)) (.int .u32 (T.ser : Nat)) (.int .u32 (T.cks : Nat)) (.int .i64 T.off) (.int .i64 T.tot) (.int .i64 T.low) (.int .i64 T.upp) (.int .i64 T.rea) (.bool T.chk) (.slice g T.dat.length f) (.slice g2 T.cls.length f2)
  refine ⟨?_, seg_store k2, b1.trans (ho2.below b1.size (fun i e => by have : i = w.heap.size + 1 := e; omega)), Came.store c1 (fun bb e => by have := n1 bb e; omega) (fun bb e => by have := n2 bb e; omega), Came.store c2 (fun bb e => by have := n3 bb e; omega) (fun bb e => by have := n4 bb e; omega)⟩
  rw [ho2.block _ (by have := size_two k2; omega) (by show ¬ (_ = _); omega)]
  exact k1
/-- a segment's cells. -/
abbrev sgcells (s : Sg) (a : Option Addr) (c : Nat) (a2 : Option Addr) (c2 : Nat) : List Value := [.int .i64 s.knd, .int .i64 s.src, .int .u32 (s.ses : Nat), .int .u32 (s.ser : Nat), .int .u32 (s.cks : Nat), .int .i64 s.off, .int .i64 s.tot, .int .i64 s.low, .int .i64 s.upp, .int .i64 s.rea, .bool s.chk, .slice a s.dat.length c, .slice a2 s.cls.length c2]
theorem sv_cells (s : Sg) (a : Option Addr) (c : Nat) (a2 : Option Addr) (c2 : Nat) : sv s a c a2 c2 = .agg (sgcells s a c a2 c2).toArray := rfl
theorem sg_range {W : World} {b : Nat} {s : Sg} {a : Option Addr} {c : Nat} {a2 : Option Addr} {c2 : Nat} (h : W.heap[b]? = some (sc s a c a2 c2)) : W.rangeAt b 0 (sgcells s a c a2 c2) := by
  intro j v hv
  rw [Nat.zero_add, cell_of h]
  rw [← List.getElem?_toArray] at hv
  exact hv
theorem sg_there {W : World} {b : Nat} {s : Sg} {a : Option Addr} {c : Nat} {a2 : Option Addr} {c2 : Nat} (h : W.heap[b]? = some (sc s a c a2 c2)) : W.there b 0 13 := by
  intro j hj
  rw [Nat.zero_add]
  refine ⟨?_, frozen_of h j⟩
  rw [cell_of h, Array.getElem?_eq_getElem (by simpa using hj)]
  rfl
theorem sg_one (s : Sg) (a : Option Addr) (c : Nat) (a2 : Option Addr) (c2 : Nat) : (sgcells s a c a2 c2).toArray.all (·.oneCell') = true := by simp [Value.oneCell']
theorem step_load {P : Program} {ops : Array Oper} {op : Oper} {a : Act} {w : World} {K : Act → World → Prop} {Q : Exit → Act → World → Prop} {E : Prop} (hw : Region.wanted op (yielded ops a.tmps) = true) (ty : TypeId) (x : Operand) (ho : op.op = .load ty x)
    (b o : Nat) (hx : a.eval x = .pointer (some ⟨b, o, none⟩)) (cs : List Value) (d : TypeDesc) (hc : w.rangeAt b o cs)
    (hu : P.underlying ty = some d) (hd : d.isRow = true) (hi : (P.info? ty).map (·.size) = some cs.length)
    (h : K (a.put op.dst (.agg cs.toArray)) w) : if Region.wanted op (yielded ops a.tmps) = true then Oper.wp P op a w K Q else E := by
  rw [if_pos hw]
  exact wp_load_mid ty x ho b o hx cs d hc hu hd hi h
theorem step_store {P : Program} {ops : Array Oper} {op : Oper} {a : Act} {w : World} {K : Act → World → Prop} {Q : Exit → Act → World → Prop} {E : Prop} (hw : Region.wanted op (yielded ops a.tmps) = true) (ty : TypeId) (x y : Operand) (ho : op.op = .store ty x y)
    (b o : Nat) (cells : Array Value) (hx : a.eval x = .pointer (some ⟨b, o, none⟩)) (hy : a.eval y = .agg cells)
    (ht : w.there b o cells.size) (hi : (P.info? ty).map (·.size) = some cells.size) (h1 : cells.all (·.oneCell') = true)
    (h : K (a.put op.dst undef) (w.setCells b o cells.toList)) : if Region.wanted op (yielded ops a.tmps) = true then Oper.wp P op a w K Q else E := by
  rw [if_pos hw]
  exact wp_store_mid ty x y ho b o cells hx hy ht hi h1 h
theorem two_setC {w W : World} {s t S T : Sg} {a : Option Addr} {c : Nat} {a2 : Option Addr} {c2 : Nat} {p : Option Addr} {q : Nat} {p2 : Option Addr} {q2 : Nat} {b : Option Addr} {d : Nat} {b2 : Option Addr} {d2 : Nat} {g : Option Addr} {f : Nat} {g2 : Option Addr} {f2 h : Nat} (hb : Below w.heap.size w W) (hp : W.heap[w.heap.size]? = some (sc s a c a2 c2)) (hq : W.heap[w.heap.size + 1]? = some (sc t p q p2 q2)) (hc : Came W S b d b2 d2) (hd : Came W T g f g2 f2) (hh : w.heap.size + 2 ≤ h) (n1 : ∀ bb, b = some bb → h ≤ bb.block) (n2 : ∀ bb, b2 = some bb → h ≤ bb.block) (n3 : ∀ bb, g = some bb → h ≤ bb.block) (n4 : ∀ bb, g2 = some bb → h ≤ bb.block) :
    Two w ((W.setCells w.heap.size 0 (sgcells S b d b2 d2)).setCells (w.heap.size + 1) 0 (sgcells T g f g2 f2)) S T b d b2 d2 g f g2 f2 := two_set hb hp hq hc hd hh n1 n2 n3 n4
theorem store_other {W : World} {q : Nat} {t : Obj} {S : Sg} {b : Option Addr} {d : Nat} {b2 : Option Addr} {d2 : Nat} (h : W.heap[q + 1]? = some t) : (W.setCells q 0 (sgcells S b d b2 d2)).heap[q + 1]? = some t := by
  have ho := off_store W q (.int .i64 S.knd) (.int .i64 S.src) (.int .u32 (S.ses : Nat)) (.int .u32 (S.ser : Nat)) (.int .u32 (S.cks : Nat)) (.int .i64 S.off) (.int .i64 S.tot) (.int .i64 S.low) (.int .i64 S.upp) (.int .i64 S.rea) (.bool S.chk) (.slice b S.dat.length d) (.slice b2 S.cls.length d2)
  rw [← h]
  exact ho.block _ (by have := size_two h; omega) (by show ¬ (_ = _); omega)
set_option maxRecDepth 20000 in
set_option maxHeartbeats 16000000 in
theorem zsame_any (w : World) (s t : Sg) (a : Option Addr) (c : Nat) (a2 : Option Addr) (c2 : Nat) (p : Option Addr) (q : Nat) (p2 : Option Addr) (q2 : Nat) (hs : Came w s a c a2 c2) (ht : Came w t p q p2 q2) :
    Calls Try.prog 3 #[sv s a c a2 c2, sv t p q p2 q2] w fun e w' => e = .returned (.bool true) ∧ Hid (Below w.heap.size w w') := by
  have HB : Hid (∀ (w : World) (X : Obj), Below w.heap.size w (w.alloc X)) := fun w X => (Below.refl _ w).alloc (Nat.le_refl _) X
  have HWK : Hid (∀ W, Calls Try.prog 4 #[] W fun e w' => e = .returned (.bool true) ∧ Hid (Below W.heap.size W w')) := fun W => wakes_any W
  have HS1 : Hid (∀ W, Below w.heap.size w W → Calls Try.prog 5 #[.agg (sgcells s a c a2 c2).toArray] W fun e w' => ∃ a' c' a2' c2' l, e = .returned (.agg l.toArray) ∧ Hid (l = sgcells (shortS s) a' c' a2' c2') ∧ Hid (Below W.heap.size W w' ∧ Came w' (shortS s) a' c' a2' c2' ∧ (∀ bb, a' = some bb → W.heap.size ≤ bb.block) ∧ (∀ bb, a2' = some bb → W.heap.size ≤ bb.block))) := fun W hb => (short_new s a c a2 c2 W (hs.later hb)).mono (by rintro e w' ⟨a', c', a2', c2', rfl, hq⟩; exact ⟨a', c', a2', c2', _, rfl, rfl, hq⟩)
  have HS2 : Hid (∀ W, Below w.heap.size w W → Calls Try.prog 5 #[.agg (sgcells t p q p2 q2).toArray] W fun e w' => ∃ a' c' a2' c2' l, e = .returned (.agg l.toArray) ∧ Hid (l = sgcells (shortS t) a' c' a2' c2') ∧ Hid (Below W.heap.size W w' ∧ Came w' (shortS t) a' c' a2' c2' ∧ (∀ bb, a' = some bb → W.heap.size ≤ bb.block) ∧ (∀ bb, a2' = some bb → W.heap.size ≤ bb.block))) := fun W hb => (short_new t p q p2 q2 W (ht.later hb)).mono (by rintro e w' ⟨a', c', a2', c2', rfl, hq⟩; exact ⟨a', c', a2', c2', _, rfl, rfl, hq⟩)
  have HD : Hid ((shortS s).dat.length ≤ 1000 ∧ (shortS s).cls.length ≤ 1000) := by
    show _ ∧ _
    constructor <;> simp [shortS] <;> omega
  clear hs ht
  generalize shortS s = S at HS1 HD
  generalize shortS t = T at HS2
  have HN0 : Hid (((w.alloc (sc s a c a2 c2)).alloc (sc t p q p2 q2)).heap[w.heap.size]? = some (sc s a c a2 c2)) := (show _ = _ from old_block (HB.out _ _) (heap_alloc_new w _))
  have HN1 : Hid (((w.alloc (sc s a c a2 c2)).alloc (sc t p q p2 q2)).heap[w.heap.size + 1]? = some (sc t p q p2 q2)) := (show _ = _ from by have := heap_alloc_new (w.alloc (sc s a c a2 c2)) (sc t p q p2 q2); simpa using this)
  have HNB : Hid (Below w.heap.size w ((w.alloc (sc s a c a2 c2)).alloc (sc t p q p2 q2))) := below_of (HB.out _ _) (HB.out _ _)
  go_enter Try.func3, Try.ntmps3
  go_wp2_with (go_at_call 4; refine (HWK.out _).mono ?_; rintro e w1 ⟨rfl, hb1⟩; have HW1 : Hid (Below w.heap.size w w1) := below_of HNB.out hb1.out; have HP1 : Hid (w1.heap[w.heap.size]? = some (sc s a c a2 c2) ∧ w1.heap[w.heap.size + 1]? = some (sc t p q p2 q2)) := ⟨old_block hb1.out HN0.out, old_block hb1.out HN1.out⟩; clear hb1)
  have HZ1 : Hid (w.heap.size + 2 ≤ w1.drew.heap.size) := size_two HP1.out.2
  have HPd : Hid (w1.drew.heap[w.heap.size]? = some (sc s a c a2 c2) ∧ w1.drew.heap[w.heap.size + 1]? = some (sc t p q p2 q2)) := HP1.out
  obtain ⟨cs, hcs⟩ : ∃ cs, Hid (cs = sgcells s a c a2 c2) := ⟨_, rfl⟩
  obtain ⟨ct, hct⟩ : ∃ ct, Hid (ct = sgcells t p q p2 q2) := ⟨_, rfl⟩
  have hs13 : Hid ((Try.prog.info? 26).map (·.size) = some 13) := by show _ = _; kernel_rfl
  have hsz : Hid ((Try.prog.info? 26).map (·.size) = some cs.length) := by show _ = _; rw [show cs.length = 13 by rw [hcs.out]; rfl]; exact hs13.out
  have htz : Hid ((Try.prog.info? 26).map (·.size) = some ct.length) := by show _ = _; rw [show ct.length = 13 by rw [hct.out]; rfl]; exact hs13.out
  rw [← hcs.out] at HS1
  rw [← hct.out] at HS2
  go_cut [] from 7 (fun wc => ∃ b d b2 d2 g u g2 u2, Hid (Two w wc S T b d b2 d2 g u g2 u2))
  case first =>
    clear HWK HNB HN0 HN1 HB
    refine wp_region_any (by kernel_rfl) ?_
    change wpAny _ _ _ _ _ _ _ (World.drew _)
    refine wpAny_ready (rs := [0, 2]) (by kernel_rfl) (by simp) ?_
    refine AllReady.cons rfl (fun K hK => ?_) (AllReady.cons rfl (fun K hK => ?_) AllReady.nil)
    · skip
      refine step_load (by rfl) 26 _ rfl w.heap.size 0 (by rfl) cs _ (by rw [hcs.out]; exact sg_range HPd.out.1) Try.underlying26 rfl hsz.out ?_
      refine hK _ _ ?_
      clear hK K
      skip
      refine wpAny_ready (rs := [1, 2]) (by kernel_rfl) (by simp) ?_
      refine AllReady.cons rfl (fun K hK => ?_) (AllReady.cons rfl (fun K hK => ?_) AllReady.nil)
      · skip
        go_simp
        go_at_call 5
        refine (HS1.out _ (HW1.out.drew)).mono ?_
        rintro e w2 ⟨b, d, b2, d2, l2, rfl, hl2, hq2⟩
        have HX2 : Hid (Below w.heap.size w w2) := below_of (HW1.out.drew) hq2.out.1
        have HP2 : Hid (w2.heap[w.heap.size]? = some (sc s a c a2 c2) ∧ w2.heap[w.heap.size + 1]? = some (sc t p q p2 q2)) := ⟨old_block hq2.out.1 HPd.out.1, old_block hq2.out.1 HPd.out.2⟩
        go_wp2
        refine wpAny_ready (rs := [2]) (by kernel_rfl) (by simp) ?_
        refine AllReady.cons rfl (fun K hK => ?_) AllReady.nil
        · skip
          refine step_load (by rfl) 26 _ rfl (w.heap.size + 1) 0 (by rfl) ct _ (by rw [hct.out]; exact sg_range HP2.out.2) Try.underlying26 rfl htz.out ?_
          refine hK _ _ ?_
          clear hK K
          skip
          refine wpAny_ready (rs := [3]) (by kernel_rfl) (by simp) ?_
          refine AllReady.cons rfl (fun K hK => ?_) AllReady.nil
          · skip
            go_simp
            go_at_call 5
            refine (HS2.out _ HX2.out).mono ?_
            rintro e w3 ⟨g, u, g2, u2, l3, rfl, hl3, hq3⟩
            have HX3 : Hid (Below w.heap.size w w3) := below_of HX2.out hq3.out.1
            have HP3 : Hid (w3.heap[w.heap.size]? = some (sc s a c a2 c2) ∧ w3.heap[w.heap.size + 1]? = some (sc t p q p2 q2)) := ⟨old_block hq3.out.1 HP2.out.1, old_block hq3.out.1 HP2.out.2⟩
            go_wp2
            refine wpAny_ready (rs := [4]) (by kernel_rfl) (by simp) ?_
            refine AllReady.cons rfl (fun K hK => ?_) AllReady.nil
            refine step_store (by rfl) 26 _ _ rfl w.heap.size 0 l2.toArray (by rfl) (by rfl) (by rw [hl2.out]; exact sg_there HP3.out.1) (by rw [hl2.out]; exact hs13.out) (by rw [hl2.out]; exact sg_one _ _ _ _ _) ?_
            refine hK _ _ ?_
            clear hK K
            skip
            refine wpAny_ready (rs := [5]) (by kernel_rfl) (by simp) ?_
            refine AllReady.cons rfl (fun K hK => ?_) AllReady.nil
            refine step_store (by rfl) 26 _ _ rfl (w.heap.size + 1) 0 l3.toArray (by rfl) (by rfl) (by rw [hl3.out, hl2.out]; exact sg_there (store_other HP3.out.2)) (by rw [hl3.out]; exact hs13.out) (by rw [hl3.out]; exact sg_one _ _ _ _ _) ?_
            refine hK _ _ ?_
            clear hK K
            skip
            refine wpAny_done (by kernel_rfl) ?_ _
            go_wp2
            go_meet
            case rel =>
              refine ⟨b, d, b2, d2, g, u, g2, u2, ?_⟩
              rw [hl2.out, hl3.out]
              exact two_setC HX3.out HP3.out.1 HP3.out.2 (hq2.out.2.1.later hq3.out.1) hq3.out.2.1 (Nat.le_refl _) (fun bb e => Nat.le_trans HZ1.out (hq2.out.2.2.1 bb e)) (fun bb e => Nat.le_trans HZ1.out (hq2.out.2.2.2 bb e)) (fun bb e => Nat.le_trans (size_two HP2.out.2) (hq3.out.2.2.1 bb e)) (fun bb e => Nat.le_trans (size_two HP2.out.2) (hq3.out.2.2.2 bb e))
      · skip
        refine step_load (by rfl) 26 _ rfl (w.heap.size + 1) 0 (by rfl) ct _ (by rw [hct.out]; exact sg_range HPd.out.2) Try.underlying26 rfl htz.out ?_
        refine hK _ _ ?_
        clear hK K
        skip
        refine wpAny_ready (rs := [1]) (by kernel_rfl) (by simp) ?_
        refine AllReady.cons rfl (fun K hK => ?_) AllReady.nil
        · skip
          go_simp
          go_at_call 5
          refine (HS1.out _ (HW1.out.drew)).mono ?_
          rintro e w2 ⟨b, d, b2, d2, l2, rfl, hl2, hq2⟩
          have HX2 : Hid (Below w.heap.size w w2) := below_of (HW1.out.drew) hq2.out.1
          have HP2 : Hid (w2.heap[w.heap.size]? = some (sc s a c a2 c2) ∧ w2.heap[w.heap.size + 1]? = some (sc t p q p2 q2)) := ⟨old_block hq2.out.1 HPd.out.1, old_block hq2.out.1 HPd.out.2⟩
          go_wp2
          refine wpAny_ready (rs := [3]) (by kernel_rfl) (by simp) ?_
          refine AllReady.cons rfl (fun K hK => ?_) AllReady.nil
          · skip
            go_simp
            go_at_call 5
            refine (HS2.out _ HX2.out).mono ?_
            rintro e w3 ⟨g, u, g2, u2, l3, rfl, hl3, hq3⟩
            have HX3 : Hid (Below w.heap.size w w3) := below_of HX2.out hq3.out.1
            have HP3 : Hid (w3.heap[w.heap.size]? = some (sc s a c a2 c2) ∧ w3.heap[w.heap.size + 1]? = some (sc t p q p2 q2)) := ⟨old_block hq3.out.1 HP2.out.1, old_block hq3.out.1 HP2.out.2⟩
            go_wp2
            refine wpAny_ready (rs := [4]) (by kernel_rfl) (by simp) ?_
            refine AllReady.cons rfl (fun K hK => ?_) AllReady.nil
            refine step_store (by rfl) 26 _ _ rfl w.heap.size 0 l2.toArray (by rfl) (by rfl) (by rw [hl2.out]; exact sg_there HP3.out.1) (by rw [hl2.out]; exact hs13.out) (by rw [hl2.out]; exact sg_one _ _ _ _ _) ?_
            refine hK _ _ ?_
            clear hK K
            skip
            refine wpAny_ready (rs := [5]) (by kernel_rfl) (by simp) ?_
            refine AllReady.cons rfl (fun K hK => ?_) AllReady.nil
            refine step_store (by rfl) 26 _ _ rfl (w.heap.size + 1) 0 l3.toArray (by rfl) (by rfl) (by rw [hl3.out, hl2.out]; exact sg_there (store_other HP3.out.2)) (by rw [hl3.out]; exact hs13.out) (by rw [hl3.out]; exact sg_one _ _ _ _ _) ?_
            refine hK _ _ ?_
            clear hK K
            skip
            refine wpAny_done (by kernel_rfl) ?_ _
            go_wp2
            go_meet
            case rel =>
              refine ⟨b, d, b2, d2, g, u, g2, u2, ?_⟩
              rw [hl2.out, hl3.out]
              exact two_setC HX3.out HP3.out.1 HP3.out.2 (hq2.out.2.1.later hq3.out.1) hq3.out.2.1 (Nat.le_refl _) (fun bb e => Nat.le_trans HZ1.out (hq2.out.2.2.1 bb e)) (fun bb e => Nat.le_trans HZ1.out (hq2.out.2.2.2 bb e)) (fun bb e => Nat.le_trans (size_two HP2.out.2) (hq3.out.2.2.1 bb e)) (fun bb e => Nat.le_trans (size_two HP2.out.2) (hq3.out.2.2.2 bb e))
    · skip
      refine step_load (by rfl) 26 _ rfl (w.heap.size + 1) 0 (by rfl) ct _ (by rw [hct.out]; exact sg_range HPd.out.2) Try.underlying26 rfl htz.out ?_
      refine hK _ _ ?_
      clear hK K
      skip
      refine wpAny_ready (rs := [0]) (by kernel_rfl) (by simp) ?_
      refine AllReady.cons rfl (fun K hK => ?_) AllReady.nil
      · skip
        refine step_load (by rfl) 26 _ rfl w.heap.size 0 (by rfl) cs _ (by rw [hcs.out]; exact sg_range HPd.out.1) Try.underlying26 rfl hsz.out ?_
        refine hK _ _ ?_
        clear hK K
        skip
        refine wpAny_ready (rs := [1]) (by kernel_rfl) (by simp) ?_
        refine AllReady.cons rfl (fun K hK => ?_) AllReady.nil
        · skip
          go_simp
          go_at_call 5
          refine (HS1.out _ (HW1.out.drew)).mono ?_
          rintro e w2 ⟨b, d, b2, d2, l2, rfl, hl2, hq2⟩
          have HX2 : Hid (Below w.heap.size w w2) := below_of (HW1.out.drew) hq2.out.1
          have HP2 : Hid (w2.heap[w.heap.size]? = some (sc s a c a2 c2) ∧ w2.heap[w.heap.size + 1]? = some (sc t p q p2 q2)) := ⟨old_block hq2.out.1 HPd.out.1, old_block hq2.out.1 HPd.out.2⟩
          go_wp2
          refine wpAny_ready (rs := [3]) (by kernel_rfl) (by simp) ?_
          refine AllReady.cons rfl (fun K hK => ?_) AllReady.nil
          · skip
            go_simp
            go_at_call 5
            refine (HS2.out _ HX2.out).mono ?_
            rintro e w3 ⟨g, u, g2, u2, l3, rfl, hl3, hq3⟩
            have HX3 : Hid (Below w.heap.size w w3) := below_of HX2.out hq3.out.1
            have HP3 : Hid (w3.heap[w.heap.size]? = some (sc s a c a2 c2) ∧ w3.heap[w.heap.size + 1]? = some (sc t p q p2 q2)) := ⟨old_block hq3.out.1 HP2.out.1, old_block hq3.out.1 HP2.out.2⟩
            go_wp2
            refine wpAny_ready (rs := [4]) (by kernel_rfl) (by simp) ?_
            refine AllReady.cons rfl (fun K hK => ?_) AllReady.nil
            refine step_store (by rfl) 26 _ _ rfl w.heap.size 0 l2.toArray (by rfl) (by rfl) (by rw [hl2.out]; exact sg_there HP3.out.1) (by rw [hl2.out]; exact hs13.out) (by rw [hl2.out]; exact sg_one _ _ _ _ _) ?_
            refine hK _ _ ?_
            clear hK K
            skip
            refine wpAny_ready (rs := [5]) (by kernel_rfl) (by simp) ?_
            refine AllReady.cons rfl (fun K hK => ?_) AllReady.nil
            refine step_store (by rfl) 26 _ _ rfl (w.heap.size + 1) 0 l3.toArray (by rfl) (by rfl) (by rw [hl3.out, hl2.out]; exact sg_there (store_other HP3.out.2)) (by rw [hl3.out]; exact hs13.out) (by rw [hl3.out]; exact sg_one _ _ _ _ _) ?_
            refine hK _ _ ?_
            clear hK K
            skip
            refine wpAny_done (by kernel_rfl) ?_ _
            go_wp2
            go_meet
            case rel =>
              refine ⟨b, d, b2, d2, g, u, g2, u2, ?_⟩
              rw [hl2.out, hl3.out]
              exact two_setC HX3.out HP3.out.1 HP3.out.2 (hq2.out.2.1.later hq3.out.1) hq3.out.2.1 (Nat.le_refl _) (fun bb e => Nat.le_trans HZ1.out (hq2.out.2.2.1 bb e)) (fun bb e => Nat.le_trans HZ1.out (hq2.out.2.2.2 bb e)) (fun bb e => Nat.le_trans (size_two HP2.out.2) (hq3.out.2.2.1 bb e)) (fun bb e => Nat.le_trans (size_two HP2.out.2) (hq3.out.2.2.2 bb e))
  case rest =>
    obtain ⟨b, d, b2, d2, g, u, g2, u2, HA⟩ := hcut
    clear HS1 HS2 HWK HW1 HP1 HZ1 HPd HN0 HN1 HNB hcs hct hsz htz hs13
    have HW : Hid (Below w.heap.size w wc) := HA.out.bel
    have HQ1 : Hid (∀ W, Below wc.heap.size wc W → Calls Try.prog 6 #[sv S b d b2 d2, sv T g u g2 u2] W fun e w' => e = .returned (.bool (sameS S T)) ∧ Hid (Below W.heap.size W w')) := fun W hb => Go.Proofs.Ythmfbhanmncfgaa.same_any S T b d b2 d2 g u g2 u2 W (HA.out.c1.later hb).row (HA.out.c1.later hb).rowc (HA.out.c2.later hb).row (HA.out.c2.later hb).rowc HA.out.c1.fit.cls HA.out.c2.fit.cls
    have HQ2 : Hid (∀ W, Below wc.heap.size wc W → Calls Try.prog 7 #[sv S b d b2 d2, sv T g u g2 u2] W fun e w' => e = .returned (.bool (sameS S T)) ∧ Hid (Below W.heap.size W w')) := fun W hb => rsameS_any S T b d b2 d2 g u g2 u2 W (HA.out.c1.later hb).row (HA.out.c1.later hb).rowc (HA.out.c2.later hb).row (HA.out.c2.later hb).rowc HA.out.c1.fit.cls HA.out.c2.fit.cls
    have HCP : Hid (∀ W, Below wc.heap.size wc W → Calls Try.prog 8 #[sv S b d b2 d2] W fun e w' => ∃ a' c' a2' c2', e = .returned (sv S a' c' a2' c2') ∧ Hid (Below W.heap.size W w' ∧ Row w' a' S.dat ∧ RowC w' a2' S.cls)) := fun W hb => copied_any S b d b2 d2 W (HA.out.c1.later hb) HD.out.1 HD.out.2
    have HQ3 : Hid (∀ W a' c' a2' c2', Below wc.heap.size wc W → Row W a' S.dat → RowC W a2' S.cls → Calls Try.prog 6 #[sv S b d b2 d2, sv S a' c' a2' c2'] W fun e w' => e = .returned (.bool true) ∧ Hid (Below W.heap.size W w')) := fun W a' c' a2' c2' hb h1 h2 => by
      have := Go.Proofs.Ythmfbhanmncfgaa.same_any S S b d b2 d2 a' c' a2' c2' W (HA.out.c1.later hb).row (HA.out.c1.later hb).rowc h1 h2 HA.out.c1.fit.cls HA.out.c1.fit.cls
      rw [same_self] at this
      exact this
    generalize sameS S T = R at HQ1 HQ2
    obtain ⟨e0, e1, e2, e3, e4, e5, e6, e7, e8, e9, e10, e11, e12⟩ := scells HA.out.one
    obtain ⟨f0, f1, f2', f3, f4, f5, f6, f7, f8, f9, f10, f11, f12⟩ := scells HA.out.two
    clear HA HD
    have hX : Below wc.heap.size wc wc.drew := (Below.refl _ _).drew
    cases R
    all_goals
      go_wp2_with fail
      go_region_held3 (fun W' => W'.cell? ⟨w.heap.size, 0, none⟩ = some (.int .i64 S.knd) ∧ W'.cell? ⟨w.heap.size, 1, none⟩ = some (.int .i64 S.src) ∧ W'.cell? ⟨w.heap.size, 2, none⟩ = some (.int .u32 (S.ses : Nat)) ∧ W'.cell? ⟨w.heap.size, 3, none⟩ = some (.int .u32 (S.ser : Nat)) ∧ W'.cell? ⟨w.heap.size, 4, none⟩ = some (.int .u32 (S.cks : Nat)) ∧ W'.cell? ⟨w.heap.size, 5, none⟩ = some (.int .i64 S.off) ∧ W'.cell? ⟨w.heap.size, 6, none⟩ = some (.int .i64 S.tot) ∧ W'.cell? ⟨w.heap.size, 7, none⟩ = some (.int .i64 S.low) ∧ W'.cell? ⟨w.heap.size, 8, none⟩ = some (.int .i64 S.upp) ∧ W'.cell? ⟨w.heap.size, 9, none⟩ = some (.int .i64 S.rea) ∧ W'.cell? ⟨w.heap.size, 10, none⟩ = some (.bool S.chk) ∧ W'.cell? ⟨w.heap.size, 11, none⟩ = some (.slice b S.dat.length d) ∧ W'.cell? ⟨w.heap.size, 12, none⟩ = some (.slice b2 S.cls.length d2) ∧ W'.cell? ⟨w.heap.size + 1, 0, none⟩ = some (.int .i64 T.knd) ∧ W'.cell? ⟨w.heap.size + 1, 1, none⟩ = some (.int .i64 T.src) ∧ W'.cell? ⟨w.heap.size + 1, 2, none⟩ = some (.int .u32 (T.ses : Nat)) ∧ W'.cell? ⟨w.heap.size + 1, 3, none⟩ = some (.int .u32 (T.ser : Nat)) ∧ W'.cell? ⟨w.heap.size + 1, 4, none⟩ = some (.int .u32 (T.cks : Nat)) ∧ W'.cell? ⟨w.heap.size + 1, 5, none⟩ = some (.int .i64 T.off) ∧ W'.cell? ⟨w.heap.size + 1, 6, none⟩ = some (.int .i64 T.tot) ∧ W'.cell? ⟨w.heap.size + 1, 7, none⟩ = some (.int .i64 T.low) ∧ W'.cell? ⟨w.heap.size + 1, 8, none⟩ = some (.int .i64 T.upp) ∧ W'.cell? ⟨w.heap.size + 1, 9, none⟩ = some (.int .i64 T.rea) ∧ W'.cell? ⟨w.heap.size + 1, 10, none⟩ = some (.bool T.chk) ∧ W'.cell? ⟨w.heap.size + 1, 11, none⟩ = some (.slice g T.dat.length u) ∧ W'.cell? ⟨w.heap.size + 1, 12, none⟩ = some (.slice g2 T.cls.length u2)) (first | exact ⟨e0, e1, e2, e3, e4, e5, e6, e7, e8, e9, e10, e11, e12, f0, f1, f2', f3, f4, f5, f6, f7, f8, f9, f10, f11, f12⟩ | exact ⟨cell_later hX e0, cell_later hX e1, cell_later hX e2, cell_later hX e3, cell_later hX e4, cell_later hX e5, cell_later hX e6, cell_later hX e7, cell_later hX e8, cell_later hX e9, cell_later hX e10, cell_later hX e11, cell_later hX e12, cell_later hX f0, cell_later hX f1, cell_later hX f2', cell_later hX f3, cell_later hX f4, cell_later hX f5, cell_later hX f6, cell_later hX f7, cell_later hX f8, cell_later hX f9, cell_later hX f10, cell_later hX f11, cell_later hX f12⟩) (first
        | (have gd := hr4; go_at_call 6; refine (HQ3.out _ a4 c4 b4 d4 hX hr4 hs4).mono ?_; rintro e w5 ⟨rfl, hq5⟩; have hX := below_of hX hq5.out; clear hr4)
        | (go_at_call 8; refine (HCP.out _ hX).mono ?_; rintro e w4 ⟨a4, c4, b4, d4, rfl, hq4⟩; have hX := below_of hX hq4.out.1; have hr4 := hq4.out.2.1; have hs4 := hq4.out.2.2)
        | (go_at_call 7; refine (HQ2.out _ hX).mono ?_; rintro e w3 ⟨rfl, hq3⟩; have hX := below_of hX hq3.out)
        | (go_at_call 6; refine (HQ1.out _ hX).mono ?_; rintro e w2 ⟨rfl, hq2⟩; have hX := below_of hX hq2.out))
      all_goals
        go_wp2
        go_ret
        exact ⟨rfl, below_of HW.out hX⟩
end Go.Proofs.Ythmfbhanmncfgaa
