/- sender.deep. -/
import Derived.Test.YtnjcaolkcmpdcaaUDeepS
namespace Go.Proofs.Ytnjcaolkcmpdcaa
open Go.RowKit
set_option linter.unusedVariables false
theorem cell_lt {w : World} {b o : Nat} {v : Value} (h : w.cell? ⟨b, o, none⟩ = some v) : b < w.heap.size := by
  by_cases hb : b < w.heap.size
  · exact hb
  · rw [World.cell?] at h
    simp [Array.getElem?_eq_none (Nat.le_of_not_lt hb)] at h
theorem row_lt {w : World} {a : Option Addr} {l : List Nat} (h : Row w a l) (h0 : 0 < l.length) : ∀ bb, a = some bb → bb.block < w.heap.size := by
  obtain ⟨b, off, rfl, hc, _⟩ := row_at' h 0 h0
  intro bb e
  cases e
  exact cell_lt hc
theorem rowC_lt {w : World} {a : Option Addr} {l : List (Int × Int)} (h : RowC w a l) (h0 : 0 < l.length) : ∀ bb, a = some bb → bb.block < w.heap.size := by
  obtain ⟨b, off, rfl, hc⟩ := h.2 h0
  intro bb e
  cases e
  exact cell_lt (hc 0 h0).1
/-- a session's rows lie in blocks from n on. -/
structure NewS (n : Nat) (p : Pt) : Prop where
  b : ∀ bb, p.ab = some bb → n ≤ bb.block
  g : ∀ bb, p.ag = some bb → n ≤ bb.block
  d : ∀ bb, p.ad = some bb → n ≤ bb.block
  c : ∀ bb, p.ac = some bb → n ≤ bb.block
  n : ∀ bb, p.an = some bb → n ≤ bb.block
def zeroB : Bg := ⟨0, 0, [], 0, 0⟩
def zeroU : Sn := ⟨zeroB, 0, [], zeroS, 0, 0, [], 0⟩
def zeroP : Pt := ⟨none, 0, none, 0, none, 0, none, 0, none, 0⟩
theorem Row32.off {w w' : World} {S : Nat → Prop} {a : Option Addr} {l : List Nat} (h : Row32 w a l) (ho : Off S w w') (hS : 0 < l.length → ∀ b, a = some b → ¬ S b.block) : Row32 w' a l := by
  obtain ⟨h1, h2, h3⟩ := h
  refine ⟨h1, h2, fun h0 => ?_⟩
  obtain ⟨b, off, rfl, hc⟩ := h3 h0
  exact ⟨b, off, rfl, fun i hi => ho.cell (hc i hi) (hS h0 ⟨b, off, none⟩ rfl)⟩
theorem CameS.off {w w' : World} {S : Nat → Prop} {s : Sn} {p : Pt} (h : CameS w s p) (ho : Off S w w') (h1 : ∀ bb, p.ab = some bb → ¬ S bb.block) (h2 : ∀ bb, p.ag = some bb → ¬ S bb.block) (h3 : 0 < s.lst.dat.length → ∀ bb, p.ad = some bb → ¬ S bb.block) (h4 : 0 < s.lst.cls.length → ∀ bb, p.ac = some bb → ¬ S bb.block) (h5 : ∀ bb, p.an = some bb → ¬ S bb.block) : CameS w' s p :=
  { h with blk := h.blk.off ho (fun _ => h1), got := h.got.off ho (fun _ => h2), lst := ⟨h.lst.fit, h.lst.row.off ho h3, h.lst.rowc.off ho h4, h.lst.le, h.lst.cap, h.lst.lec, h.lst.capc⟩, sen := h.sen.off ho (fun _ => h5) }
theorem heap_setMid {q : Nat} {t : TypeId} (suf : List Value) : ∀ (vs pre zs : List Value) (W : World), zs.length = vs.length → W.heap[q]? = some (.cells (pre ++ (zs ++ suf)).toArray t (0, 0)) → (W.setCells q pre.length vs).heap[q]? = some (.cells (pre ++ (vs ++ suf)).toArray t (0, 0))
  | [], pre, zs, W, hl, h => by
    obtain rfl : zs = [] := List.eq_nil_of_length_eq_zero hl
    exact h
  | v :: vs, pre, [], W, hl, h => by cases hl
  | v :: vs, pre, z :: zs, W, hl, h => by
    have h1 : (W.setCell ⟨q, pre.length, none⟩ v).heap[q]? = _ := heap_setCell_same _ _ _ _ _ _ h
    have h2 := heap_setMid (q := q) (t := t) suf vs (pre ++ [v]) zs (W.setCell ⟨q, pre.length, none⟩ v) (by simpa using hl) (by rw [h1]; simp)
    rw [List.length_append, List.length_singleton, List.append_assoc, List.singleton_append] at h2
    exact h2
theorem lst_range {W : World} {b : Nat} {s : Sn} {p : Pt} (h : W.heap[b]? = some (snc s p)) : W.rangeAt b 7 (sgcells s.lst p.ad p.cd p.ac p.cc) := by
  intro j v hv
  have hj : j < 13 := (List.getElem?_eq_some_iff.1 hv).1
  have := sn_range h (7 + j) v (by rw [show sncells s p = [.int .i64 s.bgn.src, .int .u32 (s.bgn.ses : Nat), .slice p.ab s.bgn.blk.length p.cb, .int .i64 s.bgn.wai, .int .i64 s.bgn.tri, .int .i64 s.sta, .slice p.ag s.got.length p.cg] ++ (sgcells s.lst p.ad p.cd p.ac p.cc ++ [.int .i64 s.due, .int .i64 s.ask, .slice p.an s.sen.length p.cn, .int .i64 s.rea]) from rfl, List.getElem?_append_right (by simp), List.getElem?_append_left (by simpa using hj)]; simpa using hv)
  rw [Nat.zero_add] at this
  exact this
theorem sn_there {W : World} {b : Nat} {s : Sn} {p : Pt} (h : W.heap[b]? = some (snc s p)) (o n : Nat) (hn : o + n ≤ 24) : W.there b o n := by
  intro j hj
  refine ⟨?_, frozen_of h (o + j)⟩
  rw [cell_of h, Array.getElem?_eq_getElem (by simp; omega)]
  rfl
theorem sn_one (s : Sn) (p : Pt) : (sncells s p).toArray.all (·.oneCell') = true := by simp [Value.oneCell']
/-- a session's numbers are the call's own row, apart of its bytes. -/
structure OwnN (w : World) (n : Nat) (s : Sn) (p : Pt) : Prop where
  own : w.ownsRow n 22 1 (.slice p.an s.sen.length p.cn) s.sen.length (cells32 s.sen)
  ab : 0 < s.bgn.blk.length → ∀ b c, p.ab = some b → p.an = some c → b.block ≠ c.block
  ad : ∀ b c, p.ad = some b → p.an = some c → b.block ≠ c.block
/-- behind the first statement: Block, Got and Seen are new. -/
structure DN (w wd : World) (s : Sn) (p : Pt) : Prop where
  one : wd.heap[w.heap.size]? = some (snc s p)
  two : wd.heap[w.heap.size + 1]? = some (snc zeroU zeroP)
  bel : Below w.heap.size w wd
  came : CameS wd s p
  b : ∀ bb, p.ab = some bb → w.heap.size + 2 ≤ bb.block
  g : ∀ bb, p.ag = some bb → w.heap.size + 2 ≤ bb.block
  n : ∀ bb, p.an = some bb → w.heap.size + 2 ≤ bb.block
  d : 0 < s.lst.dat.length → ∀ bb, p.ad = some bb → bb.block < w.heap.size
  c : 0 < s.lst.cls.length → ∀ bb, p.ac = some bb → bb.block < w.heap.size
  own : wd.ownsRow (w.heap.size + 2) 22 1 (.slice p.an s.sen.length p.cn) s.sen.length (cells32 s.sen)
  ap : 0 < s.bgn.blk.length → ∀ b c, p.ab = some b → p.an = some c → b.block ≠ c.block
theorem own_lt {w : World} {base n z : Nat} {e : TypeId} {v : Value} {xs : List Value} (h : w.ownsRow base e z v n xs) : ∀ k, v.ownBlock = some k → k < w.heap.size := by
  intro k hk
  rcases h.2 with ⟨rfl, _⟩ | ⟨g, cap, cur, rfl, _, hg, _⟩
  · cases hk
  · cases hk
    exact (Array.getElem?_eq_some_iff.1 hg).1
theorem dn_set {w W : World} {s : Sn} {p : Pt} {b g n : Option Addr} {cb cg cn : Nat} (hb : Below w.heap.size w W) (h1 : W.heap[w.heap.size]? = some (snc s p)) (h2 : W.heap[w.heap.size + 1]? = some (snc zeroU zeroP)) (hc : CameS W s { p with ab := b, cb := cb, ag := g, cg := cg, an := n, cn := cn })
    (n1 : ∀ bb, b = some bb → w.heap.size + 2 ≤ bb.block) (n2 : ∀ bb, g = some bb → w.heap.size + 2 ≤ bb.block) (n3 : ∀ bb, n = some bb → w.heap.size + 2 ≤ bb.block) (n4 : 0 < s.lst.dat.length → ∀ bb, p.ad = some bb → bb.block < w.heap.size) (n5 : 0 < s.lst.cls.length → ∀ bb, p.ac = some bb → bb.block < w.heap.size) (n6 : W.ownsRow (w.heap.size + 2) 22 1 (.slice n s.sen.length cn) s.sen.length (cells32 s.sen)) (n7 : 0 < s.bgn.blk.length → ∀ bb cc, b = some bb → n = some cc → bb.block ≠ cc.block) :
    DN w (((W.setCell ⟨w.heap.size, 2, none⟩ (.slice b s.bgn.blk.length cb)).setCell ⟨w.heap.size, 6, none⟩ (.slice g s.got.length cg)).setCell ⟨w.heap.size, 22, none⟩ (.slice n s.sen.length cn)) s { p with ab := b, cb := cb, ag := g, cg := cg, an := n, cn := cn } := by
  have ho : Off (fun i => i = w.heap.size) W (((W.setCell ⟨w.heap.size, 2, none⟩ (.slice b s.bgn.blk.length cb)).setCell ⟨w.heap.size, 6, none⟩ (.slice g s.got.length cg)).setCell ⟨w.heap.size, 22, none⟩ (.slice n s.sen.length cn)) := (((Off.refl (fun i => i = w.heap.size) W).setCell (p := ⟨w.heap.size, 2, none⟩) (.inr rfl) _).setCell (p := ⟨w.heap.size, 6, none⟩) (.inr rfl) _).setCell (p := ⟨w.heap.size, 22, none⟩) (.inr rfl) _
  refine ⟨?_, ?_, hb.trans (ho.below hb.size (fun i e => by have : i = w.heap.size := e; omega)), hc.off ho (fun bb h e => by have := n1 bb h; have e2 : bb.block = w.heap.size := e; omega) (fun bb h e => by have := n2 bb h; have e2 : bb.block = w.heap.size := e; omega) (fun h0 bb h e => by have := n4 h0 bb h; have e2 : bb.block = w.heap.size := e; omega) (fun h0 bb h e => by have := n5 h0 bb h; have e2 : bb.block = w.heap.size := e; omega) (fun bb h e => by have := n3 bb h; have e2 : bb.block = w.heap.size := e; omega), n1, n2, n3, n4, n5, ho.owns n6 (fun g e t => by have := own_ge n6 g e; have : g = w.heap.size := t; omega), n7⟩
  · rw [heap_setCell_same _ _ _ _ _ _ (heap_setCell_same _ _ _ _ _ _ (heap_setCell_same _ _ _ _ _ _ h1))]
    rfl
  · rw [ho.block _ (by have := size_two h2; omega) (by show ¬ (_ = _); omega)]
    exact h2
theorem setC_off (W : World) (q o : Nat) (vs : List Value) : Off (fun i => i = q) W (W.setCells q o vs) := Off.setCells (S := fun i => i = q) (.inr rfl) _ _ _ (Off.refl _ _)
/-- behind the second statement, and what is answered. -/
theorem dn_last {w wc w5 : World} {s : Sn} {p1 : Pt} {a' : Option Addr} {c' : Nat} {a2' : Option Addr} {c2' : Nat} {l : List Value} (h : DN w wc s p1) (hl : l = sgcells s.lst a' c' a2' c2') (hb : Below wc.heap.size wc w5) (hc : Came w5 s.lst a' c' a2' c2') (n1 : ∀ bb, a' = some bb → wc.heap.size ≤ bb.block) (n2 : ∀ bb, a2' = some bb → wc.heap.size ≤ bb.block) :
    ∃ p2 cs3, Hid (cs3 = sncells s p2) ∧ Hid (w5.there w.heap.size 7 l.toArray.size ∧ (w5.setCells w.heap.size 7 l).there (w.heap.size + 1) 0 cs3.toArray.size ∧ (w5.setCells w.heap.size 7 l).rangeAt w.heap.size 0 cs3 ∧ ((w5.setCells w.heap.size 7 l).setCells (w.heap.size + 1) 0 cs3).heap[w.heap.size + 1]? = some (snc s p2) ∧ Hid (Below w.heap.size w ((w5.setCells w.heap.size 7 l).setCells (w.heap.size + 1) 0 cs3) ∧ CameS ((w5.setCells w.heap.size 7 l).setCells (w.heap.size + 1) 0 cs3) s p2 ∧ NewS w.heap.size p2 ∧ OwnN ((w5.setCells w.heap.size 7 l).setCells (w.heap.size + 1) 0 cs3) w.heap.size s p2)) := by
  subst hl
  have hz := size_two h.two
  have k1 := old_block hb h.one
  have k2 := old_block hb h.two
  have hz5 := hb.size
  have o1 := setC_off w5 w.heap.size 7 (sgcells s.lst a' c' a2' c2')
  have q1 : (w5.setCells w.heap.size 7 (sgcells s.lst a' c' a2' c2')).heap[w.heap.size]? = some (snc s { p1 with ad := a', cd := c', ac := a2', cc := c2' }) :=
    heap_setMid [.int .i64 s.due, .int .i64 s.ask, .slice p1.an s.sen.length p1.cn, .int .i64 s.rea] (sgcells s.lst a' c' a2' c2') [.int .i64 s.bgn.src, .int .u32 (s.bgn.ses : Nat), .slice p1.ab s.bgn.blk.length p1.cb, .int .i64 s.bgn.wai, .int .i64 s.bgn.tri, .int .i64 s.sta, .slice p1.ag s.got.length p1.cg] (sgcells s.lst p1.ad p1.cd p1.ac p1.cc) w5 rfl k1
  have q2 : (w5.setCells w.heap.size 7 (sgcells s.lst a' c' a2' c2')).heap[w.heap.size + 1]? = some (snc zeroU zeroP) := by
    rw [o1.block _ (by omega) (by show ¬ (_ = _); omega)]
    exact k2
  have c1 : CameS (w5.setCells w.heap.size 7 (sgcells s.lst a' c' a2' c2')) s { p1 with ad := a', cd := c', ac := a2', cc := c2' } := by
    have h5 : CameS w5 s { p1 with ad := a', cd := c', ac := a2', cc := c2' } := { h.came.later hb with lst := hc }
    exact h5.off o1 (fun bb e e2 => by have := h.b bb e; have e3 : bb.block = w.heap.size := e2; omega) (fun bb e e2 => by have := h.g bb e; have e3 : bb.block = w.heap.size := e2; omega) (fun _ bb e e2 => by have := n1 bb e; have e3 : bb.block = w.heap.size := e2; omega) (fun _ bb e e2 => by have := n2 bb e; have e3 : bb.block = w.heap.size := e2; omega) (fun bb e e2 => by have := h.n bb e; have e3 : bb.block = w.heap.size := e2; omega)
  have w1 : (w5.setCells w.heap.size 7 (sgcells s.lst a' c' a2' c2')).ownsRow (w.heap.size + 2) 22 1 (.slice p1.an s.sen.length p1.cn) s.sen.length (cells32 s.sen) := o1.owns ((Off.of_below (S := fun _ => False) hb).owns h.own (fun _ _ t => t)) (fun g e t => by have := own_ge h.own g e; have : g = w.heap.size := t; omega)
  have b1 : Below w.heap.size w (w5.setCells w.heap.size 7 (sgcells s.lst a' c' a2' c2')) := (below_of h.bel hb).trans (o1.below (by omega) (fun i e => by have : i = w.heap.size := e; omega))
  have t1 : w5.there w.heap.size 7 (sgcells s.lst a' c' a2' c2').toArray.size := sn_there k1 7 13 (by omega)
  refine ⟨{ p1 with ad := a', cd := c', ac := a2', cc := c2' }, _, rfl, ?_⟩
  generalize w5.setCells w.heap.size 7 (sgcells s.lst a' c' a2' c2') = V at q1 q2 c1 b1 w1 ⊢
  have o2 := setC_off V (w.heap.size + 1) 0 (sncells s { p1 with ad := a', cd := c', ac := a2', cc := c2' })
  refine ⟨t1, sn_there q2 0 24 (by omega), sn_range q1, block_stored (zs := sncells zeroU zeroP) q2 rfl, b1.trans (o2.below b1.size (fun i e => by have : i = w.heap.size + 1 := e; omega)), ?_, ?_, ⟨own_base (o2.owns w1 (fun g e t => by have := own_ge w1 g e; have : g = w.heap.size + 1 := t; omega)) (by omega), h.ap, fun b c e1 e2 => by have h1 := n1 b e1; have h2 := own_lt h.own c.block (by show (Value.slice p1.an _ _).ownBlock = _; rw [show p1.an = some c from e2]; rfl); omega⟩⟩
  · exact c1.off o2 (fun bb e e2 => by have := h.b bb e; have e3 : bb.block = w.heap.size + 1 := e2; omega) (fun bb e e2 => by have := h.g bb e; have e3 : bb.block = w.heap.size + 1 := e2; omega) (fun _ bb e e2 => by have := n1 bb e; have e3 : bb.block = w.heap.size + 1 := e2; omega) (fun _ bb e e2 => by have := n2 bb e; have e3 : bb.block = w.heap.size + 1 := e2; omega) (fun bb e e2 => by have := h.n bb e; have e3 : bb.block = w.heap.size + 1 := e2; omega)
  · exact ⟨fun bb e => by have := h.b bb e; omega, fun bb e => by have := h.g bb e; omega, fun bb e => by have := n1 bb e; omega, fun bb e => by have := n2 bb e; omega, fun bb e => by have := h.n bb e; omega⟩
/-- a result that lies in a block, read whole. -/
theorem results_cell1 {P : Program} {fn : Func} {k : Tmp} {ty : TypeId} (h : fn.results = #[.cell k ty]) (tmps : Array Value) (w : World) (b o : Nat) (hk : tmps.getD k undef = .pointer (some ⟨b, o, none⟩)) (cs : List Value) (d : TypeDesc) (hc : w.rangeAt b o cs)
    (hu : P.underlying ty = some d) (hd : d.isRow = true) (hi : (P.info? ty).map (·.size) = some cs.length) : (results fn tmps).run P w = .ok (.agg cs.toArray) w := by
  have hl : (loadVar ty ⟨b, o, none⟩).run P w = .ok (.agg cs.toArray) w := run_loadVar_mid w b o ty cs d hc hu hd hi
  unfold results
  rw [h]
  simp only [List.mapM_toArray, List.mapM_cons, List.mapM_nil]
  rw [hk]
  simp only [asAddr, pure_bind]
  simp [hl]
/-- a session whose rows can be copied. -/
structure SmallU (s : Sn) : Prop where
  blk : s.bgn.blk.length ≤ 1000
  got : s.got.length ≤ 1000
  sen : s.sen.length ≤ 1000
  dat : s.lst.dat.length ≤ 1000
  cls : s.lst.cls.length ≤ 1000
set_option maxRecDepth 20000 in
set_option maxHeartbeats 8000000 in
theorem deep_own (s : Sn) (p : Pt) (w : World) (hc : CameS w s p) (hs : SmallU s) :
    Calls Try.prog 36 #[snv s p] w fun e w' => ∃ p', e = .returned (snv s p') ∧ Hid (Below w.heap.size w w' ∧ CameS w' s p' ∧ NewS w.heap.size p' ∧ OwnN w' w.heap.size s p') := by
  have HC : Hid (CameS w s p) := hc
  have HB0 : Hid (Below w.heap.size w ((w.alloc (snc s p)).alloc (snc zeroU zeroP))) := ((Below.refl _ w).alloc (Nat.le_refl _) _).alloc (by simp) _
  have HP0 : Hid (((w.alloc (snc s p)).alloc (snc zeroU zeroP)).heap[w.heap.size]? = some (snc s p) ∧ ((w.alloc (snc s p)).alloc (snc zeroU zeroP)).heap[w.heap.size + 1]? = some (snc zeroU zeroP)) := by
    refine ⟨old_block ((Below.refl _ (w.alloc (snc s p))).alloc (Nat.le_refl _) _) (heap_alloc_new w _), ?_⟩
    have := heap_alloc_new (w.alloc (snc s p)) (snc zeroU zeroP)
    rw [show (w.alloc (snc s p)).heap.size = w.heap.size + 1 by simp] at this
    exact this
  have HCB : Hid (∀ W, Below w.heap.size w W → Calls Try.prog 64 #[.slice p.ab s.bgn.blk.length p.cb] W fun e w' => ∃ a' c', e = .returned (.slice a' s.bgn.blk.length c') ∧ Hid (Below W.heap.size W w' ∧ Row w' a' s.bgn.blk ∧ s.bgn.blk.length ≤ c' ∧ c' ≤ maxLen ∧ ∀ bb, a' = some bb → W.heap.size ≤ bb.block)) := fun W hb => copiedB_any W p.ab p.cb s.bgn.blk (hc.blk.later hb) hs.blk
  have HCC : Hid (∀ W, Below w.heap.size w W → Calls Try.prog 65 #[.slice p.ag s.got.length p.cg] W fun e w' => ∃ a' c', e = .returned (.slice a' s.got.length c') ∧ Hid (Below W.heap.size W w' ∧ RowC w' a' s.got ∧ s.got.length ≤ c' ∧ c' ≤ maxLen ∧ ∀ bb, a' = some bb → W.heap.size ≤ bb.block)) := fun W hb => copiedC_any W p.ag p.cg s.got (hc.got.later hb) hs.got
  have HCN : Hid (∀ W, Below w.heap.size w W → Calls Try.prog 66 #[.slice p.an s.sen.length p.cn] W fun e w' => ∃ a' c', e = .returned (.slice a' s.sen.length c') ∧ Hid (Below W.heap.size W w' ∧ Row32 w' a' s.sen ∧ s.sen.length ≤ c' ∧ c' ≤ maxLen ∧ (∀ bb, a' = some bb → W.heap.size ≤ bb.block) ∧ w'.ownsRow W.heap.size 22 1 (.slice a' s.sen.length c') s.sen.length (cells32 s.sen))) := fun W hb => copied32_any W p.an p.cn s.sen (hc.sen.later hb) hs.sen
  have HNL : Hid ((0 < s.lst.dat.length → ∀ bb, p.ad = some bb → bb.block < w.heap.size) ∧ (0 < s.lst.cls.length → ∀ bb, p.ac = some bb → bb.block < w.heap.size)) := ⟨row_lt hc.lst.row, rowC_lt hc.lst.rowc⟩
  have HS : Hid (SmallU s) := hs
  clear hc hs
  go_enter Try.func36, Try.ntmps36
  go_wp2_with fail
  go_cut [] from 3 (fun wd => ∃ b cb g cg n cn, Hid (DN w wd s { p with ab := b, cb := cb, ag := g, cg := cg, an := n, cn := cn }))
  case first =>
    go_region_with (first
      | (go_at_call 64; refine (HCB.out _ (by repeat (first | exact HB0.out | apply Below.drew))).mono ?_; rintro e w2 ⟨b, cb, rfl, hq2⟩; have HX2 : Hid (Below w.heap.size w w2) := below_of (by repeat (first | exact HB0.out | apply Below.drew)) hq2.out.1; have HP2 : Hid (w2.heap[w.heap.size]? = some (snc s p) ∧ w2.heap[w.heap.size + 1]? = some (snc zeroU zeroP)) := ⟨old_block hq2.out.1 HP0.out.1, old_block hq2.out.1 HP0.out.2⟩; obtain ⟨_, _, _, _, _, _, k6, _, _, _, _, _, _, _, _, _, _, _, _, _, _, _, k22, _⟩ := ncells HP2.out.1)
      | (go_at_call 65; refine (HCC.out _ HX2.out).mono ?_; rintro e w3 ⟨g, cg, rfl, hq3⟩; have HX3 : Hid (Below w.heap.size w w3) := below_of HX2.out hq3.out.1; have HP3 : Hid (w3.heap[w.heap.size]? = some (snc s p) ∧ w3.heap[w.heap.size + 1]? = some (snc zeroU zeroP)) := ⟨old_block hq3.out.1 HP2.out.1, old_block hq3.out.1 HP2.out.2⟩; obtain ⟨_, _, _, _, _, _, _, _, _, _, _, _, _, _, _, _, _, _, _, _, _, _, l22, _⟩ := ncells HP3.out.1)
      | (go_at_call 66; refine (HCN.out _ HX3.out).mono ?_; rintro e w4 ⟨n, cn, rfl, hq4⟩; have HX4 : Hid (Below w.heap.size w w4) := below_of HX3.out hq4.out.1; have HP4 : Hid (w4.heap[w.heap.size]? = some (snc s p) ∧ w4.heap[w.heap.size + 1]? = some (snc zeroU zeroP)) := ⟨old_block hq4.out.1 HP3.out.1, old_block hq4.out.1 HP3.out.2⟩; obtain ⟨_, _, m2, _, _, _, m6, _, _, _, _, _, _, _, _, _, _, _, _, _, _, _, m22, _⟩ := ncells HP4.out.1; have ff := frozen_of HP4.out.1))
    all_goals
      go_wp2
      go_meet
      case rel =>
        have h0 := HC.out.later HX4.out
        exact ⟨b, cb, g, cg, n, cn, dn_set HX4.out HP4.out.1 HP4.out.2 { h0 with blk := (hq2.out.2.1.later hq3.out.1).later hq4.out.1, got := hq3.out.2.1.later hq4.out.1, sen := hq4.out.2.1, lb := ⟨hq2.out.2.2.1, hq2.out.2.2.2.1⟩, lg := ⟨hq3.out.2.2.1, hq3.out.2.2.2.1⟩, ln := ⟨hq4.out.2.2.1, hq4.out.2.2.2.1⟩ } (fun bb e => Nat.le_trans (size_two HP0.out.2) (hq2.out.2.2.2.2 bb e)) (fun bb e => Nat.le_trans (size_two HP2.out.2) (hq3.out.2.2.2.2 bb e)) (fun bb e => Nat.le_trans (size_two HP3.out.2) (hq4.out.2.2.2.2.1 bb e)) HNL.out.1 HNL.out.2 (own_base hq4.out.2.2.2.2.2 (size_two HP3.out.2)) (fun h0 bb cc e1 e2 => by have h1 := row_lt hq2.out.2.1 h0 bb e1; have h2 := hq4.out.2.2.2.2.1 cc e2; have h3 := hq3.out.1.size; omega)⟩
  case rest =>
    obtain ⟨b, cb, g, cg, n, cn, HD⟩ := hcut
    generalize ({ p with ab := b, cb := cb, ag := g, cg := cg, an := n, cn := cn } : Pt) = p1 at HD
    obtain ⟨cs, hcs⟩ : ∃ cs, Hid (cs = sgcells s.lst p1.ad p1.cd p1.ac p1.cc) := ⟨_, rfl⟩
    have hs13 : Hid ((Try.prog.info? 29).map (·.size) = some 13) := by show _ = _; kernel_rfl
    have hs24 : Hid ((Try.prog.info? 32).map (·.size) = some 24) := by show _ = _; kernel_rfl
    have hsz1 : (Try.prog.info? 29).map (·.size) = some cs.length := by rw [show cs.length = 13 by rw [hcs.out]; rfl]; exact hs13.out
    have HR1 : Hid (wc.rangeAt w.heap.size 7 cs) := by rw [hcs.out]; exact lst_range HD.out.one
    have HDS : Hid (Calls Try.prog 67 #[.agg cs.toArray] wc fun e w' => ∃ a' c' a2' c2' l, e = .returned (.agg l.toArray) ∧ Hid (l = sgcells s.lst a' c' a2' c2') ∧ Hid (Below wc.heap.size wc w' ∧ Came w' s.lst a' c' a2' c2' ∧ (∀ bb, a' = some bb → wc.heap.size ≤ bb.block) ∧ (∀ bb, a2' = some bb → wc.heap.size ≤ bb.block))) := by
      rw [hcs.out]
      exact (deepS_any s.lst p1.ad p1.cd p1.ac p1.cc wc HD.out.came.lst HS.out.dat HS.out.cls).mono (by rintro e w' ⟨a', c', a2', c2', rfl, hq⟩; exact ⟨a', c', a2', c2', _, rfl, rfl, hq⟩)
    clear HC HB0 HP0 HCB HCC HCN HNL
    go_wp2_with (refine wpList_load_mid rfl 29 _ rfl w.heap.size 7 (by rfl) cs _ HR1.out Try.underlying29 rfl hsz1 ?_)
    refine HDS.out.mono ?_
    rintro e w5 ⟨a', c', a2', c2', l, rfl, hl, hq5⟩
    have HE := dn_last HD.out hl.out hq5.out.1 hq5.out.2.1 hq5.out.2.2.1 hq5.out.2.2.2
    obtain ⟨p2, cs3, HCS, HE⟩ := HE
    have hth : w5.there w.heap.size 7 l.toArray.size := HE.out.1
    have hth2 : (w5.setCells w.heap.size 7 l).there (w.heap.size + 1) 0 cs3.toArray.size := HE.out.2.1
    have HR3 : Hid ((w5.setCells w.heap.size 7 l).rangeAt w.heap.size 0 cs3) := HE.out.2.2.1
    have hl13 : (Try.prog.info? 29).map (·.size) = some l.toArray.size := by (rw [show l.toArray.size = 13 by rw [hl.out]; rfl]; exact hs13.out)
    have h1c : l.toArray.all (·.oneCell') = true := by (rw [hl.out]; exact sg_one _ _ _ _ _)
    have hl24 : (Try.prog.info? 32).map (·.size) = some cs3.toArray.size := by (rw [show cs3.toArray.size = 24 by rw [HCS.out]; rfl]; exact hs24.out)
    have hl24' : (Try.prog.info? 32).map (·.size) = some cs3.length := hl24
    have h1d : cs3.toArray.all (·.oneCell') = true := by (rw [HCS.out]; exact sn_one _ _)
    go_wp2_with (first | (refine wpList_store_mid rfl 29 _ _ rfl w.heap.size 7 l.toArray (by rfl) (by rfl) hth hl13 h1c ?_) | (refine wpList_load_mid rfl 32 _ rfl w.heap.size 0 (by rfl) cs3 _ HR3.out Try.underlying32 rfl hl24' ?_) | (refine wpList_store_mid rfl 32 _ _ rfl (w.heap.size + 1) 0 cs3.toArray (by rfl) (by rfl) hth2 hl24 h1d ?_))
    have HRF : Hid (((w5.setCells w.heap.size 7 l).setCells (w.heap.size + 1) 0 cs3).rangeAt (w.heap.size + 1) 0 cs3) := by rw [HCS.out]; rw [HCS.out] at HE; exact sn_range HE.out.2.2.2.1
    exact bodyPost_ret (v := snv s p2) (by rw [snv_cells s p2, ← HCS.out]; exact results_cell1 rfl _ _ (w.heap.size + 1) 0 (by rfl) cs3 _ HRF.out Try.underlying32 rfl hl24') rfl ⟨_, rfl, HE.out.2.2.2.2⟩
theorem deep_any (s : Sn) (p : Pt) (w : World) (hc : CameS w s p) (hs : SmallU s) :
    Calls Try.prog 36 #[snv s p] w fun e w' => ∃ p', e = .returned (snv s p') ∧ Hid (Below w.heap.size w w' ∧ CameS w' s p' ∧ NewS w.heap.size p') :=
  (deep_own s p w hc hs).mono (by rintro e w' ⟨p', rfl, h⟩; exact ⟨p', rfl, h.out.1, h.out.2.1, h.out.2.2.1⟩)
end Go.Proofs.Ytnjcaolkcmpdcaa
