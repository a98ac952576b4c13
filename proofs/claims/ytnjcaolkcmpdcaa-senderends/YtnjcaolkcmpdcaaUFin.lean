/- The end of a call that takes a segment, or a moment: the turn's session and its segments are answered. -/
import Derived.Test.YtnjcaolkcmpdcaaURepC
namespace Go.Proofs.Ytnjcaolkcmpdcaa
open Go.RowKit Go.Shelf
set_option linter.unusedVariables false
/-- what is answered. -/
structure TkO (n : Nat) (w' : World) (s1 : Sn) (p1 : Pt) (v' : Value) (L : List SD) : Prop where
  came : CameS w' s1 p1
  own : w'.ownsRow n 29 13 v' L.length (dcl L)
  each : EachD w' L
  ag : ∀ b, p1.ag = some b → n ≤ b.block
  an : ∀ b, p1.an = some b → n ≤ b.block
  cls : s1.lst.cls = []
def AnsT (w w' : World) (e : Ending) (R : Sn → List SD → Prop) : Prop := ∃ v' s1 p1 L, e = .returned (.tuple #[snv s1 p1, v', .int .i64 0]) ∧ Hid (Below w.heap.size w w' ∧ TkO w.heap.size w' s1 p1 v' L ∧ R s1 L)
theorem turn_fin {w W : World} {tb rb m n0 : Nat} {s : Sn} {p : Pt} {v : Value} {L : List SD} {cs : List Value} {w0 : World} (hF : FinT m w0 W tb n0 v s p L) (hr : W.heap[rb]? = some (snc zeroU zeroP)) (hlt : rb < m) (hm : m ≤ tb) (hw : w.heap.size ≤ rb) (hb : Below w.heap.size w W) (hcs : cs = sncells s p) {R : Sn → List SD → Prop} (hR : R s L) :
    W.drew.rangeAt tb 0 cs ∧ W.drew.there rb 0 cs.toArray.size ∧ cs.toArray.all (·.oneCell') = true ∧ (W.drew.setCells rb 0 cs).rangeAt rb 0 cs ∧ W.cell? ⟨tb, 24, none⟩ = some v ∧ (W.drew.setCells rb 0 cs).cell? ⟨tb, 24, none⟩ = some v ∧ Hid (AnsT w (W.drew.setCells rb 0 cs) (.returned (.tuple #[.agg cs.toArray, v, .int .i64 0])) R) := by
  obtain ⟨r1, r2, r3, r4, q1, q2, ho⟩ := turn_ends hF.sy.box hr (by omega) hcs
  have hn : ∀ b : Addr, m ≤ b.block → ¬ (b.block = rb) := fun b h => by omega
  have h0 := hF.came
  refine ⟨r1, r2, r3, r4, q1, q2, v, s, p, L, by rw [hcs], hb.trans (ho.below hb.size (fun i e => by have : i = rb := e; omega)), ⟨{ h0 with blk := row_rb h0.blk hr ho, got := h0.got.off ho (fun _ b e => hn b (hF.ag b e)), lst := ⟨h0.lst.fit, row_rb h0.lst.row hr ho, ?_, h0.lst.le, h0.lst.cap, h0.lst.lec, h0.lst.capc⟩, sen := h0.sen.off ho (fun _ b e => hn b (hF.an b e)) }, own_base (ho.owns hF.sy.own (fun k e t => by have := own_ge hF.sy.own k e; have := hF.sy.lt; have : k = rb := t; omega)) (by have := hF.sy.lt; omega), fun x hx => ?_, fun b e => by have := hF.ag b e; omega, fun b e => by have := hF.an b e; omega, hF.cls⟩, hR⟩
  · rw [hF.cls]
    exact rowC_nil _ _
  · obtain ⟨q1, q2⟩ := hF.each x hx
    exact ⟨row_rb q1 hr ho, q2⟩
/-- the world behind Take's entry. -/
structure EnU (w W : World) (s : Sn) (p : Pt) (x : Sg) (xa : Option Addr) (xc : Nat) (a2 : Option Addr) (c2 : Nat) : Prop where
  bel : Below w.heap.size w W
  one : W.heap[w.heap.size]? = some (snc s p)
  two : W.heap[w.heap.size + 1]? = some (sc x xa xc a2 c2)
  res : W.heap[w.heap.size + 1 + 1]? = some (snc zeroU zeroP)
  size : w.heap.size + 3 ≤ W.heap.size
theorem new_two (w : World) (a b : Obj) : ((w.alloc a).alloc b).heap[w.heap.size + 1]? = some b := by
  have := heap_alloc_new (w.alloc a) b
  rw [show (w.alloc a).heap.size = w.heap.size + 1 by simp] at this
  exact this
theorem EnU.start (w : World) (s : Sn) (p : Pt) (x : Sg) (xa : Option Addr) (xc : Nat) (a2 : Option Addr) (c2 : Nat) : EnU w (((w.alloc (snc s p)).alloc (sc x xa xc a2 c2)).alloc (snc zeroU zeroP)) s p x xa xc a2 c2 := by
  have h3 := new_two (w.alloc (snc s p)) (sc x xa xc a2 c2) (snc zeroU zeroP)
  rw [show (w.alloc (snc s p)).heap.size = w.heap.size + 1 by simp] at h3
  have hb2 : Below ((w.alloc (snc s p)).alloc (sc x xa xc a2 c2)).heap.size ((w.alloc (snc s p)).alloc (sc x xa xc a2 c2)) (((w.alloc (snc s p)).alloc (sc x xa xc a2 c2)).alloc (snc zeroU zeroP)) := (Below.refl _ _).alloc (Nat.le_refl _) _
  have hb1 : Below (w.alloc (snc s p)).heap.size (w.alloc (snc s p)) ((w.alloc (snc s p)).alloc (sc x xa xc a2 c2)) := (Below.refl _ _).alloc (Nat.le_refl _) _
  exact ⟨below_of ((Below.refl _ w).alloc (Nat.le_refl _) _) (below_of hb1 hb2), old_block (below_of hb1 hb2) (heap_alloc_new w _), old_block hb2 (new_two w _ _), h3, by simp⟩
theorem EnU.later {w W W' : World} {s : Sn} {p : Pt} {x : Sg} {xa : Option Addr} {xc : Nat} {a2 : Option Addr} {c2 : Nat} (h : EnU w W s p x xa xc a2 c2) (hb : Below W.heap.size W W') : EnU w W' s p x xa xc a2 c2 :=
  ⟨below_of h.bel hb, old_block hb h.one, old_block hb h.two, old_block hb h.res, Nat.le_trans h.size hb.size⟩
/-- a turn at its beginning. -/
theorem tn_begin {w w1 w2 : World} {m : Nat} {s : Sn} {p : Pt} (hm : m = w.heap.size) (hb : Below w.heap.size w w1) (hc : CameS w1 s p) (hn : NewS w.heap.size p) (ho : OwnN w1 w.heap.size s p) (hok : okU s = true) (hbx : w2.heap[w1.heap.size]? = some (tnc s p (.slice none 0 0))) (hb3 : Below w1.heap.size w1 w2) (hsz : w1.heap.size + 1 ≤ w2.heap.size) : TnO w w2 w1.heap.size (w1.heap.size + 1) m (.slice none 0 0) s p [] ∧ OwnN w2 m s p := by
  subst hm
  have hcls : s.lst.cls = [] := by
    have h4 := (okU_parts hok).2.2.2.2.2.2.2.2.2.2.1
    simp only [lastU, Bool.and_eq_true, decide_eq_true_eq] at h4
    obtain ⟨_, _, _, hcn⟩ := okS_parts h4.1
    rw [hcn]
    unfold cntS
    rw [if_pos h4.2.1]
    rfl
  have of : Off (fun _ => False) w1 w2 := Off.of_below hb3
  refine ⟨⟨⟨hbx, World.ownsRow_nil _ _ _ _, Nat.lt_succ_self _, hsz⟩, hc.later hb3, hn, fun z b e => ⟨?_, by simp [Value.ownBlock]⟩, fun z b e => ⟨?_, by simp [Value.ownBlock]⟩, fun z b e => ⟨?_, by simp [Value.ownBlock]⟩, fun b e => ⟨?_, by simp [Value.ownBlock]⟩, hcls, hb.trans (hb3.mono hb.size), hb.size⟩, ⟨of.owns ho.own (fun _ _ t => t), ho.ab, ho.ad⟩⟩
  · have := row_lt hc.blk z b e; omega
  · have := rowC_lt hc.got z b e; omega
  · have := row_lt hc.lst.row z b e; omega
  · have := own_lt ho.own b.block (own_an.2 ⟨b, e, rfl⟩); omega
/-- the turn laid into its block. -/
theorem t_stored (w1 : World) (s : Sn) (p : Pt) (tl : List Value) (h : tl = tcells s p (.slice none 0 0)) :
    Hid ((w1.alloc (tnc zeroU zeroP (.slice none 0 0))).there w1.heap.size 0 tl.toArray.size) ∧ Hid (tl.toArray.all (·.oneCell') = true) ∧ Hid (((w1.alloc (tnc zeroU zeroP (.slice none 0 0))).setCells w1.heap.size 0 tl).heap[w1.heap.size]? = some (tnc s p (.slice none 0 0))) ∧ Hid (Below w1.heap.size w1 ((w1.alloc (tnc zeroU zeroP (.slice none 0 0))).setCells w1.heap.size 0 tl)) ∧ Hid (w1.heap.size + 1 ≤ ((w1.alloc (tnc zeroU zeroP (.slice none 0 0))).setCells w1.heap.size 0 tl).heap.size) := by
  subst h
  have hb0 : Below w1.heap.size w1 (w1.alloc (tnc zeroU zeroP (.slice none 0 0))) := (Below.refl _ w1).alloc (Nat.le_refl _) _
  have h0 : (w1.alloc (tnc zeroU zeroP (.slice none 0 0))).heap[w1.heap.size]? = some (tnc zeroU zeroP (.slice none 0 0)) := heap_alloc_new w1 _
  have ho := setC_off (w1.alloc (tnc zeroU zeroP (.slice none 0 0))) w1.heap.size 0 (tcells s p (.slice none 0 0))
  refine ⟨t_there h0, t_one _ _ _ _ _, block_stored (zs := tcells zeroU zeroP (.slice none 0 0)) h0 rfl, hb0.trans (ho.below hb0.size (fun i e => by have : i = w1.heap.size := e; omega)), ?_⟩
  show _ ≤ _
  rw [size_setC]
  simp
/-- a struct whose cells have a letter, boxed. -/
theorem wpList_boxT {ops : Array Oper} {rest : List Oper} {o : Oper} {a : Act} {w : World} {Q : Exit → Act → World → Prop} (hgd : o.guard = none) (ty : TypeId) (x : Operand) (ho : o.op = .box ty x) (tl : List Value) (hx : a.eval x = .agg tl.toArray) (h : wpList Try.prog ops Q rest (a.put o.dst (.pointer (some ⟨w.heap.size, 0, none⟩))) (w.alloc (.cells tl.toArray ty))) : wpList Try.prog ops Q (o :: rest) a w := by
  refine wpList_plain hgd fun K hK => ?_
  unfold Oper.wp
  simp [execOp, ho, hx, Instr.box, newVar, newRow, Value.cells, Result.andThen]
  exact hK _ _ h
end Go.Proofs.Ytnjcaolkcmpdcaa
