/- takeReport: what stands between its statements. -/
import Derived.Test.YtnjcaolkcmpdcaaURep
import Derived.Test.YtnjcaolkcmpdcaaUClip
namespace Go.Proofs.Ytnjcaolkcmpdcaa
open Go.RowKit Go.Shelf
set_option linter.unusedVariables false
/-- a number said behind a session's numbers. -/
structure ApO (wc wd : World) (tb m : Nat) (v' : Value) (s : Sn) (p : Pt) (y : Nat) (g cap : Nat) : Prop where
  box : wd.heap[tb]? = some (tnc { s with sen := s.sen ++ [y] } { p with an := some ⟨g, 0, none⟩, cn := cap } v')
  own : wd.ownsRow m 22 1 (.slice (some ⟨g, 0, none⟩) (s.sen ++ [y]).length cap) (s.sen ++ [y]).length (cells32 (s.sen ++ [y]))
  gge : (Value.slice p.an s.sen.length p.cn).ownBlock = some g ∨ wc.heap.size ≤ g
  le : (s.sen ++ [y]).length ≤ cap
  off : Off (fun i => i = tb ∨ (Value.slice p.an s.sen.length p.cn).ownBlock = some i) wc wd
theorem ap_fin {wc wa w3 : World} {tb n0 m : Nat} {v' : Value} {s : Sn} {p : Pt} {y g cap : Nat} (hbx : wc.heap[tb]? = some (tnc s p v')) (hS : SeenAt wc tb n0 v' s p m) (hba : Below wc.heap.size wc wa) (hf : Off (fun k => (Value.slice p.an s.sen.length p.cn).ownBlock = some k) wa w3)
    (ho : w3.ownsRow m 22 1 (.slice (some ⟨g, 0, none⟩) (s.sen.length + 1) cap) (s.sen.length + 1) (cells32 s.sen ++ cells32 [y])) (hg : (Value.slice p.an s.sen.length p.cn).ownBlock = some g ∨ wc.heap.size ≤ g) :
    w3.cell? ⟨tb, 22, none⟩ = some (.slice p.an s.sen.length p.cn) ∧ w3.frozen? ⟨tb, 22, none⟩ = false ∧ Hid (ApO wc (w3.setCell ⟨tb, 22, none⟩ (.slice (some ⟨g, 0, none⟩) (s.sen.length + 1) cap)) tb m v' s p y g cap) := by
  have hlt : tb < wc.heap.size := (Array.getElem?_eq_some_iff.1 hbx).1
  have h2 : w3.heap[tb]? = some (tnc s p v') := hf.at (old_block hba hbx) (fun e => (hS.tb tb e).1 rfl)
  have hs : Off (fun i => i = tb) w3 (w3.setCell ⟨tb, 22, none⟩ (.slice (some ⟨g, 0, none⟩) (s.sen.length + 1) cap)) := (Off.refl (fun i => i = tb) w3).setCell (p := ⟨tb, 22, none⟩) (.inr rfl) _
  have hl : (s.sen ++ [y]).length = s.sen.length + 1 := by simp
  have hle : s.sen.length + 1 ≤ cap := by
    rcases ho.2 with ⟨e, _⟩ | ⟨_, _, _, e, _, _, h, _⟩
    · cases e
    · cases e; exact h
  refine ⟨by rw [cell_of h2]; rfl, frozen_of h2 22, ⟨?_, ?_, hg, by rw [hl]; exact hle, ?_⟩⟩
  · rw [heap_setCell_same _ _ _ _ _ _ h2]
    show some (Obj.cells _ _ _) = some (Obj.cells _ _ _)
    rw [hl]
    rfl
  · rw [hl, cells32_append]
    refine hs.owns ho (fun k e t => ?_)
    have e1 : k = g := by cases e; rfl
    have e2 : k = tb := t
    rcases hg with hg | hg
    · exact (hS.tb g hg).1 (by omega)
    · omega
  · exact ((Off.of_below (S := fun i => i = tb ∨ (Value.slice p.an s.sen.length p.cn).ownBlock = some i) hba).trans hf (fun i _ t => .inr t)).trans hs (fun i _ t => .inl t)
theorem num_src (w : World) (y : Nat) : ∀ j u, (cells32 [y])[j]? = some u → (w.alloc (.cells #[.int .u32 (y : Nat)] 22)).drew.cell? ((⟨w.heap.size, 0, none⟩ : Addr).add j) = some u := by
  intro j u hu
  match j, hu with
  | 0, hu =>
    rw [Go.WideShapes.add_plain, Nat.zero_add]
    show (w.alloc _).cell? _ = _
    rw [cell_of (heap_alloc_new w _)]
    exact hu
  | j + 1, hu => simp [cells32] at hu
/-- a turn, while a call goes on: how its session lies, and what it sends. -/
structure TnO (w wd : World) (tb n0 m : Nat) (v : Value) (s : Sn) (p : Pt) (L : List SD) : Prop where
  sy : Sy wd tb n0 s p v L
  came : CameS wd s p
  new : NewS m p
  ab : 0 < s.bgn.blk.length → ∀ b, p.ab = some b → b.block ≠ tb ∧ v.ownBlock ≠ some b.block
  ag : 0 < s.got.length → ∀ b, p.ag = some b → b.block ≠ tb ∧ v.ownBlock ≠ some b.block
  ad : 0 < s.lst.dat.length → ∀ b, p.ad = some b → b.block ≠ tb ∧ v.ownBlock ≠ some b.block
  an : ∀ b, p.an = some b → b.block ≠ tb ∧ v.ownBlock ≠ some b.block
  cls : s.lst.cls = []
  bel : Below m w wd
  le : m ≤ tb
theorem own_an {p : Pt} {n c : Nat} {k : Nat} : (Value.slice p.an n c).ownBlock = some k ↔ ∃ b, p.an = some b ∧ b.block = k := by
  cases h : p.an with
  | none => simp [Value.ownBlock]
  | some b => simp [Value.ownBlock]
theorem row32_drop {w : World} {g : Nat} {l : List Nat} (h : Row32 w (some ⟨g, 0, none⟩) l) (D : Nat) : Row32 w (some ⟨g, D, none⟩) (l.drop D) := by
  refine ⟨fun x hx => h.1 x (List.mem_of_mem_drop hx), by have := h.2.1; simp; omega, fun h0 => ?_⟩
  have hl : D < l.length := by simp at h0; omega
  obtain ⟨b, o, e, hc⟩ := h.2.2 (by omega)
  cases e
  refine ⟨g, D, rfl, fun i hi => ?_⟩
  have hi2 : D + i < l.length := by simp at hi; omega
  have := hc (D + i) hi2
  rw [Nat.zero_add] at this
  rw [this, List.getD_eq_getElem?_getD, List.getD_eq_getElem?_getD, List.getElem?_drop]
theorem md_fin {w wc wd wf : World} {tb n0 m y g cap D cg : Nat} {v : Value} {s : Sn} {p : Pt} {L : List SD} {ag : Option Addr} {G : List (Int × Int)} (hT : TnO w wc tb n0 m v s p L) (hN : OwnN wc m s p) (hA : ApO wc wd tb m v s p y g cap) (ho : Off (fun i => i = tb) wd wf)
    (hb : wf.heap[tb]? = some (tnc { s with sen := (s.sen ++ [y]).drop D, got := G } { p with an := some ⟨g, D, none⟩, cn := cap - D, ag := ag, cg := cg } v)) (hr : RowC wf ag G) (hG : G.length ≤ cg ∧ cg ≤ maxLen) (hgz : G.length ≤ 140737488351232) (hag : ∀ b, ag = some b → wc.heap.size ≤ b.block) (hgi : ∀ c ∈ G, in64 c.1 ∧ in64 c.2) (hD : D ≤ s.sen.length + 1) (hl : s.sen.length ≤ 32) (hy : y < 4294967296) :
    TnO w wf tb n0 m v { s with sen := (s.sen ++ [y]).drop D, got := G } { p with an := some ⟨g, D, none⟩, cn := cap - D, ag := ag, cg := cg } L := by
  have hlt : tb < wc.heap.size := (Array.getElem?_eq_some_iff.1 hT.sy.box).1
  have hv := own_lt hT.sy.own
  have off2 : Off (fun i => i = tb ∨ (Value.slice p.an s.sen.length p.cn).ownBlock = some i) wc wf := hA.off.trans ho (fun i _ t => .inl t)
  have gtb : g ≠ tb := by
    rcases hA.gge with e | e
    · obtain ⟨b, e1, e2⟩ := own_an.1 e
      have := (hT.an b e1).1
      omega
    · omega
  have gv : v.ownBlock ≠ some g := by
    rcases hA.gge with e | e
    · obtain ⟨b, e1, e2⟩ := own_an.1 e
      rw [← e2]
      exact (hT.an b e1).2
    · intro h
      have := hv g h
      omega
  have gm : m ≤ g := by
    rcases hA.gge with e | e
    · obtain ⟨b, e1, e2⟩ := own_an.1 e
      have := hT.new.n b e1
      omega
    · have := hT.le
      omega
  have hlen : (s.sen ++ [y]).length = s.sen.length + 1 := by simp
  have hle := hA.le
  have hown := ho.owns hA.own (fun k e t => gtb (by have e1 : g = k := Option.some.inj e; have : k = tb := t; omega))
  obtain ⟨a', c', e', _, hcap, hrow⟩ := own32_row hown (fun x hx => by
    rcases List.mem_append.1 hx with h | h
    · exact hT.came.sen.1 x h
    · simp at h; omega) (by unfold maxLen; omega)
  cases e'
  refine ⟨⟨hb, off2.owns hT.sy.own (fun k e t => ?_), hT.sy.lt, Nat.le_trans hT.sy.le off2.size⟩, ?_, ⟨hT.new.b, fun b e => by have := hag b e; have := hT.le; omega, hT.new.d, hT.new.c, fun b e => by cases e; exact gm⟩, hT.ab, fun _ b e => ⟨by have := hag b e; omega, fun h => by have := hv _ h; have := hag b e; omega⟩, hT.ad, fun b e => by cases e; exact ⟨gtb, gv⟩, hT.cls, hT.bel.trans (off2.below (Nat.le_trans hT.le (Nat.le_of_lt hlt)) (fun i t => ?_)), hT.le⟩
  · rcases t with t | t
    · have := own_ge hT.sy.own k e; have := hT.sy.lt; omega
    · obtain ⟨b, e1, e2⟩ := own_an.1 t
      exact (hT.an b e1).2 (by rw [e2]; exact e)
  · have h0 := hT.came
    refine { h0 with blk := h0.blk.off off2 (fun h b e t => ?_), got := hr, lst := ⟨h0.lst.fit, h0.lst.row.off off2 (fun h b e t => ?_), ?_, h0.lst.le, h0.lst.cap, h0.lst.lec, h0.lst.capc⟩, sen := row32_drop hrow D, lg := hG, ln := ?_, zg := hgz, zn := ?_, gin := hgi }
    · rcases t with t | t
      · exact (hT.ab h b e).1 t
      · obtain ⟨c, e1, e2⟩ := own_an.1 t
        exact hN.ab h b c e e1 e2.symm
    · rcases t with t | t
      · exact (hT.ad h b e).1 t
      · obtain ⟨c, e1, e2⟩ := own_an.1 t
        exact hN.ad b c e e1 e2.symm
    · show RowC _ _ s.lst.cls
      rw [hT.cls]
      exact rowC_nil _ _
    · constructor
      · show ((s.sen ++ [y]).drop D).length ≤ cap - D
        rw [List.length_drop]
        omega
      · show cap - D ≤ maxLen
        omega
    · show ((s.sen ++ [y]).drop D).length ≤ _
      rw [List.length_drop]
      omega
  · rcases t with t | t
    · have := hT.le; omega
    · obtain ⟨b, e1, e2⟩ := own_an.1 t
      have := hT.new.n b e1
      omega
/-- the acknowledgement is said: a turn still. -/
theorem tn_ack {w0 w w' : World} {tb n0 m : Nat} {v' : Value} {s : Sn} {p : Pt} {x : Sg} (hT : TnO w0 w tb n0 m (.slice none 0 0) s p []) (hN : OwnN w m s p) (ha : AckO w w' tb n0 (.slice none 0 0) v' s p [] x) : TnO w0 w' tb n0 m v' s p [⟨ackS s x, none, 0, none, 0⟩] ∧ OwnN w' m s p := by
  have ho : Off (fun i => i = tb) w w' := ha.off.mono (fun i _ t => by rcases t with t | t; exact t; cases t)
  have hlt : tb < w.heap.size := (Array.getElem?_eq_some_iff.1 hT.sy.box).1
  have hv : ∀ k, k < w.heap.size → v'.ownBlock ≠ some k := fun k hk e => by
    rcases ha.vo k e with q | q
    · cases q
    · omega
  have h0 := hT.came
  refine ⟨⟨ha.sy, { h0 with blk := h0.blk.off ho (fun z b e t => (hT.ab z b e).1 t), got := h0.got.off ho (fun z b e t => (hT.ag z b e).1 t), lst := ⟨h0.lst.fit, h0.lst.row.off ho (fun z b e t => (hT.ad z b e).1 t), ?_, h0.lst.le, h0.lst.cap, h0.lst.lec, h0.lst.capc⟩, sen := h0.sen.off ho (fun _ b e t => (hT.an b e).1 t) }, hT.new, fun z b e => ⟨(hT.ab z b e).1, hv _ (row_lt h0.blk z b e)⟩, fun z b e => ⟨(hT.ag z b e).1, hv _ (rowC_lt h0.got z b e)⟩, fun z b e => ⟨(hT.ad z b e).1, hv _ (row_lt h0.lst.row z b e)⟩, fun b e => ⟨(hT.an b e).1, hv _ (own_lt hN.own b.block (own_an.2 ⟨b, e, rfl⟩))⟩, hT.cls, hT.bel.trans (ho.below (Nat.le_trans hT.le (Nat.le_of_lt hlt)) (fun i e => by have : i = tb := e; have := hT.le; omega)), hT.le⟩, ⟨ho.owns hN.own (fun g e t => ?_), hN.ab, hN.ad⟩⟩
  · show RowC _ _ s.lst.cls
    rw [hT.cls]
    exact rowC_nil _ _
  · obtain ⟨b, e1, e2⟩ := own_an.1 e
    have : g = tb := t
    exact (hT.an b e1).1 (by omega)
theorem sen_cut0 {wc wd : World} {tb m : Nat} {v' : Value} {s : Sn} {p : Pt} {y g cap : Nat} (hA : ApO wc wd tb m v' s p y g cap) (hd : s.sen.length + 1 ≤ 32) : Hid ((wd.setCell ⟨tb, 22, none⟩ (.slice (some ⟨g, 0, none⟩) (s.sen.length + 1) cap)).heap[tb]? = some (tnc { s with sen := (s.sen ++ [y]).drop (s.sen.length + 1 - 32) } { p with an := some ⟨g, s.sen.length + 1 - 32, none⟩, cn := cap - (s.sen.length + 1 - 32) } v') ∧ Off (fun i => i = tb) wd (wd.setCell ⟨tb, 22, none⟩ (.slice (some ⟨g, 0, none⟩) (s.sen.length + 1) cap))) := by
  refine ⟨?_, (Off.refl (fun i => i = tb) wd).setCell (p := ⟨tb, 22, none⟩) (.inr rfl) _⟩
  rw [heap_setCell_same _ _ _ _ _ _ hA.box, show s.sen.length + 1 - 32 = 0 by omega]
  show some (Obj.cells _ _ _) = some (Obj.cells _ _ _)
  have hl : (s.sen ++ [y]).length = s.sen.length + 1 := by simp
  rw [List.drop_zero, hl]
  rfl
theorem sen_cut1 {wc wd : World} {tb m : Nat} {v' : Value} {s : Sn} {p : Pt} {y g cap : Nat} (hA : ApO wc wd tb m v' s p y g cap) (hd : s.sen.length = 32) : Hid ((wd.setCell ⟨tb, 22, none⟩ (.slice (some ⟨g, 1, none⟩) s.sen.length (cap - 1))).heap[tb]? = some (tnc { s with sen := (s.sen ++ [y]).drop (s.sen.length + 1 - 32) } { p with an := some ⟨g, s.sen.length + 1 - 32, none⟩, cn := cap - (s.sen.length + 1 - 32) } v') ∧ Off (fun i => i = tb) wd (wd.setCell ⟨tb, 22, none⟩ (.slice (some ⟨g, 1, none⟩) s.sen.length (cap - 1)))) := by
  refine ⟨?_, (Off.refl (fun i => i = tb) wd).setCell (p := ⟨tb, 22, none⟩) (.inr rfl) _⟩
  rw [heap_setCell_same _ _ _ _ _ _ hA.box, show s.sen.length + 1 - 32 = 1 by omega]
  show some (Obj.cells _ _ _) = some (Obj.cells _ _ _)
  have hl : ((s.sen ++ [y]).drop 1).length = s.sen.length := by simp
  rw [hl]
  rfl
end Go.Proofs.Ytnjcaolkcmpdcaa
