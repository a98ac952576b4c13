/- (*turn).takeReport of a report that is new. -/
import Derived.Test.YtnjcaolkcmpdcaaURepP
namespace Go.Proofs.Ytnjcaolkcmpdcaa
open Go.RowKit Go.Shelf
set_option linter.unusedVariables false
/-- the serial behind one. -/
def nxS (n : Nat) : Nat := if n = 4294967295 then 1 else n + 1
/-- a session that has taken a new report's claims. -/
def newU (s : Sn) (x : Sg) : Sn := { s with sen := (s.sen ++ [x.ser]).drop (s.sen.length + 1 - 32), got := clip s.bgn.blk.length x.cls }
/-- what becomes of a session by a report, and what is sent. -/
def RepR (s : Sn) (x : Sg) (now : Int) (s' : Sn) (L' : List SD) : Prop :=
  (gpF (newU s x).got s.bgn.blk.length = [] ∧ s' = { newU s x with sta := 2 } ∧ L'.map SD.s = [ackS s x]) ∨
  (gpF (newU s x).got s.bgn.blk.length ≠ [] ∧ x.cks ≠ s.lst.ser ∧ s' = newU s x ∧ L'.map SD.s = [ackS s x]) ∨
  (gpF (newU s x).got s.bgn.blk.length ≠ [] ∧ x.cks = s.lst.ser ∧ ∃ M X, L' = M ++ [{ X with s := { X.s with chk := true, ser := nxS s.lst.ser } }] ∧ (M ++ [X]).map SD.s = ackS s x :: (pcsOf (gpF (newU s x).got s.bgn.blk.length)).map (segOf s) ∧ s' = { newU s x with lst := { X.s with chk := true, ser := nxS s.lst.ser }, due := now + s.bgn.wai, ask := 0 })
/-- each segment that is said has its bytes, and no claims. -/
def EachD (w : World) (L : List SD) : Prop := ∀ x ∈ L, Row w x.a x.s.dat ∧ x.s.dat.length ≤ x.c ∧ x.c ≤ maxLen ∧ (x.a2 = none ∧ x.c2 = 0 ∨ x.s.cls = [] ∧ x.c2 ≤ maxLen)
/-- what a call that takes a segment leaves. -/
structure FinT (m : Nat) (w w' : World) (tb n0 : Nat) (v' : Value) (s' : Sn) (p' : Pt) (L' : List SD) : Prop where
  sy : Sy w' tb n0 s' p' v' L'
  came : CameS w' s' p'
  each : EachD w' L'
  bel : Below m w w'
  ag : ∀ b, p'.ag = some b → m ≤ b.block
  an : ∀ b, p'.an = some b → m ≤ b.block
  cls : s'.lst.cls = []
theorem TnO.fin {w wd : World} {tb n0 m : Nat} {v : Value} {s : Sn} {p : Pt} {L : List SD} (h : TnO w wd tb n0 m v s p L) (he : EachD wd L) : FinT m w wd tb n0 v s p L :=
  ⟨h.sy, h.came, he, h.bel, h.new.g, h.new.n, h.cls⟩
theorem ack_each {w : World} {s : Sn} {x : Sg} : EachD w [(⟨ackS s x, none, 0, none, 0⟩ : SD)] := by
  intro y hy
  simp only [List.mem_singleton] at hy
  subst hy
  exact ⟨row_nil _ _, Nat.zero_le _, Nat.zero_le _, .inl ⟨rfl, rfl⟩⟩
/-- a turn, later. -/
theorem TnO.later {w wd we : World} {tb n0 m : Nat} {v : Value} {s : Sn} {p : Pt} {L : List SD} (h : TnO w wd tb n0 m v s p L) (hb : Below wd.heap.size wd we) : TnO w we tb n0 m v s p L := by
  have ho : Off (fun _ => False) wd we := Off.of_below hb
  exact ⟨⟨old_block hb h.sy.box, ho.owns h.sy.own (fun _ _ t => t), h.sy.lt, Nat.le_trans h.sy.le hb.size⟩, h.came.later hb, h.new, h.ab, h.ag, h.ad, h.an, h.cls, h.bel.trans (hb.mono (Nat.le_trans h.le (Nat.le_of_lt (Array.getElem?_eq_some_iff.1 h.sy.box).1))), h.le⟩
/-- a turn whose state is set. -/
theorem TnO.sta {w wd : World} {tb n0 m : Nat} {v : Value} {s : Sn} {p : Pt} {L : List SD} (h : TnO w wd tb n0 m v s p L) (i : Int) (hi : in64 i) : TnO w (wd.setCell ⟨tb, 5, none⟩ (.int .i64 i)) tb n0 m v { s with sta := i } p L := by
  have ho : Off (fun i => i = tb) wd (wd.setCell ⟨tb, 5, none⟩ (.int .i64 i)) := (Off.refl (fun i => i = tb) wd).setCell (p := ⟨tb, 5, none⟩) (.inr rfl) _
  have h0 := h.came
  refine ⟨⟨?_, ho.owns h.sy.own (fun k e t => by have := own_ge h.sy.own k e; have := h.sy.lt; have : k = tb := t; omega), h.sy.lt, Nat.le_trans h.sy.le ho.size⟩, { h0 with blk := h0.blk.off ho (fun z b e t => (h.ab z b e).1 t), got := h0.got.off ho (fun z b e t => (h.ag z b e).1 t), lst := ⟨h0.lst.fit, h0.lst.row.off ho (fun z b e t => (h.ad z b e).1 t), ?_, h0.lst.le, h0.lst.cap, h0.lst.lec, h0.lst.capc⟩, sen := h0.sen.off ho (fun _ b e t => (h.an b e).1 t), sta := hi }, h.new, h.ab, h.ag, h.ad, h.an, h.cls, h.bel.trans (ho.below (Nat.le_trans h.le (Nat.le_of_lt (Array.getElem?_eq_some_iff.1 h.sy.box).1)) (fun i e => by have : i = tb := e; have := h.le; omega)), h.le⟩
  · rw [heap_setCell_same _ _ _ _ _ _ h.sy.box]
    rfl
  · show RowC _ _ s.lst.cls
    rw [h.cls]
    exact rowC_nil _ _
/-- what sendRows leaves of a turn. -/
theorem snt_fin {w wd w' : World} {tb n0 m : Nat} {v v' : Value} {s s' : Sn} {p p' : Pt} {L L' : List SD} {X : Sg} {due : Int} {a' : Option Addr} {c' : Nat} {a2' : Option Addr} {c2' : Nat} (h : TnO w wd tb n0 m v s p L) (hs : s' = { s with lst := X, due := due, ask := 0 }) (hp : p' = { p with ad := a', cd := c', ac := a2', cc := c2' }) (hd : in64 due) (hX : X.cls = []) (hn : Snt wd w' tb n0 v v' s' p' L') (hle : n0 ≤ wd.heap.size) : FinT m w w' tb n0 v' s' p' L' := by
  subst hs hp
  have h0 := h.came
  have z64 : in64 0 := by unfold in64; omega
  have hlt : tb < wd.heap.size := (Array.getElem?_eq_some_iff.1 h.sy.box).1
  have ne : ∀ {b : Nat}, b ≠ tb ∧ v.ownBlock ≠ some b → ¬ (b = tb ∨ v.ownBlock = some b) := fun q t => t.elim q.1 q.2
  refine ⟨hn.sy, { h0 with blk := hn.blk, got := h0.got.off hn.off (fun z b e => ne (h.ag z b e)), lst := hn.lst, sen := h0.sen.off hn.off (fun _ b e => ne (h.an b e)), due := hd, ask := z64 }, fun x hx => ⟨(hn.each x hx).1, (hn.each x hx).2.1, (hn.each x hx).2.2.1, .inl (hn.each x hx).2.2.2⟩, h.bel.trans (hn.off.below (Nat.le_trans h.le (Nat.le_of_lt hlt)) (fun i t => ?_)), h.new.g, h.new.n, hX⟩
  rcases t with t | t
  · have := h.le; omega
  · have := own_ge h.sy.own i t; have := h.le; have := h.sy.lt; omega
/-- behind Seen's cut: the claims of what came, and inBlock of them. -/
theorem rep_mid {w0 w wA wB wc : World} {tb n0 m y g cap : Nat} {v' : Value} {s : Sn} {p p' : Pt} {x : Sg} {xa : Option Addr} {xc : Nat} {a2 : Option Addr} {c2 : Nat} {L : List SD} {sen' : List Nat} (hm : m = w0.heap.size) (hx : Came w0 x xa xc a2 c2) (hxo : okS x = true) (hk : x.knd = 2) (hok : okU s = true) (hT : TnO w0 wA tb n0 m v' s p L) (hY : wA.heap[w.heap.size]? = some (sc x xa xc a2 c2)) (hS : ∀ k, (Value.slice p.an s.sen.length p.cn).ownBlock = some k → k < w.heap.size) (htb : tb < w.heap.size) (hA : ApO wA wB tb m v' s p y g cap) (hb : wc.heap[tb]? = some (tnc { s with sen := sen' } p' v')) (ho : Off (fun i => i = tb) wB wc) :
    wc.cell? ⟨w.heap.size, 12, none⟩ = some (.slice a2 x.cls.length c2) ∧ Hid (Calls Try.prog 75 #[.slice a2 x.cls.length c2, .int .i64 s.bgn.blk.length] wc fun e w' => ∃ a' c', e = .returned (.slice a' (clip s.bgn.blk.length x.cls).length c') ∧ Hid (Below wc.heap.size wc w' ∧ w'.ownsRow wc.heap.size 56 2 (.slice a' (clip s.bgn.blk.length x.cls).length c') (clip s.bgn.blk.length x.cls).length (ccells (clip s.bgn.blk.length x.cls)))) ∧ Hid (wc.heap[w.heap.size]? = some (sc x xa xc a2 c2)) ∧ Hid (InN s.bgn.blk.length (clip s.bgn.blk.length x.cls) ∧ s.bgn.blk.length ≤ 512 ∧ (clip s.bgn.blk.length x.cls).length ≤ 20) := by
  subst hm
  have h2 : Off (fun i => i = tb ∨ (Value.slice p.an s.sen.length p.cn).ownBlock = some i) wA wc := hA.off.trans ho (fun i _ t => .inl t)
  have hZ : wc.heap[w.heap.size]? = some (sc x xa xc a2 c2) := h2.at hY (fun t => by
    rcases t with t | t
    · omega
    · have := hS _ t; omega)
  obtain ⟨_, _, hf, _⟩ := okS_parts hxo
  obtain ⟨r1, r2, r3, r4, r5, r6, r7⟩ : 0 < x.ser ∧ 0 < x.cks ∧ 0 ≤ x.low ∧ x.low < x.upp ∧ x.upp ≤ 512 ∧ x.cls.length ≤ 20 ∧ clsOk x.upp x.low x.cls = true := by
    rcases kinds hf with ⟨h, _⟩ | ⟨_, h⟩ | ⟨h, _⟩ | ⟨h, _⟩ | h
    · omega
    · exact repS_of h
    · omega
    · omega
    · omega
  have hall := clsOk_all _ _ _ r3 r5 r7
  have hblk : s.bgn.blk.length ≤ 512 := by
    simp only [okU, okB, Bool.and_eq_true] at hok
    have := inB_of hok.1.2.2.1
    omega
  have hbel : Below w0.heap.size w0 wc := hT.bel.trans (h2.below (Nat.le_trans hT.le (Nat.le_of_lt (Array.getElem?_eq_some_iff.1 hT.sy.box).1)) (fun i t => by
    rcases t with t | t
    · have := hT.le; omega
    · obtain ⟨b, e1, e2⟩ := own_an.1 t
      have := hT.new.n b e1
      omega))
  refine ⟨by rw [cell_of hZ]; rfl, inBlock_any wc a2 c2 x.cls s.bgn.blk.length (hx.rowc.later hbel) (by omega) hall hblk, hZ, clip_in (fun c hc => ⟨(hall c hc).1.1, (hall c hc).2.1⟩), hblk, ?_⟩
  have := clip_len s.bgn.blk.length x.cls
  omega
theorem rep_got {w0 wA wB wc w5 : World} {tb n0 m y g cap D N q : Nat} {v : Value} {s : Sn} {p : Pt} {L : List SD} {G : List (Int × Int)} {a5 : Option Addr} {c5 : Nat} {O : Obj} (hT : TnO w0 wA tb n0 m v s p L) (hN : OwnN wA m s p) (hA : ApO wA wB tb m v s p y g cap) (ho : Off (fun i => i = tb) wB wc)
    (hb : wc.heap[tb]? = some (tnc { s with sen := (s.sen ++ [y]).drop D } { p with an := some ⟨g, D, none⟩, cn := cap - D } v)) (hq : Below wc.heap.size wc w5 ∧ w5.ownsRow wc.heap.size 56 2 (.slice a5 G.length c5) G.length (ccells G)) (hG : InN N G ∧ N ≤ 512 ∧ G.length ≤ 20) (hZ : wc.heap[q]? = some O) (hqt : tb < q) (hl : s.sen.length ≤ 32) (hD : D ≤ s.sen.length + 1) (hy : y < 4294967296) :
    Hid (TnO w0 (w5.setCell ⟨tb, 6, none⟩ (.slice a5 G.length c5)) tb n0 m v { s with sen := (s.sen ++ [y]).drop D, got := G } { p with an := some ⟨g, D, none⟩, cn := cap - D, ag := a5, cg := c5 } L ∧ (w5.setCell ⟨tb, 6, none⟩ (.slice a5 G.length c5)).heap[q]? = some O) := by
  have hs : Off (fun i => i = tb) w5 (w5.setCell ⟨tb, 6, none⟩ (.slice a5 G.length c5)) := (Off.refl (fun i => i = tb) w5).setCell (p := ⟨tb, 6, none⟩) (.inr rfl) _
  have hf : Off (fun i => i = tb) wB (w5.setCell ⟨tb, 6, none⟩ (.slice a5 G.length c5)) := (ho.trans (Off.of_below (S := fun i => i = tb) hq.1) (fun _ _ t => t)).trans hs (fun _ _ t => t)
  have hsz : wA.heap.size ≤ wc.heap.size := Nat.le_trans hA.off.size ho.size
  have hlt : tb < wc.heap.size := (Array.getElem?_eq_some_iff.1 hb).1
  have hown := hs.owns hq.2 (fun k e t => by have := own_ge hq.2 k e; have : k = tb := t; omega)
  obtain ⟨_, _, e, _, h1, h2, h3, h4⟩ := ownC_row hown
  cases e
  refine ⟨md_fin hT hN hA hf ?_ h3 ⟨h1, h2⟩ (by omega) (fun b e => Nat.le_trans hsz (h4 b e)) (fun c hc => ?_) hD hl hy, hs.at (old_block hq.1 hZ) (fun e => by have : q = tb := e; omega)⟩
  · rw [heap_setCell_same _ _ _ _ _ _ (old_block hq.1 hb)]
    rfl
  · have := hG.1 c hc
    unfold in64
    omega
/-- a turn's session, read whole. -/
theorem t_sn {W : World} {b : Nat} {s : Sn} {p : Pt} {v : Value} (h : W.heap[b]? = some (tnc s p v)) : W.rangeAt b 0 (sncells s p) := by
  intro j u hu
  rw [Nat.zero_add, cell_of h]
  have hj : j < 24 := by
    by_cases hj : j < 24
    · exact hj
    · rw [List.getElem?_eq_none (by show 24 ≤ j; omega)] at hu
      cases hu
  rw [List.getElem?_toArray, ← hu]
  exact List.getElem?_append_left (l₁ := sncells s p) (l₂ := [v]) hj
theorem okU_parts {s : Sn} (h : okU s = true) : (1 ≤ s.bgn.src ∧ s.bgn.src ≤ 6) ∧ 0 < s.bgn.ses ∧ (1 ≤ s.bgn.blk.length ∧ s.bgn.blk.length ≤ 512) ∧ (1 ≤ s.bgn.wai ∧ s.bgn.wai ≤ 4096) ∧ (1 ≤ s.bgn.tri ∧ s.bgn.tri ≤ 16) ∧ (1 ≤ s.sta ∧ s.sta ≤ 4) ∧ (0 ≤ s.due ∧ s.due ≤ 1114112) ∧ (0 ≤ s.ask ∧ s.ask ≤ s.bgn.tri) ∧ (0 ≤ s.rea ∧ s.rea ≤ 255) ∧ clsOk s.bgn.blk.length 0 s.got = true ∧ lastU s = true ∧ seenU s = true := by
  simp only [okU, okB, numsU, Bool.and_eq_true, decide_eq_true_eq] at h
  obtain ⟨⟨h1, h2, h3, h4, h5⟩, ⟨h6, h7, h8, h9⟩, h10, h11, h12⟩ := h
  have k1 := inB_of h1
  have k3 := inB_of h3
  have k4 := inB_of h4
  have k5 := inB_of h5
  have k6 := inB_of h6
  have k7 := inB_of h7
  have k8 := inB_of h8
  have k9 := inB_of h9
  exact ⟨k1, h2, by omega, k4, k5, k6, k7, k8, k9, h10, h11, h12⟩
theorem rep_none {w0 wc : World} {tb n0 m : Nat} {v : Value} {s : Sn} {p : Pt} {L : List SD} (hT : TnO w0 wc tb n0 m v s p L) (hG : InN s.bgn.blk.length s.got ∧ s.bgn.blk.length ≤ 512 ∧ s.got.length ≤ 20) :
    Hid (Calls Try.prog 76 #[.func (.func 70) #[] #[.pointer (some ⟨wc.heap.size, 0, none⟩)]] (wc.alloc (snc s p)) fun e w' => e = .returned (.bool (gpF s.got s.bgn.blk.length).isEmpty) ∧ Hid (Below wc.heap.size wc w')) := by
  have hb : Below wc.heap.size wc (wc.alloc (snc s p)) := (Below.refl _ wc).alloc (Nat.le_refl _) _
  refine (none_any (wc.alloc (snc s p)) wc.heap.size s p (gpo_in hG.1 hG.2.1 (by omega)) (heap_alloc_new wc _) (hT.came.got.later hb)).mono ?_
  rintro e w' ⟨rfl, hq⟩
  exact ⟨rfl, below_of hb hq.out⟩
theorem rep_send {w0 w7 : World} {tb n0 m : Nat} {v : Value} {s : Sn} {p : Pt} {x : Sg} {now : Int} {ser : Nat} (hT : TnO w0 w7 tb n0 m v s p [⟨ackS s x, none, 0, none, 0⟩]) (hG : InN s.bgn.blk.length s.got ∧ s.bgn.blk.length ≤ 512 ∧ s.got.length ≤ 20) (hne : gpF s.got s.bgn.blk.length ≠ []) (hnow : 0 ≤ now ∧ now ≤ 1048576) (h0 : 1 ≤ s.bgn.blk.length) (hwai : 1 ≤ s.bgn.wai ∧ s.bgn.wai ≤ 4096) (hser : ser < 4294967296) :
    Hid (Calls Try.prog 37 #[.pointer (some ⟨tb, 0, none⟩), .func (.func 70) #[] #[.pointer (some ⟨w7.heap.size, 0, none⟩)], .int .u32 (ser : Nat), .int .i64 now] (w7.alloc (snc s p)) fun e w' => e = .returned (.tuple #[]) ∧ ∃ v' s' p' L', Hid (FinT m w0 w' tb n0 v' s' p' L' ∧ ∃ M X, L' = M ++ [{ X with s := { X.s with chk := true, ser := ser } }] ∧ (M ++ [X]).map SD.s = ackS s x :: (pcsOf (gpF s.got s.bgn.blk.length)).map (segOf s) ∧ s' = { s with lst := { X.s with chk := true, ser := ser }, due := now + s.bgn.wai, ask := 0 })) := by
  have hb : Below w7.heap.size w7 (w7.alloc (snc s p)) := (Below.refl _ w7).alloc (Nat.le_refl _) _
  have h8 := hT.later hb
  have hlt : tb < w7.heap.size := (Array.getElem?_eq_some_iff.1 hT.sy.box).1
  have hcl : (w7.alloc (snc s p)).cell? ⟨tb, 24, none⟩ = some v := by rw [cell_of h8.sy.box]; rfl
  have hz : (w7.alloc (snc s p)).heap.size = w7.heap.size + 1 := by simp
  have far : ∀ {k : Nat}, k ≠ tb ∧ v.ownBlock ≠ some k → k < (w7.alloc (snc s p)).heap.size → FarT tb (w7.alloc (snc s p)) k := fun hk hl => ⟨v, hcl, hk.1, hk.2, hl⟩
  refine (sendr_any (w7.alloc (snc s p)) tb w7.heap.size n0 v s s p p [⟨ackS s x, none, 0, none, 0⟩] ser now h8.sy (by simp) ?_ (gpo_in hG.1 hG.2.1 (by omega)) rfl ⟨heap_alloc_new w7 _, h8.came.got, far ⟨by omega, fun e => by have := own_lt hT.sy.own _ e; omega⟩ (by omega), fun b o e z => far (h8.ag z _ e) (rowC_lt h8.came.got z _ e)⟩ ⟨h8.came.blk, h8.came.lb.1, h8.came.lb.2, fun b e => far (h8.ab (by omega) b e) (row_lt h8.came.blk (by omega) b e)⟩ (rows_in hG.1 hG.2.1 (by omega)) hne hnow hwai ⟨h8.came.src, h8.came.ses, hser⟩).mono ?_
  · intro y hy
    simp only [List.mem_singleton] at hy
    subst hy
    exact ⟨row_nil _ _, Nat.zero_le _, Nat.zero_le _, rfl, rfl, fun b e => by cases e⟩
  · rintro e w' ⟨rfl, hq⟩
    obtain ⟨v', M, X, a', c', a2', c2', hsn, hm⟩ := hq.out
    have hX : X.s.cls = [] := by
      have h1 : X.s ∈ (M ++ [X]).map SD.s := by simp
      rw [hm] at h1
      rcases List.mem_append.1 h1 with h1 | h1
      · simp at h1
        rw [h1]
        rfl
      · obtain ⟨y, _, e⟩ := List.mem_map.1 h1
        rw [← e]
        rfl
    refine ⟨rfl, v', _, _, _, snt_fin (X := { X.s with chk := true, ser := ser }) (due := now + s.bgn.wai) h8 rfl rfl (by unfold in64; omega) hX hsn h8.sy.le, M, X, rfl, ?_, rfl⟩
    rw [hm]
    rfl
theorem tn_cells {w0 wc w7 : World} {tb n0 m q : Nat} {v : Value} {s : Sn} {p : Pt} {L : List SD} {x : Sg} {xa : Option Addr} {xc : Nat} {a2 : Option Addr} {c2 : Nat} (hT : TnO w0 wc tb n0 m v s p L) (hx : wc.heap[q]? = some (sc x xa xc a2 c2)) (hb : Below wc.heap.size wc w7) : Hid (TnO w0 w7 tb n0 m v s p L) ∧ w7.cell? ⟨q, 4, none⟩ = some (.int .u32 (x.cks : Nat)) ∧ w7.cell? ⟨tb, 10, none⟩ = some (.int .u32 (s.lst.ser : Nat)) ∧ w7.cell? ⟨tb, 5, none⟩ = some (.int .i64 s.sta) ∧ (∀ j, w7.frozen? ⟨tb, j, none⟩ = false) := by
  have h7 := hT.later hb
  refine ⟨h7, by rw [cell_of (old_block hb hx)]; rfl, by rw [cell_of h7.sy.box]; rfl, by rw [cell_of h7.sy.box]; rfl, frozen_of h7.sy.box⟩
set_option maxRecDepth 20000 in
set_option maxHeartbeats 16000000 in
theorem rep_c (s : Sn) (p : Pt) (tb n0 m : Nat) (x : Sg) (xa : Option Addr) (xc : Nat) (a2 : Option Addr) (c2 : Nat) (now : Int) (w0 w : World) (hT : TnO w0 w tb n0 m (.slice none 0 0) s p []) (hN : OwnN w m s p) (hok : okU s = true) (hm : m = w0.heap.size) (hx : Came w0 x xa xc a2 c2) (hxo : okS x = true) (hxk : x.knd = 2) (hnow : inB now 0 1048576 = true) (hs : s.sta = 1) (hc : s.sen.contains x.ser = false) :
    Calls Try.prog 48 #[.pointer (some ⟨tb, 0, none⟩), sv x xa xc a2 c2, .int .i64 now] w fun e w' => e = .returned (.tuple #[]) ∧ ∃ v' s' p' L', Hid (FinT m w0 w' tb n0 v' s' p' L' ∧ RepR s x now s' L') := by
  have hlt : tb < w.heap.size := (Array.getElem?_eq_some_iff.1 hT.sy.box).1
  have hq : SeenAt w tb n0 (.slice none 0 0) s p m := ⟨hN.own, fun k e => by obtain ⟨b, e1, e2⟩ := own_an.1 e; rw [← e2]; exact hT.an b e1, hT.came.sen.1, by
    simp only [okU, Bool.and_eq_true] at hok
    have := hok.2.2.2.2
    simp only [seenU, Bool.and_eq_true, decide_eq_true_eq] at this
    exact this.1⟩
  have hser : x.ser < 4294967296 := hx.fit.ser
  have HSY : Hid (Calls Try.prog 49 #[.pointer (some ⟨tb, 0, none⟩), .agg #[.int .i64 3, .int .i64 0, .int .u32 0, .int .u32 (x.ser : Nat), .int .u32 0, .int .i64 0, .int .i64 0, .int .i64 0, .int .i64 0, .int .i64 0, .bool false, .slice none 0 0, .slice none 0 0]] (w.alloc (sc x xa xc a2 c2)) fun e w' => e = .returned (.tuple #[]) ∧ ∃ v', Hid (w'.heap[tb]? = some (tnc s p v')) ∧ Hid (w'.heap[w.heap.size]? = some (sc x xa xc a2 c2)) ∧ Hid (AckO w w' tb n0 (.slice none 0 0) v' s p [] x)) := ack_any s p (.slice none 0 0) tb n0 [] x _ w hT.sy (Nat.zero_le _)
  have HQ : Hid (SeenAt w tb n0 (.slice none 0 0) s p m) := hq
  have hl := hq.le
  have HTN : Hid (TnO w0 w tb n0 m (.slice none 0 0) s p [] ∧ OwnN w m s p) := ⟨hT, hN⟩
  have HOK : Hid (okU s = true) := hok
  have HX : Hid (m = w0.heap.size ∧ Came w0 x xa xc a2 c2 ∧ okS x = true ∧ x.knd = 2) := ⟨hm, hx, hxo, hxk⟩
  have HSW : Hid (∀ k, (Value.slice p.an s.sen.length p.cn).ownBlock = some k → k < w.heap.size) := own_lt hN.own
  have HNOW : Hid (inB now 0 1048576 = true) := hnow
  have HXS : Hid (∀ W : World, W.heap[w.heap.size]? = some (sc x xa xc a2 c2) → W.cell? ⟨w.heap.size, 3, none⟩ = some (.int .u32 (x.ser : Nat))) := fun W e => by rw [cell_of e]; rfl
  have HCN : Hid (∀ W : World, Row32 W p.an s.sen → Calls Try.prog 74 #[.slice p.an s.sen.length p.cn, .int .u32 (x.ser : Nat)] W fun e w' => e = .returned (.bool false) ∧ W = w') := fun W hr => by
    have := contains32_any W p.an p.cn s.sen x.ser hr (by omega) hser
    rw [hc] at this
    exact this
  have HTB : Hid (tb < w.heap.size) := hlt
  clear hq hc hT hN hok hx hxo hxk hnow hlt hser hm
  go_enter Try.func48, Try.ntmps48
  go_wp2_with (first | (go_at_call 49; refine HSY.out.mono ?_; rintro e w2 ⟨rfl, v', HB2, HB1, HA⟩; have k5 := (tcells_get HB2.out).2.2.2.2.2.1; have k22 := (tcells_get HB2.out).2.2.2.2.2.2.2.2.2.2.2.2.2.2.2.2.2.2.2.2.2.2.1; have hrow : Hid (Row32 w2.drew p.an s.sen) := (HQ.out.ack HA.out HQ.out.in).row; have x3 := HXS.out w2 HB1.out) | (go_at_call 74; fail))
  rw [hs] at k5
  have HCD := HCN.out _ hrow.out
  have HCE : Hid (Calls Try.prog 74 #[.slice p.an s.sen.length p.cn, .int .u32 (x.ser : Nat)] w2.drew fun e w' => e = .returned (.bool false) ∧ w2.drew = w') := HCD
  clear HCD HCN
  go_cut [26] from 9 to 26 (fun v wd => v = .bool false ∧ wd = w2.drew)
  case first =>
    first | go_region_with (go_at_call 74; refine HCE.out.mono ?_; rintro e w3 ⟨rfl, rfl⟩) | fail
    all_goals
      go_wp2
      go_meet
      case rel => exact ⟨rfl, rfl⟩
  case rest =>
    obtain ⟨rfl, rfl⟩ := hcut
    have HBX : Hid (w2.drew.heap[tb]? = some (tnc s p v')) := HB2.out
    have HBY : Hid (w2.drew.heap[w.heap.size]? = some (sc x xa xc a2 c2)) := HB1.out
    have HAX : Hid (AckO w w2.drew tb n0 (.slice none 0 0) v' s p [] x) := HA.out.drew
    clear HCE HB2 HB1 HA hrow HSY k5 k22 x3
    generalize w2.drew = wc at HBX HBY HAX ⊢
    have HSN : Hid (SeenAt wc tb n0 v' s p m) := HQ.out.ack HAX.out HQ.out.in
    have HTC : Hid (TnO w0 wc tb n0 m v' s p [⟨ackS s x, none, 0, none, 0⟩] ∧ OwnN wc m s p) := tn_ack HTN.out.1 HTN.out.2 HAX.out
    have x3 := HXS.out wc HBY.out
    have k22 := (tcells_get HBX.out).2.2.2.2.2.2.2.2.2.2.2.2.2.2.2.2.2.2.2.2.2.2.1
    have k22' : ∀ Y, (wc.alloc Y).cell? ⟨tb, 22, none⟩ = some (.slice p.an s.sen.length p.cn) := fun Y => (tcells_get (old_block ((Below.refl _ wc).alloc (Nat.le_refl _) Y) HBX.out)).2.2.2.2.2.2.2.2.2.2.2.2.2.2.2.2.2.2.2.2.2.2.1
    have ff := frozen_of HBX.out
    clear HQ HXS HTN
    go_wp2_with fail
    obtain ⟨i0, hi, hz0, hz1, hz2⟩ := info_parts Try.info22
    have HI : Hid (Try.prog.info? 22 = some i0) := hi
    have HBA : Hid (Below wc.heap.size wc (wc.alloc (.cells #[.int .u32 (x.ser : Nat)] 22)).drew) := ((Below.refl _ wc).alloc (Nat.le_refl _) _).drew
    have HOW : Hid ((wc.alloc (.cells #[.int .u32 (x.ser : Nat)] 22)).drew.ownsRow m 22 1 (.slice p.an s.sen.length p.cn) s.sen.length (cells32 s.sen)) := (Off.of_below (S := fun _ => False) HBA.out).owns HSN.out.own (fun _ _ t => t)
    have HNW : Hid (m ≤ (wc.alloc (.cells #[.int .u32 (x.ser : Nat)] 22)).drew.heap.size) := by have := HTC.out.1.le; have := HTB.out; have := HAX.out.off.size; show _ ≤ _; simp; omega
    clear hi
    go_cut [] from 27 to 38 (fun wd => ∃ g cap, Hid (ApO wc wd tb m v' s p x.ser g cap))
    case first =>
      go_region_law (refine step_append_lies _ rfl _ _ 30 rfl m 22 i0 _ 1 4 Try.underlying30 HI.out hz0 hz1 hz2 rfl (by decide) (.slice p.an s.sen.length p.cn) s.sen.length (cells32 s.sen) (by rfl) HOW.out ⟨wc.heap.size, 0, none⟩ 1 1 (cells32 [x.ser]) (by rfl) rfl (num_src wc x.ser) (cells32_one _) (by decide) (by unfold maxLen; omega) (by omega) HNW.out (wc.alloc (.cells #[.int .u32 (x.ser : Nat)] 22)).drew.heap.size rfl ?_; intro g2 cap2 w3 q1 q2 q3 q4; have HQ1 : Hid _ := q1; have HQ2 : Hid _ := q2; have HQ3 : Hid ((Value.slice p.an s.sen.length p.cn).ownBlock = some g2 ∨ wc.heap.size ≤ g2) := (by rcases q3 with q3 | q3; exact .inl q3; right; rw [q3]; simp); clear q1 q2 q3 q4; obtain ⟨y1, y2, HF⟩ := ap_fin HBX.out HSN.out HBA.out ((Off.refl (fun k => (Value.slice p.an s.sen.length p.cn).ownBlock = some k) _).grown HQ2.out (fun k e => .inr e)) HQ1.out HQ3.out)
      all_goals
        go_wp2
        go_meet
        case rel => exact ⟨g2, cap2, HF.out⟩
    case rest =>
      rename_i wC
      obtain ⟨g, cap, HAP⟩ := hcut
      have c22 : wc.cell? ⟨tb, 22, none⟩ = some (.slice (some ⟨g, 0, none⟩) (s.sen.length + 1) cap) := by
        have e : (s.sen ++ [x.ser]).length = s.sen.length + 1 := by simp
        rw [← e, cell_of HAP.out.box]
        rfl
      have fg := frozen_of HAP.out.box
      have hcap : s.sen.length + 1 ≤ cap := by have := HAP.out.le; simp at this; omega
      clear x3 k22 k22' ff HI HBA HOW HNW HSN
      go_wp2_with fail
      have hc0 : ¬ cap = 0 := by omega
      go_cut [] from 40 to 55 (fun wd => Hid (wd.heap[tb]? = some (tnc { s with sen := (s.sen ++ [x.ser]).drop (s.sen.length + 1 - 32) } { p with an := some ⟨g, s.sen.length + 1 - 32, none⟩, cn := cap - (s.sen.length + 1 - 32) } v') ∧ Off (fun i => i = tb) wc wd))
      case first =>
        by_cases hd : s.sen.length + 1 ≤ 32
        · obtain ⟨D, hw, hD⟩ : ∃ D, IntKind.i64.wrap ((s.sen.length : Int) + 1 - 32) = D ∧ ¬ 0 < D := ⟨_, rfl, by rw [IntWalk.i64_in _ (by omega)]; omega⟩
          have HC := sen_cut0 HAP.out hd
          go_region_with (fail)
          all_goals
            go_wp2
            go_meet
            case rel => first | exact HC | exact ⟨HC.out.1, HC.out.2.drew⟩
        · have hc1 : ¬ cap = 1 := by omega
          have hlen : s.sen.length = 32 := by omega
          have hw : IntKind.i64.wrap ((s.sen.length : Int) + 1 - 32) = 1 := by rw [hlen]; decide
          have h1 : (1 : Int) ≤ (s.sen.length : Int) + 1 := by omega
          have HC := sen_cut1 HAP.out hlen
          clear hlen
          go_region_with (fail)
          all_goals
            go_wp2
            go_meet
            case rel => first | exact HC | exact ⟨HC.out.1, HC.out.2.drew⟩
      case rest =>
        have HX4 := rep_mid (wc := wc.drew) HX.out.1 HX.out.2.1 HX.out.2.2.1 HX.out.2.2.2 HOK.out HTC.out.1 HBY.out HSW.out HTB.out HAP.out hcut.out.1 hcut.out.2.drew
        have k2 : wc.cell? ⟨tb, 2, none⟩ = some (.slice p.ab s.bgn.blk.length p.cb) := (tcells_get hcut.out.1).2.2.1
        have x12 : wc.cell? ⟨w.heap.size, 12, none⟩ = some (.slice a2 x.cls.length c2) := HX4.1
        have HIB := HX4.2.1
        have HZ4 := HX4.2.2.1
        have HG4 := HX4.2.2.2
        have HC4 : Hid (wc.drew.heap[tb]? = some (tnc { s with sen := (s.sen ++ [x.ser]).drop (s.sen.length + 1 - 32) } { p with an := some ⟨g, s.sen.length + 1 - 32, none⟩, cn := cap - (s.sen.length + 1 - 32) } v')) := hcut.out.1
        clear HX4 c22 fg
        go_wp2_with fail
        go_cut [] from 58 to 68 (fun wd => ∃ ag cg, Hid (TnO w0 wd tb n0 m v' (newU s x) { p with an := some ⟨g, s.sen.length + 1 - 32, none⟩, cn := cap - (s.sen.length + 1 - 32), ag := ag, cg := cg } [⟨ackS s x, none, 0, none, 0⟩] ∧ wd.heap[w.heap.size]? = some (sc x xa xc a2 c2)))
        case first =>
          go_region_with (go_at_call 75; refine HIB.out.mono ?_; rintro e w5 ⟨a5, c5, rfl, hq5⟩; have k6 := (tcells_get (old_block hq5.out.1 HC4.out)).2.2.2.2.2.2.1; have f6 := frozen_of (old_block hq5.out.1 HC4.out))
          all_goals
            have HF := rep_got HTC.out.1 HTC.out.2 HAP.out hcut.out.2.drew HC4.out hq5.out HG4.out HZ4.out HTB.out hl (by omega) HX.out.2.1.fit.ser
            go_wp2
            go_meet
            case rel => exact ⟨a5, c5, HF.out⟩
        case rest =>
          obtain ⟨ag, cg, HTG⟩ := hcut
          obtain ⟨s1, hs1⟩ : ∃ s1, newU s x = s1 := ⟨_, rfl⟩
          have HS1 : Hid (newU s x = s1) := hs1
          rw [hs1] at HTG
          generalize ({ p with an := some ⟨g, s.sen.length + 1 - 32, none⟩, cn := cap - (s.sen.length + 1 - 32), ag := ag, cg := cg } : Pt) = p1 at HTG
          obtain ⟨cs, hcs⟩ : ∃ cs, Hid (cs = sncells s1 p1) := ⟨_, rfl⟩
          have hs24 : Hid ((Try.prog.info? 32).map (·.size) = some 24) := by show _ = _; kernel_rfl
          have hsz1 : (Try.prog.info? 32).map (·.size) = some cs.length := by rw [show cs.length = 24 by rw [hcs.out]; rfl]; exact hs24.out
          have HGP : Hid (∀ W, Calls Try.prog 38 #[.agg cs.toArray] W fun e w' => e = .returned (.func (.func 70) #[] #[.pointer (some ⟨W.heap.size, 0, none⟩)]) ∧ w' = W.alloc (snc s1 p1)) := fun W => by rw [hcs.out]; exact gp_fn s1 p1 W
          have HR1 : Hid (wc.rangeAt tb 0 cs) := by rw [hcs.out]; exact t_sn HTG.out.1.sy.box
          have hbg : s1.bgn = s.bgn := by rw [← hs1]; rfl
          have hls : s1.lst = s.lst := by rw [← hs1]; rfl
          have hak : ackS s x = ackS s1 x := by unfold ackS; rw [hbg]
          have hG1 : InN s1.bgn.blk.length s1.got ∧ s1.bgn.blk.length ≤ 512 ∧ s1.got.length ≤ 20 := by rw [hbg, ← hs1]; exact HG4.out
          have HG1 : Hid _ := hG1
          rw [hak] at HTG
          have HNO := rep_none HTG.out.1 hG1
          obtain ⟨q1, q2, q3, q4, q5, q6, q7, q8, q9, q10, q11, q12⟩ := okU_parts HOK.out
          have HQ4 : Hid (1 ≤ s1.bgn.wai ∧ s1.bgn.wai ≤ 4096) := by rw [hbg]; exact q4
          have HQ3 : Hid (1 ≤ s1.bgn.blk.length) := by rw [hbg]; exact q3.1
          have hnw := inB_of HNOW.out
          have hlser : s1.lst.ser < 4294967296 := HTG.out.1.came.lst.fit.ser
          have hxck : x.cks < 4294967296 := HX.out.2.1.fit.cks
          have HNS : Hid (∀ W, Calls Try.prog 77 #[.int .u32 (s1.lst.ser : Nat)] W fun e w' => e = .returned (.int .u32 (nxS s1.lst.ser : Nat)) ∧ W = w') := fun W => next_any s1.lst.ser hlser W
          have HNX : Hid (nxS s1.lst.ser < 4294967296) := by show _ < _; unfold nxS; split <;> omega
          have HRR : Hid (∀ s' L', ((gpF s1.got s1.bgn.blk.length = [] ∧ s' = { s1 with sta := 2 } ∧ L'.map SD.s = [ackS s1 x]) ∨ (gpF s1.got s1.bgn.blk.length ≠ [] ∧ x.cks ≠ s1.lst.ser ∧ s' = s1 ∧ L'.map SD.s = [ackS s1 x]) ∨ (gpF s1.got s1.bgn.blk.length ≠ [] ∧ x.cks = s1.lst.ser ∧ ∃ M X, L' = M ++ [{ X with s := { X.s with chk := true, ser := nxS s1.lst.ser } }] ∧ (M ++ [X]).map SD.s = ackS s1 x :: (pcsOf (gpF s1.got s1.bgn.blk.length)).map (segOf s1) ∧ s' = { s1 with lst := { X.s with chk := true, ser := nxS s1.lst.ser }, due := now + s1.bgn.wai, ask := 0 })) → RepR s x now s' L') := fun s' L' h => by
            subst hs1
            exact h
          clear hs1 hcut HAP HTC HBX HBY HAX HIB HZ4 HC4 k2 x12 hcs hcap hc0 hz0 hz1 hz2 q1 q2 q3 q4 q5 q6 q7 q8 q9 q10 q11 q12 hbg hls hak hG1 HOK HS1 HNOW HTB HSW HX HG4
          have HL7 : Hid (∀ w7, Below wc.heap.size wc w7 → Hid (TnO w0 w7 tb n0 m v' s1 p1 [⟨ackS s1 x, none, 0, none, 0⟩]) ∧ w7.cell? ⟨w.heap.size, 4, none⟩ = some (.int .u32 (x.cks : Nat)) ∧ w7.cell? ⟨tb, 10, none⟩ = some (.int .u32 (s1.lst.ser : Nat)) ∧ w7.cell? ⟨tb, 5, none⟩ = some (.int .i64 s1.sta) ∧ (∀ j, w7.frozen? ⟨tb, j, none⟩ = false)) := fun w7 hb => tn_cells HTG.out.1 HTG.out.2 hb
          have HR7 : Hid (∀ w7, Below wc.heap.size wc w7 → w7.rangeAt tb 0 cs) := fun w7 hb j u hu => cell_later hb (HR1.out j u hu)
          cases hE : (gpF s1.got s1.bgn.blk.length).isEmpty with
          | true =>
            have HE : Hid (gpF s1.got s1.bgn.blk.length = []) := List.isEmpty_iff.1 hE
            rw [hE] at HNO
            clear hE HNS HR7 HQ3 HQ4
            go_wp2_with (first | (refine wpList_load_mid rfl 32 _ rfl tb 0 (by rfl) cs _ HR1.out Try.underlying32 rfl hsz1 ?_) | (go_at_call 38; refine (HGP.out _).mono ?_; rintro e w6 ⟨rfl, rfl⟩) | (go_at_call 76; refine HNO.out.mono ?_; rintro e w7 ⟨rfl, hb7⟩; obtain ⟨HT7, y1, y2, y3, y4⟩ := HL7.out w7 hb7.out))
            have HF := HT7.out.sta 2 (by unfold in64; omega)
            go_end0
            exact ⟨rfl, _, _, _, _, HF.fin ack_each, HRR.out _ _ (.inl ⟨HE.out, rfl, rfl⟩)⟩
          | false =>
            have HE : Hid (gpF s1.got s1.bgn.blk.length ≠ []) := fun e => by rw [e] at hE; cases hE
            rw [hE] at HNO
            clear hE
            go_wp2_with (first | (refine wpList_load_mid rfl 32 _ rfl tb 0 (by rfl) cs _ HR1.out Try.underlying32 rfl hsz1 ?_) | (go_at_call 38; refine (HGP.out _).mono ?_; rintro e w6 ⟨rfl, rfl⟩) | (go_at_call 76; refine HNO.out.mono ?_; rintro e w7 ⟨rfl, hb7⟩; obtain ⟨HT7, y1, y2, y3, y4⟩ := HL7.out w7 hb7.out))
            by_cases hck : x.cks = s1.lst.ser
            · have hck2 : (x.cks : Int) = (s1.lst.ser : Int) := by rw [hck]
              have HCK : Hid (x.cks = s1.lst.ser) := hck
              clear hck
              go_quiet (fail)
              obtain ⟨w8, hw8⟩ : ∃ w8, w7.drewN nq = w8 := ⟨_, rfl⟩
              have hb8 : Hid (Below wc.heap.size wc w8) := by rw [← hw8]; exact below_drewN hb7.out nq
              rw [hw8]
              clear hw8 y1 y2 y3 y4 HT7
              obtain ⟨HT8, y1, y2, y3, y4⟩ := HL7.out w8 hb8.out
              have HR8 : Hid (w8.rangeAt tb 0 cs) := HR7.out w8 hb8.out
              go_wp2_with fail
              have x1 : w8.drew.cell? ⟨tb, 10, none⟩ = some (.int .u32 (s1.lst.ser : Nat)) := y2
              have HR9 : Hid (w8.drew.rangeAt tb 0 cs) := HR8.out
              have HT9 : Hid (TnO w0 w8.drew tb n0 m v' s1 p1 [⟨ackS s1 x, none, 0, none, 0⟩]) := HT8.out.later ((Below.refl _ w8).drew)
              have HC9 : ∀ X, (w8.alloc X).cell? ⟨tb, 10, none⟩ = some (.int .u32 (s1.lst.ser : Nat)) := fun X => cell_later ((Below.refl _ w8).alloc (Nat.le_refl _) X) y2
              refine wp_region_held_drew (S := fun _ => True) (by kernel_rfl) trivial (fun hHeld => ?_)
              refine takeH 0 (.pointer (some ⟨tb, 0, none⟩)) rfl (by kernel_rfl) (by kernel_rfl) (by kernel_rfl) (fun _ _ _ h => h) (Or.inl ⟨by rfl, ?_⟩) trivial ?_
              · (intro w hSw; go_simp)
              try simp only [Act.put, List.setIfInBounds_toArray, List.set_cons_zero, List.set_cons_succ]
              refine takeH 1 (.pointer (some ⟨tb, 0, none⟩)) rfl (by kernel_rfl) (by kernel_rfl) (by kernel_rfl) (fun _ _ _ h => h) (Or.inl ⟨by rfl, ?_⟩) trivial ?_
              · (intro w hSw; go_simp)
              try simp only [Act.put, List.setIfInBounds_toArray, List.set_cons_zero, List.set_cons_succ]
              refine takeH 2 (.pointer (some ⟨tb, 0, none⟩)) rfl (by kernel_rfl) (by kernel_rfl) (by kernel_rfl) (fun _ _ _ h => h) (Or.inl ⟨by rfl, ?_⟩) trivial ?_
              · (intro w hSw; go_simp)
              try simp only [Act.put, List.setIfInBounds_toArray, List.set_cons_zero, List.set_cons_succ]
              refine takeH 3 (.pointer (some ⟨tb, 0, none⟩)) rfl (by kernel_rfl) (by kernel_rfl) (by kernel_rfl) (fun _ _ _ h => h) (Or.inl ⟨by rfl, ?_⟩) trivial ?_
              · (intro w hSw; go_simp)
              try simp only [Act.put, List.setIfInBounds_toArray, List.set_cons_zero, List.set_cons_succ]
              refine takeH 6 (.pointer (some ⟨tb, 0, none⟩)) rfl (by kernel_rfl) (by kernel_rfl) (by kernel_rfl) (fun _ _ _ h => h) (Or.inl ⟨by rfl, ?_⟩) trivial ?_
              · (intro w hSw; go_simp)
              try simp only [Act.put, List.setIfInBounds_toArray, List.set_cons_zero, List.set_cons_succ]
              refine takeH 7 (.pointer (some ⟨tb, 0, none⟩)) rfl (by kernel_rfl) (by kernel_rfl) (by kernel_rfl) (fun _ _ _ h => h) (Or.inl ⟨by rfl, ?_⟩) trivial ?_
              · (intro w hSw; go_simp)
              try simp only [Act.put, List.setIfInBounds_toArray, List.set_cons_zero, List.set_cons_succ]
              refine takeH 8 (.pointer (some ⟨tb, 0, none⟩)) rfl (by kernel_rfl) (by kernel_rfl) (by kernel_rfl) (fun _ _ _ h => h) (Or.inl ⟨by rfl, ?_⟩) trivial ?_
              · (intro w hSw; go_simp)
              try simp only [Act.put, List.setIfInBounds_toArray, List.set_cons_zero, List.set_cons_succ]
              refine takeH 9 (.pointer (some ⟨tb, 7, none⟩)) rfl (by kernel_rfl) (by kernel_rfl) (by kernel_rfl) (fun _ _ _ h => h) (Or.inl ⟨by rfl, ?_⟩) trivial ?_
              · (intro w hSw; go_simp)
              try simp only [Act.put, List.setIfInBounds_toArray, List.set_cons_zero, List.set_cons_succ]
              refine takeH 10 (.pointer (some ⟨tb, 10, none⟩)) rfl (by kernel_rfl) (by kernel_rfl) (by kernel_rfl) (fun _ _ _ h => h) (Or.inl ⟨by rfl, ?_⟩) trivial ?_
              · (intro w hSw; go_simp)
              try simp only [Act.put, List.setIfInBounds_toArray, List.set_cons_zero, List.set_cons_succ]
              refine takeH 13 (.int .i64 now) rfl (by kernel_rfl) (by kernel_rfl) (by kernel_rfl) (fun _ _ _ h => h) (Or.inl ⟨by rfl, ?_⟩) trivial ?_
              · (intro w hSw; go_simp)
              try simp only [Act.put, List.setIfInBounds_toArray, List.set_cons_zero, List.set_cons_succ]
              refine wpAnyH_ready (rs := [4, 11]) (by kernel_rfl) (by simp) ?_
              refine stepH 4 rfl (fun K hK => ?_) (stepH 11 rfl (fun K hK => ?_) AllReadyH.nil)
              · skip
                refine step_load (by rfl) 32 _ rfl tb 0 (by rfl) cs _ HR9.out Try.underlying32 rfl hsz1 ?_
                refine hK.out _ _ trivial (fun hHeld => ?_)
                clear hK K
                try simp only [Act.put, List.setIfInBounds_toArray, List.set_cons_zero, List.set_cons_succ]
                refine wpAnyH_ready (rs := [5, 11]) (by kernel_rfl) (by simp) ?_
                refine stepH 5 rfl (fun K hK => ?_) (stepH 11 rfl (fun K hK => ?_) AllReadyH.nil)
                · skip
                  go_simp
                  go_at_call 38
                  refine (HGP.out _).mono ?_
                  rintro e w9 ⟨rfl, rfl⟩
                  refine hK.out _ _ trivial (fun hHeld => ?_)
                  clear hK K
                  try simp only [Act.put, List.setIfInBounds_toArray, List.set_cons_zero, List.set_cons_succ]
                  refine wpAnyH_ready (rs := [11]) (by kernel_rfl) (by simp) ?_
                  refine stepH 11 rfl (fun K hK => ?_) AllReadyH.nil
                  go_simp
                  refine hK.out _ _ trivial (fun hHeld => ?_)
                  clear hK K
                  try simp only [Act.put, List.setIfInBounds_toArray, List.set_cons_zero, List.set_cons_succ]
                  refine wpAnyH_ready (rs := [12]) (by kernel_rfl) (by simp) ?_
                  refine stepH 12 rfl (fun K hK => ?_) AllReadyH.nil
                  go_simp
                  go_at_call 77
                  refine (HNS.out _).mono ?_
                  rintro e w9 ⟨rfl, rfl⟩
                  refine hK.out _ _ trivial (fun hHeld => ?_)
                  clear hK K
                  try simp only [Act.put, List.setIfInBounds_toArray, List.set_cons_zero, List.set_cons_succ]
                  refine wpAnyH_ready (rs := [14]) (by kernel_rfl) (by simp) ?_
                  refine stepH 14 rfl (fun K hK => ?_) AllReadyH.nil
                  go_simp
                  go_at_call 37
                  refine (rep_send HT9.out HG1.out HE.out hnw HQ3.out HQ4.out HNX.out).out.mono ?_
                  rintro e w10 ⟨rfl, v9, s9, p9, L9, H9⟩
                  refine hK.out _ _ trivial (fun hHeld => ?_)
                  clear hK K
                  try simp only [Act.put, List.setIfInBounds_toArray, List.set_cons_zero, List.set_cons_succ]
                  refine wpAnyH_done (by kernel_rfl) ?_ _
                  go_wp2
                  go_end0
                  exact ⟨rfl, v9, s9, p9, L9, H9.out.1, HRR.out _ _ (.inr (.inr ⟨HE.out, HCK.out, H9.out.2⟩))⟩
                · skip
                  go_simp
                  refine hK.out _ _ trivial (fun hHeld => ?_)
                  clear hK K
                  try simp only [Act.put, List.setIfInBounds_toArray, List.set_cons_zero, List.set_cons_succ]
                  refine wpAnyH_ready (rs := [5]) (by kernel_rfl) (by simp) ?_
                  refine stepH 5 rfl (fun K hK => ?_) AllReadyH.nil
                  go_simp
                  go_at_call 38
                  refine (HGP.out _).mono ?_
                  rintro e w9 ⟨rfl, rfl⟩
                  refine hK.out _ _ trivial (fun hHeld => ?_)
                  clear hK K
                  try simp only [Act.put, List.setIfInBounds_toArray, List.set_cons_zero, List.set_cons_succ]
                  refine wpAnyH_ready (rs := [12]) (by kernel_rfl) (by simp) ?_
                  refine stepH 12 rfl (fun K hK => ?_) AllReadyH.nil
                  go_simp
                  go_at_call 77
                  refine (HNS.out _).mono ?_
                  rintro e w9 ⟨rfl, rfl⟩
                  refine hK.out _ _ trivial (fun hHeld => ?_)
                  clear hK K
                  try simp only [Act.put, List.setIfInBounds_toArray, List.set_cons_zero, List.set_cons_succ]
                  refine wpAnyH_ready (rs := [14]) (by kernel_rfl) (by simp) ?_
                  refine stepH 14 rfl (fun K hK => ?_) AllReadyH.nil
                  go_simp
                  go_at_call 37
                  refine (rep_send HT9.out HG1.out HE.out hnw HQ3.out HQ4.out HNX.out).out.mono ?_
                  rintro e w10 ⟨rfl, v9, s9, p9, L9, H9⟩
                  refine hK.out _ _ trivial (fun hHeld => ?_)
                  clear hK K
                  try simp only [Act.put, List.setIfInBounds_toArray, List.set_cons_zero, List.set_cons_succ]
                  refine wpAnyH_done (by kernel_rfl) ?_ _
                  go_wp2
                  go_end0
                  exact ⟨rfl, v9, s9, p9, L9, H9.out.1, HRR.out _ _ (.inr (.inr ⟨HE.out, HCK.out, H9.out.2⟩))⟩
              · skip
                go_simp
                refine hK.out _ _ trivial (fun hHeld => ?_)
                clear hK K
                try simp only [Act.put, List.setIfInBounds_toArray, List.set_cons_zero, List.set_cons_succ]
                refine wpAnyH_ready (rs := [4]) (by kernel_rfl) (by simp) ?_
                refine stepH 4 rfl (fun K hK => ?_) AllReadyH.nil
                refine step_load (by rfl) 32 _ rfl tb 0 (by rfl) cs _ HR9.out Try.underlying32 rfl hsz1 ?_
                refine hK.out _ _ trivial (fun hHeld => ?_)
                clear hK K
                try simp only [Act.put, List.setIfInBounds_toArray, List.set_cons_zero, List.set_cons_succ]
                refine wpAnyH_ready (rs := [5]) (by kernel_rfl) (by simp) ?_
                refine stepH 5 rfl (fun K hK => ?_) AllReadyH.nil
                go_simp
                go_at_call 38
                refine (HGP.out _).mono ?_
                rintro e w9 ⟨rfl, rfl⟩
                refine hK.out _ _ trivial (fun hHeld => ?_)
                clear hK K
                try simp only [Act.put, List.setIfInBounds_toArray, List.set_cons_zero, List.set_cons_succ]
                refine wpAnyH_ready (rs := [12]) (by kernel_rfl) (by simp) ?_
                refine stepH 12 rfl (fun K hK => ?_) AllReadyH.nil
                go_simp
                go_at_call 77
                refine (HNS.out _).mono ?_
                rintro e w9 ⟨rfl, rfl⟩
                refine hK.out _ _ trivial (fun hHeld => ?_)
                clear hK K
                try simp only [Act.put, List.setIfInBounds_toArray, List.set_cons_zero, List.set_cons_succ]
                refine wpAnyH_ready (rs := [14]) (by kernel_rfl) (by simp) ?_
                refine stepH 14 rfl (fun K hK => ?_) AllReadyH.nil
                go_simp
                go_at_call 37
                refine (rep_send HT9.out HG1.out HE.out hnw HQ3.out HQ4.out HNX.out).out.mono ?_
                rintro e w10 ⟨rfl, v9, s9, p9, L9, H9⟩
                refine hK.out _ _ trivial (fun hHeld => ?_)
                clear hK K
                try simp only [Act.put, List.setIfInBounds_toArray, List.set_cons_zero, List.set_cons_succ]
                refine wpAnyH_done (by kernel_rfl) ?_ _
                go_wp2
                go_end0
                exact ⟨rfl, v9, s9, p9, L9, H9.out.1, HRR.out _ _ (.inr (.inr ⟨HE.out, HCK.out, H9.out.2⟩))⟩
            · have hck2 : ((x.cks : Int) == (s1.lst.ser : Int)) = false := by simp; omega
              go_quiet (fail)
              go_wp2
              go_end0
              exact ⟨rfl, _, _, _, _, (HT7.out.later (below_drewN (Below.refl _ _) nq)).fin ack_each, HRR.out _ _ (.inr (.inl ⟨HE.out, hck, rfl, rfl⟩))⟩
/-- what becomes of a session by a report, in all. -/
def RepA (s : Sn) (x : Sg) (now : Int) (s' : Sn) (L' : List SD) : Prop :=
  (((s.sta != 1) = true ∨ s.sen.contains x.ser = true) ∧ s' = s ∧ L'.map SD.s = [ackS s x]) ∨ (s.sta = 1 ∧ s.sen.contains x.ser = false ∧ RepR s x now s' L')
theorem rep_any (s : Sn) (p : Pt) (tb n0 m : Nat) (x : Sg) (xa : Option Addr) (xc : Nat) (a2 : Option Addr) (c2 : Nat) (now : Int) (w0 w : World) (hT : TnO w0 w tb n0 m (.slice none 0 0) s p []) (hN : OwnN w m s p) (hok : okU s = true) (hm : m = w0.heap.size) (hx : Came w0 x xa xc a2 c2) (hxo : okS x = true) (hxk : x.knd = 2) (hnow : inB now 0 1048576 = true) :
    Calls Try.prog 48 #[.pointer (some ⟨tb, 0, none⟩), sv x xa xc a2 c2, .int .i64 now] w fun e w' => e = .returned (.tuple #[]) ∧ ∃ v' s' p' L', Hid (FinT m w0 w' tb n0 v' s' p' L' ∧ RepA s x now s' L') := by
  cases hs : (s.sta != 1) with
  | true =>
    refine (rep_a s p (.slice none 0 0) tb n0 [] x xa xc a2 c2 now w hT.sy (Nat.zero_le _) hs).mono ?_
    rintro e w' ⟨rfl, v', hA⟩
    exact ⟨rfl, v', s, p, _, (tn_ack hT hN hA.out).1.fin ack_each, .inl ⟨.inl hs, rfl, rfl⟩⟩
  | false =>
    have hs1 : s.sta = 1 := by simpa using hs
    cases hc : s.sen.contains x.ser with
    | true =>
      have hq : SeenAt w tb n0 (.slice none 0 0) s p m := ⟨hN.own, fun k e => by obtain ⟨b, e1, e2⟩ := own_an.1 e; rw [← e2]; exact hT.an b e1, hT.came.sen.1, by
        have := (okU_parts hok).2.2.2.2.2.2.2.2.2.2.2
        simp only [seenU, Bool.and_eq_true, decide_eq_true_eq] at this
        exact this.1⟩
      refine (rep_b s p (.slice none 0 0) tb n0 m [] x xa xc a2 c2 now w hT.sy (Nat.zero_le _) hx.fit.ser hq hs hc).mono ?_
      rintro e w' ⟨rfl, v', hA⟩
      exact ⟨rfl, v', s, p, _, (tn_ack hT hN hA.out).1.fin ack_each, .inl ⟨.inr hc, rfl, rfl⟩⟩
    | false =>
      refine (rep_c s p tb n0 m x xa xc a2 c2 now w0 w hT hN hok hm hx hxo hxk hnow hs1 hc).mono ?_
      rintro e w' ⟨rfl, v', s', p', L', h⟩
      exact ⟨rfl, v', s', p', L', h.out.1, .inr ⟨hs1, hc, h.out.2⟩⟩
end Go.Proofs.Ytnjcaolkcmpdcaa
