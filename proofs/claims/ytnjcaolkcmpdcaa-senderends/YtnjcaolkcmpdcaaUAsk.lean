/- sayCancel, giveUp, ask. -/
import Derived.Test.YtnjcaolkcmpdcaaUFin
namespace Go.Proofs.Ytnjcaolkcmpdcaa
open Go.RowKit Go.Shelf
set_option linter.unusedVariables false
/-- what cancels a session. -/
def canS (s : Sn) (r : Int) : Sg := ⟨4, s.bgn.src, s.bgn.ses, 0, 0, 0, 0, 0, 0, r, false, [], []⟩
/-- a turn whose numbers are set. -/
theorem TnO.put {w wd we : World} {tb n0 m : Nat} {v : Value} {s s' : Sn} {p : Pt} {L : List SD} (h : TnO w wd tb n0 m v s p L) (hb : we.heap[tb]? = some (tnc s' p v)) (ho : Off (fun i => i = tb) wd we) (e1 : s'.bgn = s.bgn) (e2 : s'.got = s.got) (e3 : s'.lst = s.lst) (e4 : s'.sen = s.sen) (z1 : in64 s'.sta) (z2 : in64 s'.due) (z3 : in64 s'.ask) (z4 : in64 s'.rea) : TnO w we tb n0 m v s' p L := by
  obtain ⟨b', sta', got', lst', due', ask', sen', rea'⟩ := s'
  simp only at e1 e2 e3 e4
  subst e1 e2 e3 e4
  have h0 := h.came
  refine ⟨⟨hb, ho.owns h.sy.own (fun k e t => by have := own_ge h.sy.own k e; have := h.sy.lt; have : k = tb := t; omega), h.sy.lt, Nat.le_trans h.sy.le ho.size⟩, { h0 with blk := h0.blk.off ho (fun z b e t => (h.ab z b e).1 t), got := h0.got.off ho (fun z b e t => (h.ag z b e).1 t), lst := ⟨h0.lst.fit, h0.lst.row.off ho (fun z b e t => (h.ad z b e).1 t), ?_, h0.lst.le, h0.lst.cap, h0.lst.lec, h0.lst.capc⟩, sen := h0.sen.off ho (fun _ b e t => (h.an b e).1 t), sta := z1, due := z2, ask := z3, rea := z4 }, h.new, h.ab, h.ag, h.ad, h.an, h.cls, h.bel.trans (ho.below (Nat.le_trans h.le (Nat.le_of_lt (Array.getElem?_eq_some_iff.1 h.sy.box).1)) (fun i e => by have : i = tb := e; have := h.le; omega)), h.le⟩
  show RowC _ _ s.lst.cls
  rw [h.cls]
  exact rowC_nil _ _
theorem OwnN.put {w wd we : World} {tb n0 m : Nat} {v : Value} {s s' : Sn} {p : Pt} {L : List SD} (h : TnO w wd tb n0 m v s p L) (hN : OwnN wd m s p) (ho : Off (fun i => i = tb) wd we) (e1 : s'.bgn = s.bgn) (e4 : s'.sen = s.sen) : OwnN we m s' p := by
  obtain ⟨b', sta', got', lst', due', ask', sen', rea'⟩ := s'
  simp only at e1 e4
  subst e1 e4
  exact ⟨ho.owns hN.own (fun g e t => by obtain ⟨b, e1, e2⟩ := own_an.1 e; have : g = tb := t; exact (h.an b e1).1 (by omega)), hN.ab, hN.ad⟩
/-- a turn that has said its first segment. -/
theorem tn_say {w0 w w' : World} {tb n0 m : Nat} {v' : Value} {s : Sn} {p : Pt} {y : SD} (hT : TnO w0 w tb n0 m (.slice none 0 0) s p []) (hN : OwnN w m s p) (hs : Sy w' tb n0 s p v' [y]) (hoff : Off (fun i => i = tb ∨ (Value.slice none 0 0).ownBlock = some i) w w') (hvo : ∀ k, v'.ownBlock = some k → (Value.slice none 0 0).ownBlock = some k ∨ w.heap.size ≤ k) : TnO w0 w' tb n0 m v' s p [y] ∧ OwnN w' m s p := by
  have ho : Off (fun i => i = tb) w w' := hoff.mono (fun i _ t => by rcases t with t | t; exact t; cases t)
  have hlt : tb < w.heap.size := (Array.getElem?_eq_some_iff.1 hT.sy.box).1
  have hv : ∀ k, k < w.heap.size → v'.ownBlock ≠ some k := fun k hk e => by
    rcases hvo k e with q | q
    · cases q
    · omega
  have h0 := hT.came
  refine ⟨⟨hs, { h0 with blk := h0.blk.off ho (fun z b e t => (hT.ab z b e).1 t), got := h0.got.off ho (fun z b e t => (hT.ag z b e).1 t), lst := ⟨h0.lst.fit, h0.lst.row.off ho (fun z b e t => (hT.ad z b e).1 t), ?_, h0.lst.le, h0.lst.cap, h0.lst.lec, h0.lst.capc⟩, sen := h0.sen.off ho (fun _ b e t => (hT.an b e).1 t) }, hT.new, fun z b e => ⟨(hT.ab z b e).1, hv _ (row_lt h0.blk z b e)⟩, fun z b e => ⟨(hT.ag z b e).1, hv _ (rowC_lt h0.got z b e)⟩, fun z b e => ⟨(hT.ad z b e).1, hv _ (row_lt h0.lst.row z b e)⟩, fun b e => ⟨(hT.an b e).1, hv _ (own_lt hN.own b.block (own_an.2 ⟨b, e, rfl⟩))⟩, hT.cls, hT.bel.trans (ho.below (Nat.le_trans hT.le (Nat.le_of_lt hlt)) (fun i e => by have : i = tb := e; have := hT.le; omega)), hT.le⟩, ⟨ho.owns hN.own (fun g e t => ?_), hN.ab, hN.ad⟩⟩
  · show RowC _ _ s.lst.cls
    rw [hT.cls]
    exact rowC_nil _ _
  · obtain ⟨b, e1, e2⟩ := own_an.1 e
    have : g = tb := t
    exact (hT.an b e1).1 (by omega)
set_option maxRecDepth 20000 in
set_option maxHeartbeats 4000000 in
theorem sayc_any (s : Sn) (p : Pt) (tb n0 m : Nat) (w0 w : World) (hT : TnO w0 w tb n0 m (.slice none 0 0) s p []) (hN : OwnN w m s p) :
    Calls Try.prog 81 #[.pointer (some ⟨tb, 0, none⟩)] w fun e w' => e = .returned (.tuple #[]) ∧ ∃ v', Hid (TnO w0 w' tb n0 m v' s p [⟨canS s s.rea, none, 0, none, 0⟩]) := by
  have HSY : Hid (Calls Try.prog 49 #[.pointer (some ⟨tb, 0, none⟩), .agg #[.int .i64 4, .int .i64 0, .int .u32 0, .int .u32 0, .int .u32 0, .int .i64 0, .int .i64 0, .int .i64 0, .int .i64 0, .int .i64 s.rea, .bool false, .slice none 0 0, .slice none 0 0]] w fun e w' => e = .returned (.tuple #[]) ∧ ∃ v', Hid (TnO w0 w' tb n0 m v' s p [⟨canS s s.rea, none, 0, none, 0⟩])) := by
    refine (say_any s p (.slice none 0 0) tb n0 [] ⟨⟨4, 0, 0, 0, 0, 0, 0, 0, 0, s.rea, false, [], []⟩, none, 0, none, 0⟩ w hT.sy (Nat.zero_le _)).mono ?_
    rintro e w' ⟨rfl, hq⟩
    obtain ⟨v', q1, q2, q3⟩ := hq.out
    exact ⟨rfl, v', (tn_say hT hN q1 q2 q3).1⟩
  have k23 := (tcells_get hT.sy.box).2.2.2.2.2.2.2.2.2.2.2.2.2.2.2.2.2.2.2.2.2.2.2.1
  clear hT hN
  go_enter Try.func81, Try.ntmps81
  go_wp2_with (go_at_call 49; refine HSY.out.mono ?_; rintro e w2 ⟨rfl, v', H2⟩)
  go_end0
  exact ⟨rfl, v', H2⟩
set_option maxRecDepth 20000 in
set_option maxHeartbeats 4000000 in
theorem giveup_any (s : Sn) (p : Pt) (tb n0 m : Nat) (r now : Int) (w0 w : World) (hT : TnO w0 w tb n0 m (.slice none 0 0) s p []) (hN : OwnN w m s p) (hnow : 0 ≤ now ∧ now ≤ 1048576) (hwai : 1 ≤ s.bgn.wai ∧ s.bgn.wai ≤ 4096) (hr : in64 r) :
    Calls Try.prog 58 #[.pointer (some ⟨tb, 0, none⟩), .int .i64 r, .int .i64 now] w fun e w' => e = .returned (.tuple #[]) ∧ ∃ v', Hid (TnO w0 w' tb n0 m v' { s with sta := 3, rea := r, due := now + s.bgn.wai, ask := 0 } p [⟨canS s r, none, 0, none, 0⟩]) := by
  have HT : Hid (TnO w0 w tb n0 m (.slice none 0 0) s p [] ∧ OwnN w m s p) := ⟨hT, hN⟩
  have k5 := (tcells_get hT.sy.box).2.2.2.2.2.1
  have k23 := (tcells_get hT.sy.box).2.2.2.2.2.2.2.2.2.2.2.2.2.2.2.2.2.2.2.2.2.2.2.1
  have ff := frozen_of hT.sy.box
  have ho2 : Off (fun i => i = tb) w ((w.setCell ⟨tb, 5, none⟩ (.int .i64 3)).setCell ⟨tb, 23, none⟩ (.int .i64 r)) := ((Off.refl (fun i => i = tb) w).setCell (p := ⟨tb, 5, none⟩) (.inr rfl) _).setCell (p := ⟨tb, 23, none⟩) (.inr rfl) _
  have hbx : ((w.setCell ⟨tb, 5, none⟩ (.int .i64 3)).setCell ⟨tb, 23, none⟩ (.int .i64 r)).heap[tb]? = some (tnc { s with sta := 3, rea := r } p (.slice none 0 0)) := by
    rw [heap_setCell_same _ _ _ _ _ _ (heap_setCell_same _ _ _ _ _ _ hT.sy.box)]
    rfl
  have HWT : Hid (Calls Try.prog 69 #[.pointer (some ⟨tb, 0, none⟩), .int .i64 now] ((w.setCell ⟨tb, 5, none⟩ (.int .i64 3)).setCell ⟨tb, 23, none⟩ (.int .i64 r)) fun e w' => e = .returned (.tuple #[]) ∧ Hid (TnO w0 w' tb n0 m (.slice none 0 0) { s with sta := 3, rea := r, due := now + s.bgn.wai, ask := 0 } p [] ∧ OwnN w' m { s with sta := 3, rea := r, due := now + s.bgn.wai, ask := 0 } p)) := by
    refine (wait_any { s with sta := 3, rea := r } p (.slice none 0 0) tb now _ hbx hnow hwai).mono ?_
    rintro e w' ⟨rfl, rfl⟩
    have ho4 := ((Off.refl (fun i => i = tb) ((w.setCell ⟨tb, 5, none⟩ (.int .i64 3)).setCell ⟨tb, 23, none⟩ (.int .i64 r))).setCell (p := ⟨tb, 20, none⟩) (.inr rfl) (.int .i64 (now + s.bgn.wai))).setCell (p := ⟨tb, 21, none⟩) (.inr rfl) (.int .i64 0)
    have ho := ho2.trans ho4 (fun _ _ t => t)
    refine ⟨rfl, hT.put (s' := { s with sta := 3, rea := r, due := now + s.bgn.wai, ask := 0 }) ?_ ho rfl rfl rfl rfl (by show in64 3; unfold in64; omega) (by show in64 (now + s.bgn.wai); unfold in64; omega) (by show in64 0; unfold in64; omega) hr, OwnN.put (s' := { s with sta := 3, rea := r, due := now + s.bgn.wai, ask := 0 }) hT hN ho rfl rfl⟩
    rw [heap_setCell_same _ _ _ _ _ _ (heap_setCell_same _ _ _ _ _ _ hbx)]
    rfl
  clear hT hN hbx
  go_enter Try.func58, Try.ntmps58
  go_wp2_with (first | (go_at_call 69; refine HWT.out.mono ?_; rintro e w2 ⟨rfl, H2⟩) | (go_at_call 81; refine (sayc_any _ p tb n0 m w0 w2 H2.out.1 H2.out.2).mono ?_; rintro e w3 ⟨rfl, v3, H3⟩))
  go_end0
  exact ⟨rfl, v3, H3⟩
theorem t_mid {W : World} {b : Nat} {s : Sn} {p : Pt} {x : Value} (h : W.heap[b]? = some (tnc s p x)) : W.rangeAt b 7 (sgcells s.lst p.ad p.cd p.ac p.cc) := by
  intro j v hv
  have hj : j < 13 := (List.getElem?_eq_some_iff.1 hv).1
  have := t_range h (7 + j) v (by rw [show tcells s p x = [.int .i64 s.bgn.src, .int .u32 (s.bgn.ses : Nat), .slice p.ab s.bgn.blk.length p.cb, .int .i64 s.bgn.wai, .int .i64 s.bgn.tri, .int .i64 s.sta, .slice p.ag s.got.length p.cg] ++ (sgcells s.lst p.ad p.cd p.ac p.cc ++ [.int .i64 s.due, .int .i64 s.ask, .slice p.an s.sen.length p.cn, .int .i64 s.rea, x]) from rfl, List.getElem?_append_right (by simp), List.getElem?_append_left (by simpa using hj)]; simpa using hv)
  rw [Nat.zero_add] at this
  exact this
/-- what becomes of a session that asks again. -/
def AskR (s : Sn) (now : Int) (s' : Sn) (L' : List SD) : Prop :=
  (s.ask = s.bgn.tri ∧ s.sta = 1 ∧ s' = { s with sta := 3, rea := 1, due := now + s.bgn.wai, ask := 0 } ∧ L'.map SD.s = [canS s 1]) ∨
  (s.ask = s.bgn.tri ∧ s.sta ≠ 1 ∧ s' = { s with sta := 4 } ∧ L' = []) ∨
  (s.ask ≠ s.bgn.tri ∧ s.sta = 1 ∧ s' = { s with ask := s.ask + 1, due := now + s.bgn.wai } ∧ L'.map SD.s = [s.lst]) ∨
  (s.ask ≠ s.bgn.tri ∧ s.sta ≠ 1 ∧ s' = { s with ask := s.ask + 1, due := now + s.bgn.wai } ∧ L'.map SD.s = [canS s s.rea])
theorem OwnN.later {w w' : World} {m : Nat} {s : Sn} {p : Pt} (h : OwnN w m s p) (hb : Below w.heap.size w w') : OwnN w' m s p := ⟨(Off.of_below (S := fun _ => False) hb).owns h.own (fun _ _ t => t), h.ab, h.ad⟩
/-- asked once more. -/
theorem ask_put {w0 w3 : World} {tb n0 m : Nat} {v : Value} {s : Sn} {p : Pt} {L : List SD} {now : Int} (hT : TnO w0 w3 tb n0 m v s p L) (hd : in64 (now + s.bgn.wai)) (ha : in64 (s.ask + 1)) : Hid (TnO w0 ((w3.setCell ⟨tb, 21, none⟩ (.int .i64 (s.ask + 1))).setCell ⟨tb, 20, none⟩ (.int .i64 (now + s.bgn.wai))) tb n0 m v { s with ask := s.ask + 1, due := now + s.bgn.wai } p L) := by
  have ho := ((Off.refl (fun i => i = tb) w3).setCell (p := ⟨tb, 21, none⟩) (.inr rfl) (.int .i64 (s.ask + 1))).setCell (p := ⟨tb, 20, none⟩) (.inr rfl) (.int .i64 (now + s.bgn.wai))
  refine hT.put (s' := { s with ask := s.ask + 1, due := now + s.bgn.wai }) ?_ ho rfl rfl rfl rfl hT.came.sta hd ha hT.came.rea
  rw [heap_setCell_same _ _ _ _ _ _ (heap_setCell_same _ _ _ _ _ _ hT.sy.box)]
  rfl
theorem tn_asks {w0 w3 : World} {tb n0 m : Nat} {v : Value} {s : Sn} {p : Pt} {L : List SD} (hT : TnO w0 w3 tb n0 m v s p L) : w3.cell? ⟨tb, 3, none⟩ = some (.int .i64 s.bgn.wai) ∧ w3.cell? ⟨tb, 4, none⟩ = some (.int .i64 s.bgn.tri) ∧ w3.cell? ⟨tb, 5, none⟩ = some (.int .i64 s.sta) ∧ w3.cell? ⟨tb, 20, none⟩ = some (.int .i64 s.due) ∧ w3.cell? ⟨tb, 21, none⟩ = some (.int .i64 s.ask) ∧ (∀ j, w3.frozen? ⟨tb, j, none⟩ = false) :=
  ⟨by rw [cell_of hT.sy.box]; rfl, by rw [cell_of hT.sy.box]; rfl, by rw [cell_of hT.sy.box]; rfl, by rw [cell_of hT.sy.box]; rfl, by rw [cell_of hT.sy.box]; rfl, frozen_of hT.sy.box⟩
theorem lst_own {s : Sn} (h : okU s = true) : ({ s.lst with src := s.bgn.src, ses := s.bgn.ses } : Sg) = s.lst := by
  have h4 := (okU_parts h).2.2.2.2.2.2.2.2.2.2.1
  simp only [lastU, Bool.and_eq_true, decide_eq_true_eq] at h4
  obtain ⟨_, _, _, h1, h2, _⟩ := h4
  have h2 : s.lst.ses = s.bgn.ses := by omega
  rw [← h1, ← h2]
theorem can_each {w : World} {s : Sn} {r : Int} : EachD w [(⟨canS s r, none, 0, none, 0⟩ : SD)] := by
  intro y hy
  simp only [List.mem_singleton] at hy
  subst hy
  exact ⟨row_nil _ _, Nat.zero_le _, Nat.zero_le _, .inl ⟨rfl, rfl⟩⟩
set_option maxRecDepth 20000 in
set_option maxHeartbeats 8000000 in
theorem ask_any (s : Sn) (p : Pt) (tb n0 m : Nat) (now : Int) (w0 w : World) (hT : TnO w0 w tb n0 m (.slice none 0 0) s p []) (hN : OwnN w m s p) (hok : okU s = true) (hnow : 0 ≤ now ∧ now ≤ 1048576) :
    Calls Try.prog 57 #[.pointer (some ⟨tb, 0, none⟩), .int .i64 now] w fun e w' => e = .returned (.tuple #[]) ∧ ∃ v' s' L', Hid (TnO w0 w' tb n0 m v' s' p L' ∧ EachD w' L' ∧ AskR s now s' L') := by
  obtain ⟨q1, q2, q3, q4, q5, q6, q7, q8, q9, q10, q11, q12⟩ := okU_parts hok
  have HT : Hid (TnO w0 w tb n0 m (.slice none 0 0) s p [] ∧ OwnN w m s p) := ⟨hT, hN⟩
  obtain ⟨k3, k4, k5, k20, k21, ff⟩ := tn_asks hT
  have hd : in64 (now + s.bgn.wai) := by unfold in64; omega
  have ha : in64 (s.ask + 1) := by unfold in64; omega
  have HD : Hid (in64 (now + s.bgn.wai) ∧ in64 (s.ask + 1)) := ⟨hd, ha⟩
  by_cases h1 : s.sta = 1
  · by_cases h2 : s.ask = s.bgn.tri
    · have HGU : Hid (∀ W, Below w.heap.size w W → Calls Try.prog 58 #[.pointer (some ⟨tb, 0, none⟩), .int .i64 1, .int .i64 now] W fun e w' => e = .returned (.tuple #[]) ∧ ∃ v', Hid (TnO w0 w' tb n0 m v' { s with sta := 3, rea := 1, due := now + s.bgn.wai, ask := 0 } p [⟨canS s 1, none, 0, none, 0⟩])) := fun W hb => giveup_any s p tb n0 m 1 now w0 W (hT.later hb) (hN.later hb) hnow q4 (by unfold in64; omega)
      have HR : Hid (s.ask = s.bgn.tri ∧ s.sta = 1) := ⟨h2, h1⟩
      rw [h1] at k5
      rw [h2] at k21
      clear hT hN hok hd ha h1 h2 q1 q2 q3 q5 q6 q7 q8 q9 q10 q11 q12
      go_enter Try.func57, Try.ntmps57
      go_wp2_with fail
      go_quiet (fail)
      go_wp2_with (go_at_call 58; refine (HGU.out _ (below_drewN (Below.refl _ _) _)).mono ?_; rintro e w2 ⟨rfl, v2, H2⟩)
      refine bodyPost_ret (results_none rfl _ _ _) rfl ?_
      exact ⟨rfl, v2, _, _, H2.out, can_each, .inl ⟨HR.out.1, HR.out.2, rfl, rfl⟩⟩
    · have hb2 : (s.ask == s.bgn.tri) = false := by simpa using h2
      have HLS : Hid (({ s.lst with src := s.bgn.src, ses := s.bgn.ses } : Sg) = s.lst) := lst_own hok
      obtain ⟨cs, hcs⟩ : ∃ cs, Hid (cs = sgcells s.lst p.ad p.cd p.ac p.cc) := ⟨_, rfl⟩
      have hsz1 : (Try.prog.info? 29).map (·.size) = some cs.length := by rw [show cs.length = 13 by rw [hcs.out]; rfl]; kernel_rfl
      have HR1 : Hid (∀ n, (w.drewN n).rangeAt tb 7 cs) := fun n => by rw [hcs.out]; exact t_mid (show (w.drewN n).heap[tb]? = _ from hT.sy.box)
      have HDS : Hid (∀ W, Below w.heap.size w W → Calls Try.prog 67 #[.agg cs.toArray] W fun e w' => ∃ l : List Value, e = .returned (.agg l.toArray) ∧ Hid (Below w.heap.size w w' ∧ (Calls Try.prog 49 #[.pointer (some ⟨tb, 0, none⟩), .agg l.toArray] w' fun e w2 => e = .returned (.tuple #[]) ∧ ∃ v' L', Hid (TnO w0 w2 tb n0 m v' s p L' ∧ (∀ W', Off (fun i => i = tb) w2 W' → EachD W' L') ∧ L'.map SD.s = [s.lst])))) := fun W hb => by
        rw [hcs.out]
        have hsm := small_of hok
        refine (deepS_any s.lst p.ad p.cd p.ac p.cc W (hT.came.lst.later hb) hsm.dat hsm.cls).mono ?_
        rintro e w' ⟨a', c', a2', c2', rfl, hq⟩
        obtain ⟨hb1, hc1, hn1, hn2⟩ := hq.out
        have hb2 := below_of hb hb1
        refine ⟨_, rfl, hb2, ?_⟩
        refine (say_any s p (.slice none 0 0) tb n0 [] ⟨s.lst, a', c', a2', c2'⟩ w' (hT.later hb2).sy (Nat.zero_le _)).mono ?_
        rintro e w2 ⟨rfl, hq2⟩
        obtain ⟨v', q1, q2, q3⟩ := hq2.out
        rw [HLS.out] at q1
        have hcl : s.lst.cls = [] := hT.cls
        have ho : Off (fun i => i = tb) w' w2 := q2.mono (fun i _ t => by rcases t with t | t; exact t; cases t)
        have hlt : tb < W.heap.size := Nat.lt_of_lt_of_le (Array.getElem?_eq_some_iff.1 hT.sy.box).1 hb.size
        refine ⟨rfl, v', _, (tn_say (hT.later hb2) (hN.later hb2) q1 q2 q3).1, fun W' ho' y hy => ?_, rfl⟩
        simp only [List.mem_singleton] at hy
        subst hy
        exact ⟨hc1.row.off (ho.trans ho' (fun _ _ t => t)) (fun z b e t => by have h1 := hn1 b e; have h2 : b.block = tb := t; omega), hc1.le, hc1.cap, .inr ⟨hcl, hc1.capc⟩⟩
      have HA : Hid (s.ask ≠ s.bgn.tri ∧ s.sta = 1) := ⟨h2, h1⟩
      clear hT hN hok hd ha h2 q1 q2 q3 q6 q7 q9 q10 q11 q12
      rw [h1] at k5
      clear h1
      go_enter Try.func57, Try.ntmps57
      go_wp2_with fail
      go_quiet (fail)
      go_wp2_with fail
      go_quiet (fail)
      go_wp2_with (first | (refine wpList_load_mid rfl 29 _ rfl tb 7 (by rfl) cs _ (HR1.out _) Try.underlying29 rfl hsz1 ?_) | (go_at_call 67; refine (HDS.out _ (below_drewN (Below.refl _ _) _)).mono ?_; rintro e w2 ⟨l, rfl, HL⟩) | (go_at_call 49; refine HL.out.2.mono ?_; rintro e w3 ⟨rfl, v3, L3, H3⟩; obtain ⟨g3, g4, g5, g20, g21, gf⟩ := tn_asks H3.out.1))
      go_end0
      exact ⟨rfl, v3, _, _, (ask_put H3.out.1 HD.out.1 HD.out.2).out, H3.out.2.1 _ (((Off.refl (fun i => i = tb) w3).setCell (p := ⟨tb, 21, none⟩) (.inr rfl) _).setCell (p := ⟨tb, 20, none⟩) (.inr rfl) _), .inr (.inr (.inl ⟨HA.out.1, HA.out.2, rfl, H3.out.2.2⟩))⟩
  · have hb1 : (s.sta == 1) = false := by simpa using h1
    by_cases h2 : s.ask = s.bgn.tri
    · have HR : Hid (s.ask = s.bgn.tri ∧ s.sta ≠ 1) := ⟨h2, h1⟩
      rw [h2] at k21
      clear hT hN hok hd ha h1 h2 q1 q2 q3 q5 q6 q7 q8 q9 q10 q11 q12
      go_enter Try.func57, Try.ntmps57
      go_wp2_with fail
      go_quiet (fail)
      go_wp2_with fail
      go_quiet (fail)
      go_wp2
      refine bodyPost_ret (results_none rfl _ _ _) rfl ?_
      exact ⟨rfl, _, _, _, (HT.out.1.later (below_drewN (Below.refl _ _) _)).sta 4 (by unfold in64; omega), fun y hy => absurd hy List.not_mem_nil, .inr (.inl ⟨HR.out.1, HR.out.2, rfl, rfl⟩)⟩
    · have hb2 : (s.ask == s.bgn.tri) = false := by simpa using h2
      have HA : Hid (s.ask ≠ s.bgn.tri ∧ s.sta ≠ 1) := ⟨h2, h1⟩
      have HSC : Hid (∀ W, Below w.heap.size w W → Calls Try.prog 81 #[.pointer (some ⟨tb, 0, none⟩)] W fun e w' => e = .returned (.tuple #[]) ∧ ∃ v', Hid (TnO w0 w' tb n0 m v' s p [⟨canS s s.rea, none, 0, none, 0⟩])) := fun W hb => sayc_any s p tb n0 m w0 W (hT.later hb) (hN.later hb)
      clear hT hN hok hd ha h1 h2 q1 q2 q3 q6 q7 q9 q10 q11 q12
      go_enter Try.func57, Try.ntmps57
      go_wp2_with fail
      go_quiet (fail)
      go_wp2_with fail
      go_quiet (fail)
      go_wp2_with (go_at_call 81; refine (HSC.out _ (below_drewN (Below.refl _ _) _)).mono ?_; rintro e w3 ⟨rfl, v3, H3⟩; obtain ⟨g3, g4, g5, g20, g21, gf⟩ := tn_asks H3.out)
      go_end0
      exact ⟨rfl, v3, _, _, (ask_put H3.out HD.out.1 HD.out.2).out, can_each, .inr (.inr (.inr ⟨HA.out.1, HA.out.2, rfl, rfl⟩))⟩
end Go.Proofs.Ytnjcaolkcmpdcaa
