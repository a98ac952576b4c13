/- The law SenderEnds. -/
import Derived.Test.YtnjcaolkcmpdcaaUTick
import Derived.Test.YtnjcaolkcmpdcaaUWak2
import Derived.Test.YtnjcaolkcmpdcaaUEndQ
namespace Go.Proofs.Ytnjcaolkcmpdcaa
open Go.RowKit
set_option linter.unusedVariables false
/-- behind New: the session that begins, in a block of its own. -/
structure EnN (w w1 : World) (cs : List Value) (x : Bg) (s1 : Sn) (p1 : Pt) : Prop where
  bel : Below w.heap.size w w1
  cs : cs = sncells s1 p1
  came : CameS w1 s1 p1
  ok : okU s1 = true
  bgn : s1.bgn = x
  sta : s1.sta = 1
  due : s1.due = x.wai
  ask : s1.ask = 0
theorem ends_new (x : Bg) (a : Option Addr) (c : Nat) (W : World) (hb : Row W a x.blk) (hl : x.blk.length ≤ c ∧ c ≤ maxLen) (hok : okB x = true) (hs : x.ses < 4294967296) : Calls Try.prog 10 #[bgv x a c, .int .i64 0] W fun e w' => ∃ cs v s1 p1, e = .returned (.tuple #[.agg cs.toArray, v, .int .i64 0]) ∧ Hid (EnN W w' cs x s1 p1) := by
  refine (new_ok x a c 0 W hb hl hok hs (by decide)).mono ?_
  rintro e w' ⟨v', s1, p1, L, rfl, hq⟩
  obtain ⟨h1, hN⟩ := hq.out
  obtain ⟨M, X, hL, hm, hs1⟩ := hN.what
  have hok1 := first_ok hok (by omega) hm hs1
  refine ⟨_, v', s1, p1, rfl, h1, rfl, hN.came, hok1, ?_, ?_, ?_, ?_⟩
  · rw [hs1]; rfl
  · rw [hs1]; rfl
  · rw [hs1]; simp
  · rw [hs1]
theorem bg_put {w3 : World} {b : Nat} {x : Bg} {a a3 : Option Addr} {c c3 : Nat} {B : List Nat} (h : w3.heap[b]? = some (bgc x a c)) (hr : Row w3 a3 B) (hn : ∀ bb, a3 = some bb → bb.block ≠ b) : Hid ((w3.setCell ⟨b, 2, none⟩ (.slice a3 B.length c3)).heap[b]? = some (bgc { x with blk := B } a3 c3)) ∧ Hid (Row (w3.setCell ⟨b, 2, none⟩ (.slice a3 B.length c3)) a3 B) := by
  have ho : Off (fun i => i = b) w3 (w3.setCell ⟨b, 2, none⟩ (.slice a3 B.length c3)) := (Off.refl (fun i => i = b) w3).setCell (p := ⟨b, 2, none⟩) (.inr rfl) _
  refine ⟨?_, hr.off ho (fun _ bb e t => hn bb e t)⟩
  show _ = _
  rw [heap_setCell_same _ _ _ _ _ _ h]
  rfl
theorem ends_app {w w2 w3 : World} {a a3 : Option Addr} {c c3 : Nat} {x : Bg} {B : List Nat} (hB : Row w a B) (hl : B.length ≤ 600) (hb : Below w.heap.size w w2) (hs : w.heap.size < w2.heap.size) (hq : App0 (w2.alloc (.cells #[] 5)) w3 5 1 (some ⟨w2.heap.size, 0, none⟩) a3 B.length c3 (cells B)) (hx : w3.heap[w.heap.size]? = some (bgc x a c)) :
    Hid (Below w.heap.size w (w3.setCell ⟨w.heap.size, 2, none⟩ (.slice a3 B.length c3)) ∧ (w3.setCell ⟨w.heap.size, 2, none⟩ (.slice a3 B.length c3)).heap[w.heap.size]? = some (bgc { x with blk := B } a3 c3) ∧ Row (w3.setCell ⟨w.heap.size, 2, none⟩ (.slice a3 B.length c3)) a3 B ∧ B.length ≤ c3 ∧ c3 ≤ maxLen) := by
  obtain ⟨h1, h2, h3, h4⟩ := hq.row hB.1 hB.2.1
  have hb2 : Below w2.heap.size w2 w3 := below_of ((Below.refl _ w2).alloc (Nat.le_refl _) _) hq.bel
  have ho : Off (fun i => i = w.heap.size) w3 (w3.setCell ⟨w.heap.size, 2, none⟩ (.slice a3 B.length c3)) := (Off.refl (fun i => i = w.heap.size) w3).setCell (p := ⟨w.heap.size, 2, none⟩) (.inr rfl) _
  obtain ⟨q1, q2⟩ := bg_put (c3 := c3) hx h1 (fun bb e => by
    rcases h4 bb e with h | h
    · cases h
      show w2.heap.size ≠ _
      omega
    · have : w2.heap.size + 1 ≤ bb.block := by simpa using h
      omega)
  exact ⟨(below_of hb hb2).trans (ho.below (Nat.le_trans (Nat.le_of_lt hs) hb2.size) (fun i e => by have : i = w.heap.size := e; omega)), q1.out, q2.out, h2, h3⟩
theorem end_first {w w1 : World} {cs : List Value} {x : Bg} {s1 : Sn} {p1 : Pt} {T L : Int} (h : EnN w w1 cs x s1 p1) (hT : 0 ≤ T) : endS s1 T x.wai L 0 = s1 := by
  unfold endS
  rw [if_pos (by show ((0 : Nat) : Int) ≤ T; omega), if_pos rfl]
  have h1 := h.due
  have h2 := h.ask
  cases s1
  simp only at h1 h2
  subst h1 h2
  rfl
/-- rows that are new, or none. -/
def TkR (n : Nat) (s : Sn) (p : Pt) : Prop := (∀ b, p.ag = some b → n ≤ b.block) ∧ (∀ b, p.an = some b → n ≤ b.block) ∧ s.lst.cls = []
theorem no_u8q {W : World} {rb o : Nat} {k : Int} {s : Sn} {p : Pt} (h : W.heap[rb]? = some (snc s p)) : W.cell? ⟨rb, o, none⟩ ≠ some (.int .u8 k) := by
  rw [cell_of h]
  intro e
  rw [List.getElem?_toArray] at e
  have := List.mem_of_getElem? e
  simp at this
theorem row_q {W W' : World} {rb : Nat} {a : Option Addr} {l : List Nat} {s : Sn} {p : Pt} (h : Row W a l) (hr : W.heap[rb]? = some (snc s p)) (ho : Off (fun i => i = rb) W W') : Row W' a l := by
  refine ⟨h.1, h.2.1, fun h0 => ?_⟩
  obtain ⟨b, off, e, hc⟩ := h.2.2 h0
  refine ⟨b, off, e, fun i hi => ho.cell (hc i hi) (fun q => ?_)⟩
  have q : b = rb := q
  subst q
  exact no_u8q hr (hc i hi)
theorem ends_tick {s : Sn} {T W L now : Int} (h : EndI s T W L) {k : Nat} (hk : (k : Int) < 2 * T + 1) {w : World} {p : Pt} (hc : CameS w (endS s T W L k) p) {ck : List Value} (hck : ck = sncells (endS s T W L k) p) (hn : now = ((k : Int) + 1) * W + L) (hn2 : 0 ≤ now ∧ now ≤ 1048576) :
    Hid (Calls Try.prog 25 #[.agg ck.toArray, .int .i64 now] w fun e w' => ∃ c2 p2 a2 e2, e = .returned (.tuple #[.agg c2.toArray, .slice a2 1 e2, .int .i64 0]) ∧ Hid (c2 = sncells (endS s T W L (k + 1)) p2 ∧ Below w.heap.size w w' ∧ CameS w' (endS s T W L (k + 1)) p2 ∧ TkR w.heap.size (endS s T W L (k + 1)) p2)) := by
  subst hck
  refine (tick_ok (endS s T W L k) p now w hc (end_ok h (by omega)) (inB_mk hn2.1 hn2.2)).mono ?_
  rintro e w' ⟨v', s', p2, L', rfl, hq⟩
  obtain ⟨hb, hT, hR⟩ := hq.out
  rw [hn] at hR
  obtain ⟨rfl, hl⟩ := end_step h hk hR
  have ho := hT.own
  rw [hl] at ho
  rcases ho.2 with ⟨_, h0⟩ | ⟨g, cap, cur, rfl, _⟩
  · simp at h0
  · exact ⟨_, p2, _, _, rfl, rfl, hb, hT.came, hT.ag, hT.an, hT.cls⟩
theorem ends_over {s : Sn} {T W L now : Int} (h : EndI s T W L) {k : Nat} (hk : (k : Int) = 2 * T + 1) {w : World} {p : Pt} (hc : CameS w (endS s T W L k) p) {ck : List Value} (hck : ck = sncells (endS s T W L k) p) (hn : now = ((k : Int) + 1) * W + L) (hn2 : 0 ≤ now ∧ now ≤ 1048576) :
    Hid (Calls Try.prog 25 #[.agg ck.toArray, .int .i64 now] w fun e w' => ∃ c2 s2 p2 a2 e2, e = .returned (.tuple #[.agg c2.toArray, .slice a2 0 e2, .int .i64 0]) ∧ Hid (c2 = sncells s2 p2 ∧ Below w.heap.size w w' ∧ CameS w' s2 p2 ∧ TkR w.heap.size s2 p2 ∧ s2.sta = 4 ∧ s2.rea = 1)) := by
  subst hck
  refine (tick_ok (endS s T W L k) p now w hc (end_ok h (by omega)) (inB_mk hn2.1 hn2.2)).mono ?_
  rintro e w' ⟨v', s', p2, L', rfl, hq⟩
  obtain ⟨hb, hT, hR⟩ := hq.out
  rw [hn] at hR
  obtain ⟨h1, h2, rfl⟩ := end_last h hk hR
  have ho := hT.own
  rcases ho.2 with ⟨rfl, h0⟩ | ⟨g, cap, cur, rfl, _⟩
  · exact ⟨_, s', p2, _, _, rfl, rfl, hb, hT.came, ⟨hT.ag, hT.an, hT.cls⟩, h1, h2⟩
  · exact ⟨_, s', p2, _, _, rfl, rfl, hb, hT.came, ⟨hT.ag, hT.an, hT.cls⟩, h1, h2⟩
theorem ends_wait {s : Sn} {now : Int} {w : World} {p : Pt} (hc : CameS w s p) (hok : okU s = true) {ck : List Value} (hck : ck = sncells s p) (hn : now < s.due) (hn2 : 0 ≤ now ∧ now ≤ 1048576) :
    Hid (Calls Try.prog 25 #[.agg ck.toArray, .int .i64 now] w fun e w' => ∃ c2 p2 a2 e2, e = .returned (.tuple #[.agg c2.toArray, .slice a2 0 e2, .int .i64 0]) ∧ Hid (c2 = sncells s p2 ∧ Below w.heap.size w w')) := by
  subst hck
  refine (tick_ok s p now w hc hok (inB_mk hn2.1 hn2.2)).mono ?_
  rintro e w' ⟨v', s', p2, L', rfl, hq⟩
  obtain ⟨hb, hT, hR⟩ := hq.out
  obtain ⟨rfl, rfl⟩ := end_wait hn hR
  have ho := hT.own
  rcases ho.2 with ⟨rfl, h0⟩ | ⟨g, cap, cur, rfl, _⟩
  · exact ⟨_, p2, _, _, rfl, rfl, hb⟩
  · exact ⟨_, p2, _, _, rfl, rfl, hb⟩
/-- a session laid into the law's own block. -/
theorem ends_put {w wr w6 : World} {q : Nat} {s s2 : Sn} {p p2 : Pt} {c2 : List Value} {O : Obj} (hc : c2 = sncells s2 p2) (hb : Below wr.heap.size wr w6) (hC : CameS w6 s2 p2) (hq : wr.heap[q]? = some (snc s p)) (hx : wr.heap[w.heap.size]? = some O) (hlt : w.heap.size < q) (hw : Below w.heap.size w wr) (hn : TkR wr.heap.size s2 p2) :
    Hid (w6.there q 0 c2.toArray.size) ∧ Hid (c2.toArray.all (·.oneCell') = true) ∧ Hid ((w6.setCells q 0 c2).heap[q]? = some (snc s2 p2)) ∧ Hid (CameS (w6.setCells q 0 c2) s2 p2) ∧ Hid ((w6.setCells q 0 c2).heap[w.heap.size]? = some O) ∧ Hid (Below w.heap.size w (w6.setCells q 0 c2)) := by
  subst hc
  have h6 := old_block hb hq
  have hqr : q < wr.heap.size := (Array.getElem?_eq_some_iff.1 hq).1
  have ho := setC_off w6 q 0 (sncells s2 p2)
  refine ⟨sn_there h6 0 24 (Nat.le_refl _), sn_one _ _, block_stored (zs := sncells s p) h6 rfl, { hC with blk := row_q hC.blk h6 ho, got := hC.got.off ho (fun _ bb e t => ?_), lst := ⟨hC.lst.fit, row_q hC.lst.row h6 ho, ?_, hC.lst.le, hC.lst.cap, hC.lst.lec, hC.lst.capc⟩, sen := hC.sen.off ho (fun _ bb e t => ?_) }, ho.at (old_block hb hx) (fun e => by have : w.heap.size = q := e; omega), (below_of hw hb).trans (ho.below (Nat.le_trans (Nat.le_of_lt (Nat.lt_trans hlt hqr)) hb.size) (fun i e => by have : i = q := e; omega))⟩
  · have := hn.1 bb e; have t2 : bb.block = q := t; omega
  · rw [hn.2.2]
    exact rowC_nil _ _
  · have := hn.2.1 bb e; have t2 : bb.block = q := t; omega
set_option maxRecDepth 20000 in
set_option maxHeartbeats 8000000 in
theorem ends_no (x : Bg) (a : Option Addr) (c : Nat) (late : Int) (w : World) (hb : Row w a x.blk) (hl : x.blk.length ≤ c ∧ c ≤ maxLen) (hz : x.blk.length ≤ 140737488351232) (hses : x.ses < 4294967296) (hin : in64 x.src ∧ in64 x.wai ∧ in64 x.tri) (hlate : in64 late) (hok : okB { x with blk := x.blk.take 600 } = false) :
    Calls Try.prog 8 #[bgv x a c, .int .i64 late] w fun e w' => e = .returned (.bool true) ∧ Hid (Below w.heap.size w w') := by
  obtain ⟨i0, hi, hz0, hz1, hz2⟩ := info_parts Try.info5
  have HI : Hid (Try.prog.info? 5 = some i0) := hi
  obtain ⟨B, hB⟩ : ∃ B, x.blk.take 600 = B := ⟨_, rfl⟩
  rw [hB] at hok
  have hbl : B.length = min 600 x.blk.length := by rw [← hB]; simp
  have hm1 : B.length ≤ x.blk.length := by omega
  have hm2 : B.length ≤ c := by omega
  have hm3 : B.length ≤ 600 := by omega
  have hmi : (if (600 : Int) < (x.blk.length : Int) then (600 : Int) else (x.blk.length : Int)) = (B.length : Int) := by split <;> omega
  have HRB : Hid (Row w a B) := by rw [← hB]; exact row_take hb 600
  have HWK : Hid (∀ W, Calls Try.prog 9 #[] W fun e w' => e = .returned (.bool true) ∧ Hid (Below W.heap.size W w')) := wakes_any
  have HBO : Hid (Below w.heap.size w (w.alloc (bgc x a c))) := (Below.refl _ w).alloc (Nat.le_refl _) _
  have HX0 : Hid ((w.alloc (bgc x a c)).heap[w.heap.size]? = some (bgc x a c)) := heap_alloc_new w _
  have hs24 : (Try.prog.info? 32).map (·.size) = some 24 := by kernel_rfl
  have HNW : Hid (∀ W a3 c3, Calls Try.prog 10 #[.agg #[.int .i64 x.src, .int .u32 (x.ses : Nat), .slice a3 B.length c3, .int .i64 x.wai, .int .i64 x.tri], .int .i64 0] W fun e w' => ∃ cs : List Value, e = .returned (.tuple #[.agg cs.toArray, .slice none 0 0, .int .i64 2]) ∧ Hid (cs = sncells zeroU zeroP) ∧ Hid (Below W.heap.size W w')) := fun W a3 c3 => (new_no { x with blk := B } a3 c3 0 W (.inl hok)).mono (by rintro e w' ⟨rfl, h⟩; exact ⟨_, rfl, rfl, h⟩)
  clear hi hb hB hbl hok
  go_enter Try.func8, Try.ntmps8
  go_upto_region 5 with (first | (go_at_call 9; refine (HWK.out _).mono ?_; rintro e w2 ⟨rfl, hb2⟩; have HX2 : Hid (w2.heap[w.heap.size]? = some (bgc x a c)) := old_block hb2.out HX0.out; have HB2 : Hid (Below w.heap.size w w2) := below_of HBO.out hb2.out; have HSZ : Hid (w.heap.size < w2.heap.size) := (size_one HX2.out); have k2 : ∀ O, (w2.alloc O).cell? ⟨w.heap.size, 2, none⟩ = some (.slice a x.blk.length c) := (fun O => by rw [cell_of (old_block ((Below.refl _ w2).alloc (Nat.le_refl _) O) HX2.out)]; rfl); clear hb2) | (at_builtin; refine wpList_app0 rfl _ _ 23 rfl 5 i0 (.int .u8 0) 1 1 Try.underlying23 HI.out hz0 hz1 hz2 rfl (by decide) (some ⟨w2.heap.size, 0, none⟩) (by rfl) a B.length c (cells B) (by rfl) (by rw [cells_length, Nat.mul_one]) (row_src' ((HRB.out.later HB2.out).later ((Below.refl _ w2).alloc (Nat.le_refl _) _))) (one_cell _) (by unfold maxLen; omega) (by omega) ?_; intro a3 c3 w3 hq3; have HQ3 : Hid _ := hq3; clear hq3; have HX3 : Hid (w3.heap[w.heap.size]? = some (bgc x a c)) := old_block HQ3.out.bel (old_block ((Below.refl _ w2).alloc (Nat.le_refl _) _) HX2.out); have f3 := frozen_of HX3.out; have kk0 : w3.cell? ⟨w.heap.size, 0, none⟩ = some (.int .i64 x.src) := (by rw [cell_of HX3.out]; rfl); have kk1 : w3.cell? ⟨w.heap.size, 1, none⟩ = some (.int .u32 (x.ses : Nat)) := (by rw [cell_of HX3.out]; rfl); have kk2 : w3.cell? ⟨w.heap.size, 2, none⟩ = some (.slice a x.blk.length c) := (by rw [cell_of HX3.out]; rfl); have kk3 : w3.cell? ⟨w.heap.size, 3, none⟩ = some (.int .i64 x.wai) := (by rw [cell_of HX3.out]; rfl); have kk4 : w3.cell? ⟨w.heap.size, 4, none⟩ = some (.int .i64 x.tri) := (by rw [cell_of HX3.out]; rfl); have HE := ends_app HRB.out hm3 HB2.out HSZ.out HQ3.out HX3.out) | (go_at_call 10; refine (HNW.out _ _ _).mono ?_; rintro e w4 ⟨cs, rfl, hcs, HB4⟩; obtain ⟨HT4, HO4, HX5, HB5⟩ := s_stored w4 zeroU zeroP cs hcs.out; have hl24 : (Try.prog.info? 32).map (·.size) = some cs.toArray.size := (by rw [show cs.toArray.size = 24 by rw [hcs.out]; rfl]; exact hs24)) | (refine wpList_store_mid rfl 32 _ _ rfl w4.heap.size 0 cs.toArray (by rfl) (by rfl) HT4.out hl24 HO4.out ?_))
  go_wp2
  go_ret
  exact ⟨rfl, below_of (below_of HE.out.1 HB4.out) HB5.out⟩
set_option maxRecDepth 20000 in
set_option maxHeartbeats 8000000 in
theorem ends_pos (x : Bg) (a : Option Addr) (c : Nat) (late : Int) (w : World) (hb : Row w a x.blk) (hl : x.blk.length ≤ c ∧ c ≤ maxLen) (hz : x.blk.length ≤ 140737488351232) (hses : x.ses < 4294967296) (hin : in64 x.src ∧ in64 x.wai ∧ in64 x.tri) (hlate : in64 late) (hok : okB { x with blk := x.blk.take 600 } = true) (hlt : ¬ late < 0) :
    Calls Try.prog 8 #[bgv x a c, .int .i64 late] w fun e w' => e = .returned (.bool true) ∧ Hid (Below w.heap.size w w') := by
  obtain ⟨i0, hi, hz0, hz1, hz2⟩ := info_parts Try.info5
  have HI : Hid (Try.prog.info? 5 = some i0) := hi
  obtain ⟨B, hB⟩ : ∃ B, x.blk.take 600 = B := ⟨_, rfl⟩
  rw [hB] at hok
  have hbl : B.length = min 600 x.blk.length := by rw [← hB]; simp
  have hm1 : B.length ≤ x.blk.length := by omega
  have hm2 : B.length ≤ c := by omega
  have hm3 : B.length ≤ 600 := by omega
  have hmi : (if (600 : Int) < (x.blk.length : Int) then (600 : Int) else (x.blk.length : Int)) = (B.length : Int) := by split <;> omega
  have HRB : Hid (Row w a B) := by rw [← hB]; exact row_take hb 600
  have HWK : Hid (∀ W, Calls Try.prog 9 #[] W fun e w' => e = .returned (.bool true) ∧ Hid (Below W.heap.size W w')) := wakes_any
  have HBO : Hid (Below w.heap.size w (w.alloc (bgc x a c))) := (Below.refl _ w).alloc (Nat.le_refl _) _
  have HX0 : Hid ((w.alloc (bgc x a c)).heap[w.heap.size]? = some (bgc x a c)) := heap_alloc_new w _
  have hs24 : (Try.prog.info? 32).map (·.size) = some 24 := by kernel_rfl
  have HNW : Hid (∀ W a3 c3, Row W a3 B → B.length ≤ c3 ∧ c3 ≤ maxLen → Calls Try.prog 10 #[.agg #[.int .i64 x.src, .int .u32 (x.ses : Nat), .slice a3 B.length c3, .int .i64 x.wai, .int .i64 x.tri], .int .i64 0] W fun e w' => ∃ cs v s1 p1, e = .returned (.tuple #[.agg cs.toArray, v, .int .i64 0]) ∧ Hid (EnN W w' cs { x with blk := B } s1 p1)) := fun W a3 c3 hr hc => ends_new { x with blk := B } a3 c3 W hr hc hok hses
  have hkk := hok
  unfold okB at hkk
  simp only [Bool.and_eq_true, decide_eq_true_eq] at hkk
  obtain ⟨_, _, _, h4, h5⟩ := hkk
  have hW := inB_of h4
  have hT := inB_of h5
  have hW : 1 ≤ x.wai ∧ x.wai ≤ 4096 := hW
  have hT : 1 ≤ x.tri ∧ x.tri ≤ 16 := hT
  clear h4 h5
  clear hi hb hB hbl hok
  go_enter Try.func8, Try.ntmps8
  go_upto_region 5 with (first | (go_at_call 9; refine (HWK.out _).mono ?_; rintro e w2 ⟨rfl, hb2⟩; have HX2 : Hid (w2.heap[w.heap.size]? = some (bgc x a c)) := old_block hb2.out HX0.out; have HB2 : Hid (Below w.heap.size w w2) := below_of HBO.out hb2.out; have HSZ : Hid (w.heap.size < w2.heap.size) := (size_one HX2.out); have k2 : ∀ O, (w2.alloc O).cell? ⟨w.heap.size, 2, none⟩ = some (.slice a x.blk.length c) := (fun O => by rw [cell_of (old_block ((Below.refl _ w2).alloc (Nat.le_refl _) O) HX2.out)]; rfl); clear hb2) | (at_builtin; refine wpList_app0 rfl _ _ 23 rfl 5 i0 (.int .u8 0) 1 1 Try.underlying23 HI.out hz0 hz1 hz2 rfl (by decide) (some ⟨w2.heap.size, 0, none⟩) (by rfl) a B.length c (cells B) (by rfl) (by rw [cells_length, Nat.mul_one]) (row_src' ((HRB.out.later HB2.out).later ((Below.refl _ w2).alloc (Nat.le_refl _) _))) (one_cell _) (by unfold maxLen; omega) (by omega) ?_; intro a3 c3 w3 hq3; have HQ3 : Hid _ := hq3; clear hq3; have HX3 : Hid (w3.heap[w.heap.size]? = some (bgc x a c)) := old_block HQ3.out.bel (old_block ((Below.refl _ w2).alloc (Nat.le_refl _) _) HX2.out); have f3 := frozen_of HX3.out; have kk0 : w3.cell? ⟨w.heap.size, 0, none⟩ = some (.int .i64 x.src) := (by rw [cell_of HX3.out]; rfl); have kk1 : w3.cell? ⟨w.heap.size, 1, none⟩ = some (.int .u32 (x.ses : Nat)) := (by rw [cell_of HX3.out]; rfl); have kk2 : w3.cell? ⟨w.heap.size, 2, none⟩ = some (.slice a x.blk.length c) := (by rw [cell_of HX3.out]; rfl); have kk3 : w3.cell? ⟨w.heap.size, 3, none⟩ = some (.int .i64 x.wai) := (by rw [cell_of HX3.out]; rfl); have kk4 : w3.cell? ⟨w.heap.size, 4, none⟩ = some (.int .i64 x.tri) := (by rw [cell_of HX3.out]; rfl); have HE := ends_app HRB.out hm3 HB2.out HSZ.out HQ3.out HX3.out) | (go_at_call 10; refine (HNW.out _ _ _ HE.out.2.2.1 HE.out.2.2.2).mono ?_; rintro e w4 ⟨cs, v4, s1, p1, rfl, HN4⟩; obtain ⟨HT4, HO4, HX5, HB5⟩ := s_stored w4 s1 p1 cs HN4.out.cs; have hl24 : (Try.prog.info? 32).map (·.size) = some cs.toArray.size := (by rw [show cs.toArray.size = 24 by rw [HN4.out.cs]; rfl]; exact hs24)) | (refine wpList_store_mid rfl 32 _ _ rfl w4.heap.size 0 cs.toArray (by rfl) (by rfl) HT4.out hl24 HO4.out ?_))
  obtain ⟨w5, hw5⟩ : ∃ w5, (w4.alloc (snc zeroU zeroP)).setCells w4.heap.size 0 cs = w5 := ⟨_, rfl⟩
  change Code.wp Try.prog _ _ _ ((w4.alloc (snc zeroU zeroP)).setCells w4.heap.size 0 cs)
  rw [hw5] at HX5 HB5 ⊢
  have HXB : Hid (w5.heap[w.heap.size]? = some (bgc { x with blk := B } a3 c3)) := old_block HB5.out (old_block HN4.out.bel HE.out.2.1)
  have HW5 : Hid (Below w.heap.size w w5) := below_of (below_of HE.out.1 HN4.out.bel) HB5.out
  have HC5 : Hid (CameS w5 s1 p1) := HN4.out.came.later HB5.out
  have e4 : w5.cell? ⟨w.heap.size, 4, none⟩ = some (.int .i64 x.tri) := by rw [cell_of HXB.out]; rfl
  have HQ : Hid (w.heap.size < w4.heap.size) := by have h1 := (Array.getElem?_eq_some_iff.1 HE.out.2.1).1; have h2 := HN4.out.bel.size; show _ < _; omega
  have HEI : Hid (EndI s1 x.tri x.wai (late % 1000)) := ⟨HN4.out.ok, HN4.out.sta, (okU_parts HN4.out.ok).2.2.2.2.2.2.2.2.1, by rw [HN4.out.bgn], by rw [HN4.out.bgn], hT, hW, by omega⟩
  have HE0 : Hid (endS s1 x.tri x.wai (late % 1000) 0 = s1) := by have h := end_first (T := x.tri) (L := (late % 1000)) HN4.out (by omega); exact h
  clear hw5 HT4 HO4 hl24 HE kk0 kk1 kk2 kk3 kk4 f3 k2 HX2 HB2 HSZ HQ3 HX3 HWK HBO HX0 HRB HI HNW hz0 hz1 hz2 hm1 hm2 hm3 hmi hl hz hses hin HN4
  go_wp2_with fail
  go_loopw [7, 8, 40] (fun e n i wr => ∃ (k : Nat) (pk : Pt), (k : Int) ≤ 2 * x.tri + 1 ∧ e = .int .i64 0 ∧ n = .int .i64 k ∧ i = .int .i64 k ∧ Hid (wr.heap[w4.heap.size]? = some (snc (endS s1 x.tri x.wai (late % 1000) k) pk) ∧ CameS wr (endS s1 x.tri x.wai (late % 1000) k) pk ∧ wr.heap[w.heap.size]? = some (bgc { x with blk := B } a3 c3) ∧ Below w.heap.size w wr)) (fun _ _ i _ => (2 * x.tri + 3).toNat - (intOf i).toNat)
  case atStart => exact ⟨0, p1, by omega, rfl, rfl, rfl, by rw [HE0.out]; exact HX5.out, by rw [HE0.out]; exact HC5.out, HXB.out, HW5.out⟩
  case round =>
    obtain ⟨k, pk, hk, rfl, rfl, rfl, HK⟩ := hrel
    obtain ⟨ck, hck⟩ : ∃ cs, Hid (cs = sncells (endS s1 x.tri x.wai (late % 1000) k) pk) := ⟨_, rfl⟩
    have hk3 : (k : Int) < 2 * x.tri + 3 := by omega
    have hsz1 : (Try.prog.info? 32).map (·.size) = some ck.length := by rw [show ck.length = 24 by rw [hck.out]; rfl]; exact hs24
    have HRK : Hid (wr.rangeAt w4.heap.size 0 ck) := by rw [hck.out]; exact sn_range HK.out.1
    have x3 : wr.cell? ⟨w.heap.size, 3, none⟩ = some (.int .i64 x.wai) := by rw [cell_of HK.out.2.2.1]; rfl
    have hml := end_mul hT hW (k := k) (by omega)
    obtain ⟨m1, m2, -, m4, m5⟩ := hml
    by_cases hkk : (k : Int) < 2 * x.tri + 1
    · have HTK : Hid (Calls Try.prog 25 #[.agg ck.toArray, .int .i64 (((k : Int) + 1) * x.wai + late % 1000)] wr fun e w' => ∃ c2 p2 a2 e2, e = .returned (.tuple #[.agg c2.toArray, .slice a2 1 e2, .int .i64 0]) ∧ Hid (c2 = sncells (endS s1 x.tri x.wai (late % 1000) (k + 1)) p2 ∧ Below wr.heap.size wr w' ∧ CameS w' (endS s1 x.tri x.wai (late % 1000) (k + 1)) p2 ∧ TkR wr.heap.size (endS s1 x.tri x.wai (late % 1000) (k + 1)) p2)) := ends_tick HEI.out hkk HK.out.2.1 hck.out (by omega) (by omega)
      clear hck HX5 HB5 HXB HW5 HC5 e4 HE0
      go_upto_region 13 with (first | (refine wpList_load_mid rfl 32 _ rfl w4.heap.size 0 (by rfl) ck _ HRK.out Try.underlying32 rfl hsz1 ?_) | (go_at_call 25; refine HTK.out.mono ?_; rintro e w6 ⟨c2, p2, a2, e2, rfl, HT6⟩; have hl24 : (Try.prog.info? 32).map (·.size) = some c2.toArray.size := (by rw [show c2.toArray.size = 24 by rw [HT6.out.1]; rfl]; exact hs24); have HP6 := ends_put HT6.out.1 HT6.out.2.1 HT6.out.2.2.1 HK.out.1 HK.out.2.2.1 HQ.out HK.out.2.2.2 HT6.out.2.2.2) | (refine wpList_store_mid rfl 32 _ _ rfl w4.heap.size 0 c2.toArray (by rfl) (by rfl) HP6.1.out hl24 HP6.2.1.out ?_))
      obtain ⟨w7, hw7⟩ : ∃ w7, w6.setCells w4.heap.size 0 c2 = w7 := ⟨_, rfl⟩
      obtain ⟨-, -, HX7, HC7, HB7, HW7⟩ := HP6
      change Code.wp Try.prog _ _ _ (w6.setCells w4.heap.size 0 c2)
      rw [hw7] at HX7 HC7 HB7 HW7 ⊢
      obtain ⟨st, y5, hne⟩ : ∃ st, w7.cell? ⟨w4.heap.size, 5, none⟩ = some (.int .i64 st) ∧ (st == 4) = false := ⟨(endS s1 x.tri x.wai (late % 1000) (k + 1)).sta, by rw [cell_of HX7.out]; rfl, by have := (end_asks HEI.out (k + 1)).2; simpa using this⟩
      have hdu : (endS s1 x.tri x.wai (late % 1000) (k + 1)).due = ((k : Int) + 2) * x.wai + late % 1000 := by (rw [end_dueS HEI.out hkk]) 
      have y20 : w7.cell? ⟨w4.heap.size, 20, none⟩ = some (.int .i64 (((k : Int) + 2) * x.wai + late % 1000)) := by rw [← hdu, cell_of HX7.out]; rfl
      have HR7 : Hid (w7.rangeAt w4.heap.size 0 c2) := by rw [HT6.out.1]; exact sn_range HX7.out
      have hsz2 : (Try.prog.info? 32).map (·.size) = some c2.length := by rw [show c2.length = 24 by rw [HT6.out.1]; rfl]; exact hs24
      have HTW : Hid (Calls Try.prog 25 #[.agg c2.toArray, .int .i64 (((k : Int) + 2) * x.wai + late % 1000 - 1)] w7 fun e w' => ∃ c2 p2 a2 e2, e = .returned (.tuple #[.agg c2.toArray, .slice a2 0 e2, .int .i64 0]) ∧ Hid (c2 = sncells (endS s1 x.tri x.wai (late % 1000) (k + 1)) p2 ∧ Below w7.heap.size w7 w')) := ends_wait HC7.out (end_ok HEI.out (by omega)) HT6.out.1 (by omega) (by omega)
      clear hw7 HRK HTK HT6 hl24 hdu
      go_upto_region 18 with (first | (refine wpList_load_mid rfl 32 _ rfl w4.heap.size 0 (by rfl) c2 _ HR7.out Try.underlying32 rfl hsz2 ?_) | (go_at_call 25; refine HTW.out.mono ?_; rintro e w8 ⟨c3, p3, a8, e8, rfl, HT8⟩; obtain ⟨HT9, HO9, HX9, HB9⟩ := s_stored w8 _ p3 c3 HT8.out.1; have hl24 : (Try.prog.info? 32).map (·.size) = some c3.toArray.size := (by rw [show c3.toArray.size = 24 by rw [HT8.out.1]; rfl]; exact hs24)) | (refine wpList_store_mid rfl 32 _ _ rfl w8.heap.size 0 c3.toArray (by rfl) (by rfl) HT9.out hl24 HO9.out ?_))
      obtain ⟨w9, hw9⟩ : ∃ w9, (w8.alloc (snc zeroU zeroP)).setCells w8.heap.size 0 c3 = w9 := ⟨_, rfl⟩
      change Code.wp Try.prog _ _ _ ((w8.alloc (snc zeroU zeroP)).setCells w8.heap.size 0 c3)
      rw [hw9] at HB9 ⊢
      have hb9 : Hid (Below w7.heap.size w7 w9) := below_of HT8.out.2 HB9.out
      have z20 : w9.cell? ⟨w4.heap.size, 20, none⟩ = some (.int .i64 (((k : Int) + 2) * x.wai + late % 1000)) := cell_later hb9.out y20
      have z3 : w9.cell? ⟨w.heap.size, 3, none⟩ = some (.int .i64 x.wai) := by rw [cell_of (old_block hb9.out HB7.out)]; rfl
      clear hw9 HT9 HO9 HX9 HTW HR7 y5 y20 hl24
      go_wp2
      go_roundw
      case rel => exact ⟨k + 1, p2, by omega, rfl, by go_num, by go_num, old_block hb9.out HX7.out, HC7.out.later hb9.out, old_block hb9.out HB7.out, below_of HW7.out hb9.out⟩
      case measure => simp [intOf]; omega
    · have HTO : Hid (Calls Try.prog 25 #[.agg ck.toArray, .int .i64 (((k : Int) + 1) * x.wai + late % 1000)] wr fun e w' => ∃ c2 s2 p2 a2 e2, e = .returned (.tuple #[.agg c2.toArray, .slice a2 0 e2, .int .i64 0]) ∧ Hid (c2 = sncells s2 p2 ∧ Below wr.heap.size wr w' ∧ CameS w' s2 p2 ∧ TkR wr.heap.size s2 p2 ∧ s2.sta = 4 ∧ s2.rea = 1)) := ends_over HEI.out (by omega) HK.out.2.1 hck.out (by omega) (by omega)
      clear hck HX5 HB5 HXB HW5 HC5 e4 HE0
      go_upto_region 13 with (first | (refine wpList_load_mid rfl 32 _ rfl w4.heap.size 0 (by rfl) ck _ HRK.out Try.underlying32 rfl hsz1 ?_) | (go_at_call 25; refine HTO.out.mono ?_; rintro e w6 ⟨c2, s2, p2, a2, e2, rfl, HT6⟩; have hl24 : (Try.prog.info? 32).map (·.size) = some c2.toArray.size := (by rw [show c2.toArray.size = 24 by rw [HT6.out.1]; rfl]; exact hs24); have HP6 := ends_put HT6.out.1 HT6.out.2.1 HT6.out.2.2.1 HK.out.1 HK.out.2.2.1 HQ.out HK.out.2.2.2 HT6.out.2.2.2.1) | (refine wpList_store_mid rfl 32 _ _ rfl w4.heap.size 0 c2.toArray (by rfl) (by rfl) HP6.1.out hl24 HP6.2.1.out ?_))
      obtain ⟨w7, hw7⟩ : ∃ w7, w6.setCells w4.heap.size 0 c2 = w7 := ⟨_, rfl⟩
      obtain ⟨-, -, HX7, HC7, HB7, HW7⟩ := HP6
      change Code.wp Try.prog _ _ _ (w6.setCells w4.heap.size 0 c2)
      rw [hw7] at HX7 HC7 HB7 HW7 ⊢
      have y5 : w7.cell? ⟨w4.heap.size, 5, none⟩ = some (.int .i64 4) := by rw [cell_of HX7.out, ← HT6.out.2.2.2.2.1]; rfl
      have y23 : w7.cell? ⟨w4.heap.size, 23, none⟩ = some (.int .i64 1) := by rw [cell_of HX7.out, ← HT6.out.2.2.2.2.2]; rfl
      have y4 : w7.cell? ⟨w.heap.size, 4, none⟩ = some (.int .i64 x.tri) := by rw [cell_of HB7.out]; rfl
      have hle : (k : Int) ≤ 2 * x.tri + 2 := by omega
      clear hw7 HRK HTO HT6 hl24
      go_wp2
      go_ret
      exact ⟨rfl, HW7.out⟩
set_option maxRecDepth 20000 in
set_option maxHeartbeats 8000000 in
theorem ends_neg (x : Bg) (a : Option Addr) (c : Nat) (late : Int) (w : World) (hb : Row w a x.blk) (hl : x.blk.length ≤ c ∧ c ≤ maxLen) (hz : x.blk.length ≤ 140737488351232) (hses : x.ses < 4294967296) (hin : in64 x.src ∧ in64 x.wai ∧ in64 x.tri) (hlate : in64 late) (hok : okB { x with blk := x.blk.take 600 } = true) (hlt : late < 0) :
    Calls Try.prog 8 #[bgv x a c, .int .i64 late] w fun e w' => e = .returned (.bool true) ∧ Hid (Below w.heap.size w w') := by
  obtain ⟨i0, hi, hz0, hz1, hz2⟩ := info_parts Try.info5
  have HI : Hid (Try.prog.info? 5 = some i0) := hi
  obtain ⟨B, hB⟩ : ∃ B, x.blk.take 600 = B := ⟨_, rfl⟩
  rw [hB] at hok
  have hbl : B.length = min 600 x.blk.length := by rw [← hB]; simp
  have hm1 : B.length ≤ x.blk.length := by omega
  have hm2 : B.length ≤ c := by omega
  have hm3 : B.length ≤ 600 := by omega
  have hmi : (if (600 : Int) < (x.blk.length : Int) then (600 : Int) else (x.blk.length : Int)) = (B.length : Int) := by split <;> omega
  have HRB : Hid (Row w a B) := by rw [← hB]; exact row_take hb 600
  have HWK : Hid (∀ W, Calls Try.prog 9 #[] W fun e w' => e = .returned (.bool true) ∧ Hid (Below W.heap.size W w')) := wakes_any
  have HBO : Hid (Below w.heap.size w (w.alloc (bgc x a c))) := (Below.refl _ w).alloc (Nat.le_refl _) _
  have HX0 : Hid ((w.alloc (bgc x a c)).heap[w.heap.size]? = some (bgc x a c)) := heap_alloc_new w _
  have hs24 : (Try.prog.info? 32).map (·.size) = some 24 := by kernel_rfl
  have HNW : Hid (∀ W a3 c3, Row W a3 B → B.length ≤ c3 ∧ c3 ≤ maxLen → Calls Try.prog 10 #[.agg #[.int .i64 x.src, .int .u32 (x.ses : Nat), .slice a3 B.length c3, .int .i64 x.wai, .int .i64 x.tri], .int .i64 0] W fun e w' => ∃ cs v s1 p1, e = .returned (.tuple #[.agg cs.toArray, v, .int .i64 0]) ∧ Hid (EnN W w' cs { x with blk := B } s1 p1)) := fun W a3 c3 hr hc => ends_new { x with blk := B } a3 c3 W hr hc hok hses
  have hkk := hok
  unfold okB at hkk
  simp only [Bool.and_eq_true, decide_eq_true_eq] at hkk
  obtain ⟨_, _, _, h4, h5⟩ := hkk
  have hW := inB_of h4
  have hT := inB_of h5
  have hW : 1 ≤ x.wai ∧ x.wai ≤ 4096 := hW
  have hT : 1 ≤ x.tri ∧ x.tri ≤ 16 := hT
  clear h4 h5
  clear hi hb hB hbl hok
  go_enter Try.func8, Try.ntmps8
  go_upto_region 5 with (first | (go_at_call 9; refine (HWK.out _).mono ?_; rintro e w2 ⟨rfl, hb2⟩; have HX2 : Hid (w2.heap[w.heap.size]? = some (bgc x a c)) := old_block hb2.out HX0.out; have HB2 : Hid (Below w.heap.size w w2) := below_of HBO.out hb2.out; have HSZ : Hid (w.heap.size < w2.heap.size) := (size_one HX2.out); have k2 : ∀ O, (w2.alloc O).cell? ⟨w.heap.size, 2, none⟩ = some (.slice a x.blk.length c) := (fun O => by rw [cell_of (old_block ((Below.refl _ w2).alloc (Nat.le_refl _) O) HX2.out)]; rfl); clear hb2) | (at_builtin; refine wpList_app0 rfl _ _ 23 rfl 5 i0 (.int .u8 0) 1 1 Try.underlying23 HI.out hz0 hz1 hz2 rfl (by decide) (some ⟨w2.heap.size, 0, none⟩) (by rfl) a B.length c (cells B) (by rfl) (by rw [cells_length, Nat.mul_one]) (row_src' ((HRB.out.later HB2.out).later ((Below.refl _ w2).alloc (Nat.le_refl _) _))) (one_cell _) (by unfold maxLen; omega) (by omega) ?_; intro a3 c3 w3 hq3; have HQ3 : Hid _ := hq3; clear hq3; have HX3 : Hid (w3.heap[w.heap.size]? = some (bgc x a c)) := old_block HQ3.out.bel (old_block ((Below.refl _ w2).alloc (Nat.le_refl _) _) HX2.out); have f3 := frozen_of HX3.out; have kk0 : w3.cell? ⟨w.heap.size, 0, none⟩ = some (.int .i64 x.src) := (by rw [cell_of HX3.out]; rfl); have kk1 : w3.cell? ⟨w.heap.size, 1, none⟩ = some (.int .u32 (x.ses : Nat)) := (by rw [cell_of HX3.out]; rfl); have kk2 : w3.cell? ⟨w.heap.size, 2, none⟩ = some (.slice a x.blk.length c) := (by rw [cell_of HX3.out]; rfl); have kk3 : w3.cell? ⟨w.heap.size, 3, none⟩ = some (.int .i64 x.wai) := (by rw [cell_of HX3.out]; rfl); have kk4 : w3.cell? ⟨w.heap.size, 4, none⟩ = some (.int .i64 x.tri) := (by rw [cell_of HX3.out]; rfl); have HE := ends_app HRB.out hm3 HB2.out HSZ.out HQ3.out HX3.out) | (go_at_call 10; refine (HNW.out _ _ _ HE.out.2.2.1 HE.out.2.2.2).mono ?_; rintro e w4 ⟨cs, v4, s1, p1, rfl, HN4⟩; obtain ⟨HT4, HO4, HX5, HB5⟩ := s_stored w4 s1 p1 cs HN4.out.cs; have hl24 : (Try.prog.info? 32).map (·.size) = some cs.toArray.size := (by rw [show cs.toArray.size = 24 by rw [HN4.out.cs]; rfl]; exact hs24)) | (refine wpList_store_mid rfl 32 _ _ rfl w4.heap.size 0 cs.toArray (by rfl) (by rfl) HT4.out hl24 HO4.out ?_))
  obtain ⟨w5, hw5⟩ : ∃ w5, (w4.alloc (snc zeroU zeroP)).setCells w4.heap.size 0 cs = w5 := ⟨_, rfl⟩
  change Code.wp Try.prog _ _ _ ((w4.alloc (snc zeroU zeroP)).setCells w4.heap.size 0 cs)
  rw [hw5] at HX5 HB5 ⊢
  have HXB : Hid (w5.heap[w.heap.size]? = some (bgc { x with blk := B } a3 c3)) := old_block HB5.out (old_block HN4.out.bel HE.out.2.1)
  have HW5 : Hid (Below w.heap.size w w5) := below_of (below_of HE.out.1 HN4.out.bel) HB5.out
  have HC5 : Hid (CameS w5 s1 p1) := HN4.out.came.later HB5.out
  have e4 : w5.cell? ⟨w.heap.size, 4, none⟩ = some (.int .i64 x.tri) := by rw [cell_of HXB.out]; rfl
  have HQ : Hid (w.heap.size < w4.heap.size) := by have h1 := (Array.getElem?_eq_some_iff.1 HE.out.2.1).1; have h2 := HN4.out.bel.size; show _ < _; omega
  have HEI : Hid (EndI s1 x.tri x.wai 0) := ⟨HN4.out.ok, HN4.out.sta, (okU_parts HN4.out.ok).2.2.2.2.2.2.2.2.1, by rw [HN4.out.bgn], by rw [HN4.out.bgn], hT, hW, by omega⟩
  have HE0 : Hid (endS s1 x.tri x.wai 0 0 = s1) := by have h := end_first (T := x.tri) (L := 0) HN4.out (by omega); exact h
  clear hw5 HT4 HO4 hl24 HE kk0 kk1 kk2 kk3 kk4 f3 k2 HX2 HB2 HSZ HQ3 HX3 HWK HBO HX0 HRB HI HNW hz0 hz1 hz2 hm1 hm2 hm3 hmi hl hz hses hin HN4
  go_wp2_with fail
  go_loopw [7, 8, 40] (fun e n i wr => ∃ (k : Nat) (pk : Pt), (k : Int) ≤ 2 * x.tri + 1 ∧ e = .int .i64 0 ∧ n = .int .i64 k ∧ i = .int .i64 k ∧ Hid (wr.heap[w4.heap.size]? = some (snc (endS s1 x.tri x.wai 0 k) pk) ∧ CameS wr (endS s1 x.tri x.wai 0 k) pk ∧ wr.heap[w.heap.size]? = some (bgc { x with blk := B } a3 c3) ∧ Below w.heap.size w wr)) (fun _ _ i _ => (2 * x.tri + 3).toNat - (intOf i).toNat)
  case atStart => exact ⟨0, p1, by omega, rfl, rfl, rfl, by rw [HE0.out]; exact HX5.out, by rw [HE0.out]; exact HC5.out, HXB.out, HW5.out⟩
  case round =>
    obtain ⟨k, pk, hk, rfl, rfl, rfl, HK⟩ := hrel
    obtain ⟨ck, hck⟩ : ∃ cs, Hid (cs = sncells (endS s1 x.tri x.wai 0 k) pk) := ⟨_, rfl⟩
    have hk3 : (k : Int) < 2 * x.tri + 3 := by omega
    have hsz1 : (Try.prog.info? 32).map (·.size) = some ck.length := by rw [show ck.length = 24 by rw [hck.out]; rfl]; exact hs24
    have HRK : Hid (wr.rangeAt w4.heap.size 0 ck) := by rw [hck.out]; exact sn_range HK.out.1
    have x3 : wr.cell? ⟨w.heap.size, 3, none⟩ = some (.int .i64 x.wai) := by rw [cell_of HK.out.2.2.1]; rfl
    have hml := end_mul hT hW (k := k) (by omega)
    obtain ⟨m1, m2, -, m4, m5⟩ := hml
    by_cases hkk : (k : Int) < 2 * x.tri + 1
    · have HTK : Hid (Calls Try.prog 25 #[.agg ck.toArray, .int .i64 (((k : Int) + 1) * x.wai)] wr fun e w' => ∃ c2 p2 a2 e2, e = .returned (.tuple #[.agg c2.toArray, .slice a2 1 e2, .int .i64 0]) ∧ Hid (c2 = sncells (endS s1 x.tri x.wai 0 (k + 1)) p2 ∧ Below wr.heap.size wr w' ∧ CameS w' (endS s1 x.tri x.wai 0 (k + 1)) p2 ∧ TkR wr.heap.size (endS s1 x.tri x.wai 0 (k + 1)) p2)) := ends_tick HEI.out hkk HK.out.2.1 hck.out (by omega) (by omega)
      clear hck HX5 HB5 HXB HW5 HC5 e4 HE0
      go_upto_region 13 with (first | (refine wpList_load_mid rfl 32 _ rfl w4.heap.size 0 (by rfl) ck _ HRK.out Try.underlying32 rfl hsz1 ?_) | (go_at_call 25; refine HTK.out.mono ?_; rintro e w6 ⟨c2, p2, a2, e2, rfl, HT6⟩; have hl24 : (Try.prog.info? 32).map (·.size) = some c2.toArray.size := (by rw [show c2.toArray.size = 24 by rw [HT6.out.1]; rfl]; exact hs24); have HP6 := ends_put HT6.out.1 HT6.out.2.1 HT6.out.2.2.1 HK.out.1 HK.out.2.2.1 HQ.out HK.out.2.2.2 HT6.out.2.2.2) | (refine wpList_store_mid rfl 32 _ _ rfl w4.heap.size 0 c2.toArray (by rfl) (by rfl) HP6.1.out hl24 HP6.2.1.out ?_))
      obtain ⟨w7, hw7⟩ : ∃ w7, w6.setCells w4.heap.size 0 c2 = w7 := ⟨_, rfl⟩
      obtain ⟨-, -, HX7, HC7, HB7, HW7⟩ := HP6
      change Code.wp Try.prog _ _ _ (w6.setCells w4.heap.size 0 c2)
      rw [hw7] at HX7 HC7 HB7 HW7 ⊢
      obtain ⟨st, y5, hne⟩ : ∃ st, w7.cell? ⟨w4.heap.size, 5, none⟩ = some (.int .i64 st) ∧ (st == 4) = false := ⟨(endS s1 x.tri x.wai 0 (k + 1)).sta, by rw [cell_of HX7.out]; rfl, by have := (end_asks HEI.out (k + 1)).2; simpa using this⟩
      have hdu : (endS s1 x.tri x.wai 0 (k + 1)).due = ((k : Int) + 2) * x.wai := by (rw [end_dueS HEI.out hkk]) ; omega
      have y20 : w7.cell? ⟨w4.heap.size, 20, none⟩ = some (.int .i64 (((k : Int) + 2) * x.wai)) := by rw [← hdu, cell_of HX7.out]; rfl
      have HR7 : Hid (w7.rangeAt w4.heap.size 0 c2) := by rw [HT6.out.1]; exact sn_range HX7.out
      have hsz2 : (Try.prog.info? 32).map (·.size) = some c2.length := by rw [show c2.length = 24 by rw [HT6.out.1]; rfl]; exact hs24
      have HTW : Hid (Calls Try.prog 25 #[.agg c2.toArray, .int .i64 (((k : Int) + 2) * x.wai - 1)] w7 fun e w' => ∃ c2 p2 a2 e2, e = .returned (.tuple #[.agg c2.toArray, .slice a2 0 e2, .int .i64 0]) ∧ Hid (c2 = sncells (endS s1 x.tri x.wai 0 (k + 1)) p2 ∧ Below w7.heap.size w7 w')) := ends_wait HC7.out (end_ok HEI.out (by omega)) HT6.out.1 (by omega) (by omega)
      clear hw7 HRK HTK HT6 hl24 hdu
      go_upto_region 18 with (first | (refine wpList_load_mid rfl 32 _ rfl w4.heap.size 0 (by rfl) c2 _ HR7.out Try.underlying32 rfl hsz2 ?_) | (go_at_call 25; refine HTW.out.mono ?_; rintro e w8 ⟨c3, p3, a8, e8, rfl, HT8⟩; obtain ⟨HT9, HO9, HX9, HB9⟩ := s_stored w8 _ p3 c3 HT8.out.1; have hl24 : (Try.prog.info? 32).map (·.size) = some c3.toArray.size := (by rw [show c3.toArray.size = 24 by rw [HT8.out.1]; rfl]; exact hs24)) | (refine wpList_store_mid rfl 32 _ _ rfl w8.heap.size 0 c3.toArray (by rfl) (by rfl) HT9.out hl24 HO9.out ?_))
      obtain ⟨w9, hw9⟩ : ∃ w9, (w8.alloc (snc zeroU zeroP)).setCells w8.heap.size 0 c3 = w9 := ⟨_, rfl⟩
      change Code.wp Try.prog _ _ _ ((w8.alloc (snc zeroU zeroP)).setCells w8.heap.size 0 c3)
      rw [hw9] at HB9 ⊢
      have hb9 : Hid (Below w7.heap.size w7 w9) := below_of HT8.out.2 HB9.out
      have z20 : w9.cell? ⟨w4.heap.size, 20, none⟩ = some (.int .i64 (((k : Int) + 2) * x.wai)) := cell_later hb9.out y20
      have z3 : w9.cell? ⟨w.heap.size, 3, none⟩ = some (.int .i64 x.wai) := by rw [cell_of (old_block hb9.out HB7.out)]; rfl
      clear hw9 HT9 HO9 HX9 HTW HR7 y5 y20 hl24
      go_wp2
      go_roundw
      case rel => exact ⟨k + 1, p2, by omega, rfl, by go_num, by go_num, old_block hb9.out HX7.out, HC7.out.later hb9.out, old_block hb9.out HB7.out, below_of HW7.out hb9.out⟩
      case measure => simp [intOf]; omega
    · have HTO : Hid (Calls Try.prog 25 #[.agg ck.toArray, .int .i64 (((k : Int) + 1) * x.wai)] wr fun e w' => ∃ c2 s2 p2 a2 e2, e = .returned (.tuple #[.agg c2.toArray, .slice a2 0 e2, .int .i64 0]) ∧ Hid (c2 = sncells s2 p2 ∧ Below wr.heap.size wr w' ∧ CameS w' s2 p2 ∧ TkR wr.heap.size s2 p2 ∧ s2.sta = 4 ∧ s2.rea = 1)) := ends_over HEI.out (by omega) HK.out.2.1 hck.out (by omega) (by omega)
      clear hck HX5 HB5 HXB HW5 HC5 e4 HE0
      go_upto_region 13 with (first | (refine wpList_load_mid rfl 32 _ rfl w4.heap.size 0 (by rfl) ck _ HRK.out Try.underlying32 rfl hsz1 ?_) | (go_at_call 25; refine HTO.out.mono ?_; rintro e w6 ⟨c2, s2, p2, a2, e2, rfl, HT6⟩; have hl24 : (Try.prog.info? 32).map (·.size) = some c2.toArray.size := (by rw [show c2.toArray.size = 24 by rw [HT6.out.1]; rfl]; exact hs24); have HP6 := ends_put HT6.out.1 HT6.out.2.1 HT6.out.2.2.1 HK.out.1 HK.out.2.2.1 HQ.out HK.out.2.2.2 HT6.out.2.2.2.1) | (refine wpList_store_mid rfl 32 _ _ rfl w4.heap.size 0 c2.toArray (by rfl) (by rfl) HP6.1.out hl24 HP6.2.1.out ?_))
      obtain ⟨w7, hw7⟩ : ∃ w7, w6.setCells w4.heap.size 0 c2 = w7 := ⟨_, rfl⟩
      obtain ⟨-, -, HX7, HC7, HB7, HW7⟩ := HP6
      change Code.wp Try.prog _ _ _ (w6.setCells w4.heap.size 0 c2)
      rw [hw7] at HX7 HC7 HB7 HW7 ⊢
      have y5 : w7.cell? ⟨w4.heap.size, 5, none⟩ = some (.int .i64 4) := by rw [cell_of HX7.out, ← HT6.out.2.2.2.2.1]; rfl
      have y23 : w7.cell? ⟨w4.heap.size, 23, none⟩ = some (.int .i64 1) := by rw [cell_of HX7.out, ← HT6.out.2.2.2.2.2]; rfl
      have y4 : w7.cell? ⟨w.heap.size, 4, none⟩ = some (.int .i64 x.tri) := by rw [cell_of HB7.out]; rfl
      have hle : (k : Int) ≤ 2 * x.tri + 2 := by omega
      clear hw7 HRK HTO HT6 hl24
      go_wp2
      go_ret
      exact ⟨rfl, HW7.out⟩
theorem ends_any (x : Bg) (a : Option Addr) (c : Nat) (late : Int) (w : World) (hb : Row w a x.blk) (hl : x.blk.length ≤ c ∧ c ≤ maxLen) (hz : x.blk.length ≤ 140737488351232) (hses : x.ses < 4294967296) (hin : in64 x.src ∧ in64 x.wai ∧ in64 x.tri) (hlate : in64 late) :
    Calls Try.prog 8 #[bgv x a c, .int .i64 late] w fun e w' => e = .returned (.bool true) ∧ Hid (Below w.heap.size w w') := by
  cases hok : okB { x with blk := x.blk.take 600 } with
  | false => exact ends_no x a c late w hb hl hz hses hin hlate hok
  | true =>
    by_cases hlt : late < 0
    · exact ends_neg x a c late w hb hl hz hses hin hlate hok hlt
    · exact ends_pos x a c late w hb hl hz hses hin hlate hok hlt
end Go.Proofs.Ytnjcaolkcmpdcaa
