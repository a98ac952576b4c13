/- sender.New of what may begin a session. -/
import Derived.Test.YtnjcaolkcmpdcaaUSnd
namespace Go.Proofs.Ytnjcaolkcmpdcaa
open Go.RowKit Go.Shelf
set_option linter.unusedVariables false
/-- a block's result, and two slots'. -/
theorem results_cell3 {P : Program} {fn : Func} {k t u : Tmp} {ty : TypeId} (h : fn.results = #[.cell k ty, .tmp t, .tmp u]) (tmps : Array Value) (w : World) (b o : Nat) (hk : tmps.getD k undef = .pointer (some ⟨b, o, none⟩)) (cs : List Value) (d : TypeDesc) (hc : w.rangeAt b o cs)
    (hu : P.underlying ty = some d) (hd : d.isRow = true) (hi : (P.info? ty).map (·.size) = some cs.length) : (results fn tmps).run P w = .ok (.tuple #[.agg cs.toArray, tmps.getD t undef, tmps.getD u undef]) w := by
  have hl : (loadVar ty ⟨b, o, none⟩).run P w = .ok (.agg cs.toArray) w := run_loadVar_mid w b o ty cs d hc hu hd hi
  unfold results
  rw [h]
  simp only [List.mapM_toArray, List.mapM_cons, List.mapM_nil]
  rw [hk]
  simp only [asAddr, pure_bind]
  simp [hl]
/-- a session at first. -/
def firstU (x : Bg) : Sn := ⟨x, 1, [], zeroS, 0, 0, [], 0⟩
theorem gp_none {N : Nat} (hN : 1 ≤ N) : gpF [] N = [(0, N)] := by
  unfold gpF gpG atG
  simp
  omega
theorem gpo_none {N : Nat} (hN : N ≤ 512) : GpO [] N := ⟨fun k hk => by simp at hk; subst hk; simp [atG], fun k h => by simp at h, hN, by simp⟩
theorem rows_none {N : Nat} (h1 : 1 ≤ N) (h2 : N ≤ 512) : RowsO (gpF [] N) N := by
  rw [gp_none h1]
  exact ⟨fun r hr => by simp at hr; subst hr; simp; omega, h2, by simp⟩
theorem came_first {w : World} {x : Bg} {ab : Option Addr} {cb : Nat} (hb : Row w ab x.blk) (hl : x.blk.length ≤ cb ∧ cb ≤ maxLen) (hok : okB x = true) (hs : x.ses < 4294967296) : CameS w (firstU x) { zeroP with ab := ab, cb := cb } := by
  unfold okB at hok
  simp only [Bool.and_eq_true, decide_eq_true_eq] at hok
  obtain ⟨h1, h2, h3, h4, h5⟩ := hok
  have k1 := inB_of h1
  have k3 := inB_of h3
  have k4 := inB_of h4
  have k5 := inB_of h5
  have z64 : in64 0 := by unfold in64; omega
  have hz : Sz zeroS := ⟨z64, z64, Nat.zero_lt_succ _, Nat.zero_lt_succ _, Nat.zero_lt_succ _, z64, z64, z64, z64, z64, Nat.zero_le _, Nat.zero_le _, fun c hc => absurd hc List.not_mem_nil⟩
  have hn : Row32 w none [] := ⟨fun x hx => absurd hx List.not_mem_nil, Nat.zero_le _, fun h => absurd h (Nat.lt_irrefl 0)⟩
  have hx : x.blk.length ≤ 140737488351232 := by omega
  exact ⟨hb, rowC_nil _ _, ⟨hz, row_nil _ _, rowC_nil _ _, Nat.zero_le _, Nat.zero_le _, Nat.zero_le _, Nat.zero_le _⟩, hn, hl, ⟨Nat.zero_le _, Nat.zero_le _⟩, ⟨Nat.zero_le _, Nat.zero_le _⟩, hx, Nat.zero_le _, Nat.zero_le _, fun c hc => absurd hc List.not_mem_nil, (by show in64 x.src; unfold in64; omega), hs, (by show in64 x.wai; unfold in64; omega), (by show in64 x.tri; unfold in64; omega), (by show in64 1; unfold in64; omega), z64, z64, z64⟩
theorem size_setC (b : Nat) : ∀ (vs : List Value) (o : Nat) (w : World), (w.setCells b o vs).heap.size = w.heap.size
  | [], _, _ => rfl
  | v :: r, o, w => by rw [World.setCells, size_setC b r]; simp
/-- the session's copy laid into the turn's block, ahead of what is sent. -/
theorem new_stored {w3 : World} {s0 : Sn} {p3 : Pt} {n : Nat} {tb : Nat} (ht : tb = w3.heap.size) (hc : CameS w3 s0 p3) (hn : NewS n p3) :
    Hid (((w3.alloc (tnc zeroU zeroP (.slice none 0 0))).setCells tb 0 (tcells s0 p3 (.slice none 0 0))).rangeAt tb 0 (sncells s0 p3)) ∧ Hid (Below w3.heap.size w3 ((w3.alloc (tnc zeroU zeroP (.slice none 0 0))).setCells tb 0 (tcells s0 p3 (.slice none 0 0)))) ∧ ((w3.alloc (tnc zeroU zeroP (.slice none 0 0))).setCells tb 0 (tcells s0 p3 (.slice none 0 0))).heap.size = tb + 1 ∧
    Hid (Sy (((w3.alloc (tnc zeroU zeroP (.slice none 0 0))).setCells tb 0 (tcells s0 p3 (.slice none 0 0))).alloc (snc s0 p3)) tb (tb + 1) s0 p3 (.slice none 0 0) []) := by
  subst ht
  have hb0 : Below w3.heap.size w3 (w3.alloc (tnc zeroU zeroP (.slice none 0 0))) := (Below.refl _ w3).alloc (Nat.le_refl _) _
  have h0 : (w3.alloc (tnc zeroU zeroP (.slice none 0 0))).heap[w3.heap.size]? = some (tnc zeroU zeroP (.slice none 0 0)) := heap_alloc_new w3 _
  have h4 : ((w3.alloc (tnc zeroU zeroP (.slice none 0 0))).setCells w3.heap.size 0 (tcells s0 p3 (.slice none 0 0))).heap[w3.heap.size]? = some (tnc s0 p3 (.slice none 0 0)) := block_stored (zs := tcells zeroU zeroP (.slice none 0 0)) h0 rfl
  have ho := setC_off (w3.alloc (tnc zeroU zeroP (.slice none 0 0))) w3.heap.size 0 (tcells s0 p3 (.slice none 0 0))
  have hb4 := hb0.trans (ho.below hb0.size (fun i e => by have : i = w3.heap.size := e; omega))
  have hsz : ((w3.alloc (tnc zeroU zeroP (.slice none 0 0))).setCells w3.heap.size 0 (tcells s0 p3 (.slice none 0 0))).heap.size = w3.heap.size + 1 := by
    rw [size_setC]
    simp
  refine ⟨fun j v hv => ?_, hb4, hsz, ⟨old_block ((Below.refl _ _).alloc (Nat.le_refl _) _) h4, World.ownsRow_nil _ _ _ _, Nat.lt_succ_self _, ?_⟩⟩
  · rw [Nat.zero_add, cell_of h4]
    have hj : j < 24 := by
      by_cases hj : j < 24
      · exact hj
      · rw [List.getElem?_eq_none (by show 24 ≤ j; omega)] at hv
        cases hv
    rw [List.getElem?_toArray, ← hv]
    exact List.getElem?_append_left (l₁ := sncells s0 p3) (l₂ := [.slice none 0 0]) hj
  · have : (((w3.alloc (tnc zeroU zeroP (.slice none 0 0))).setCells w3.heap.size 0 (tcells s0 p3 (.slice none 0 0))).alloc (snc s0 p3)).heap.size = w3.heap.size + 2 := by
      simp [hsz]
    omega
theorem hid_of {p : Prop} (h : p) : Hid p := h
/-- what is answered of a session that begins. -/
structure NewO (n : Nat) (x : Bg) (now : Int) (s1 : Sn) (p1 : Pt) (v' : Value) (L : List SD) (w' : World) : Prop where
  came : CameS w' s1 p1
  own : w'.ownsRow n 29 13 v' L.length (dcl L)
  each : ∀ y ∈ L, Row w' y.a y.s.dat ∧ y.s.dat.length ≤ y.c ∧ y.c ≤ maxLen ∧ y.a2 = none ∧ y.c2 = 0
  what : ∃ M X, L = M ++ [{ X with s := { X.s with chk := true, ser := 1 } }] ∧ (M ++ [X]).map SD.s = (pcsOf (gpF [] x.blk.length)).map (segOf (firstU x)) ∧ s1 = { firstU x with lst := { X.s with chk := true, ser := 1 }, due := now + x.wai, ask := 0 }
/-- what the sending of all rows leaves. -/
theorem new_sent {n : Nat} {w3 w4 : World} {x : Bg} {now : Int} {s0 : Sn} {p3 : Pt} (h0 : firstU x = s0) (hok : okB x = true) (hs : x.ses < 4294967296) (hnow : inB now 0 1048576 = true) (hn : n ≤ w3.heap.size) (hc : CameS w3 s0 p3) (hz : w4.heap.size = w3.heap.size + 1) (hb : Below w3.heap.size w3 w4) (hsy : Sy (w4.alloc (snc s0 p3)) w3.heap.size (w3.heap.size + 1) s0 p3 (.slice none 0 0) []) :
    Calls Try.prog 37 #[.pointer (some ⟨w3.heap.size, 0, none⟩), .func (.func 70) #[] #[.pointer (some ⟨w3.heap.size + 1, 0, none⟩)], .int .u32 1, .int .i64 now] (w4.alloc (snc s0 p3)) fun e w' => e = .returned (.tuple #[]) ∧ ∃ v' s1 p1 L, Hid (w'.heap[w3.heap.size]? = some (tnc s1 p1 v')) ∧ Hid (Below w3.heap.size w3 w') ∧ Hid (NewO n x now s1 p1 v' L w') := by
  subst h0
  have hk := hok
  unfold okB at hk
  simp only [Bool.and_eq_true, decide_eq_true_eq] at hk
  obtain ⟨h1, h2, h3, h4, h5⟩ := hk
  have k1 := inB_of h1
  have k3 := inB_of h3
  have k4 := inB_of h4
  have kn := inB_of hnow
  have hb5 : Below w3.heap.size w3 (w4.alloc (snc (firstU x) p3)) := hb.trans ((Below.refl _ _).alloc hb.size _)
  have hcl : (w4.alloc (snc (firstU x) p3)).cell? ⟨w3.heap.size, 24, none⟩ = some (.slice none 0 0) := by rw [cell_of hsy.box]; rfl
  have far : ∀ k, k ≠ w3.heap.size → k < w3.heap.size + 2 → FarT w3.heap.size (w4.alloc (snc (firstU x) p3)) k := fun k hk hl => ⟨_, hcl, hk, by simp [Value.ownBlock], by simp [hz]; omega⟩
  refine (sendr_any (w4.alloc (snc (firstU x) p3)) w3.heap.size (w3.heap.size + 1) (w3.heap.size + 1) (.slice none 0 0) (firstU x) (firstU x) p3 p3 [] 1 now hsy (by simp) (fun y hy => absurd hy List.not_mem_nil) ?_ rfl ⟨hz ▸ heap_alloc_new w4 _, ?_, far _ (by omega) (by omega), fun b o e h => absurd h (Nat.lt_irrefl 0)⟩ ⟨hc.blk.later hb5, hc.lb.1, hc.lb.2, fun b e => ?_⟩ ?_ ?_ kn k4 ?_).mono ?_
  · exact gpo_none (by show x.blk.length ≤ 512; omega)
  · exact rowC_nil _ _
  · have := row_lt hc.blk (by show 0 < x.blk.length; omega) b e
    exact far _ (by omega) (by omega)
  · exact rows_none (by show 1 ≤ x.blk.length; omega) (by show x.blk.length ≤ 512; omega)
  · show gpF [] x.blk.length ≠ []
    rw [gp_none (by omega)]
    exact List.cons_ne_nil _ _
  · exact ⟨by show in64 x.src; unfold in64; omega, hs, by decide⟩
  · rintro e w' ⟨rfl, hq⟩
    obtain ⟨v', M, X, a', c', a2', c2', hsn, hm⟩ := hq.out
    have z64 : in64 0 := by unfold in64; omega
    refine ⟨rfl, v', _, _, M ++ [{ X with s := { X.s with chk := true, ser := 1 } }], hsn.sy.box, ?_, ?_⟩
    · refine hb5.trans (hsn.off.below hb5.size (fun i e => ?_))
      rcases e with e | e
      · omega
      · cases e
    · refine ⟨?_, own_base hsn.sy.own (by omega), hsn.each, M, X, rfl, hm, rfl⟩
      exact ⟨hsn.blk, rowC_nil _ _, hsn.lst, ⟨fun x hx => absurd hx List.not_mem_nil, Nat.zero_le _, fun h => absurd h (Nat.lt_irrefl 0)⟩, hc.lb, hc.lg, hc.ln, hc.zb, hc.zg, hc.zn, hc.gin, hc.src, hc.ses, hc.wai, hc.tri, hc.sta, (by show in64 (now + x.wai); unfold in64; omega), z64, hc.rea⟩
/-- bytes do not lie in a block of noughts of a session. -/
theorem no_u8 {W : World} {rb o : Nat} {k : Int} (h : W.heap[rb]? = some (snc zeroU zeroP)) : W.cell? ⟨rb, o, none⟩ ≠ some (.int .u8 k) := by
  rw [cell_of h]
  intro e
  rw [List.getElem?_toArray] at e
  have := List.mem_of_getElem? e
  simp at this
theorem row_rb {W W' : World} {rb : Nat} {a : Option Addr} {l : List Nat} (h : Row W a l) (hr : W.heap[rb]? = some (snc zeroU zeroP)) (ho : Off (fun i => i = rb) W W') : Row W' a l := by
  refine ⟨h.1, h.2.1, fun h0 => ?_⟩
  obtain ⟨b, off, e, hc⟩ := h.2.2 h0
  refine ⟨b, off, e, fun i hi => ho.cell (hc i hi) (fun q => ?_)⟩
  have q : b = rb := q
  subst q
  exact no_u8 hr (hc i hi)
theorem NewO.off {n rb : Nat} {x : Bg} {now : Int} {s1 : Sn} {p1 : Pt} {v' : Value} {L : List SD} {W W' : World} (h : NewO n x now s1 p1 v' L W) (hr : W.heap[rb]? = some (snc zeroU zeroP)) (ho : Off (fun i => i = rb) W W') (hn : rb < n) : NewO n x now s1 p1 v' L W' := by
  obtain ⟨M, X, hL, hm, hs1⟩ := h.what
  have hcl : X.s.cls = [] := by
    have h1 : X.s ∈ (M ++ [X]).map SD.s := by simp
    rw [hm] at h1
    obtain ⟨y, _, e⟩ := List.mem_map.1 h1
    rw [← e]
    rfl
  refine ⟨?_, ho.owns h.own (fun g e q => by have := own_ge h.own g e; have : g = rb := q; omega), fun y hy => ?_, M, X, hL, hm, hs1⟩
  · have hc := h.came
    refine { hc with blk := row_rb hc.blk hr ho, got := ?_, lst := ?_, sen := ?_ }
    · rw [hs1]; exact rowC_nil _ _
    · refine { hc.lst with row := row_rb hc.lst.row hr ho, rowc := ?_ }
      rw [hs1]
      show RowC _ _ X.s.cls
      rw [hcl]
      exact rowC_nil _ _
    · rw [hs1]
      exact ⟨fun x hx => absurd hx List.not_mem_nil, Nat.zero_le _, fun h => absurd h (Nat.lt_irrefl 0)⟩
  · have := h.each y hy
    exact ⟨row_rb this.1 hr ho, this.2⟩
theorem size_one {W : World} {n : Nat} {o : Obj} (h : W.heap[n]? = some o) : n < W.heap.size := by
  by_cases hn : n < W.heap.size
  · exact hn
  · rw [Array.getElem?_eq_none (by omega)] at h
    cases h
/-- what New answers of what may begin. -/
def AnsN (w w' : World) (e : Ending) (x : Bg) (now : Int) : Prop := ∃ v' s1 p1 L, e = .returned (.tuple #[snv s1 p1, v', .int .i64 0]) ∧ Hid (Below w.heap.size w w' ∧ NewO w.heap.size x now s1 p1 v' L w')
/-- where a turn ends: its session and its segments are answered. -/
theorem turn_ends {W : World} {tb rb : Nat} {s : Sn} {p : Pt} {v : Value} {cs : List Value} (ht : W.heap[tb]? = some (tnc s p v)) (hr : W.heap[rb]? = some (snc zeroU zeroP)) (hne : tb ≠ rb) (hcs : cs = sncells s p) :
    W.drew.rangeAt tb 0 cs ∧ W.drew.there rb 0 cs.toArray.size ∧ cs.toArray.all (·.oneCell') = true ∧ (W.drew.setCells rb 0 cs).rangeAt rb 0 cs ∧ W.cell? ⟨tb, 24, none⟩ = some v ∧ (W.drew.setCells rb 0 cs).cell? ⟨tb, 24, none⟩ = some v ∧ Off (fun i => i = rb) W (W.drew.setCells rb 0 cs) := by
  subst hcs
  have h24 : W.cell? ⟨tb, 24, none⟩ = some v := by rw [cell_of ht]; rfl
  have ho : Off (fun i => i = rb) W.drew (W.drew.setCells rb 0 (sncells s p)) := setC_off W.drew rb 0 (sncells s p)
  refine ⟨fun j u hu => ?_, sn_there (show W.drew.heap[rb]? = _ from hr) 0 24 (Nat.le_refl _), sn_one _ _, sn_range (block_stored (zs := sncells zeroU zeroP) (show W.drew.heap[rb]? = _ from hr) rfl), h24, ho.cell (p := ⟨tb, 24, none⟩) (show W.drew.cell? _ = _ from h24) hne, ?_⟩
  · show W.cell? _ = _
    rw [Nat.zero_add, cell_of ht]
    have hj : j < 24 := by
      by_cases hj : j < 24
      · exact hj
      · rw [List.getElem?_eq_none (by show 24 ≤ j; omega)] at hu
        cases hu
    rw [List.getElem?_toArray, ← hu]
    exact List.getElem?_append_left (l₁ := sncells s p) (l₂ := [v]) hj
  · exact ((Off.refl (fun i => i = rb) W).drew).trans ho (fun _ _ t => t)
set_option maxRecDepth 20000 in
set_option maxHeartbeats 16000000 in
theorem new_ok (x : Bg) (ab : Option Addr) (cb : Nat) (now : Int) (w : World) (hb : Row w ab x.blk) (hl : x.blk.length ≤ cb ∧ cb ≤ maxLen) (hok : okB x = true) (hs : x.ses < 4294967296) (hn : inB now 0 1048576 = true) :
    Calls Try.prog 10 #[bgv x ab cb, .int .i64 now] w fun e w' => AnsN w w' e x now := by
  have hcm := came_first hb hl hok hs
  have HSX : Hid (∀ W, Below w.heap.size w W → Calls Try.prog 34 #[bgv x ab cb] W fun e w' => e = .returned (.bool true) ∧ Hid (Below W.heap.size W w')) := fun W hb => hok ▸ start_any x ab cb W
  obtain ⟨s0, hs0⟩ : ∃ s0, firstU x = s0 := ⟨_, rfl⟩
  have HS00 : Hid (firstU x = s0) := hs0
  have HDP : Hid (∀ W, Below w.heap.size w W → Calls Try.prog 36 #[.agg #[.int .i64 x.src, .int .u32 (x.ses : Nat), .slice ab x.blk.length cb, .int .i64 x.wai, .int .i64 x.tri, .int .i64 1, .slice none 0 0, .int .i64 0, .int .i64 0, .int .u32 0, .int .u32 0, .int .u32 0, .int .i64 0, .int .i64 0, .int .i64 0, .int .i64 0, .int .i64 0, .bool false, .slice none 0 0, .slice none 0 0, .int .i64 0, .int .i64 0, .slice none 0 0, .int .i64 0]] W fun e w' => ∃ p', e = .returned (snv s0 p') ∧ Hid (Below W.heap.size W w' ∧ CameS w' s0 p' ∧ NewS W.heap.size p')) := fun W hb => by
    have hbl : x.blk.length ≤ 512 := by
      unfold okB at hok
      simp only [Bool.and_eq_true, decide_eq_true_eq] at hok
      have := inB_of hok.2.2.1
      omega
    have := deep_any (firstU x) { zeroP with ab := ab, cb := cb } W (hcm.later hb) ⟨by show x.blk.length ≤ 1000; omega, by simp [firstU], by simp [firstU], by simp [firstU, zeroS], by simp [firstU, zeroS]⟩
    rw [← hs0]
    exact this
  clear hs0
  have HB0 : Hid (Below w.heap.size w ((w.alloc (bgc x ab cb)).alloc (snc zeroU zeroP))) := ((Below.refl _ w).alloc (Nat.le_refl _) _).alloc (by simp) _
  have HP0 : Hid (((w.alloc (bgc x ab cb)).alloc (snc zeroU zeroP)).heap[w.heap.size]? = some (bgc x ab cb) ∧ ((w.alloc (bgc x ab cb)).alloc (snc zeroU zeroP)).heap[w.heap.size + 1]? = some (snc zeroU zeroP)) := by
    refine ⟨old_block ((Below.refl _ (w.alloc (bgc x ab cb))).alloc (Nat.le_refl _) _) (heap_alloc_new w _), ?_⟩
    have := heap_alloc_new (w.alloc (bgc x ab cb)) (snc zeroU zeroP)
    rw [show (w.alloc (bgc x ab cb)).heap.size = w.heap.size + 1 by simp] at this
    exact this
  have hs24 : Hid ((Try.prog.info? 32).map (·.size) = some 24) := by show _ = _; kernel_rfl
  have hs25 : (Try.prog.info? 75).map (·.size) = some 25 := by kernel_rfl
  clear hcm hb
  go_enter Try.func10, Try.ntmps10
  go_upto_region 3 with (first | (go_at_call 34; refine (HSX.out _ HB0.out).mono ?_; rintro e w1 ⟨rfl, hb1⟩; have HP1 : Hid (w1.heap[w.heap.size]? = some (bgc x ab cb) ∧ w1.heap[w.heap.size + 1]? = some (snc zeroU zeroP)) := ⟨old_block hb1.out HP0.out.1, old_block hb1.out HP0.out.2⟩) | (go_at_call 35; refine (uwithin_any _ _ _ _).mono ?_; rintro e w2 ⟨rfl, rfl⟩; rw [hn]))
  have c0 := cell_of HP1.out.1 0
  have c1 := cell_of HP1.out.1 1
  have c2 := cell_of HP1.out.1 2
  have c3 := cell_of HP1.out.1 3
  have c4 := cell_of HP1.out.1 4
  simp only [List.getElem?_toArray, List.getElem?_cons_zero, List.getElem?_cons_succ] at c0 c1 c2 c3 c4
  go_upto_region 4 with (first | (go_at_call 36; refine (HDP.out _ (below_of HB0.out hb1.out)).mono ?_; rintro e w3 ⟨p3, rfl, hq3⟩; have HT3 : Hid ((w3.alloc (tnc zeroU zeroP (.slice none 0 0))).there w3.heap.size 0 (tcells s0 p3 (.slice none 0 0)).toArray.size) := t_there (heap_alloc_new w3 _); have HO3 : Hid ((tcells s0 p3 (.slice none 0 0)).toArray.all (·.oneCell') = true) := t_one _ _ _ _ _; have HN3 := new_stored rfl hq3.out.2.1 hq3.out.2.2) | (refine wpList_store_mid rfl 75 _ _ rfl w3.heap.size 0 (tcells s0 p3 (.slice none 0 0)).toArray (by rfl) (by rfl) HT3.out hs25 HO3.out ?_))
  obtain ⟨cs, hcs⟩ : ∃ cs, Hid (cs = sncells s0 p3) := ⟨_, rfl⟩
  obtain ⟨HR3, HB3, hz3, HS3⟩ := new_stored rfl hq3.out.2.1 hq3.out.2.2
  rw [← hcs.out] at HR3
  have hsz1 : (Try.prog.info? 32).map (·.size) = some cs.length := by rw [show cs.length = 24 by rw [hcs.out]; rfl]; exact hs24.out
  have HGP : Hid (∀ W, Calls Try.prog 38 #[.agg cs.toArray] W fun e w' => e = .returned (.func (.func 70) #[] #[.pointer (some ⟨W.heap.size, 0, none⟩)]) ∧ w' = W.alloc (snc s0 p3)) := fun W => by rw [hcs.out]; exact gp_fn s0 p3 W
  obtain ⟨w4, hw4⟩ : ∃ w4, (w3.alloc (tnc zeroU zeroP (.slice none 0 0))).setCells w3.heap.size 0 (tcells s0 p3 (.slice none 0 0)) = w4 := ⟨_, rfl⟩
  rw [hw4] at HR3 HB3 hz3 HS3
  change Code.wp Try.prog _ _ _ ((w3.alloc (tnc zeroU zeroP (.slice none 0 0))).setCells w3.heap.size 0 (tcells s0 p3 (.slice none 0 0)))
  rw [hw4]
  have HSR := hid_of (new_sent (n := w3.heap.size) HS00.out hok hs hn (Nat.le_refl _) hq3.out.2.1 hz3 HB3.out HS3.out)
  clear hw4 hcs HS3
  go_upto_region 5 with (first | (refine wpList_load_mid rfl 32 _ rfl w3.heap.size 0 (by rfl) cs _ HR3.out Try.underlying32 rfl hsz1 ?_) | (go_at_call 38; refine (HGP.out _).mono ?_; rintro e w5 ⟨rfl, rfl⟩) | (go_at_call 37; refine (HSR.out).mono ?_; rintro e w6 ⟨rfl, v', s1, p1, L, HX6, HB6, HO6⟩))
  obtain ⟨cs1, hcs1⟩ : ∃ cs, Hid (cs = sncells s1 p1) := ⟨_, rfl⟩
  have HRB : Hid (w6.heap[w.heap.size + 1]? = some (snc zeroU zeroP)) := old_block HB6.out (old_block hq3.out.1 HP1.out.2)
  have htn : w.heap.size + 1 < w3.heap.size := Nat.lt_of_lt_of_le (size_one HP1.out.2) hq3.out.1.size
  have htr : w3.heap.size ≠ w.heap.size + 1 := by omega
  obtain ⟨r1, r2, r3, r4, q1, q2, r5⟩ := turn_ends HX6.out HRB.out htr hcs1.out
  have HR1 : Hid (w6.drew.rangeAt w3.heap.size 0 cs1) := r1
  have HR4 : Hid ((w6.drew.setCells (w.heap.size + 1) 0 cs1).rangeAt (w.heap.size + 1) 0 cs1) := r4
  have HBW : Hid (Below w.heap.size w w6) := below_of (below_of (below_of HB0.out hb1.out) hq3.out.1) HB6.out
  have HAN : Hid (AnsN w (w6.drew.setCells (w.heap.size + 1) 0 cs1) (.returned (.tuple #[.agg cs1.toArray, v', .int .i64 0])) x now) := by
    have ho := HO6.out.off HRB.out r5 htn
    refine ⟨v', s1, p1, L, by rw [hcs1.out], HBW.out.trans (r5.below HBW.out.size (fun i e => by have : i = w.heap.size + 1 := e; omega)), ?_⟩
    exact { ho with own := own_base ho.own (by omega) }
  have hl24 : cs1.length = 24 := by rw [hcs1.out]; rfl
  have hsz3 : (Try.prog.info? 32).map (·.size) = some cs1.length := by rw [hl24]; exact hs24.out
  have hsz2 : (Try.prog.info? 32).map (·.size) = some cs1.toArray.size := by rw [show cs1.toArray.size = 24 from hl24]; exact hs24.out
  clear r1 r4 r5 hz3 hsz1 HSR HR3 HGP HT3 HO3 HN3 HB3 hq3 HX6 HB6 HO6 HRB HBW hcs1 HP1 HP0 HB0 HDP HSX HS00 c0 c1 c2 c3 c4 hb1 hs25 htn
  refine wp_region_any (by kernel_rfl) ?_
  change wpAny _ _ _ _ _ _ _ (World.drew _)
  refine wpAny_ready (rs := [0, 2]) (by kernel_rfl) (by simp) ?_
  refine AllReady.cons rfl (fun K hK => ?_) (AllReady.cons rfl (fun K hK => ?_) AllReady.nil)
  · skip
    go_simp
    refine hK _ _ ?_
    clear hK K
    refine wpAny_ready (rs := [1, 2]) (by kernel_rfl) (by simp) ?_
    refine AllReady.cons rfl (fun K hK => ?_) (AllReady.cons rfl (fun K hK => ?_) AllReady.nil)
    · skip
      refine step_load (by rfl) 32 _ rfl w3.heap.size 0 (by rfl) cs1 _ HR1.out Try.underlying32 rfl hsz3 ?_
      refine hK _ _ ?_
      clear hK K
      refine wpAny_ready (rs := [2, 4]) (by kernel_rfl) (by simp) ?_
      refine AllReady.cons rfl (fun K hK => ?_) (AllReady.cons rfl (fun K hK => ?_) AllReady.nil)
      · skip
        go_simp
        refine hK _ _ ?_
        clear hK K
        refine wpAny_ready (rs := [3, 4]) (by kernel_rfl) (by simp) ?_
        refine AllReady.cons rfl (fun K hK => ?_) (AllReady.cons rfl (fun K hK => ?_) AllReady.nil)
        · skip
          go_simp
          refine hK _ _ ?_
          clear hK K
          refine wpAny_ready (rs := [4]) (by kernel_rfl) (by simp) ?_
          refine AllReady.cons rfl (fun K hK => ?_) AllReady.nil
          · skip
            refine step_store (by rfl) 32 _ _ rfl (w.heap.size + 1) 0 cs1.toArray (by rfl) (by rfl) r2 hsz2 r3 ?_
            refine hK _ _ ?_
            clear hK K
            refine wpAny_ready (rs := [5]) (by kernel_rfl) (by simp) ?_
            refine AllReady.cons rfl (fun K hK => ?_) AllReady.nil
            · skip
              go_simp
              refine hK _ _ ?_
              clear hK K
              refine wpAny_ready (rs := [6]) (by kernel_rfl) (by simp) ?_
              refine AllReady.cons rfl (fun K hK => ?_) AllReady.nil
              · skip
                go_simp
                refine hK _ _ ?_
                clear hK K
                refine wpAny_done (by kernel_rfl) ?_ _
                go_wp2
                exact bodyPost_ret (results_cell3 rfl _ _ (w.heap.size + 1) 0 (by rfl) cs1 _ HR4.out Try.underlying32 rfl hsz3) rfl (by show AnsN w _ (.returned (.tuple #[.agg cs1.toArray, v', .int .i64 0])) x now; exact HAN.out)
        · skip
          refine step_store (by rfl) 32 _ _ rfl (w.heap.size + 1) 0 cs1.toArray (by rfl) (by rfl) r2 hsz2 r3 ?_
          refine hK _ _ ?_
          clear hK K
          refine wpAny_ready (rs := [3]) (by kernel_rfl) (by simp) ?_
          refine AllReady.cons rfl (fun K hK => ?_) AllReady.nil
          · skip
            go_simp
            refine hK _ _ ?_
            clear hK K
            refine wpAny_ready (rs := [5]) (by kernel_rfl) (by simp) ?_
            refine AllReady.cons rfl (fun K hK => ?_) AllReady.nil
            · skip
              go_simp
              refine hK _ _ ?_
              clear hK K
              refine wpAny_ready (rs := [6]) (by kernel_rfl) (by simp) ?_
              refine AllReady.cons rfl (fun K hK => ?_) AllReady.nil
              · skip
                go_simp
                refine hK _ _ ?_
                clear hK K
                refine wpAny_done (by kernel_rfl) ?_ _
                go_wp2
                exact bodyPost_ret (results_cell3 rfl _ _ (w.heap.size + 1) 0 (by rfl) cs1 _ HR4.out Try.underlying32 rfl hsz3) rfl (by show AnsN w _ (.returned (.tuple #[.agg cs1.toArray, v', .int .i64 0])) x now; exact HAN.out)
      · skip
        refine step_store (by rfl) 32 _ _ rfl (w.heap.size + 1) 0 cs1.toArray (by rfl) (by rfl) r2 hsz2 r3 ?_
        refine hK _ _ ?_
        clear hK K
        refine wpAny_ready (rs := [2]) (by kernel_rfl) (by simp) ?_
        refine AllReady.cons rfl (fun K hK => ?_) AllReady.nil
        · skip
          go_simp
          refine hK _ _ ?_
          clear hK K
          refine wpAny_ready (rs := [3]) (by kernel_rfl) (by simp) ?_
          refine AllReady.cons rfl (fun K hK => ?_) AllReady.nil
          · skip
            go_simp
            refine hK _ _ ?_
            clear hK K
            refine wpAny_ready (rs := [5]) (by kernel_rfl) (by simp) ?_
            refine AllReady.cons rfl (fun K hK => ?_) AllReady.nil
            · skip
              go_simp
              refine hK _ _ ?_
              clear hK K
              refine wpAny_ready (rs := [6]) (by kernel_rfl) (by simp) ?_
              refine AllReady.cons rfl (fun K hK => ?_) AllReady.nil
              · skip
                go_simp
                refine hK _ _ ?_
                clear hK K
                refine wpAny_done (by kernel_rfl) ?_ _
                go_wp2
                exact bodyPost_ret (results_cell3 rfl _ _ (w.heap.size + 1) 0 (by rfl) cs1 _ HR4.out Try.underlying32 rfl hsz3) rfl (by show AnsN w _ (.returned (.tuple #[.agg cs1.toArray, v', .int .i64 0])) x now; exact HAN.out)
    · skip
      go_simp
      refine hK _ _ ?_
      clear hK K
      refine wpAny_ready (rs := [1, 3]) (by kernel_rfl) (by simp) ?_
      refine AllReady.cons rfl (fun K hK => ?_) (AllReady.cons rfl (fun K hK => ?_) AllReady.nil)
      · skip
        refine step_load (by rfl) 32 _ rfl w3.heap.size 0 (by rfl) cs1 _ HR1.out Try.underlying32 rfl hsz3 ?_
        refine hK _ _ ?_
        clear hK K
        refine wpAny_ready (rs := [3, 4]) (by kernel_rfl) (by simp) ?_
        refine AllReady.cons rfl (fun K hK => ?_) (AllReady.cons rfl (fun K hK => ?_) AllReady.nil)
        · skip
          go_simp
          refine hK _ _ ?_
          clear hK K
          refine wpAny_ready (rs := [4]) (by kernel_rfl) (by simp) ?_
          refine AllReady.cons rfl (fun K hK => ?_) AllReady.nil
          · skip
            refine step_store (by rfl) 32 _ _ rfl (w.heap.size + 1) 0 cs1.toArray (by rfl) (by rfl) r2 hsz2 r3 ?_
            refine hK _ _ ?_
            clear hK K
            refine wpAny_ready (rs := [5]) (by kernel_rfl) (by simp) ?_
            refine AllReady.cons rfl (fun K hK => ?_) AllReady.nil
            · skip
              go_simp
              refine hK _ _ ?_
              clear hK K
              refine wpAny_ready (rs := [6]) (by kernel_rfl) (by simp) ?_
              refine AllReady.cons rfl (fun K hK => ?_) AllReady.nil
              · skip
                go_simp
                refine hK _ _ ?_
                clear hK K
                refine wpAny_done (by kernel_rfl) ?_ _
                go_wp2
                exact bodyPost_ret (results_cell3 rfl _ _ (w.heap.size + 1) 0 (by rfl) cs1 _ HR4.out Try.underlying32 rfl hsz3) rfl (by show AnsN w _ (.returned (.tuple #[.agg cs1.toArray, v', .int .i64 0])) x now; exact HAN.out)
        · skip
          refine step_store (by rfl) 32 _ _ rfl (w.heap.size + 1) 0 cs1.toArray (by rfl) (by rfl) r2 hsz2 r3 ?_
          refine hK _ _ ?_
          clear hK K
          refine wpAny_ready (rs := [3]) (by kernel_rfl) (by simp) ?_
          refine AllReady.cons rfl (fun K hK => ?_) AllReady.nil
          · skip
            go_simp
            refine hK _ _ ?_
            clear hK K
            refine wpAny_ready (rs := [5]) (by kernel_rfl) (by simp) ?_
            refine AllReady.cons rfl (fun K hK => ?_) AllReady.nil
            · skip
              go_simp
              refine hK _ _ ?_
              clear hK K
              refine wpAny_ready (rs := [6]) (by kernel_rfl) (by simp) ?_
              refine AllReady.cons rfl (fun K hK => ?_) AllReady.nil
              · skip
                go_simp
                refine hK _ _ ?_
                clear hK K
                refine wpAny_done (by kernel_rfl) ?_ _
                go_wp2
                exact bodyPost_ret (results_cell3 rfl _ _ (w.heap.size + 1) 0 (by rfl) cs1 _ HR4.out Try.underlying32 rfl hsz3) rfl (by show AnsN w _ (.returned (.tuple #[.agg cs1.toArray, v', .int .i64 0])) x now; exact HAN.out)
      · skip
        go_simp
        refine hK _ _ ?_
        clear hK K
        refine wpAny_ready (rs := [1]) (by kernel_rfl) (by simp) ?_
        refine AllReady.cons rfl (fun K hK => ?_) AllReady.nil
        · skip
          refine step_load (by rfl) 32 _ rfl w3.heap.size 0 (by rfl) cs1 _ HR1.out Try.underlying32 rfl hsz3 ?_
          refine hK _ _ ?_
          clear hK K
          refine wpAny_ready (rs := [4]) (by kernel_rfl) (by simp) ?_
          refine AllReady.cons rfl (fun K hK => ?_) AllReady.nil
          · skip
            refine step_store (by rfl) 32 _ _ rfl (w.heap.size + 1) 0 cs1.toArray (by rfl) (by rfl) r2 hsz2 r3 ?_
            refine hK _ _ ?_
            clear hK K
            refine wpAny_ready (rs := [5]) (by kernel_rfl) (by simp) ?_
            refine AllReady.cons rfl (fun K hK => ?_) AllReady.nil
            · skip
              go_simp
              refine hK _ _ ?_
              clear hK K
              refine wpAny_ready (rs := [6]) (by kernel_rfl) (by simp) ?_
              refine AllReady.cons rfl (fun K hK => ?_) AllReady.nil
              · skip
                go_simp
                refine hK _ _ ?_
                clear hK K
                refine wpAny_done (by kernel_rfl) ?_ _
                go_wp2
                exact bodyPost_ret (results_cell3 rfl _ _ (w.heap.size + 1) 0 (by rfl) cs1 _ HR4.out Try.underlying32 rfl hsz3) rfl (by show AnsN w _ (.returned (.tuple #[.agg cs1.toArray, v', .int .i64 0])) x now; exact HAN.out)
  · skip
    go_simp
    refine hK _ _ ?_
    clear hK K
    refine wpAny_ready (rs := [0, 3]) (by kernel_rfl) (by simp) ?_
    refine AllReady.cons rfl (fun K hK => ?_) (AllReady.cons rfl (fun K hK => ?_) AllReady.nil)
    · skip
      go_simp
      refine hK _ _ ?_
      clear hK K
      refine wpAny_ready (rs := [1, 3]) (by kernel_rfl) (by simp) ?_
      refine AllReady.cons rfl (fun K hK => ?_) (AllReady.cons rfl (fun K hK => ?_) AllReady.nil)
      · skip
        refine step_load (by rfl) 32 _ rfl w3.heap.size 0 (by rfl) cs1 _ HR1.out Try.underlying32 rfl hsz3 ?_
        refine hK _ _ ?_
        clear hK K
        refine wpAny_ready (rs := [3, 4]) (by kernel_rfl) (by simp) ?_
        refine AllReady.cons rfl (fun K hK => ?_) (AllReady.cons rfl (fun K hK => ?_) AllReady.nil)
        · skip
          go_simp
          refine hK _ _ ?_
          clear hK K
          refine wpAny_ready (rs := [4]) (by kernel_rfl) (by simp) ?_
          refine AllReady.cons rfl (fun K hK => ?_) AllReady.nil
          · skip
            refine step_store (by rfl) 32 _ _ rfl (w.heap.size + 1) 0 cs1.toArray (by rfl) (by rfl) r2 hsz2 r3 ?_
            refine hK _ _ ?_
            clear hK K
            refine wpAny_ready (rs := [5]) (by kernel_rfl) (by simp) ?_
            refine AllReady.cons rfl (fun K hK => ?_) AllReady.nil
            · skip
              go_simp
              refine hK _ _ ?_
              clear hK K
              refine wpAny_ready (rs := [6]) (by kernel_rfl) (by simp) ?_
              refine AllReady.cons rfl (fun K hK => ?_) AllReady.nil
              · skip
                go_simp
                refine hK _ _ ?_
                clear hK K
                refine wpAny_done (by kernel_rfl) ?_ _
                go_wp2
                exact bodyPost_ret (results_cell3 rfl _ _ (w.heap.size + 1) 0 (by rfl) cs1 _ HR4.out Try.underlying32 rfl hsz3) rfl (by show AnsN w _ (.returned (.tuple #[.agg cs1.toArray, v', .int .i64 0])) x now; exact HAN.out)
        · skip
          refine step_store (by rfl) 32 _ _ rfl (w.heap.size + 1) 0 cs1.toArray (by rfl) (by rfl) r2 hsz2 r3 ?_
          refine hK _ _ ?_
          clear hK K
          refine wpAny_ready (rs := [3]) (by kernel_rfl) (by simp) ?_
          refine AllReady.cons rfl (fun K hK => ?_) AllReady.nil
          · skip
            go_simp
            refine hK _ _ ?_
            clear hK K
            refine wpAny_ready (rs := [5]) (by kernel_rfl) (by simp) ?_
            refine AllReady.cons rfl (fun K hK => ?_) AllReady.nil
            · skip
              go_simp
              refine hK _ _ ?_
              clear hK K
              refine wpAny_ready (rs := [6]) (by kernel_rfl) (by simp) ?_
              refine AllReady.cons rfl (fun K hK => ?_) AllReady.nil
              · skip
                go_simp
                refine hK _ _ ?_
                clear hK K
                refine wpAny_done (by kernel_rfl) ?_ _
                go_wp2
                exact bodyPost_ret (results_cell3 rfl _ _ (w.heap.size + 1) 0 (by rfl) cs1 _ HR4.out Try.underlying32 rfl hsz3) rfl (by show AnsN w _ (.returned (.tuple #[.agg cs1.toArray, v', .int .i64 0])) x now; exact HAN.out)
      · skip
        go_simp
        refine hK _ _ ?_
        clear hK K
        refine wpAny_ready (rs := [1]) (by kernel_rfl) (by simp) ?_
        refine AllReady.cons rfl (fun K hK => ?_) AllReady.nil
        · skip
          refine step_load (by rfl) 32 _ rfl w3.heap.size 0 (by rfl) cs1 _ HR1.out Try.underlying32 rfl hsz3 ?_
          refine hK _ _ ?_
          clear hK K
          refine wpAny_ready (rs := [4]) (by kernel_rfl) (by simp) ?_
          refine AllReady.cons rfl (fun K hK => ?_) AllReady.nil
          · skip
            refine step_store (by rfl) 32 _ _ rfl (w.heap.size + 1) 0 cs1.toArray (by rfl) (by rfl) r2 hsz2 r3 ?_
            refine hK _ _ ?_
            clear hK K
            refine wpAny_ready (rs := [5]) (by kernel_rfl) (by simp) ?_
            refine AllReady.cons rfl (fun K hK => ?_) AllReady.nil
            · skip
              go_simp
              refine hK _ _ ?_
              clear hK K
              refine wpAny_ready (rs := [6]) (by kernel_rfl) (by simp) ?_
              refine AllReady.cons rfl (fun K hK => ?_) AllReady.nil
              · skip
                go_simp
                refine hK _ _ ?_
                clear hK K
                refine wpAny_done (by kernel_rfl) ?_ _
                go_wp2
                exact bodyPost_ret (results_cell3 rfl _ _ (w.heap.size + 1) 0 (by rfl) cs1 _ HR4.out Try.underlying32 rfl hsz3) rfl (by show AnsN w _ (.returned (.tuple #[.agg cs1.toArray, v', .int .i64 0])) x now; exact HAN.out)
    · skip
      go_simp
      refine hK _ _ ?_
      clear hK K
      refine wpAny_ready (rs := [0]) (by kernel_rfl) (by simp) ?_
      refine AllReady.cons rfl (fun K hK => ?_) AllReady.nil
      · skip
        go_simp
        refine hK _ _ ?_
        clear hK K
        refine wpAny_ready (rs := [1]) (by kernel_rfl) (by simp) ?_
        refine AllReady.cons rfl (fun K hK => ?_) AllReady.nil
        · skip
          refine step_load (by rfl) 32 _ rfl w3.heap.size 0 (by rfl) cs1 _ HR1.out Try.underlying32 rfl hsz3 ?_
          refine hK _ _ ?_
          clear hK K
          refine wpAny_ready (rs := [4]) (by kernel_rfl) (by simp) ?_
          refine AllReady.cons rfl (fun K hK => ?_) AllReady.nil
          · skip
            refine step_store (by rfl) 32 _ _ rfl (w.heap.size + 1) 0 cs1.toArray (by rfl) (by rfl) r2 hsz2 r3 ?_
            refine hK _ _ ?_
            clear hK K
            refine wpAny_ready (rs := [5]) (by kernel_rfl) (by simp) ?_
            refine AllReady.cons rfl (fun K hK => ?_) AllReady.nil
            · skip
              go_simp
              refine hK _ _ ?_
              clear hK K
              refine wpAny_ready (rs := [6]) (by kernel_rfl) (by simp) ?_
              refine AllReady.cons rfl (fun K hK => ?_) AllReady.nil
              · skip
                go_simp
                refine hK _ _ ?_
                clear hK K
                refine wpAny_done (by kernel_rfl) ?_ _
                go_wp2
                exact bodyPost_ret (results_cell3 rfl _ _ (w.heap.size + 1) 0 (by rfl) cs1 _ HR4.out Try.underlying32 rfl hsz3) rfl (by show AnsN w _ (.returned (.tuple #[.agg cs1.toArray, v', .int .i64 0])) x now; exact HAN.out)
theorem zero_ends {w W : World} (h : W.heap[w.heap.size + 1]? = some (snc zeroU zeroP)) (hb : Below w.heap.size w W) :
    Hid (W.there (w.heap.size + 1) 0 (sncells zeroU zeroP).toArray.size) ∧ Hid ((sncells zeroU zeroP).toArray.all (·.oneCell') = true) ∧ Hid ((W.setCells (w.heap.size + 1) 0 (sncells zeroU zeroP)).rangeAt (w.heap.size + 1) 0 (sncells zeroU zeroP)) ∧ Hid (Below w.heap.size w (W.setCells (w.heap.size + 1) 0 (sncells zeroU zeroP))) :=
  ⟨sn_there h 0 24 (Nat.le_refl _), sn_one _ _, sn_range (block_stored (zs := sncells zeroU zeroP) h rfl), hb.trans ((setC_off W (w.heap.size + 1) 0 _).below hb.size (fun i e => by have : i = w.heap.size + 1 := e; omega))⟩
set_option maxRecDepth 20000 in
set_option maxHeartbeats 16000000 in
theorem new_no (x : Bg) (ab : Option Addr) (cb : Nat) (now : Int) (w : World) (hok : okB x = false ∨ okB x = true ∧ inB now 0 1048576 = false) :
    Calls Try.prog 10 #[bgv x ab cb, .int .i64 now] w fun e w' => e = .returned (.tuple #[snv zeroU zeroP, .slice none 0 0, .int .i64 2]) ∧ Hid (Below w.heap.size w w') := by
  have HB0 : Hid (Below w.heap.size w ((w.alloc (bgc x ab cb)).alloc (snc zeroU zeroP))) := ((Below.refl _ w).alloc (Nat.le_refl _) _).alloc (by simp) _
  have HP0 : Hid (((w.alloc (bgc x ab cb)).alloc (snc zeroU zeroP)).heap[w.heap.size]? = some (bgc x ab cb) ∧ ((w.alloc (bgc x ab cb)).alloc (snc zeroU zeroP)).heap[w.heap.size + 1]? = some (snc zeroU zeroP)) := by
    refine ⟨old_block ((Below.refl _ (w.alloc (bgc x ab cb))).alloc (Nat.le_refl _) _) (heap_alloc_new w _), ?_⟩
    have := heap_alloc_new (w.alloc (bgc x ab cb)) (snc zeroU zeroP)
    rw [show (w.alloc (bgc x ab cb)).heap.size = w.heap.size + 1 by simp] at this
    exact this
  have hs24 : (Try.prog.info? 32).map (·.size) = some 24 := by kernel_rfl
  rcases hok with hok | ⟨hok, hn⟩
  all_goals
    have HSX : Hid (∀ W, Below w.heap.size w W → Calls Try.prog 34 #[bgv x ab cb] W fun e w' => e = .returned (.bool (okB x)) ∧ Hid (Below W.heap.size W w')) := fun W hb => start_any x ab cb W
    rw [hok] at HSX
  · go_enter Try.func10, Try.ntmps10
    go_wp2_with (first | (go_at_call 34; refine (HSX.out _ HB0.out).mono ?_; rintro e w1 ⟨rfl, hb1⟩; have HZ := zero_ends (old_block hb1.out HP0.out.2) (below_of HB0.out hb1.out)) | (refine wpList_store_mid rfl 32 _ _ rfl (w.heap.size + 1) 0 (sncells zeroU zeroP).toArray (by rfl) (by rfl) HZ.1.out hs24 HZ.2.1.out ?_))
    exact bodyPost_ret (results_cell3 rfl _ _ (w.heap.size + 1) 0 (by rfl) (sncells zeroU zeroP) _ HZ.2.2.1.out Try.underlying32 rfl hs24) rfl ⟨rfl, HZ.2.2.2⟩
  · go_enter Try.func10, Try.ntmps10
    go_wp2_with (first | (go_at_call 34; refine (HSX.out _ HB0.out).mono ?_; rintro e w1 ⟨rfl, hb1⟩; have HZ := zero_ends (old_block hb1.out HP0.out.2) (below_of HB0.out hb1.out)) | (go_at_call 35; refine (uwithin_any _ _ _ _).mono ?_; rintro e w2 ⟨rfl, rfl⟩; rw [hn]) | (refine wpList_store_mid rfl 32 _ _ rfl (w.heap.size + 1) 0 (sncells zeroU zeroP).toArray (by rfl) (by rfl) HZ.1.out hs24 HZ.2.1.out ?_))
    exact bodyPost_ret (results_cell3 rfl _ _ (w.heap.size + 1) 0 (by rfl) (sncells zeroU zeroP) _ HZ.2.2.1.out Try.underlying32 rfl hs24) rfl ⟨rfl, HZ.2.2.2⟩
end Go.Proofs.Ytnjcaolkcmpdcaa
