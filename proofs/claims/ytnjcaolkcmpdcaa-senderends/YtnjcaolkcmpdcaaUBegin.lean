/- sender.begin. -/
import Derived.Test.YtnjcaolkcmpdcaaUDeep
import Derived.Test.YtnjcaolkcmpdcaaUTurn
namespace Go.Proofs.Ytnjcaolkcmpdcaa
open Go.RowKit
set_option linter.unusedVariables false
/-- a block's result, and a slot's. -/
theorem results_cell2 {P : Program} {fn : Func} {k t : Tmp} {ty : TypeId} (h : fn.results = #[.cell k ty, .tmp t]) (tmps : Array Value) (w : World) (b o : Nat) (hk : tmps.getD k undef = .pointer (some ⟨b, o, none⟩)) (cs : List Value) (d : TypeDesc) (hc : w.rangeAt b o cs)
    (hu : P.underlying ty = some d) (hd : d.isRow = true) (hi : (P.info? ty).map (·.size) = some cs.length) : (results fn tmps).run P w = .ok (.tuple #[.agg cs.toArray, tmps.getD t undef]) w := by
  have hl : (loadVar ty ⟨b, o, none⟩).run P w = .ok (.agg cs.toArray) w := run_loadVar_mid w b o ty cs d hc hu hd hi
  unfold results
  rw [h]
  simp only [List.mapM_toArray, List.mapM_cons, List.mapM_nil]
  rw [hk]
  simp only [asAddr, pure_bind]
  simp [hl]
theorem clsOk_len (u : Int) : ∀ (l : List (Int × Int)) (least : Int), 0 ≤ least → clsOk u least l = true → (l.length : Int) ≤ u - least ∨ l = []
  | [], _, _, _ => .inr rfl
  | c :: r, least, h0, h => by
    simp only [clsOk, Bool.and_eq_true, Bool.not_eq_true', decide_eq_false_iff_not] at h
    obtain ⟨h1, h2, h3⟩ := h
    have h4 := inB_of h2
    left
    rcases clsOk_len u r _ (by omega) h3 with h5 | rfl
    · simp only [List.length_cons]
      omega
    · simp only [List.length_cons, List.length_nil]
      omega
theorem small_of {s : Sn} (h : okU s = true) : SmallU s := by
  simp only [okU, okB, Bool.and_eq_true] at h
  obtain ⟨⟨_, _, h1, _⟩, _, h3, h4, h5⟩ := h
  have hb := inB_of h1
  simp only [lastU, Bool.and_eq_true, decide_eq_true_eq] at h4
  obtain ⟨hok, hk, _⟩ := h4
  simp only [seenU, Bool.and_eq_true, decide_eq_true_eq] at h5
  obtain ⟨_, _, hf, hcn⟩ := okS_parts hok
  have hcls : s.lst.cls = [] := by
    rw [hcn]
    unfold cntS
    rw [if_pos hk]
    rfl
  have hdat : s.lst.dat.length ≤ 1000 := by
    rcases kinds hf with ⟨_, hd⟩ | ⟨h, _⟩ | ⟨h, _⟩ | ⟨h, _⟩ | h
    · have := (dataS_of hd).2.1
      omega
    all_goals omega
  refine ⟨by omega, ?_, by omega, hdat, by rw [hcls]; simp⟩
  rcases clsOk_len _ s.got 0 (by omega) h3 with h6 | h6
  · omega
  · rw [h6]
    simp
theorem t_there {W : World} {b : Nat} {s : Sn} {p : Pt} {v : Value} (h : W.heap[b]? = some (tnc s p v)) : W.there b 0 25 := by
  intro j hj
  rw [Nat.zero_add]
  refine ⟨?_, frozen_of h j⟩
  rw [cell_of h, Array.getElem?_eq_getElem (by simpa using hj)]
  rfl
theorem t_range {W : World} {b : Nat} {s : Sn} {p : Pt} {v : Value} (h : W.heap[b]? = some (tnc s p v)) : W.rangeAt b 0 (tcells s p v) := by
  intro j u hu
  rw [Nat.zero_add, cell_of h]
  rw [← List.getElem?_toArray] at hu
  exact hu
theorem t_one (s : Sn) (p : Pt) (a : Option Addr) (n c : Nat) : (tcells s p (.slice a n c)).toArray.all (·.oneCell') = true := by simp [Value.oneCell']
theorem full_store {w w1 w3 : World} {s : Sn} {p3 : Pt} (h1 : w1.heap[w.heap.size + 1]? = some (tnc zeroU zeroP (.slice none 0 0))) (hb1 : Below w.heap.size w w1) (hb3 : Below w1.heap.size w1 w3) (hc : CameS w3 s p3) (hn : NewS w1.heap.size p3) (hw : OwnN w3 w1.heap.size s p3) :
    Hid (w3.there (w.heap.size + 1) 0 (tcells s p3 (.slice none 0 0)).toArray.size) ∧ Hid ((tcells s p3 (.slice none 0 0)).toArray.all (·.oneCell') = true) ∧ Hid ((w3.setCells (w.heap.size + 1) 0 (tcells s p3 (.slice none 0 0))).rangeAt (w.heap.size + 1) 0 (tcells s p3 (.slice none 0 0))) ∧ Hid (Below w.heap.size w (w3.setCells (w.heap.size + 1) 0 (tcells s p3 (.slice none 0 0))) ∧ CameS (w3.setCells (w.heap.size + 1) 0 (tcells s p3 (.slice none 0 0))) s p3 ∧ NewS w.heap.size p3 ∧ OwnN (w3.setCells (w.heap.size + 1) 0 (tcells s p3 (.slice none 0 0))) w.heap.size s p3) := by
  have h3 := old_block hb3 h1
  have hz := size_two h1
  have hb := below_of hb1 hb3
  have ho := setC_off w3 (w.heap.size + 1) 0 (tcells s p3 (.slice none 0 0))
  refine ⟨t_there h3, t_one _ _ _ _ _, t_range (block_stored (zs := tcells zeroU zeroP (.slice none 0 0)) h3 rfl), hb.trans (ho.below hb.size (fun i e => by have : i = w.heap.size + 1 := e; omega)), hc.off ho (fun bb e e2 => by have := hn.b bb e; have e3 : bb.block = w.heap.size + 1 := e2; omega) (fun bb e e2 => by have := hn.g bb e; have e3 : bb.block = w.heap.size + 1 := e2; omega) (fun _ bb e e2 => by have := hn.d bb e; have e3 : bb.block = w.heap.size + 1 := e2; omega) (fun _ bb e e2 => by have := hn.c bb e; have e3 : bb.block = w.heap.size + 1 := e2; omega) (fun bb e e2 => by have := hn.n bb e; have e3 : bb.block = w.heap.size + 1 := e2; omega), ?_, ⟨own_base (ho.owns hw.own (fun g e t => by have := own_ge hw.own g e; have : g = w.heap.size + 1 := t; omega)) (by omega), hw.ab, hw.ad⟩⟩
  exact ⟨fun bb e => by have := hn.b bb e; omega, fun bb e => by have := hn.g bb e; omega, fun bb e => by have := hn.d bb e; omega, fun bb e => by have := hn.c bb e; omega, fun bb e => by have := hn.n bb e; omega⟩
/-- the result's block with noughts laid over it. -/
theorem zero_store {w w1 : World} (h : w1.heap[w.heap.size + 1]? = some (tnc zeroU zeroP (.slice none 0 0))) (hb : Below w.heap.size w w1) :
    Hid (w1.there (w.heap.size + 1) 0 (tcells zeroU zeroP (.slice none 0 0)).toArray.size) ∧ Hid ((tcells zeroU zeroP (.slice none 0 0)).toArray.all (·.oneCell') = true) ∧ Hid ((w1.setCells (w.heap.size + 1) 0 (tcells zeroU zeroP (.slice none 0 0))).rangeAt (w.heap.size + 1) 0 (tcells zeroU zeroP (.slice none 0 0))) ∧ Hid (Below w.heap.size w (w1.setCells (w.heap.size + 1) 0 (tcells zeroU zeroP (.slice none 0 0)))) := by
  refine ⟨t_there h, by show _ = _; simp [Value.oneCell'], t_range (block_stored (zs := tcells zeroU zeroP (.slice none 0 0)) h rfl), hb.trans ((setC_off w1 (w.heap.size + 1) 0 _).below hb.size (fun i e => by have : i = w.heap.size + 1 := e; omega))⟩
set_option maxRecDepth 20000 in
set_option maxHeartbeats 8000000 in
theorem begin_no (s : Sn) (p : Pt) (now : Int) (w : World) (hc : CameS w s p) (hok : okU s = false) : Calls Try.prog 45 #[snv s p, .int .i64 now] w fun e w' => e = .returned (.tuple #[.agg (tcells zeroU zeroP (.slice none 0 0)).toArray, .int .i64 240]) ∧ Hid (Below w.heap.size w w') := by
  obtain ⟨cs, hcs⟩ : ∃ cs, Hid (cs = sncells s p) := ⟨_, rfl⟩
  have hs24 : Hid ((Try.prog.info? 32).map (·.size) = some 24) := by show _ = _; kernel_rfl
  have hs25 : (Try.prog.info? 75).map (·.size) = some 25 := by kernel_rfl
  have hsz1 : (Try.prog.info? 32).map (·.size) = some cs.length := by rw [show cs.length = 24 by rw [hcs.out]; rfl]; exact hs24.out
  have HB0 : Hid (Below w.heap.size w ((w.alloc (snc s p)).alloc (tnc zeroU zeroP (.slice none 0 0)))) := ((Below.refl _ w).alloc (Nat.le_refl _) _).alloc (by simp) _
  have HP0 : Hid (((w.alloc (snc s p)).alloc (tnc zeroU zeroP (.slice none 0 0))).heap[w.heap.size]? = some (snc s p) ∧ ((w.alloc (snc s p)).alloc (tnc zeroU zeroP (.slice none 0 0))).heap[w.heap.size + 1]? = some (tnc zeroU zeroP (.slice none 0 0))) := by
    refine ⟨old_block ((Below.refl _ (w.alloc (snc s p))).alloc (Nat.le_refl _) _) (heap_alloc_new w _), ?_⟩
    have := heap_alloc_new (w.alloc (snc s p)) (tnc zeroU zeroP (.slice none 0 0))
    rw [show (w.alloc (snc s p)).heap.size = w.heap.size + 1 by simp] at this
    exact this
  have HCK : Hid (∀ W, Below w.heap.size w W → Calls Try.prog 14 #[.agg cs.toArray] W fun e w' => e = .returned (.int .i64 240) ∧ Hid (Below W.heap.size W w')) := fun W hb => by
    have := ucheck_any s p W (hc.later hb)
    rw [chkU_no hok] at this
    rw [hcs.out]
    exact this
  have HR0 : Hid (((w.alloc (snc s p)).alloc (tnc zeroU zeroP (.slice none 0 0))).rangeAt w.heap.size 0 cs) := by rw [hcs.out]; exact sn_range HP0.out.1
  clear hc hok
  go_enter Try.func45, Try.ntmps45
  go_wp2_with (first | (refine wpList_load_mid rfl 32 _ rfl w.heap.size 0 (by rfl) cs _ HR0.out Try.underlying32 rfl hsz1 ?_) | (go_at_call 14; refine (HCK.out _ HB0.out).mono ?_; rintro e w1 ⟨rfl, hb1⟩; have HZ := zero_store (old_block hb1.out HP0.out.2) (below_of HB0.out hb1.out)) | (refine wpList_store_mid rfl 75 _ _ rfl (w.heap.size + 1) 0 (tcells zeroU zeroP (.slice none 0 0)).toArray (by rfl) (by rfl) HZ.1.out hs25 HZ.2.1.out ?_))
  exact bodyPost_ret (results_cell2 rfl _ _ (w.heap.size + 1) 0 (by rfl) (tcells zeroU zeroP (.slice none 0 0)) _ HZ.2.2.1.out Try.underlying75 rfl hs25) rfl ⟨rfl, HZ.2.2.2⟩
set_option maxRecDepth 20000 in
set_option maxHeartbeats 8000000 in
theorem begin_arg (s : Sn) (p : Pt) (now : Int) (w : World) (hc : CameS w s p) (hok : okU s = true) (hn : inB now 0 1048576 = false) : Calls Try.prog 45 #[snv s p, .int .i64 now] w fun e w' => e = .returned (.tuple #[.agg (tcells zeroU zeroP (.slice none 0 0)).toArray, .int .i64 2]) ∧ Hid (Below w.heap.size w w') := by
  obtain ⟨cs, hcs⟩ : ∃ cs, Hid (cs = sncells s p) := ⟨_, rfl⟩
  have hs24 : Hid ((Try.prog.info? 32).map (·.size) = some 24) := by show _ = _; kernel_rfl
  have hs25 : (Try.prog.info? 75).map (·.size) = some 25 := by kernel_rfl
  have hsz1 : (Try.prog.info? 32).map (·.size) = some cs.length := by rw [show cs.length = 24 by rw [hcs.out]; rfl]; exact hs24.out
  have HB0 : Hid (Below w.heap.size w ((w.alloc (snc s p)).alloc (tnc zeroU zeroP (.slice none 0 0)))) := ((Below.refl _ w).alloc (Nat.le_refl _) _).alloc (by simp) _
  have HP0 : Hid (((w.alloc (snc s p)).alloc (tnc zeroU zeroP (.slice none 0 0))).heap[w.heap.size]? = some (snc s p) ∧ ((w.alloc (snc s p)).alloc (tnc zeroU zeroP (.slice none 0 0))).heap[w.heap.size + 1]? = some (tnc zeroU zeroP (.slice none 0 0))) := by
    refine ⟨old_block ((Below.refl _ (w.alloc (snc s p))).alloc (Nat.le_refl _) _) (heap_alloc_new w _), ?_⟩
    have := heap_alloc_new (w.alloc (snc s p)) (tnc zeroU zeroP (.slice none 0 0))
    rw [show (w.alloc (snc s p)).heap.size = w.heap.size + 1 by simp] at this
    exact this
  have HCK : Hid (∀ W, Below w.heap.size w W → Calls Try.prog 14 #[.agg cs.toArray] W fun e w' => e = .returned (.int .i64 0) ∧ Hid (Below W.heap.size W w')) := fun W hb => by
    have := ucheck_any s p W (hc.later hb)
    rw [chkU_ok hok] at this
    rw [hcs.out]
    exact this
  have HR0 : Hid (((w.alloc (snc s p)).alloc (tnc zeroU zeroP (.slice none 0 0))).rangeAt w.heap.size 0 cs) := by rw [hcs.out]; exact sn_range HP0.out.1
  clear hc hok
  go_enter Try.func45, Try.ntmps45
  go_wp2_with (first | (refine wpList_load_mid rfl 32 _ rfl w.heap.size 0 (by rfl) cs _ HR0.out Try.underlying32 rfl hsz1 ?_) | (go_at_call 14; refine (HCK.out _ HB0.out).mono ?_; rintro e w1 ⟨rfl, hb1⟩; have HZ := zero_store (old_block hb1.out HP0.out.2) (below_of HB0.out hb1.out)) | (go_at_call 35; refine (uwithin_any _ _ _ _).mono ?_; rintro e w2 ⟨rfl, rfl⟩) | (refine wpList_store_mid rfl 75 _ _ rfl (w.heap.size + 1) 0 (tcells zeroU zeroP (.slice none 0 0)).toArray (by rfl) (by rfl) HZ.1.out hs25 HZ.2.1.out ?_))
  exact bodyPost_ret (results_cell2 rfl _ _ (w.heap.size + 1) 0 (by rfl) (tcells zeroU zeroP (.slice none 0 0)) _ HZ.2.2.1.out Try.underlying75 rfl hs25) rfl ⟨rfl, HZ.2.2.2⟩
set_option maxRecDepth 20000 in
set_option maxHeartbeats 8000000 in
theorem begin_own (s : Sn) (p : Pt) (now : Int) (w : World) (hc : CameS w s p) (hok : okU s = true) (hn : inB now 0 1048576 = true) : Calls Try.prog 45 #[snv s p, .int .i64 now] w fun e w' => ∃ p', e = .returned (.tuple #[.agg (tcells s p' (.slice none 0 0)).toArray, .int .i64 0]) ∧ Hid (Below w.heap.size w w' ∧ CameS w' s p' ∧ NewS w.heap.size p' ∧ OwnN w' w.heap.size s p') := by
  obtain ⟨cs, hcs⟩ : ∃ cs, Hid (cs = sncells s p) := ⟨_, rfl⟩
  have hs24 : Hid ((Try.prog.info? 32).map (·.size) = some 24) := by show _ = _; kernel_rfl
  have hs25 : (Try.prog.info? 75).map (·.size) = some 25 := by kernel_rfl
  have hsz1 : (Try.prog.info? 32).map (·.size) = some cs.length := by rw [show cs.length = 24 by rw [hcs.out]; rfl]; exact hs24.out
  have HB0 : Hid (Below w.heap.size w ((w.alloc (snc s p)).alloc (tnc zeroU zeroP (.slice none 0 0)))) := ((Below.refl _ w).alloc (Nat.le_refl _) _).alloc (by simp) _
  have HP0 : Hid (((w.alloc (snc s p)).alloc (tnc zeroU zeroP (.slice none 0 0))).heap[w.heap.size]? = some (snc s p) ∧ ((w.alloc (snc s p)).alloc (tnc zeroU zeroP (.slice none 0 0))).heap[w.heap.size + 1]? = some (tnc zeroU zeroP (.slice none 0 0))) := by
    refine ⟨old_block ((Below.refl _ (w.alloc (snc s p))).alloc (Nat.le_refl _) _) (heap_alloc_new w _), ?_⟩
    have := heap_alloc_new (w.alloc (snc s p)) (tnc zeroU zeroP (.slice none 0 0))
    rw [show (w.alloc (snc s p)).heap.size = w.heap.size + 1 by simp] at this
    exact this
  have HCK : Hid (∀ W, Below w.heap.size w W → Calls Try.prog 14 #[.agg cs.toArray] W fun e w' => e = .returned (.int .i64 0) ∧ Hid (Below W.heap.size W w')) := fun W hb => by
    have := ucheck_any s p W (hc.later hb)
    rw [chkU_ok hok] at this
    rw [hcs.out]
    exact this
  have HR0 : Hid (((w.alloc (snc s p)).alloc (tnc zeroU zeroP (.slice none 0 0))).rangeAt w.heap.size 0 cs) := by rw [hcs.out]; exact sn_range HP0.out.1
  have HDP : Hid (∀ W, Below w.heap.size w W → Calls Try.prog 36 #[.agg cs.toArray] W fun e w' => ∃ p', e = .returned (snv s p') ∧ Hid (Below W.heap.size W w' ∧ CameS w' s p' ∧ NewS W.heap.size p' ∧ OwnN w' W.heap.size s p')) := fun W hb => by
    rw [hcs.out]
    exact deep_own s p W (hc.later hb) (small_of hok)
  clear hc hok
  go_enter Try.func45, Try.ntmps45
  go_wp2_with (first | (refine wpList_load_mid rfl 32 _ rfl w.heap.size 0 (by rfl) cs _ HR0.out Try.underlying32 rfl hsz1 ?_) | (refine wpList_load_mid rfl 32 _ rfl w.heap.size 0 (by rfl) cs _ HR1.out Try.underlying32 rfl hsz1 ?_) | (go_at_call 14; refine (HCK.out _ HB0.out).mono ?_; rintro e w1 ⟨rfl, hb1⟩; have HP1 : Hid (w1.heap[w.heap.size]? = some (snc s p) ∧ w1.heap[w.heap.size + 1]? = some (tnc zeroU zeroP (.slice none 0 0))) := ⟨old_block hb1.out HP0.out.1, old_block hb1.out HP0.out.2⟩; have HR1 : Hid (w1.rangeAt w.heap.size 0 cs) := by (rw [hcs.out]; exact sn_range HP1.out.1)) | (go_at_call 35; refine (uwithin_any _ _ _ _).mono ?_; rintro e w2 ⟨rfl, rfl⟩) | (go_at_call 36; refine (HDP.out _ (below_of HB0.out hb1.out)).mono ?_; rintro e w3 ⟨p3, rfl, hq3⟩; have HZ := full_store HP1.out.2 (below_of HB0.out hb1.out) hq3.out.1 hq3.out.2.1 hq3.out.2.2.1 hq3.out.2.2.2) | (refine wpList_store_mid rfl 75 _ _ rfl (w.heap.size + 1) 0 (tcells s p3 (.slice none 0 0)).toArray (by rfl) (by rfl) HZ.1.out hs25 HZ.2.1.out ?_))
  exact bodyPost_ret (results_cell2 rfl _ _ (w.heap.size + 1) 0 (by rfl) (tcells s p3 (.slice none 0 0)) _ HZ.2.2.1.out Try.underlying75 rfl hs25) rfl ⟨p3, rfl, HZ.2.2.2⟩
theorem begin_ok (s : Sn) (p : Pt) (now : Int) (w : World) (hc : CameS w s p) (hok : okU s = true) (hn : inB now 0 1048576 = true) : Calls Try.prog 45 #[snv s p, .int .i64 now] w fun e w' => ∃ p', e = .returned (.tuple #[.agg (tcells s p' (.slice none 0 0)).toArray, .int .i64 0]) ∧ Hid (Below w.heap.size w w' ∧ CameS w' s p' ∧ NewS w.heap.size p') :=
  (begin_own s p now w hc hok hn).mono (by rintro e w' ⟨p', rfl, h⟩; exact ⟨p', rfl, h.out.1, h.out.2.1, h.out.2.2.1⟩)
end Go.Proofs.Ytnjcaolkcmpdcaa
