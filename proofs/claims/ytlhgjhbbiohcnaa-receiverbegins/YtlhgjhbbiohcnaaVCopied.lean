/- The law's own copied. -/
import Derived.Test.YtlhgjhbbiohcnaaVCopy
import Derived.Test.YtlhgjhbbiohcnaaVTake
namespace Go.Proofs.Ytlhgjhbbiohcnaa
open Go.RowKit
set_option linter.unusedVariables false
theorem results_cell1 {P : Program} {fn : Func} {k : Tmp} {ty : TypeId} (h : fn.results = #[.cell k ty]) (tmps : Array Value) (w : World) (b o : Nat) (hk : tmps.getD k undef = .pointer (some ⟨b, o, none⟩)) (cs : List Value) (d : TypeDesc) (hc : w.rangeAt b o cs)
    (hu : P.underlying ty = some d) (hd : d.isRow = true) (hi : (P.info? ty).map (·.size) = some cs.length) : (results fn tmps).run P w = .ok (.agg cs.toArray) w := by
  have hl : (loadVar ty ⟨b, o, none⟩).run P w = .ok (.agg cs.toArray) w := run_loadVar_mid w b o ty cs d hc hu hd hi
  unfold results
  rw [h]
  simp only [List.mapM_toArray, List.mapM_cons, List.mapM_nil]
  rw [hk]
  simp only [asAddr, pure_bind]
  simp [hl]
/-- a session that is copied, while it is. -/
structure Kt (w W : World) (s : Tk) (a : Option Addr) (c : Nat) (g : Option Addr) (d : Nat) : Prop where
  arg : W.heap[w.heap.size]? = some (kc s a c g d)
  res : W.heap[w.heap.size + 1]? = some (kc zeroK none 0 none 0)
  bel : Below w.heap.size w W
  two : w.heap.size + 2 ≤ W.heap.size
theorem kt_first (w : World) (s : Tk) (a : Option Addr) (c : Nat) (g : Option Addr) (d : Nat) : Kt w ((w.alloc (kc s a c g d)).alloc (kc zeroK none 0 none 0)) s a c g d :=
  ⟨old_block ((Below.refl _ _).alloc (Nat.le_refl _) _) (heap_alloc_new w _), second_new w _ _, ((Below.refl _ w).alloc (Nat.le_refl _) _).alloc (by simp) _, by simp⟩
theorem Kt.off {w W W' : World} {s : Tk} {a : Option Addr} {c : Nat} {g : Option Addr} {d : Nat} {S : Nat → Prop} (h : Kt w W s a c g d) (ho : Off S W W') (hS : ∀ i, S i → w.heap.size + 2 ≤ i) : Kt w W' s a c g d :=
  ⟨ho.at h.arg (fun e => by have := hS _ e; omega), ho.at h.res (fun e => by have := hS _ e; omega), h.bel.trans (ho.below h.bel.size (fun i e => by have := hS _ e; omega)), Nat.le_trans h.two ho.size⟩
theorem Kt.later {w W W' : World} {s : Tk} {a : Option Addr} {c : Nat} {g : Option Addr} {d : Nat} (h : Kt w W s a c g d) (hb : Below W.heap.size W W') : Kt w W' s a c g d := h.off (S := fun _ => False) (Off.of_below hb) (fun _ e => e.elim)
theorem Kt.set {w W : World} {s s2 : Tk} {a b : Option Addr} {c p : Nat} {g h : Option Addr} {d q : Nat} (t : Kt w W s a c g d) (j : Nat) (u : Value) (e : (kcells s a c g d).toArray.setIfInBounds j u = (kcells s2 b p h q).toArray) : Kt w (W.setCell ⟨w.heap.size, j, none⟩ u) s2 b p h q := by
  have ho : Off (fun k => k = w.heap.size) W (W.setCell ⟨w.heap.size, j, none⟩ u) := (Off.refl (fun k => k = w.heap.size) W).setCell (p := ⟨w.heap.size, j, none⟩) (.inr rfl) u
  refine ⟨?_, ho.at t.res (by show ¬ _ = _; omega), t.bel.trans (ho.below t.bel.size (fun i e => by have : i = w.heap.size := e; omega)), Nat.le_trans t.two ho.size⟩
  rw [heap_setCell_same _ _ _ _ _ _ t.arg]
  show some (Obj.cells ((kcells s a c g d).toArray.setIfInBounds j u) _ _) = some (Obj.cells (kcells s2 b p h q).toArray _ _)
  rw [e]
theorem cop_end {w W : World} {s : Tk} {a : Option Addr} {c : Nat} {g : Option Addr} {d : Nat} {ab : Option Addr} {cb : Nat} {ac : Option Addr} {cc : Nat} (hT : Kt w W s a c g d) (h1 : Row W ab s.byt ∧ s.byt.length ≤ cb ∧ cb ≤ maxLen) (n1 : 0 < s.byt.length → ∀ bb, ab = some bb → w.heap.size + 1 < bb.block) (h2 : RowC W ac s.got ∧ s.got.length ≤ cc ∧ cc ≤ maxLen) (n2 : 0 < s.got.length → ∀ bb, ac = some bb → w.heap.size + 1 < bb.block) :
    ∃ W', W' = (W.setCell ⟨w.heap.size, 3, none⟩ (.slice ab s.byt.length cb)).setCell ⟨w.heap.size, 4, none⟩ (.slice ac s.got.length cc) ∧ Kt w W' s ab cb ac cc ∧ (Row W' ab s.byt ∧ s.byt.length ≤ cb ∧ cb ≤ maxLen) ∧ (RowC W' ac s.got ∧ s.got.length ≤ cc ∧ cc ≤ maxLen) ∧ (0 < s.byt.length → ∀ bb, ab = some bb → w.heap.size + 1 < bb.block) ∧ (0 < s.got.length → ∀ bb, ac = some bb → w.heap.size + 1 < bb.block) := by
  have ho : Off (fun i => i = w.heap.size) W ((W.setCell ⟨w.heap.size, 3, none⟩ (.slice ab s.byt.length cb)).setCell ⟨w.heap.size, 4, none⟩ (.slice ac s.got.length cc)) := ((Off.refl (fun i => i = w.heap.size) W).setCell (p := ⟨w.heap.size, 3, none⟩) (.inr rfl) _).setCell (p := ⟨w.heap.size, 4, none⟩) (.inr rfl) _
  have t1 : Kt w (W.setCell ⟨w.heap.size, 3, none⟩ (.slice ab s.byt.length cb)) s ab cb g d := hT.set 3 _ (by simp [kcells])
  exact ⟨_, rfl, t1.set 4 _ (by simp [kcells]), ⟨h1.1.off ho (fun h b hb e => by have := n1 h b hb; have e2 : b.block = w.heap.size := e; omega), h1.2⟩, ⟨h2.1.off ho (fun h b hb e => by have := n2 h b hb; have e2 : b.block = w.heap.size := e; omega), h2.2⟩, n1, n2⟩
set_option maxRecDepth 20000 in
set_option maxHeartbeats 4000000 in
theorem vcop_any (s : Tk) (a : Option Addr) (c : Nat) (g : Option Addr) (d : Nat) (w : World) (hc : CameK w s a c g d) (hd : s.byt.length ≤ 5000) (hl : s.got.length ≤ 5000) :
    Calls Try.prog 11 #[kv s a c g d] w fun e w' => ∃ a' c' g' d', e = .returned (kv s a' c' g' d') ∧ Hid (Below w.heap.size w w' ∧ CameK w' s a' c' g' d') := by
  obtain ⟨i0, hi, hz0, hz1, hz2⟩ := info_parts Try.info5
  obtain ⟨i1, hj, hy0, hy1, hy2⟩ := info_parts Try.info60
  have HI : Hid (Try.prog.info? 5 = some i0) := hi
  have HJ : Hid (Try.prog.info? 60 = some i1) := hj
  have HC : Hid (CameK w s a c g d) := hc
  clear hi hj hc
  go_enter Try.func11, Try.ntmps11
  go_wp2_with fail
  have HT0 : Hid (Kt w ((w.alloc (kc s a c g d)).alloc (kc zeroK none 0 none 0)) s a c g d) := kt_first w s a c g d
  have HW0 : Hid (Below w.heap.size w ((w.alloc (kc s a c g d)).alloc (kc zeroK none 0 none 0))) := HT0.out.bel
  go_cut [] from 3 (fun wd => ∃ a' c' g' d', Hid (Kt w wd s a' c' g' d' ∧ (Row wd a' s.byt ∧ s.byt.length ≤ c' ∧ c' ≤ maxLen) ∧ (RowC wd g' s.got ∧ s.got.length ≤ d' ∧ d' ≤ maxLen) ∧ (0 < s.byt.length → ∀ bb, a' = some bb → w.heap.size + 1 < bb.block) ∧ (0 < s.got.length → ∀ bb, g' = some bb → w.heap.size + 1 < bb.block)))
  case first =>
    go_region_law (first
      | (refine step_app0 rfl (.tmp 3) (.tmp 5) 23 rfl 5 i0 (.int .u8 0) 1 1 Try.underlying23 HI.out hz0 hz1 hz2 rfl (by decide) _ rfl a s.byt.length c (cells s.byt) rfl (by rw [cells_length, Nat.mul_one]) (row_src' (HC.out.byt.later (below_of HW0.out (by repeat (first | exact HBb.out | exact HBc.out | exact Below.refl _ _ | apply Below.drew | (refine Below.alloc ?_ (by first | (simp; done) | (simp; omega)) _)))))) (one_cell _) (by unfold maxLen; omega) (by omega) ?_; intro ab cb wb hqb; have HQb : Hid _ := hqb; have HBb : Hid (Below ((w.alloc (kc s a c g d)).alloc (kc zeroK none 0 none 0)).heap.size ((w.alloc (kc s a c g d)).alloc (kc zeroK none 0 none 0)) wb) := Below.trans (by repeat (first | exact HBb.out | exact HBc.out | exact Below.refl _ _ | apply Below.drew | (refine Below.alloc ?_ (by first | (simp; done) | (simp; omega)) _))) (hqb.bel.mono (by first | (simp; done) | (simp; omega))); (first | have HLb : Hid (Below wc.heap.size wc wb) := Below.trans (by repeat (first | exact Below.refl _ _ | apply Below.drew | (refine Below.alloc ?_ (by first | (simp; done) | (simp; omega)) _))) (hqb.bel.mono (by first | (simp; done) | (simp; omega))) | skip); have HTb : Hid (Kt w wb s a c g d) := HT0.out.later HBb.out; have hsb : w.heap.size + 2 ≤ wb.heap.size := HTb.out.two; have kb1 := (kcells_get HTb.out.arg).2.2.2.1; have kb2 := (kcells_get HTb.out.arg).2.2.2.2.1; have lb1 : ∀ X, (wb.alloc X).cell? ⟨w.heap.size, 3, none⟩ = some (.slice a s.byt.length c) := (fun X => cell_later ((Below.refl _ _).alloc (Nat.le_refl _) X) kb1); have lb2 : ∀ X, (wb.alloc X).cell? ⟨w.heap.size, 4, none⟩ = some (.slice g s.got.length d) := (fun X => cell_later ((Below.refl _ _).alloc (Nat.le_refl _) X) kb2); have fb1 := frozen_of HTb.out.arg 3; have fb2 := frozen_of HTb.out.arg 4; clear hqb)
      | (refine step_app0 rfl (.tmp 7) (.tmp 9) 24 rfl 60 i1 (.agg #[.int .i64 0, .int .i64 0]) 2 16 Try.underlying24 HJ.out hy0 hy1 hy2 rfl (by decide) _ rfl g s.got.length d (ccells s.got) rfl (by rw [ccells_length]) (rowC_src (HC.out.got.later (below_of HW0.out (by repeat (first | exact HBb.out | exact HBc.out | exact Below.refl _ _ | apply Below.drew | (refine Below.alloc ?_ (by first | (simp; done) | (simp; omega)) _)))))) (ccells_one _) (by unfold maxLen; omega) (by omega) ?_; intro ac cc wc hqc; have HQc : Hid _ := hqc; have HBc : Hid (Below ((w.alloc (kc s a c g d)).alloc (kc zeroK none 0 none 0)).heap.size ((w.alloc (kc s a c g d)).alloc (kc zeroK none 0 none 0)) wc) := Below.trans (by repeat (first | exact HBb.out | exact HBc.out | exact Below.refl _ _ | apply Below.drew | (refine Below.alloc ?_ (by first | (simp; done) | (simp; omega)) _))) (hqc.bel.mono (by first | (simp; done) | (simp; omega))); (first | have HLc : Hid (Below wb.heap.size wb wc) := Below.trans (by repeat (first | exact Below.refl _ _ | apply Below.drew | (refine Below.alloc ?_ (by first | (simp; done) | (simp; omega)) _))) (hqc.bel.mono (by first | (simp; done) | (simp; omega))) | skip); have HTc : Hid (Kt w wc s a c g d) := HT0.out.later HBc.out; have hsc : w.heap.size + 2 ≤ wc.heap.size := HTc.out.two; have kc1 := (kcells_get HTc.out.arg).2.2.2.1; have kc2 := (kcells_get HTc.out.arg).2.2.2.2.1; have lc1 : ∀ X, (wc.alloc X).cell? ⟨w.heap.size, 3, none⟩ = some (.slice a s.byt.length c) := (fun X => cell_later ((Below.refl _ _).alloc (Nat.le_refl _) X) kc1); have lc2 : ∀ X, (wc.alloc X).cell? ⟨w.heap.size, 4, none⟩ = some (.slice g s.got.length d) := (fun X => cell_later ((Below.refl _ _).alloc (Nat.le_refl _) X) kc2); have fc1 := frozen_of HTc.out.arg 3; have fc2 := frozen_of HTc.out.arg 4; clear hqc))
    all_goals first
      | (obtain ⟨t1, t2, t3, _⟩ := HQb.out.row HC.out.byt.1 HC.out.byt.2.1
         obtain ⟨u1, u2, u3, _⟩ := HQc.out.rowC
         obtain ⟨WE, hWE, HF0⟩ := cop_end (cb := cb) (cc := cc) HTc.out ⟨t1.later HLc.out, t2, t3⟩ (fun h bb e => Nat.lt_of_lt_of_le (by first | omega | (simp; done) | (simp; omega)) (own_ge (HQb.out.own h) bb.block (by subst e; rfl))) ⟨u1, u2, u3⟩ (fun h bb e => Nat.lt_of_lt_of_le (by first | omega | (simp; done) | (simp; omega)) (own_ge (HQc.out.own h) bb.block (by subst e; rfl)))
         rw [hWE] at HF0
         have HF : Hid _ := HF0
         clear HF0 t1 t2 t3 u1 u2 u3 hWE
         go_wp2
         go_meet
         case rel => exact ⟨_, _, _, _, HF⟩)
      | (obtain ⟨t1, t2, t3, _⟩ := HQb.out.row HC.out.byt.1 HC.out.byt.2.1
         obtain ⟨u1, u2, u3, _⟩ := HQc.out.rowC
         obtain ⟨WE, hWE, HF0⟩ := cop_end (cb := cb) (cc := cc) HTb.out ⟨t1, t2, t3⟩ (fun h bb e => Nat.lt_of_lt_of_le (by first | omega | (simp; done) | (simp; omega)) (own_ge (HQb.out.own h) bb.block (by subst e; rfl))) ⟨u1.later HLb.out, u2, u3⟩ (fun h bb e => Nat.lt_of_lt_of_le (by first | omega | (simp; done) | (simp; omega)) (own_ge (HQc.out.own h) bb.block (by subst e; rfl)))
         rw [hWE] at HF0
         have HF : Hid _ := HF0
         clear HF0 t1 t2 t3 u1 u2 u3 hWE
         go_wp2
         go_meet
         case rel => exact ⟨_, _, _, _, HF⟩)
  case rest =>
    obtain ⟨a', c', g', d', HF⟩ := hcut
    obtain ⟨cs, hcs⟩ : ∃ cs, Hid (cs = kcells s a' c' g' d') := ⟨_, rfl⟩
    have hs9 : (Try.prog.info? 26).map (·.size) = some 9 := by kernel_rfl
    have hl9 : cs.length = 9 := by rw [hcs.out]; rfl
    have hsz : (Try.prog.info? 26).map (·.size) = some cs.length := by rw [hl9]; exact hs9
    have hsz2 : (Try.prog.info? 26).map (·.size) = some cs.toArray.size := by rw [show cs.toArray.size = 9 from hl9]; exact hs9
    have HR : Hid (wc.rangeAt w.heap.size 0 cs) := by rw [hcs.out]; exact k_range HF.out.1.arg
    have HZ := res_store HF.out.1.res HF.out.1.bel (by omega) s a' c' g' d'
    rw [← hcs.out] at HZ
    have HFIN : Hid (Below w.heap.size w (wc.setCells (w.heap.size + 1) 0 cs) ∧ CameK (wc.setCells (w.heap.size + 1) 0 cs) s a' c' g' d') := by
      obtain ⟨h1, h2, h3, h4, h5⟩ := HF.out
      have ho := HZ.2.2.2.out.2
      have h0 := HC.out
      exact ⟨HZ.2.2.2.out.1, { h0 with byt := h2.1.off ho (fun h b hb e => by have := h4 h b hb; have e2 : b.block = w.heap.size + 1 := e; omega), got := h3.1.off ho (fun h b hb e => by have := h5 h b hb; have e2 : b.block = w.heap.size + 1 := e; omega), lb := h2.2, lg := h3.2 }⟩
    have HQ : Hid (∃ a' c' g' d', Ending.returned (.agg cs.toArray) = .returned (kv s a' c' g' d') ∧ Hid (Below w.heap.size w (wc.setCells (w.heap.size + 1) 0 cs) ∧ CameK (wc.setCells (w.heap.size + 1) 0 cs) s a' c' g' d')) := ⟨a', c', g', d', by rw [hcs.out], HFIN⟩
    go_wp2_with (first | (refine wpList_load_mid rfl 26 _ rfl w.heap.size 0 (by rfl) cs _ HR.out Try.underlying26 rfl hsz ?_) | (refine wpList_store_mid rfl 26 _ _ rfl (w.heap.size + 1) 0 cs.toArray (by rfl) (by rfl) HZ.1.out hsz2 HZ.2.1.out ?_))
    exact bodyPost_ret (results_cell1 rfl _ _ (w.heap.size + 1) 0 (by rfl) cs _ HZ.2.2.1.out Try.underlying26 rfl hsz) rfl HQ.out
end Go.Proofs.Ytlhgjhbbiohcnaa
