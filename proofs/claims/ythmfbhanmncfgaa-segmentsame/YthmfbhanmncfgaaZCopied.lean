/- The law's own copied. -/
import Derived.Test.YthmfbhanmncfgaaHApp0
import Derived.Test.YthmfbhanmncfgaaZShortW
namespace Go.Proofs.Ythmfbhanmncfgaa
open Go.RowKit
set_option linter.unusedVariables false
theorem App0.rowC {w w' : World} {b a : Option Addr} {c : Nat} {l : List (Int × Int)} (h : App0 w w' 38 2 b a l.length c (ccells l)) : RowC w' a l ∧ l.length ≤ c ∧ c ≤ maxLen ∧ ∀ bb, a = some bb → b = some bb ∨ w.heap.size ≤ bb.block := by
  rcases Nat.eq_zero_or_pos l.length with h0 | h0
  · obtain ⟨rfl, rfl⟩ := h.nil h0
    obtain rfl : l = [] := List.eq_nil_of_length_eq_zero h0
    exact ⟨⟨by simp, fun h => absurd h (by simp)⟩, Nat.le_refl _, Nat.zero_le _, fun bb hb => .inl hb⟩
  · obtain ⟨a2, c2, he, _, h1, h2, h3, h4⟩ := ownC_row (h.own h0)
    cases he
    exact ⟨h3, h1, h2, fun bb hb => .inr (h4 bb hb)⟩
theorem rowC_src {w : World} {a : Option Addr} {l : List (Int × Int)} (h : RowC w a l) : 0 < l.length → ∃ ad, a = some ad ∧ ∀ j u, (ccells l)[j]? = some u → w.cell? (ad.add j) = some u := by
  intro hm
  obtain ⟨b, off, rfl, hc⟩ := h.2 hm
  refine ⟨_, rfl, fun j u hu => ?_⟩
  have hj : j < l.length * 2 := by rw [← ccells_length l]; exact (List.getElem?_eq_some_iff.1 hu).1
  obtain ⟨k1, k2⟩ := ccells_get l (j / 2) (by omega)
  obtain ⟨q1, q2⟩ := hc (j / 2) (by omega)
  rw [Go.WideShapes.add_plain]
  rcases Nat.mod_two_eq_zero_or_one j with e | e
  · have ej : j = j / 2 * 2 := by omega
    rw [ej] at hu ⊢
    rw [q1, ← k1]; exact hu
  · have ej : j = j / 2 * 2 + 1 := by omega
    rw [show off + j = off + j / 2 * 2 + 1 by omega, q2, ← k2, ← ej]; exact hu
theorem row_src' {w : World} {a : Option Addr} {l : List Nat} (h : Row w a l) : 0 < l.length → ∃ ad, a = some ad ∧ ∀ j u, (cells l)[j]? = some u → w.cell? (ad.add j) = some u := fun h0 => row_src h (by rw [cells_length]; exact h0)
theorem cop_end {w W : World} {s : Sg} {a : Option Addr} {c : Nat} {a2 : Option Addr} {c2 : Nat} {ab : Option Addr} {cb : Nat} {ac : Option Addr} {cc : Nat} (hT : Sht w W s a c a2 c2) (h1 : Row W ab s.dat) (n1 : 0 < s.dat.length → ∀ bb, ab = some bb → w.heap.size + 1 < bb.block) (h2 : RowC W ac s.cls) (n2 : 0 < s.cls.length → ∀ bb, ac = some bb → w.heap.size + 1 < bb.block) :
    Sht w ((W.setCell ⟨w.heap.size, 11, none⟩ (.slice ab s.dat.length cb)).setCell ⟨w.heap.size, 12, none⟩ (.slice ac s.cls.length cc)) s ab cb ac cc ∧ Row ((W.setCell ⟨w.heap.size, 11, none⟩ (.slice ab s.dat.length cb)).setCell ⟨w.heap.size, 12, none⟩ (.slice ac s.cls.length cc)) ab s.dat ∧ RowC ((W.setCell ⟨w.heap.size, 11, none⟩ (.slice ab s.dat.length cb)).setCell ⟨w.heap.size, 12, none⟩ (.slice ac s.cls.length cc)) ac s.cls ∧ (0 < s.dat.length → ∀ bb, ab = some bb → w.heap.size + 1 < bb.block) ∧ (0 < s.cls.length → ∀ bb, ac = some bb → w.heap.size + 1 < bb.block) := by
  have ho : Off (fun i => i = w.heap.size) W ((W.setCell ⟨w.heap.size, 11, none⟩ (.slice ab s.dat.length cb)).setCell ⟨w.heap.size, 12, none⟩ (.slice ac s.cls.length cc)) := ((Off.refl (fun i => i = w.heap.size) W).setCell (p := ⟨w.heap.size, 11, none⟩) (.inr rfl) _).setCell (p := ⟨w.heap.size, 12, none⟩) (.inr rfl) _
  have t1 : Sht w (W.setCell ⟨w.heap.size, 11, none⟩ (.slice ab s.dat.length cb)) s ab cb a2 c2 := hT.set 11 _ (by simp)
  exact ⟨t1.set 12 _ (by simp), h1.off ho (fun h b hb e => by have := n1 h b hb; have e2 : b.block = w.heap.size := e; omega), h2.off ho (fun h b hb e => by have := n2 h b hb; have e2 : b.block = w.heap.size := e; omega), n1, n2⟩
set_option maxRecDepth 20000 in
set_option maxHeartbeats 4000000 in
theorem copied_any (s : Sg) (a : Option Addr) (c : Nat) (a2 : Option Addr) (c2 : Nat) (w : World) (hc : Came w s a c a2 c2) (hd : s.dat.length ≤ 1000) (hl : s.cls.length ≤ 1000) :
    Calls Try.prog 8 #[sv s a c a2 c2] w fun e w' => ∃ a' c' a2' c2', e = .returned (sv s a' c' a2' c2') ∧ Hid (Below w.heap.size w w' ∧ Row w' a' s.dat ∧ RowC w' a2' s.cls) := by
  obtain ⟨i0, hi, hz0, hz1, hz2⟩ := info_parts Try.info5
  obtain ⟨i1, hj, hy0, hy1, hy2⟩ := info_parts Try.info38
  have HI : Hid (Try.prog.info? 5 = some i0) := hi
  have HJ : Hid (Try.prog.info? 38 = some i1) := hj
  have HC : Hid (Came w s a c a2 c2) := hc
  clear hi hj hc
  go_enter Try.func8, Try.ntmps8
  go_wp2_with fail
  have HT0 : Hid (Sht w ((w.alloc (sc s a c a2 c2)).alloc (sc zeroS none 0 none 0)) s a c a2 c2) := sht_first w s a c a2 c2 0
  have HW0 : Hid (Below w.heap.size w ((w.alloc (sc s a c a2 c2)).alloc (sc zeroS none 0 none 0))) := HT0.out.bel
  go_cut [] from 3 (fun wd => ∃ a' c' a2' c2', Hid (Sht w wd s a' c' a2' c2' ∧ Row wd a' s.dat ∧ RowC wd a2' s.cls ∧ (0 < s.dat.length → ∀ bb, a' = some bb → w.heap.size + 1 < bb.block) ∧ (0 < s.cls.length → ∀ bb, a2' = some bb → w.heap.size + 1 < bb.block)))
  case first =>
    go_region_law (first
      | (refine step_app0 rfl (.tmp 3) (.tmp 5) 23 rfl 5 i0 (.int .u8 0) 1 1 Try.underlying23 HI.out hz0 hz1 hz2 rfl (by decide) _ rfl a s.dat.length c (cells s.dat) rfl (by rw [cells_length, Nat.mul_one]) (row_src' (HC.out.row.later (below_of HW0.out (by repeat (first | exact HBb.out | exact HBc.out | exact Below.refl _ _ | apply Below.drew | (refine Below.alloc ?_ (by first | (simp; done) | (simp; omega)) _)))))) (one_cell _) (by unfold maxLen; omega) (by omega) ?_; intro ab cb wb hqb; have HQb : Hid _ := hqb; have HBb : Hid (Below ((w.alloc (sc s a c a2 c2)).alloc (sc zeroS none 0 none 0)).heap.size ((w.alloc (sc s a c a2 c2)).alloc (sc zeroS none 0 none 0)) wb) := Below.trans (by repeat (first | exact HBb.out | exact HBc.out | exact Below.refl _ _ | apply Below.drew | (refine Below.alloc ?_ (by first | (simp; done) | (simp; omega)) _))) (hqb.bel.mono (by first | (simp; done) | (simp; omega))); (first | have HLb : Hid (Below wc.heap.size wc wb) := Below.trans (by repeat (first | exact Below.refl _ _ | apply Below.drew | (refine Below.alloc ?_ (by first | (simp; done) | (simp; omega)) _))) (hqb.bel.mono (by first | (simp; done) | (simp; omega))) | skip); have HTb : Hid (Sht w wb s a c a2 c2) := HT0.out.later HBb.out; have hsb : w.heap.size + 2 ≤ wb.heap.size := HTb.out.two; have kb1 := (scells HTb.out.arg).2.2.2.2.2.2.2.2.2.2.2.1; have kb2 := (scells HTb.out.arg).2.2.2.2.2.2.2.2.2.2.2.2; have lb1 : ∀ X, (wb.alloc X).cell? ⟨w.heap.size, 11, none⟩ = some (.slice a s.dat.length c) := (fun X => cell_later ((Below.refl _ _).alloc (Nat.le_refl _) X) kb1); have lb2 : ∀ X, (wb.alloc X).cell? ⟨w.heap.size, 12, none⟩ = some (.slice a2 s.cls.length c2) := (fun X => cell_later ((Below.refl _ _).alloc (Nat.le_refl _) X) kb2); have fb1 := frozen_of HTb.out.arg 11; have fb2 := frozen_of HTb.out.arg 12; clear hqb)
      | (refine step_app0 rfl (.tmp 7) (.tmp 9) 24 rfl 38 i1 (.agg #[.int .i64 0, .int .i64 0]) 2 16 Try.underlying24 HJ.out hy0 hy1 hy2 rfl (by decide) _ rfl a2 s.cls.length c2 (ccells s.cls) rfl (by rw [ccells_length]) (rowC_src (HC.out.rowc.later (below_of HW0.out (by repeat (first | exact HBb.out | exact HBc.out | exact Below.refl _ _ | apply Below.drew | (refine Below.alloc ?_ (by first | (simp; done) | (simp; omega)) _)))))) (ccells_one _) (by unfold maxLen; omega) (by omega) ?_; intro ac cc wc hqc; have HQc : Hid _ := hqc; have HBc : Hid (Below ((w.alloc (sc s a c a2 c2)).alloc (sc zeroS none 0 none 0)).heap.size ((w.alloc (sc s a c a2 c2)).alloc (sc zeroS none 0 none 0)) wc) := Below.trans (by repeat (first | exact HBb.out | exact HBc.out | exact Below.refl _ _ | apply Below.drew | (refine Below.alloc ?_ (by first | (simp; done) | (simp; omega)) _))) (hqc.bel.mono (by first | (simp; done) | (simp; omega))); (first | have HLc : Hid (Below wb.heap.size wb wc) := Below.trans (by repeat (first | exact Below.refl _ _ | apply Below.drew | (refine Below.alloc ?_ (by first | (simp; done) | (simp; omega)) _))) (hqc.bel.mono (by first | (simp; done) | (simp; omega))) | skip); have HTc : Hid (Sht w wc s a c a2 c2) := HT0.out.later HBc.out; have hsc : w.heap.size + 2 ≤ wc.heap.size := HTc.out.two; have kc1 := (scells HTc.out.arg).2.2.2.2.2.2.2.2.2.2.2.1; have kc2 := (scells HTc.out.arg).2.2.2.2.2.2.2.2.2.2.2.2; have lc1 : ∀ X, (wc.alloc X).cell? ⟨w.heap.size, 11, none⟩ = some (.slice a s.dat.length c) := (fun X => cell_later ((Below.refl _ _).alloc (Nat.le_refl _) X) kc1); have lc2 : ∀ X, (wc.alloc X).cell? ⟨w.heap.size, 12, none⟩ = some (.slice a2 s.cls.length c2) := (fun X => cell_later ((Below.refl _ _).alloc (Nat.le_refl _) X) kc2); have fc1 := frozen_of HTc.out.arg 11; have fc2 := frozen_of HTc.out.arg 12; clear hqc))
    all_goals first
      | (have HF : Hid _ := cop_end (cb := cb) (cc := cc) HTc.out ((HQb.out.row HC.out.row.1 HC.out.row.2.1).1.later HLc.out) (fun h bb e => Nat.lt_of_lt_of_le (by first | omega | (simp; done) | (simp; omega)) (own_ge (HQb.out.own h) bb.block (by subst e; rfl))) HQc.out.rowC.1 (fun h bb e => Nat.lt_of_lt_of_le (by first | omega | (simp; done) | (simp; omega)) (own_ge (HQc.out.own h) bb.block (by subst e; rfl)))
         go_wp2
         go_meet
         case rel => exact ⟨_, _, _, _, HF⟩)
      | (have HF : Hid _ := cop_end (cb := cb) (cc := cc) HTb.out (HQb.out.row HC.out.row.1 HC.out.row.2.1).1 (fun h bb e => Nat.lt_of_lt_of_le (by first | omega | (simp; done) | (simp; omega)) (own_ge (HQb.out.own h) bb.block (by subst e; rfl))) (HQc.out.rowC.1.later HLb.out) (fun h bb e => Nat.lt_of_lt_of_le (by first | omega | (simp; done) | (simp; omega)) (own_ge (HQc.out.own h) bb.block (by subst e; rfl)))
         go_wp2
         go_meet
         case rel => exact ⟨_, _, _, _, HF⟩)
  case rest =>
    obtain ⟨g, d, g', d', HF⟩ := hcut
    obtain ⟨e0, e1, e2, e3, e4, e5, e6, e7, e8, e9, e10, e11, e12⟩ := scells HF.out.1.arg
    obtain ⟨z0, z1, z2, z3, z4, z5, z6, z7, z8, z9, z10, z11, z12⟩ := scells HF.out.1.res
    have fz := frozen_of HF.out.1.res
    have HFIN : Hid (∀ v0 v1 v2 v3 v4 v5 v6 v7 v8 v9 v10 v11 v12, Below w.heap.size w (((((((((((((wc.setCell ⟨w.heap.size + 1, 0, none⟩ v0).setCell ⟨w.heap.size + 1, 1, none⟩ v1).setCell ⟨w.heap.size + 1, 2, none⟩ v2).setCell ⟨w.heap.size + 1, 3, none⟩ v3).setCell ⟨w.heap.size + 1, 4, none⟩ v4).setCell ⟨w.heap.size + 1, 5, none⟩ v5).setCell ⟨w.heap.size + 1, 6, none⟩ v6).setCell ⟨w.heap.size + 1, 7, none⟩ v7).setCell ⟨w.heap.size + 1, 8, none⟩ v8).setCell ⟨w.heap.size + 1, 9, none⟩ v9).setCell ⟨w.heap.size + 1, 10, none⟩ v10).setCell ⟨w.heap.size + 1, 11, none⟩ v11).setCell ⟨w.heap.size + 1, 12, none⟩ v12) ∧ Row (((((((((((((wc.setCell ⟨w.heap.size + 1, 0, none⟩ v0).setCell ⟨w.heap.size + 1, 1, none⟩ v1).setCell ⟨w.heap.size + 1, 2, none⟩ v2).setCell ⟨w.heap.size + 1, 3, none⟩ v3).setCell ⟨w.heap.size + 1, 4, none⟩ v4).setCell ⟨w.heap.size + 1, 5, none⟩ v5).setCell ⟨w.heap.size + 1, 6, none⟩ v6).setCell ⟨w.heap.size + 1, 7, none⟩ v7).setCell ⟨w.heap.size + 1, 8, none⟩ v8).setCell ⟨w.heap.size + 1, 9, none⟩ v9).setCell ⟨w.heap.size + 1, 10, none⟩ v10).setCell ⟨w.heap.size + 1, 11, none⟩ v11).setCell ⟨w.heap.size + 1, 12, none⟩ v12) g s.dat ∧ RowC (((((((((((((wc.setCell ⟨w.heap.size + 1, 0, none⟩ v0).setCell ⟨w.heap.size + 1, 1, none⟩ v1).setCell ⟨w.heap.size + 1, 2, none⟩ v2).setCell ⟨w.heap.size + 1, 3, none⟩ v3).setCell ⟨w.heap.size + 1, 4, none⟩ v4).setCell ⟨w.heap.size + 1, 5, none⟩ v5).setCell ⟨w.heap.size + 1, 6, none⟩ v6).setCell ⟨w.heap.size + 1, 7, none⟩ v7).setCell ⟨w.heap.size + 1, 8, none⟩ v8).setCell ⟨w.heap.size + 1, 9, none⟩ v9).setCell ⟨w.heap.size + 1, 10, none⟩ v10).setCell ⟨w.heap.size + 1, 11, none⟩ v11).setCell ⟨w.heap.size + 1, 12, none⟩ v12) g' s.cls) := fun v0 v1 v2 v3 v4 v5 v6 v7 v8 v9 v10 v11 v12 => by
      have ho := off13 wc (w.heap.size + 1) v0 v1 v2 v3 v4 v5 v6 v7 v8 v9 v10 v11 v12
      obtain ⟨h1, h2, h3, h4, h5⟩ := HF.out
      exact ⟨h1.bel.trans (ho.below h1.bel.size (fun i e => by have : i = w.heap.size + 1 := e; omega)), h2.off ho (fun h b hb e => by have := h4 h b hb; have e2 : b.block = w.heap.size + 1 := e; omega), h3.off ho (fun h b hb e => by have := h5 h b hb; have e2 : b.block = w.heap.size + 1 := e; omega)⟩
    go_wp2
    exact bodyPost_ret (v := sv s g d g' d') (by simp [results, Try.results8, go_sem, z0, z1, z2, z3, z4, z5, z6, z7, z8, z9, z10, z11, z12]) rfl ⟨_, _, _, _, rfl, HFIN.out _ _ _ _ _ _ _ _ _ _ _ _ _⟩
end Go.Proofs.Ythmfbhanmncfgaa
