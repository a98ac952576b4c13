/- (*segment.reader).report. -/
import Derived.Test.YthmfbhanmncfgaaZOwnC
namespace Go.Proofs.Ythmfbhanmncfgaa
open Go.RowKit
set_option linter.unusedVariables false
set_option maxRecDepth 20000 in
set_option maxHeartbeats 8000000 in
theorem rreport_any (w : World) (p B q : Nat) (st : List Nat × Bool) (s : Sg) (a : Option Addr) (c : Nat) (h : Seg w p B q st s a c none 0) (hB : B < w.heap.size) (hcl : s.cls = []) :
    Calls Try.prog 35 #[.pointer (some ⟨p, 0, none⟩), .pointer (some ⟨q, 0, none⟩)] w fun e w' => e = .returned (.tuple #[]) ∧ ∃ a2 c2, Hid (Seg w' p B q (repR s st).2 (repR s st).1 a c a2 c2 ∧ OffS p q w w' ∧ FreshC w w' a2 c2 (repR s st).1.cls) := by
  have a2 : Option Addr := none
  have HS0 : Hid (Seg w p B q st s a c none 0) := h
  have HF0 : Hid (OffS p q w w) := Off.refl _ w
  have hqp := h.qp
  have hqB := h.qB
  have hpw : p < w.heap.size := by obtain ⟨_, _, h1, _⟩ := h.rdr; exact (Array.getElem?_eq_some_iff.1 h1).1
  have hqw : q < w.heap.size := (Array.getElem?_eq_some_iff.1 h.seg).1
  clear h
  go_enter Try.func35, Try.ntmps35
  go_wp2_with fail
  refine (long_any w p B st HS0.out.rdr).mono ?_
  rintro e w1 ⟨rfl, hq1⟩
  have HS1 : Hid (Seg w1 p B q (numR 4294967295 st).2 s a c none 0) := HS0.out.read hq1.out
  have HF1 : Hid (OffS p q w w1) := HF0.out.read hq1.out
  clear hq1 HS0 HF0
  obtain ⟨n1, st1, HX1⟩ : ∃ n1 st1, Hid (numR 4294967295 st = (n1, st1)) := ⟨_, _, rfl⟩
  have hm1 : n1 ≤ 4294967295 := by have := numR_le 4294967295 st; rw [HX1.out] at this; exact this
  rw [HX1.out] at HS1
  rw [HX1.out]
  simp only at HS1 ⊢
  go_wp2_with fail
  refine (long_any w1 p B st1 HS1.out.rdr).mono ?_
  rintro e w2 ⟨rfl, hq2⟩
  have HS2 : Hid (Seg w2 p B q (numR 4294967295 st1).2 s a c none 0) := HS1.out.read hq2.out
  have HF2 : Hid (OffS p q w w2) := HF1.out.read hq2.out
  clear hq2 HS1 HF1
  obtain ⟨n2, st2, HX2⟩ : ∃ n2 st2, Hid (numR 4294967295 st1 = (n2, st2)) := ⟨_, _, rfl⟩
  have hm2 : n2 ≤ 4294967295 := by have := numR_le 4294967295 st1; rw [HX2.out] at this; exact this
  rw [HX2.out] at HS2
  rw [HX2.out]
  simp only at HS2 ⊢
  have ccser := (scells HS2.out.seg).2.2.2.1
  have ffser := frozen_of HS2.out.seg 3
  have cccks := (scells HS2.out.seg).2.2.2.2.1
  have ffcks := frozen_of HS2.out.seg 4
  go_wp2_with fail
  clear ccser ffser cccks ffcks
  have HS3 : Hid (Seg (w2.setCell ⟨q, 3, none⟩ (.int .u32 (n1 : Nat))) p B q st2 { s with ser := n1 } a c none 0) := HS2.out.set 3 _ (by simp)
  have HF3 : Hid (OffS p q w (w2.setCell ⟨q, 3, none⟩ (.int .u32 (n1 : Nat)))) := HF2.out.set _ _
  clear HS2 HF2
  have HS4 : Hid (Seg ((w2.setCell ⟨q, 3, none⟩ (.int .u32 (n1 : Nat))).setCell ⟨q, 4, none⟩ (.int .u32 (n2 : Nat))) p B q st2 { s with ser := n1, cks := n2 } a c none 0) := HS3.out.set 4 _ (by simp)
  have HF4 : Hid (OffS p q w ((w2.setCell ⟨q, 3, none⟩ (.int .u32 (n1 : Nat))).setCell ⟨q, 4, none⟩ (.int .u32 (n2 : Nat)))) := HF3.out.set _ _
  clear HS3 HF3
  refine (place_any ((w2.setCell ⟨q, 3, none⟩ (.int .u32 (n1 : Nat))).setCell ⟨q, 4, none⟩ (.int .u32 (n2 : Nat))) p B st2 HS4.out.rdr).mono ?_
  rintro e w5 ⟨rfl, hq5⟩
  have HS5 : Hid (Seg w5 p B q (numR 512 st2).2 { s with ser := n1, cks := n2 } a c none 0) := HS4.out.read hq5.out
  have HF5 : Hid (OffS p q w w5) := HF4.out.read hq5.out
  clear hq5 HS4 HF4
  obtain ⟨n3, st3, HX5⟩ : ∃ n3 st3, Hid (numR 512 st2 = (n3, st3)) := ⟨_, _, rfl⟩
  have hm5 : n3 ≤ 512 := by have := numR_le 512 st2; rw [HX5.out] at this; exact this
  rw [HX5.out] at HS5
  rw [HX5.out]
  simp only at HS5 ⊢
  go_wp2_with fail
  refine (place_any w5 p B st3 HS5.out.rdr).mono ?_
  rintro e w6 ⟨rfl, hq6⟩
  have HS6 : Hid (Seg w6 p B q (numR 512 st3).2 { s with ser := n1, cks := n2 } a c none 0) := HS5.out.read hq6.out
  have HF6 : Hid (OffS p q w w6) := HF5.out.read hq6.out
  clear hq6 HS5 HF5
  obtain ⟨n4, st4, HX6⟩ : ∃ n4 st4, Hid (numR 512 st3 = (n4, st4)) := ⟨_, _, rfl⟩
  have hm6 : n4 ≤ 512 := by have := numR_le 512 st3; rw [HX6.out] at this; exact this
  rw [HX6.out] at HS6
  rw [HX6.out]
  simp only at HS6 ⊢
  have cclow := (scells HS6.out.seg).2.2.2.2.2.2.2.1
  have fflow := frozen_of HS6.out.seg 7
  have ccupp := (scells HS6.out.seg).2.2.2.2.2.2.2.2.1
  have ffupp := frozen_of HS6.out.seg 8
  go_wp2_with fail
  clear cclow fflow ccupp ffupp
  have HS7 : Hid (Seg (w6.setCell ⟨q, 7, none⟩ (.int .i64 (n3 : Nat))) p B q st4 { s with ser := n1, cks := n2, low := ((n3 : Nat) : Int) } a c none 0) := HS6.out.set 7 _ (by simp)
  have HF7 : Hid (OffS p q w (w6.setCell ⟨q, 7, none⟩ (.int .i64 (n3 : Nat)))) := HF6.out.set _ _
  clear HS6 HF6
  have HS8 : Hid (Seg ((w6.setCell ⟨q, 7, none⟩ (.int .i64 (n3 : Nat))).setCell ⟨q, 8, none⟩ (.int .i64 (n4 : Nat))) p B q st4 { s with ser := n1, cks := n2, low := ((n3 : Nat) : Int), upp := ((n4 : Nat) : Int) } a c none 0) := HS7.out.set 8 _ (by simp)
  have HF8 : Hid (OffS p q w ((w6.setCell ⟨q, 7, none⟩ (.int .i64 (n3 : Nat))).setCell ⟨q, 8, none⟩ (.int .i64 (n4 : Nat)))) := HF7.out.set _ _
  clear HS7 HF7
  refine (snum_any ((w6.setCell ⟨q, 7, none⟩ (.int .i64 (n3 : Nat))).setCell ⟨q, 8, none⟩ (.int .i64 (n4 : Nat))) p B st4 20 (by omega) HS8.out.rdr).mono ?_
  rintro e w9 ⟨rfl, hq9⟩
  have HS9 : Hid (Seg w9 p B q (numR 20 st4).2 { s with ser := n1, cks := n2, low := ((n3 : Nat) : Int), upp := ((n4 : Nat) : Int) } a c none 0) := HS8.out.read hq9.out
  have HF9 : Hid (OffS p q w w9) := HF8.out.read hq9.out
  clear hq9 HS8 HF8
  obtain ⟨n5, st5, HX9⟩ : ∃ n5 st5, Hid (numR 20 st4 = (n5, st5)) := ⟨_, _, rfl⟩
  have hm9 : n5 ≤ 20 := by have := numR_le 20 st4; rw [HX9.out] at this; exact this
  rw [HX9.out] at HS9
  rw [HX9.out]
  simp only at HS9 ⊢
  go_wp2_with fail
  obtain ⟨i0, hi, hz0, hz1, hz2⟩ := info_parts Try.info38
  have HI : Hid _ := hi
  clear hi
  go_loopw [26] (fun i wr => ∃ (k : Nat) (a2 : Option Addr) (c2 : Nat), k ≤ n5 ∧ i = .int .u64 k ∧ Hid (SegC w wr p B q (clsR k st5).2 { s with ser := n1, cks := n2, low := ((n3 : Nat) : Int), upp := ((n4 : Nat) : Int), cls := (clsR k st5).1 } a c a2 c2)) (fun i _ => n5 - (intOf i).toNat)
  case atStart =>
    refine ⟨0, none, 0, by omega, rfl, ⟨?_, HF9.out, ⟨rfl, .inl ⟨rfl, rfl⟩⟩⟩⟩
    have := HS9.out
    rw [hcl] at this
    exact this
  case round =>
    obtain ⟨k, a2, c2, hk, rfl, HK⟩ := hrel
    by_cases hlt : k < n5
    · have hLk := clsR_len k st5
      have HN : Hid (clsR (k + 1) st5 = ((clsR k st5).1 ++ [(((numR 512 (clsR k st5).2).1 : Int), ((numR 512 (numR 512 (clsR k st5).2).2).1 : Int))], (numR 512 (numR 512 (clsR k st5).2).2).2)) := rfl
      generalize (clsR k st5).1 = L at hLk HK HN
      generalize (clsR k st5).2 = T at HK HN
      have HLK : Hid (L.length = k) := hLk
      have hL20 : L.length ≤ 20 := by omega
      clear hLk
      have HP1 : Hid (∀ W, Rdr W p B T → Calls Try.prog 44 #[.pointer (some ⟨p, 0, none⟩)] W fun e w' => e = .returned (.int .i64 ((numR 512 T).1 : Nat)) ∧ Hid (Rd1 W p B (numR 512 T).2 w')) := fun W h => place_any W p B T h
      have HP2 : Hid (∀ W, Rdr W p B (numR 512 T).2 → Calls Try.prog 44 #[.pointer (some ⟨p, 0, none⟩)] W fun e w' => e = .returned (.int .i64 ((numR 512 (numR 512 T).2).1 : Nat)) ∧ Hid (Rd1 W p B (numR 512 (numR 512 T).2).2 w')) := fun W h => place_any W p B _ h
      generalize numR 512 T = X1 at HP1 HP2 HN
      obtain ⟨x, T1⟩ := X1
      simp only at HP1 HP2 HN
      generalize numR 512 T1 = X2 at HP2 HN
      obtain ⟨y, T2⟩ := X2
      simp only at HP2 HN
      obtain ⟨c0, f0⟩ := HK.out.cell
      simp only at c0
      have hsz := HK.out.off.size
      go_wp2_with fail
      go_region_law (first
        | (refine step_append_lies _ rfl (.tmp 32) (.tmp 38) 24 rfl w.heap.size 38 i0 _ 2 16 Try.underlying24 HI.out hz0 hz1 hz2 rfl (by decide) (.slice a2 L.length c2) L.length (ccells L) (by first | (simp [Act.eval]; done) | simp [Act.eval, Act.put]) (hB2.out.alloc _).own ⟨wb.heap.size, 0, none⟩ 1 1 (ccells [((x : Int), (y : Int))]) (by first | (simp [Act.eval]; done) | simp [Act.eval, Act.put]) rfl (claim_src wb x y) (ccells_one _) (by decide) (by unfold maxLen; omega) (by omega) (by have := hB2.out.off.size; simp; omega) _ rfl ?_; intro g3 c3 w3 ho3 hg3 hat3 hlt3; have hS3 : Hid (Seg w3 p B q T2 { s with ser := n1, cks := n2, low := ((n3 : Nat) : Int), upp := ((n4 : Nat) : Int), cls := L } a c a2 c2 ∧ OffS p q w w3) := (hB2.out.alloc _).grow hpw hB hqw hg3; have k3 : w3.cell? ⟨q, 12, none⟩ = some (.slice a2 L.length c2) := (scells hS3.out.1.seg).2.2.2.2.2.2.2.2.2.2.2.2; have f3 := frozen_of hS3.out.1.seg 12; have HO3 : Hid (w3.ownsRow w.heap.size 38 2 (.slice (some ⟨g3, 0, none⟩) (L.length + 1) c3) (L.length + 1) (ccells L ++ ccells [((x : Int), (y : Int))])) := ho3; clear ho3 hg3 hat3 hlt3)
        | (go_simp; go_at_call 44; refine (HP2.out _ hA1.out.seg.rdr).mono ?_; rintro e wb ⟨rfl, hr2⟩; have hB2 : Hid (SegC w wb p B q T2 { s with ser := n1, cks := n2, low := ((n3 : Nat) : Int), upp := ((n4 : Nat) : Int), cls := L } a c a2 c2) := hA1.out.read' hpw hr2.out; obtain ⟨k2, f2⟩ := hB2.out.cell; simp only at k2; have kk2 : ∀ X, (wb.alloc X).cell? ⟨q, 12, none⟩ = some (.slice a2 L.length c2) := fun X => (hB2.out.alloc X).cell.1)
        | (go_simp; go_at_call 44; refine (HP1.out _ (HK.out.seg.later ((Below.refl _ _).drew)).rdr).mono ?_; rintro e wa ⟨rfl, hr1⟩; have hA1 : Hid (SegC w wa p B q T1 { s with ser := n1, cks := n2, low := ((n3 : Nat) : Int), upp := ((n4 : Nat) : Int), cls := L } a c a2 c2) := HK.out.read hpw hr1.out; obtain ⟨k1, f1⟩ := hA1.out.cell; simp only at k1))
      all_goals
        go_wp2
        go_roundw
        case rel =>
          refine ⟨k + 1, some ⟨g3, 0, none⟩, c3, by omega, by go_num, ?_⟩
          rw [HN.out]
          refine ⟨hS3.out.1.set 12 _ (by simp), hS3.out.2.set _ _, ?_⟩
          have h1 := ((Off.refl (fun i => i = q) w3).setCell (p := ⟨q, 12, none⟩) (.inr rfl) (.slice (some ⟨g3, 0, none⟩) (L.length + 1) c3)).owns HO3.out (fun g e hgq => by have := own_ge HO3.out g e; have h2 : g = q := hgq; omega)
          rw [← ccells_append] at h1
          simpa using h1
        case measure => simp [intOf]; omega
    · obtain rfl : k = n5 := by omega
      go_wp2
      go_end0
      have HRR : Hid (repR s st = ({ s with ser := n1, cks := n2, low := ((n3 : Nat) : Int), upp := ((n4 : Nat) : Int), cls := (clsR k st5).1 }, (clsR k st5).2)) := by
        show _ = _
        simp only [repR, HX1.out, HX2.out, HX5.out, HX6.out, HX9.out]
      refine ⟨rfl, a2, c2, ?_⟩
      rw [HRR.out]
      obtain ⟨a', c', he, _, h1, h2, h3, h4⟩ := ownC_row HK.out.own
      simp only [Value.slice.injEq] at he
      obtain ⟨rfl, _, rfl⟩ := he
      exact ⟨HK.out.seg, HK.out.off, h3, h1, h2, h4⟩
end Go.Proofs.Ythmfbhanmncfgaa
