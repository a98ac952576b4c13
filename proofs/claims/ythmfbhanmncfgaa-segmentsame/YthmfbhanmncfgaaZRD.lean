/- (*segment.reader).data. -/
import Derived.Test.YthmfbhanmncfgaaZSeg
namespace Go.Proofs.Ythmfbhanmncfgaa
open Go.RowKit
set_option linter.unusedVariables false
set_option maxRecDepth 20000 in
set_option maxHeartbeats 4000000 in
theorem rdata_yes (w : World) (p B q : Nat) (st : List Nat × Bool) (s : Sg) (a : Option Addr) (c : Nat) (a2 : Option Addr) (c2 : Nat) (h : Seg w p B q st s a c a2 c2) (h1 : (numR 1 st).1 = 1) :
    Calls Try.prog 34 #[.pointer (some ⟨p, 0, none⟩), .pointer (some ⟨q, 0, none⟩)] w fun e w' => e = .returned (.tuple #[]) ∧ ∃ a' c', Hid (Seg w' p B q (dataR s st).2 (dataR s st).1 a' c' a2 c2 ∧ OffS p q w w' ∧ Fresh w w' a' c' (dataR s st).1.dat) := by
  have HS0 : Hid (Seg w p B q st s a c a2 c2) := h
  have HF0 : Hid (OffS p q w w) := Off.refl _ w
  have hqp := h.qp
  have hpw : p < w.heap.size := by obtain ⟨_, _, h1, _⟩ := h.rdr; exact (Array.getElem?_eq_some_iff.1 h1).1
  have hqw : q < w.heap.size := (Array.getElem?_eq_some_iff.1 h.seg).1
  clear h
  go_enter Try.func34, Try.ntmps34
  go_wp2_with fail
  refine (snum_any w p B st 1 (by omega) HS0.out.rdr).mono ?_
  rintro e w1 ⟨rfl, hq1⟩
  have HS1 : Hid (Seg w1 p B q (numR 1 st).2 s a c a2 c2) := HS0.out.read hq1.out
  have HF1 : Hid (OffS p q w w1) := HF0.out.read hq1.out
  clear hq1 HS0 HF0
  obtain ⟨n1, st1, HX1⟩ : ∃ n1 st1, Hid (numR 1 st = (n1, st1)) := ⟨_, _, rfl⟩
  have hm1 : n1 ≤ 1 := by have := numR_le 1 st; rw [HX1.out] at this; exact this
  rw [HX1.out] at HS1
  rw [HX1.out]
  simp only at HS1 ⊢
  have H1 : Hid (n1 = 1) := by show n1 = 1; have := HX1.out; rw [this] at h1; exact h1
  clear h1
  obtain rfl := H1.out
  have ccchk := (scells HS1.out.seg).2.2.2.2.2.2.2.2.2.2.1
  have ffchk := frozen_of HS1.out.seg 10
  go_wp2_with fail
  clear ccchk ffchk
  have HS2 : Hid (Seg (w1.setCell ⟨q, 10, none⟩ (.bool true)) p B q st1 { s with chk := true } a c a2 c2) := HS1.out.set 10 _ (by simp)
  have HF2 : Hid (OffS p q w (w1.setCell ⟨q, 10, none⟩ (.bool true))) := HF1.out.set _ _
  clear HS1 HF1
  refine (long_any (w1.setCell ⟨q, 10, none⟩ (.bool true)) p B st1 HS2.out.rdr).mono ?_
  rintro e w3 ⟨rfl, hq3⟩
  have HS3 : Hid (Seg w3 p B q (numR 4294967295 st1).2 { s with chk := true } a c a2 c2) := HS2.out.read hq3.out
  have HF3 : Hid (OffS p q w w3) := HF2.out.read hq3.out
  clear hq3 HS2 HF2
  obtain ⟨n2, st2, HX3⟩ : ∃ n2 st2, Hid (numR 4294967295 st1 = (n2, st2)) := ⟨_, _, rfl⟩
  have hm3 : n2 ≤ 4294967295 := by have := numR_le 4294967295 st1; rw [HX3.out] at this; exact this
  rw [HX3.out] at HS3
  rw [HX3.out]
  simp only at HS3 ⊢
  have ccser := (scells HS3.out.seg).2.2.2.1
  have ffser := frozen_of HS3.out.seg 3
  go_wp2_with fail
  clear ccser ffser
  have HS4 : Hid (Seg (w3.setCell ⟨q, 3, none⟩ (.int .u32 (n2 : Nat))) p B q st2 { s with chk := true, ser := n2 } a c a2 c2) := HS3.out.set 3 _ (by simp)
  have HF4 : Hid (OffS p q w (w3.setCell ⟨q, 3, none⟩ (.int .u32 (n2 : Nat)))) := HF3.out.set _ _
  clear HS3 HF3
  refine (place_any (w3.setCell ⟨q, 3, none⟩ (.int .u32 (n2 : Nat))) p B st2 HS4.out.rdr).mono ?_
  rintro e w5 ⟨rfl, hq5⟩
  have HS5 : Hid (Seg w5 p B q (numR 512 st2).2 { s with chk := true, ser := n2 } a c a2 c2) := HS4.out.read hq5.out
  have HF5 : Hid (OffS p q w w5) := HF4.out.read hq5.out
  clear hq5 HS4 HF4
  obtain ⟨n3, st3, HX5⟩ : ∃ n3 st3, Hid (numR 512 st2 = (n3, st3)) := ⟨_, _, rfl⟩
  have hm5 : n3 ≤ 512 := by have := numR_le 512 st2; rw [HX5.out] at this; exact this
  rw [HX5.out] at HS5
  rw [HX5.out]
  simp only at HS5 ⊢
  go_wp2_with fail
  refine (place_any w5 p B st3 HS5.out.rdr).mono ?_
  rintro e w6 ⟨rfl, hq6⟩
  have HS6 : Hid (Seg w6 p B q (numR 512 st3).2 { s with chk := true, ser := n2 } a c a2 c2) := HS5.out.read hq6.out
  have HF6 : Hid (OffS p q w w6) := HF5.out.read hq6.out
  clear hq6 HS5 HF5
  obtain ⟨n4, st4, HX6⟩ : ∃ n4 st4, Hid (numR 512 st3 = (n4, st4)) := ⟨_, _, rfl⟩
  have hm6 : n4 ≤ 512 := by have := numR_le 512 st3; rw [HX6.out] at this; exact this
  rw [HX6.out] at HS6
  rw [HX6.out]
  simp only at HS6 ⊢
  have ccoff := (scells HS6.out.seg).2.2.2.2.2.1
  have ffoff := frozen_of HS6.out.seg 5
  have cctot := (scells HS6.out.seg).2.2.2.2.2.2.1
  have fftot := frozen_of HS6.out.seg 6
  go_wp2_with fail
  clear ccoff ffoff cctot fftot
  have HS7 : Hid (Seg (w6.setCell ⟨q, 5, none⟩ (.int .i64 (n3 : Nat))) p B q st4 { s with chk := true, ser := n2, off := ((n3 : Nat) : Int) } a c a2 c2) := HS6.out.set 5 _ (by simp)
  have HF7 : Hid (OffS p q w (w6.setCell ⟨q, 5, none⟩ (.int .i64 (n3 : Nat)))) := HF6.out.set _ _
  clear HS6 HF6
  have HS8 : Hid (Seg ((w6.setCell ⟨q, 5, none⟩ (.int .i64 (n3 : Nat))).setCell ⟨q, 6, none⟩ (.int .i64 (n4 : Nat))) p B q st4 { s with chk := true, ser := n2, off := ((n3 : Nat) : Int), tot := ((n4 : Nat) : Int) } a c a2 c2) := HS7.out.set 6 _ (by simp)
  have HF8 : Hid (OffS p q w ((w6.setCell ⟨q, 5, none⟩ (.int .i64 (n3 : Nat))).setCell ⟨q, 6, none⟩ (.int .i64 (n4 : Nat)))) := HF7.out.set _ _
  clear HS7 HF7
  refine (snum_any ((w6.setCell ⟨q, 5, none⟩ (.int .i64 (n3 : Nat))).setCell ⟨q, 6, none⟩ (.int .i64 (n4 : Nat))) p B st4 100 (by omega) HS8.out.rdr).mono ?_
  rintro e w9 ⟨rfl, hq9⟩
  have HS9 : Hid (Seg w9 p B q (numR 100 st4).2 { s with chk := true, ser := n2, off := ((n3 : Nat) : Int), tot := ((n4 : Nat) : Int) } a c a2 c2) := HS8.out.read hq9.out
  have HF9 : Hid (OffS p q w w9) := HF8.out.read hq9.out
  clear hq9 HS8 HF8
  obtain ⟨n5, st5, HX9⟩ : ∃ n5 st5, Hid (numR 100 st4 = (n5, st5)) := ⟨_, _, rfl⟩
  have hm9 : n5 ≤ 100 := by have := numR_le 100 st4; rw [HX9.out] at this; exact this
  rw [HX9.out] at HS9
  rw [HX9.out]
  simp only at HS9 ⊢
  go_wp2_with fail
  refine (raw_any w9 p B st5 n5 (by omega) HS9.out.rdr).mono ?_
  rintro e w10 ⟨a', c', rfl, hq10⟩
  have HS10 : Hid (Seg w10 p B q (rawR n5 st5).2 { s with chk := true, ser := n2, off := ((n3 : Nat) : Int), tot := ((n4 : Nat) : Int) } a c a2 c2) := HS9.out.read hq10.out.1
  have HF10 : Hid (OffS p q w w10) := HF9.out.read hq10.out.1
  have HN10 : Hid (w.heap.size ≤ w9.heap.size) := HF9.out.size
  have HFR : Hid (Fresh w9 w10 a' c' (rawR n5 st5).1) := hq10.out.2
  obtain ⟨dd, st6, HX10⟩ : ∃ dd st6, Hid (rawR n5 st5 = (dd, st6)) := ⟨_, _, rfl⟩
  rw [HX10.out] at HS10 HFR
  rw [HX10.out]
  simp only at HS10 HFR ⊢
  clear hq10 HS9 HF9
  have ccdat := (scells HS10.out.seg).2.2.2.2.2.2.2.2.2.2.2.1
  have ffdat := frozen_of HS10.out.seg 11
  go_wp2_with fail
  go_end0
  have HDR : Hid (dataR s st = ({ s with chk := true, ser := n2, off := ((n3 : Nat) : Int), tot := ((n4 : Nat) : Int), dat := dd }, st6)) := by
    show _ = _
    simp only [dataR, serR, HX1.out, HX3.out, HX5.out, HX6.out, HX9.out, HX10.out, if_pos, decide_true]
  have HZ : Hid (Seg (w10.setCell ⟨q, 11, none⟩ (.slice a' dd.length c')) p B q st6 { s with chk := true, ser := n2, off := ((n3 : Nat) : Int), tot := ((n4 : Nat) : Int), dat := dd } a' c' a2 c2) := HS10.out.set 11 _ (by simp)
  refine ⟨rfl, a', c', ?_⟩
  rw [HDR.out]
  refine ⟨HZ.out, HF10.out.set _ _, HFR.out.row.off (S := fun i => i = q) ((Off.refl (fun i => i = q) w10).setCell (p := ⟨q, 11, none⟩) (.inr rfl) _) (fun _ b hb e => ?_), HFR.out.le, HFR.out.cap, fun b hb => Nat.le_trans HN10.out (HFR.out.new b hb)⟩
  have h1 := HFR.out.new b hb
  have h2 := HN10.out
  have h3 : b.block = q := e
  omega
set_option maxRecDepth 20000 in
set_option maxHeartbeats 4000000 in
theorem rdata_no (w : World) (p B q : Nat) (st : List Nat × Bool) (s : Sg) (a : Option Addr) (c : Nat) (a2 : Option Addr) (c2 : Nat) (h : Seg w p B q st s a c a2 c2) (h1 : (numR 1 st).1 ≠ 1) (hs0 : s.ser = 0) :
    Calls Try.prog 34 #[.pointer (some ⟨p, 0, none⟩), .pointer (some ⟨q, 0, none⟩)] w fun e w' => e = .returned (.tuple #[]) ∧ ∃ a' c', Hid (Seg w' p B q (dataR s st).2 (dataR s st).1 a' c' a2 c2 ∧ OffS p q w w' ∧ Fresh w w' a' c' (dataR s st).1.dat) := by
  have HS0 : Hid (Seg w p B q st s a c a2 c2) := h
  have HF0 : Hid (OffS p q w w) := Off.refl _ w
  have hqp := h.qp
  have hpw : p < w.heap.size := by obtain ⟨_, _, h1, _⟩ := h.rdr; exact (Array.getElem?_eq_some_iff.1 h1).1
  have hqw : q < w.heap.size := (Array.getElem?_eq_some_iff.1 h.seg).1
  clear h
  go_enter Try.func34, Try.ntmps34
  go_wp2_with fail
  refine (snum_any w p B st 1 (by omega) HS0.out.rdr).mono ?_
  rintro e w1 ⟨rfl, hq1⟩
  have HS1 : Hid (Seg w1 p B q (numR 1 st).2 s a c a2 c2) := HS0.out.read hq1.out
  have HF1 : Hid (OffS p q w w1) := HF0.out.read hq1.out
  clear hq1 HS0 HF0
  obtain ⟨n1, st1, HX1⟩ : ∃ n1 st1, Hid (numR 1 st = (n1, st1)) := ⟨_, _, rfl⟩
  have hm1 : n1 ≤ 1 := by have := numR_le 1 st; rw [HX1.out] at this; exact this
  rw [HX1.out] at HS1
  rw [HX1.out]
  simp only at HS1 ⊢
  have H1 : Hid (n1 = 0) := by show n1 = 0; have := HX1.out; rw [this] at h1; simp only at h1; omega
  clear h1
  obtain rfl := H1.out
  have ccchk := (scells HS1.out.seg).2.2.2.2.2.2.2.2.2.2.1
  have ffchk := frozen_of HS1.out.seg 10
  go_wp2_with fail
  clear ccchk ffchk
  have HS2 : Hid (Seg (w1.setCell ⟨q, 10, none⟩ (.bool false)) p B q st1 { s with chk := false } a c a2 c2) := HS1.out.set 10 _ (by simp)
  have HF2 : Hid (OffS p q w (w1.setCell ⟨q, 10, none⟩ (.bool false))) := HF1.out.set _ _
  clear HS1 HF1
  refine (place_any (w1.setCell ⟨q, 10, none⟩ (.bool false)) p B st1 HS2.out.rdr).mono ?_
  rintro e w3 ⟨rfl, hq3⟩
  have HS3 : Hid (Seg w3 p B q (numR 512 st1).2 { s with chk := false } a c a2 c2) := HS2.out.read hq3.out
  have HF3 : Hid (OffS p q w w3) := HF2.out.read hq3.out
  clear hq3 HS2 HF2
  obtain ⟨n3, st3, HX3⟩ : ∃ n3 st3, Hid (numR 512 st1 = (n3, st3)) := ⟨_, _, rfl⟩
  have hm3 : n3 ≤ 512 := by have := numR_le 512 st1; rw [HX3.out] at this; exact this
  rw [HX3.out] at HS3
  rw [HX3.out]
  simp only at HS3 ⊢
  go_wp2_with fail
  refine (place_any w3 p B st3 HS3.out.rdr).mono ?_
  rintro e w4 ⟨rfl, hq4⟩
  have HS4 : Hid (Seg w4 p B q (numR 512 st3).2 { s with chk := false } a c a2 c2) := HS3.out.read hq4.out
  have HF4 : Hid (OffS p q w w4) := HF3.out.read hq4.out
  clear hq4 HS3 HF3
  obtain ⟨n4, st4, HX4⟩ : ∃ n4 st4, Hid (numR 512 st3 = (n4, st4)) := ⟨_, _, rfl⟩
  have hm4 : n4 ≤ 512 := by have := numR_le 512 st3; rw [HX4.out] at this; exact this
  rw [HX4.out] at HS4
  rw [HX4.out]
  simp only at HS4 ⊢
  have ccoff := (scells HS4.out.seg).2.2.2.2.2.1
  have ffoff := frozen_of HS4.out.seg 5
  have cctot := (scells HS4.out.seg).2.2.2.2.2.2.1
  have fftot := frozen_of HS4.out.seg 6
  go_wp2_with fail
  clear ccoff ffoff cctot fftot
  have HS5 : Hid (Seg (w4.setCell ⟨q, 5, none⟩ (.int .i64 (n3 : Nat))) p B q st4 { s with chk := false, off := ((n3 : Nat) : Int) } a c a2 c2) := HS4.out.set 5 _ (by simp)
  have HF5 : Hid (OffS p q w (w4.setCell ⟨q, 5, none⟩ (.int .i64 (n3 : Nat)))) := HF4.out.set _ _
  clear HS4 HF4
  have HS6 : Hid (Seg ((w4.setCell ⟨q, 5, none⟩ (.int .i64 (n3 : Nat))).setCell ⟨q, 6, none⟩ (.int .i64 (n4 : Nat))) p B q st4 { s with chk := false, off := ((n3 : Nat) : Int), tot := ((n4 : Nat) : Int) } a c a2 c2) := HS5.out.set 6 _ (by simp)
  have HF6 : Hid (OffS p q w ((w4.setCell ⟨q, 5, none⟩ (.int .i64 (n3 : Nat))).setCell ⟨q, 6, none⟩ (.int .i64 (n4 : Nat)))) := HF5.out.set _ _
  clear HS5 HF5
  refine (snum_any ((w4.setCell ⟨q, 5, none⟩ (.int .i64 (n3 : Nat))).setCell ⟨q, 6, none⟩ (.int .i64 (n4 : Nat))) p B st4 100 (by omega) HS6.out.rdr).mono ?_
  rintro e w7 ⟨rfl, hq7⟩
  have HS7 : Hid (Seg w7 p B q (numR 100 st4).2 { s with chk := false, off := ((n3 : Nat) : Int), tot := ((n4 : Nat) : Int) } a c a2 c2) := HS6.out.read hq7.out
  have HF7 : Hid (OffS p q w w7) := HF6.out.read hq7.out
  clear hq7 HS6 HF6
  obtain ⟨n5, st5, HX7⟩ : ∃ n5 st5, Hid (numR 100 st4 = (n5, st5)) := ⟨_, _, rfl⟩
  have hm7 : n5 ≤ 100 := by have := numR_le 100 st4; rw [HX7.out] at this; exact this
  rw [HX7.out] at HS7
  rw [HX7.out]
  simp only at HS7 ⊢
  go_wp2_with fail
  refine (raw_any w7 p B st5 n5 (by omega) HS7.out.rdr).mono ?_
  rintro e w8 ⟨a', c', rfl, hq8⟩
  have HS8 : Hid (Seg w8 p B q (rawR n5 st5).2 { s with chk := false, off := ((n3 : Nat) : Int), tot := ((n4 : Nat) : Int) } a c a2 c2) := HS7.out.read hq8.out.1
  have HF8 : Hid (OffS p q w w8) := HF7.out.read hq8.out.1
  have HN8 : Hid (w.heap.size ≤ w7.heap.size) := HF7.out.size
  have HFR : Hid (Fresh w7 w8 a' c' (rawR n5 st5).1) := hq8.out.2
  obtain ⟨dd, st6, HX8⟩ : ∃ dd st6, Hid (rawR n5 st5 = (dd, st6)) := ⟨_, _, rfl⟩
  rw [HX8.out] at HS8 HFR
  rw [HX8.out]
  simp only at HS8 HFR ⊢
  clear hq8 HS7 HF7
  have ccdat := (scells HS8.out.seg).2.2.2.2.2.2.2.2.2.2.2.1
  have ffdat := frozen_of HS8.out.seg 11
  go_wp2_with fail
  go_end0
  have HDR : Hid (dataR s st = ({ s with chk := false, off := ((n3 : Nat) : Int), tot := ((n4 : Nat) : Int), dat := dd }, st6)) := by
    show _ = _
    simp only [dataR, serR, HX1.out]
    rw [if_neg (by omega)]
    simp only [HX3.out, HX4.out, HX7.out, HX8.out, hs0]
    rfl
  have HZ : Hid (Seg (w8.setCell ⟨q, 11, none⟩ (.slice a' dd.length c')) p B q st6 { s with chk := false, off := ((n3 : Nat) : Int), tot := ((n4 : Nat) : Int), dat := dd } a' c' a2 c2) := HS8.out.set 11 _ (by simp)
  refine ⟨rfl, a', c', ?_⟩
  rw [HDR.out]
  refine ⟨HZ.out, HF8.out.set _ _, HFR.out.row.off (S := fun i => i = q) ((Off.refl (fun i => i = q) w8).setCell (p := ⟨q, 11, none⟩) (.inr rfl) _) (fun _ b hb e => ?_), HFR.out.le, HFR.out.cap, fun b hb => Nat.le_trans HN8.out (HFR.out.new b hb)⟩
  have h1 := HFR.out.new b hb
  have h2 := HN8.out
  have h3 : b.block = q := e
  omega
end Go.Proofs.Ythmfbhanmncfgaa
