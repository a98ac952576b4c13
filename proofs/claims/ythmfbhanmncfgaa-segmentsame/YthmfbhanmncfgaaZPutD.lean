/- (*segment.writer).data. -/
import Derived.Test.YthmfbhanmncfgaaZPut
namespace Go.Proofs.Ythmfbhanmncfgaa
open Go.RowKit
set_option linter.unusedVariables false
set_option maxRecDepth 20000 in
set_option maxHeartbeats 4000000 in
theorem wdata_yes (w : World) (base p : Nat) (v : Value) (l : List Nat) (h : Wr w base p v l) (hbase : base ≤ w.heap.size) (hl : l.length ≤ 1000) (s : Sg) (a : Option Addr) (c : Nat) (a2 : Option Addr) (c2 : Nat) (hr : Row w a s.dat) (hpb : base ≤ p) (hab : 0 < s.dat.length → ∀ b, a = some b → b.block < base) (h1 : s.ser < 4294967296) (o t : Nat) (ho : s.off = (o : Nat)) (ht : s.tot = (t : Nat)) (ho5 : o ≤ 512) (ht5 : t ≤ 512) (hd0 : 0 < s.dat.length) (hd : s.dat.length ≤ 100) (hc : s.chk = true) :
    Calls Try.prog 16 #[.pointer (some ⟨p, 0, none⟩), sv s a c a2 c2] w fun e w' => e = .returned (.tuple #[]) ∧ ∃ v', Hid (Wrote w base p v (l ++ (rowL [1, s.ser] ++ (rowL [o, t, s.dat.length] ++ s.dat))) w' v') := by
  have HW : Hid (Wr w base p v l) := h
  have HR : Hid (Row w a s.dat) := hr
  have HB : Hid (∀ (w : World) (X : Obj), Below w.heap.size w (w.alloc X)) := fun w X => (Below.refl _ w).alloc (Nat.le_refl _) X
  have hp : p < w.heap.size := (Array.getElem?_eq_some_iff.1 h.here).1
  have HVB : Hid (v.ownBlock ≠ some w.heap.size) := fun e => by have := own_lt h.own _ e; omega
  have HRL : Hid ((rowL [1, s.ser]).length ≤ 20) := by
    have := rowL_len [1, s.ser] (by intro x hx; simp at hx; omega)
    show _ ≤ _; simpa using this
  have HR3 : Hid ((rowL [o, t, s.dat.length]).length ≤ 30) := by
    have := rowL_len [o, t, s.dat.length] (by intro x hx; simp at hx; omega)
    show _ ≤ _; simpa using this
  obtain ⟨i0, hi, hz0, hz1, hz2⟩ := info_parts Try.info5
  have HI : Hid _ := hi
  clear h hr hi
  go_enter Try.func16, Try.ntmps16
  go_wp2_with fail
  refine (put_at _ base p v l (w.heap.size + 1) 2 2 _ [1, s.ser] rfl (made_at (by simp)) (HW.out.later (below_of (HB.out _ _) (HB.out _ _))) (by simp; omega) (by intro x hx; simp at hx; omega) (by omega) (by omega) (by omega)).mono ?_
  rintro e w1 ⟨rfl, v1, hq1⟩
  obtain ⟨hP1, hV1⟩ := hq1.out.kept (q := w.heap.size) (o := sc s a c a2 c2) (old_block (HB.out _ _) (by rw [sc, hc, ho, ht]; exact heap_alloc_new w _)) (by omega) HVB.out
  have HP1 : Hid _ := hP1
  have HV1 : Hid _ := hV1
  obtain ⟨e0, e1, e2, e3, e4, e5, e6, e7, e8, e9, e10, e11, e12⟩ := scells hP1
  rw [ho] at e5
  rw [ht] at e6
  clear hP1 hV1 e0 e1 e2 e3 e4 e7 e8 e9 e10 e12
  have hs1 : w.heap.size + 2 ≤ w1.heap.size := by have := hq1.out.2.1.size; simpa using this
  go_wp2_with fail
  clear e5 e6 e11
  refine (put_at _ base p v1 (l ++ rowL [1, s.ser]) w1.heap.size 3 3 _ [o, t, s.dat.length] rfl (made_at rfl) (hq1.out.1.later (HB.out _ _)) (by simp; omega) (by intro x hx; simp at hx; omega) (by omega) (by omega) (by rw [List.length_append]; have := HRL.out; omega)).mono ?_
  rintro e w2 ⟨rfl, v2, hq2⟩
  obtain ⟨hP2, hV2⟩ := hq2.out.kept (q := w.heap.size) (o := sc s a c a2 c2) (old_block (HB.out _ _) HP1.out) (by omega) HV1.out
  have e11 : w2.cell? ⟨w.heap.size, 11, none⟩ = some (.slice a s.dat.length c) := (scells hP2).2.2.2.2.2.2.2.2.2.2.2.1
  have hT : Hid (Wrote w base p v ((l ++ rowL [1, s.ser]) ++ rowL [o, t, s.dat.length]) w2 v2) := (Wrote.ahead (below_of (HB.out _ _) (HB.out _ _)) hq1.out).trans (HB.out _ _) hq2.out
  have hcell : w2.cell? ⟨p, 0, none⟩ = some v2 := by rw [cell_of hT.out.1.here]; rfl
  have HRW : Hid (Row w2 a s.dat) := hT.out.row (own_ge HW.out.own) hpb HR.out hab
  obtain ⟨ba, oa, rfl, _⟩ := HR.out.2.2 hd0
  have HM2 : Hid (((l ++ rowL [1, s.ser]) ++ rowL [o, t, s.dat.length]).length ≤ 1050) := by
    show _ ≤ _
    have := HRL.out
    have := HR3.out
    simp only [List.length_append] at *
    omega
  have HAS : Hid (((l ++ rowL [1, s.ser]) ++ rowL [o, t, s.dat.length]) ++ s.dat = l ++ (rowL [1, s.ser] ++ (rowL [o, t, s.dat.length] ++ s.dat))) := by show _ = _; simp
  have hs2 : w1.heap.size + 1 ≤ w2.heap.size := by have := hq2.out.2.1.size; simpa using this
  clear hP2 hV2 hq1 hq2 HP1 HV1 HRL HR3
  generalize (l ++ rowL [1, s.ser]) ++ rowL [o, t, s.dat.length] = m2 at hT HM2 HAS
  have hm2 := HM2.out
  go_wp2_with fail
  go_region_law (refine step_append_lies _ rfl (.tmp 32) (.tmp 34) 23 rfl base 5 i0 _ 1 1 Try.underlying23 HI.out hz0 hz1 hz2 rfl (by decide) v2 m2.length (cells m2) (by first | (simp [Act.eval]; done) | simp [Act.eval, Act.put]) ((hT.out.1.later ((Below.refl _ _).drew)).own) ⟨ba, oa, none⟩ s.dat.length c (cells s.dat) (by first | (simp [Act.eval]; done) | simp [Act.eval, Act.put]) (by rw [cells_length, Nat.mul_one]) (row_cells (HRW.out.later ((Below.refl _ _).drew)) _ rfl) (one_cell _) (by omega) (by unfold maxLen; omega) (by omega) (by simp; omega) _ rfl ?_; intro g2 c2 w3 ho2 hg2 hat2 hlt2; have hk2 := hT.out.1.keep ((Below.refl _ _).drew) hg2; have hfr2 : w3.frozen? ⟨p, 0, none⟩ = false := frozen_of hk2 0; have hc2 : w3.cell? ⟨p, 0, none⟩ = some v2 := (by rw [cell_of hk2]; rfl))
  all_goals
    have HQ : Hid (Wrote w2 base p v2 (m2 ++ s.dat) (w3.setCell ⟨p, 0, none⟩ (.slice (some ⟨g2, 0, none⟩) (m2.length + s.dat.length) c2)) (.slice (some ⟨g2, 0, none⟩) (m2.length + s.dat.length) c2)) := hT.out.1.put ((Below.refl _ _).drew) hg2 hat2 ho2 HR.out.1
    clear hg2 hat2 ho2 hk2
    go_wp2
    go_end0
    refine ⟨rfl, .slice (some ⟨g2, 0, none⟩) (m2.length + s.dat.length) c2, ?_⟩
    rw [← HAS.out]
    exact hT.out.trans (Below.refl _ _) HQ.out
set_option maxRecDepth 20000 in
set_option maxHeartbeats 4000000 in
theorem wdata_no (w : World) (base p : Nat) (v : Value) (l : List Nat) (h : Wr w base p v l) (hbase : base ≤ w.heap.size) (hl : l.length ≤ 1000) (s : Sg) (a : Option Addr) (c : Nat) (a2 : Option Addr) (c2 : Nat) (hr : Row w a s.dat) (hpb : base ≤ p) (hab : 0 < s.dat.length → ∀ b, a = some b → b.block < base) (h1 : s.ser < 4294967296) (o t : Nat) (ho : s.off = (o : Nat)) (ht : s.tot = (t : Nat)) (ho5 : o ≤ 512) (ht5 : t ≤ 512) (hd0 : 0 < s.dat.length) (hd : s.dat.length ≤ 100) (hc : s.chk = false) :
    Calls Try.prog 16 #[.pointer (some ⟨p, 0, none⟩), sv s a c a2 c2] w fun e w' => e = .returned (.tuple #[]) ∧ ∃ v', Hid (Wrote w base p v (l ++ (rowL [0] ++ (rowL [o, t, s.dat.length] ++ s.dat))) w' v') := by
  have HW : Hid (Wr w base p v l) := h
  have HR : Hid (Row w a s.dat) := hr
  have HB : Hid (∀ (w : World) (X : Obj), Below w.heap.size w (w.alloc X)) := fun w X => (Below.refl _ w).alloc (Nat.le_refl _) X
  have hp : p < w.heap.size := (Array.getElem?_eq_some_iff.1 h.here).1
  have HVB : Hid (v.ownBlock ≠ some w.heap.size) := fun e => by have := own_lt h.own _ e; omega
  have HRL : Hid ((rowL [0]).length ≤ 20) := by
    show _ ≤ _; decide
  have HR3 : Hid ((rowL [o, t, s.dat.length]).length ≤ 30) := by
    have := rowL_len [o, t, s.dat.length] (by intro x hx; simp at hx; omega)
    show _ ≤ _; simpa using this
  obtain ⟨i0, hi, hz0, hz1, hz2⟩ := info_parts Try.info5
  have HI : Hid _ := hi
  clear h hr hi
  go_enter Try.func16, Try.ntmps16
  go_wp2_with fail
  refine (put_at _ base p v l (w.heap.size + 1) 1 1 _ [0] rfl (made_at (by simp)) (HW.out.later (below_of (HB.out _ _) (HB.out _ _))) (by simp; omega) (by simp) (by omega) (by omega) (by omega)).mono ?_
  rintro e w1 ⟨rfl, v1, hq1⟩
  obtain ⟨hP1, hV1⟩ := hq1.out.kept (q := w.heap.size) (o := sc s a c a2 c2) (old_block (HB.out _ _) (by rw [sc, hc, ho, ht]; exact heap_alloc_new w _)) (by omega) HVB.out
  have HP1 : Hid _ := hP1
  have HV1 : Hid _ := hV1
  obtain ⟨e0, e1, e2, e3, e4, e5, e6, e7, e8, e9, e10, e11, e12⟩ := scells hP1
  rw [ho] at e5
  rw [ht] at e6
  clear hP1 hV1 e0 e1 e2 e3 e4 e7 e8 e9 e10 e12
  have hs1 : w.heap.size + 2 ≤ w1.heap.size := by have := hq1.out.2.1.size; simpa using this
  go_wp2_with fail
  clear e5 e6 e11
  refine (put_at _ base p v1 (l ++ rowL [0]) w1.heap.size 3 3 _ [o, t, s.dat.length] rfl (made_at rfl) (hq1.out.1.later (HB.out _ _)) (by simp; omega) (by intro x hx; simp at hx; omega) (by omega) (by omega) (by rw [List.length_append]; have := HRL.out; omega)).mono ?_
  rintro e w2 ⟨rfl, v2, hq2⟩
  obtain ⟨hP2, hV2⟩ := hq2.out.kept (q := w.heap.size) (o := sc s a c a2 c2) (old_block (HB.out _ _) HP1.out) (by omega) HV1.out
  have e11 : w2.cell? ⟨w.heap.size, 11, none⟩ = some (.slice a s.dat.length c) := (scells hP2).2.2.2.2.2.2.2.2.2.2.2.1
  have hT : Hid (Wrote w base p v ((l ++ rowL [0]) ++ rowL [o, t, s.dat.length]) w2 v2) := (Wrote.ahead (below_of (HB.out _ _) (HB.out _ _)) hq1.out).trans (HB.out _ _) hq2.out
  have hcell : w2.cell? ⟨p, 0, none⟩ = some v2 := by rw [cell_of hT.out.1.here]; rfl
  have HRW : Hid (Row w2 a s.dat) := hT.out.row (own_ge HW.out.own) hpb HR.out hab
  obtain ⟨ba, oa, rfl, _⟩ := HR.out.2.2 hd0
  have HM2 : Hid (((l ++ rowL [0]) ++ rowL [o, t, s.dat.length]).length ≤ 1050) := by
    show _ ≤ _
    have := HRL.out
    have := HR3.out
    simp only [List.length_append] at *
    omega
  have HAS : Hid (((l ++ rowL [0]) ++ rowL [o, t, s.dat.length]) ++ s.dat = l ++ (rowL [0] ++ (rowL [o, t, s.dat.length] ++ s.dat))) := by show _ = _; simp
  have hs2 : w1.heap.size + 1 ≤ w2.heap.size := by have := hq2.out.2.1.size; simpa using this
  clear hP2 hV2 hq1 hq2 HP1 HV1 HRL HR3
  generalize (l ++ rowL [0]) ++ rowL [o, t, s.dat.length] = m2 at hT HM2 HAS
  have hm2 := HM2.out
  go_wp2_with fail
  go_region_law (refine step_append_lies _ rfl (.tmp 32) (.tmp 34) 23 rfl base 5 i0 _ 1 1 Try.underlying23 HI.out hz0 hz1 hz2 rfl (by decide) v2 m2.length (cells m2) (by first | (simp [Act.eval]; done) | simp [Act.eval, Act.put]) ((hT.out.1.later ((Below.refl _ _).drew)).own) ⟨ba, oa, none⟩ s.dat.length c (cells s.dat) (by first | (simp [Act.eval]; done) | simp [Act.eval, Act.put]) (by rw [cells_length, Nat.mul_one]) (row_cells (HRW.out.later ((Below.refl _ _).drew)) _ rfl) (one_cell _) (by omega) (by unfold maxLen; omega) (by omega) (by simp; omega) _ rfl ?_; intro g2 c2 w3 ho2 hg2 hat2 hlt2; have hk2 := hT.out.1.keep ((Below.refl _ _).drew) hg2; have hfr2 : w3.frozen? ⟨p, 0, none⟩ = false := frozen_of hk2 0; have hc2 : w3.cell? ⟨p, 0, none⟩ = some v2 := (by rw [cell_of hk2]; rfl))
  all_goals
    have HQ : Hid (Wrote w2 base p v2 (m2 ++ s.dat) (w3.setCell ⟨p, 0, none⟩ (.slice (some ⟨g2, 0, none⟩) (m2.length + s.dat.length) c2)) (.slice (some ⟨g2, 0, none⟩) (m2.length + s.dat.length) c2)) := hT.out.1.put ((Below.refl _ _).drew) hg2 hat2 ho2 HR.out.1
    clear hg2 hat2 ho2 hk2
    go_wp2
    go_end0
    refine ⟨rfl, .slice (some ⟨g2, 0, none⟩) (m2.length + s.dat.length) c2, ?_⟩
    rw [← HAS.out]
    exact hT.out.trans (Below.refl _ _) HQ.out
end Go.Proofs.Ythmfbhanmncfgaa
