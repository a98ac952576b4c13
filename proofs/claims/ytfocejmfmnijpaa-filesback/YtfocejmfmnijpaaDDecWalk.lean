/- The walk of files.DecodeOps. -/
import Derived.Test.YtfocejmfmnijpaaDDecOps
namespace Go.Proofs.Ytfocejmfmnijpaa
open Go.RowKit

theorem takes_lel {l : List Nat} {at_ : Nat} {er : Int} {n : Nat} : (takes l at_ er n).1.length ≤ l.length := by
  unfold takes
  split
  · simp
  · split
    · simp [List.length_take]; omega
    · simp
theorem rOp_fits (l : List Nat) (at_ : Nat) (er : Int) (hz : l.length ≤ 1000000) : OpFits (rOp l at_ er).1 := by
  have h1 : ∀ {k a e}, (counts l k a e).1.length ≤ 1000000 := fun {k a e} => Nat.le_trans takes_lel hz
  unfold rOp OpFits
  simp only
  split
  · refine ⟨?_, ?_, ?_⟩
    · show (nameOf _).size ≤ _; rw [nameOf_size]; exact Nat.le_trans h1 (by omega)
    · show 0 ≤ _; omega
    · exact Nat.le_trans h1 (by omega)
  · split
    · refine ⟨?_, ?_, ?_⟩
      · show (nameOf _).size ≤ _; rw [nameOf_size]; exact Nat.le_trans h1 (by omega)
      · show 0 ≤ _; omega
      · exact Nat.le_trans h1 (by omega)
    · split
      · refine ⟨?_, ?_, ?_⟩
        · show (nameOf _).size ≤ _; rw [nameOf_size]; exact Nat.le_trans h1 (by omega)
        · show (nameOf _).size ≤ _; rw [nameOf_size]; exact Nat.le_trans h1 (by omega)
        · show 0 ≤ _; omega
      · refine ⟨?_, ?_, ?_⟩
        · show (nameOf _).size ≤ _; rw [nameOf_size]; exact Nat.le_trans h1 (by omega)
        · show 0 ≤ _; omega
        · show 0 ≤ _; omega

/-- What DecodeOps answers. -/
def DecOps (w : World) (res : Option (List OpS)) (e : Ending) (w' : World) : Prop :=
  (∃ m a' c', res = some m ∧ e = .returned (.tuple #[.slice a' (m : List OpS).length c', .int .i64 0]) ∧ Hid (OpsAt w' a' m ∧ Below w.heap.size w w')) ∨
  (res = none ∧ e = .returned (.tuple #[.slice none 0 0, .int .i64 151]) ∧ Hid (Below w.heap.size w w'))

set_option maxRecDepth 100000 in
set_option maxHeartbeats 8000000 in
theorem decodeOps_any (w : World) (a : Option Addr) (c : Nat) (l : List Nat) (hr : Row w a l) (hz : l.length ≤ 1000000) :
    Calls Try.prog 22 #[.slice a l.length c] w fun e w' => DecOps w (decO l) e w' := by
  have HRE := read_any w a c l hr (by omega)
  have HBY : Hid (∀ x ∈ l, x < 256) := hr.1
  have hnn := takes_num (l := l) (at_ := 0) (er := 0) (n := 2) hr.1 (by omega)
  have HU : Hid (∀ W p q, Rd W p q l 0 0 → Calls Try.prog 46 #[.pointer (some ⟨p, 0, none⟩)] W fun e w' => e = .returned (.int .u16 (numN (takes l 0 0 2).1 : Nat)) ∧ Hid (Reads W p q l (takes l 0 0 2) w')) := fun W p q h => u16_any W p q l 0 0 h (by omega)
  obtain ⟨res, hres⟩ : ∃ res, res = decO l := ⟨_, rfl⟩
  rw [← hres]
  have HRES : Hid (res = decO l) := hres
  unfold decO at HRES
  obtain ⟨i0, hi, hz0, hz1, hz2⟩ := info_parts Try.infoOp
  have HI : Hid (Try.prog.info? 44 = some i0) := hi
  clear hr hres hi
  generalize takes l 0 0 2 = t at HU hnn HRES
  generalize numN t.1 = n at HU hnn HRES
  by_cases hn64 : 64 < n
  · have HE : Hid (res = none) := by show _ = _; rw [HRES.out, if_pos hn64]
    have hni : (64 : Int) < (n : Int) := by omega
    go_enter Try.func22, Try.ntmps22
    go_wp2_with (first | (go_at_call 39; refine HRE.mono ?_; rintro e w1 ⟨p, q, rfl, hq1⟩) | (go_at_call 46; refine (HU.out w1 p q hq1.out.1).mono ?_; rintro e w2 ⟨rfl, hq2⟩))
    go_ret2
    exact .inr ⟨HE.out, rfl, hq1.out.2.2.2.trans (hq2.out.2.below hq1.out.2.2.2.size (fun i e => by have := hq1.out.2.1; omega))⟩
  · have hni : (n : Int) ≤ 64 := by omega
    have hn64b : n ≤ 64 := by omega
    have HRS : Hid (res = finO l.length (rOps l n t.2.1 t.2.2 [])) := by show _ = _; rw [HRES.out, if_neg hn64]
    generalize hR : rOps l n t.2.1 t.2.2 [] = R at HRS
    have HRR : Hid (rOps l n t.2.1 t.2.2 [] = R) := hR
    clear HRES hn64 hR
    go_enter Try.func22, Try.ntmps22
    go_wp2_with (first | (go_at_call 39; refine HRE.mono ?_; rintro e w1 ⟨p, q, rfl, hq1⟩) | (go_at_call 46; refine (HU.out w1 p q hq1.out.1).mono ?_; rintro e w2 ⟨rfl, hq2⟩))
    have HB2 : Hid (Below w.heap.size w w2) := hq1.out.2.2.2.trans (hq2.out.2.below hq1.out.2.2.2.size (fun i e => by have := hq1.out.2.1; omega))
    have HW0 : Hid (OW w2 p q l t.2.1 t.2.2 w2 (.slice none 0 0) []) := ⟨World.ownsRow_nil _ _ _ _, by simp, hq2.out.1, Off.refl _ _, hq2.out.1.lt⟩
    have HPW : Hid (w.heap.size ≤ p) := hq1.out.2.1
    clear hq1 hq2 HRE HU
    go_loopw [6, 16] (fun v i wr => ∃ (k at1 : Nat) (er1 : Int) (X : List OX), k ≤ n ∧ i = .int .i64 k ∧ X.length ≤ k ∧ Hid (OW w2 p q l at1 er1 wr v X) ∧ Hid (rOps l (n - k) at1 er1 (X.map OX.o) = R)) (fun _ i _ => n - (intOf i).toNat)
    case atStart => exact ⟨0, t.2.1, t.2.2, [], Nat.zero_le _, rfl, Nat.le_refl _, HW0.out, HRR.out⟩
    case round =>
      clear HW0 HRR
      obtain ⟨k, at1, er1, X, hk, rfl, hXk, hw, hf⟩ := hrel
      obtain ⟨va, vc, rfl, hv1, hv2⟩ := own_form hw.out.list
      have HBL : Hid (∀ W, Off (fun k => k = p) w2 W → Below w.heap.size w W) := fun W hW => HB2.out.trans (hW.below HB2.out.size (fun i e => by have := HPW.out; omega))
      by_cases hkl : k < n
      · have hki : (k : Int) < (n : Int) := by omega
        have HRO := readOp_any wr p q l at1 er1 hw.out.rd hz
        have HFT : Hid (OpFits (rOp l at1 er1).1) := rOp_fits l at1 er1 hz
        have HF1 : Hid ((if sayB (rOp l at1 er1).1 = true then rOps l (n - (k + 1)) (rOp l at1 er1).2.1 (rOp l at1 er1).2.2 (X.map OX.o ++ [(rOp l at1 er1).1]) else none) = R) := by
          have := hf.out
          rw [show n - k = n - (k + 1) + 1 by omega, rOps] at this
          exact this
        generalize rOp l at1 er1 = ro at HRO HF1 HFT
        obtain ⟨x, at2, er2⟩ := ro
        simp only at HF1 HFT
        have HSB : Hid (∀ W a4 c4, Calls Try.prog 44 #[opv x a4 c4] W fun e w' => e = .returned (.bool (sayB x)) ∧ Hid (Below W.heap.size W w')) := fun W a4 c4 => sayable_any W x.kind x.name x.new x.at_ x.bytes a4 c4 HFT.out.1 HFT.out.2.1 HFT.out.2.2
        cases hsay : sayB x with
        | false =>
          have HE : Hid (res = none) := by
            show _ = _
            have h1 := HF1.out
            rw [hsay, if_neg (by simp)] at h1
            rw [HRS.out, ← h1]
            rfl
          rw [hsay] at HSB
          clear hsay HF1
          obtain ⟨xk, xn, xm, xt, xb⟩ := x
          unfold ReadOp at HRO
          simp only [opv] at *
          go_wp2_with (first | (go_at_call 47; refine HRO.mono ?_; rintro e w3 ⟨a3, c3, rfl, hq3⟩) | (go_at_call 44; refine (HSB.out _ a3 c3).mono ?_; rintro e w4 ⟨rfl, hq4⟩))
          go_ret2
          exact .inr ⟨HE.out, rfl, below_of (HBL.out w3 (hw.out.off.trans hq3.out.2.2.2.2.2 (fun _ _ t => t))) (below_of ((Below.refl _ w3).alloc (Nat.le_refl _) _) hq4.out)⟩
        | true =>
          have HF2 : Hid (rOps l (n - (k + 1)) at2 er2 (X.map OX.o ++ [x]) = R) := by
            have h1 := HF1.out
            rw [hsay, if_pos rfl] at h1
            exact h1
          rw [hsay] at HSB
          clear hsay HF1
          have HPU : Hid (∀ w3 a3 c3, Row w3 a3 x.bytes ∧ x.bytes.length ≤ c3 ∧ c3 ≤ maxLen ∧ (0 < x.bytes.length → ∀ b, a3 = some b → wr.heap.size ≤ b.block) ∧ Rd w3 p q l at2 er2 ∧ Off (fun k => k = p) wr w3 → OW w2 p q l at2 er2 w3 (.slice va X.length vc) X ∧ OGood w3 w2.heap.size (.slice va X.length vc) ⟨x, a3, c3⟩) := fun w3 a3 c3 hh => by
            refine ⟨hw.out.read hh.2.2.2.2.1 hh.2.2.2.2.2, HFT.out, hh.2.1, hh.2.2.1, hh.1, fun h0 b hb => ⟨?_, fun e => ?_⟩⟩
            · have := hh.2.2.2.1 h0 b hb; have := hw.out.off.size; omega
            · have := hh.2.2.2.1 h0 b hb; have := (hw.out.list.lt _ e).2; omega
          obtain ⟨xk, xn, xm, xt, xb⟩ := x
          unfold ReadOp at HRO
          simp only [opv] at *
          have hX1 : X.length ≤ 64 := by omega
          go_wp2_with (first | (go_at_call 47; refine HRO.mono ?_; rintro e w3 ⟨a3, c3, rfl, hq3⟩; have HP3 : Hid _ := HPU.out w3 a3 c3 hq3.out) | (go_at_call 44; refine (HSB.out _ a3 c3).mono ?_; rintro e w4 ⟨rfl, hq4⟩; have hb4 := old_block hq4.out (heap_alloc_new w3 _); have e0 := cell_of hb4 0; have e1 := cell_of hb4 1; have e2 := cell_of hb4 2; have e3 := cell_of hb4 3; have e4 := cell_of hb4 4; simp only [List.getElem?_toArray, List.getElem?_cons_zero, List.getElem?_cons_succ] at e0 e1 e2 e3 e4; have hX34 : Below w3.heap.size w3 w4 := below_of ((Below.refl _ w3).alloc (Nat.le_refl _) _) hq4.out; have HO4 : Hid (OW w2 p q l at2 er2 w4 (.slice va X.length vc) X ∧ OGood w4 w2.heap.size (.slice va X.length vc) ⟨⟨xk, xn, xm, xt, xb⟩, a3, c3⟩) := ⟨HP3.out.1.later hX34, HP3.out.2.off (S := fun _ => False) (Off.of_below hX34) (fun _ _ _ => id)⟩) | (at_builtin; go_must (refine wpList_append_lies _ rfl _ _ 25 rfl w2.heap.size 44 i0 (.agg #[.int .i64 0, .string ⟨#[]⟩, .string ⟨#[]⟩, .int .i64 0, .slice none 0 0]) 5 72 Try.underlying25 HI.out hz0 hz1 hz2 rfl (by decide) (.slice va X.length vc) X.length (ocells X) rfl (HO4.out.1.list.alloc _) ⟨w4.heap.size, 0, none⟩ 1 1 (OX.cells ⟨⟨xk, xn, xm, xt, xb⟩, a3, c3⟩) rfl rfl (World.news_of_block (heap_alloc_new w4 _)) (by intro u hu; simp [OX.cells] at hu; rcases hu with rfl | rfl | rfl | rfl | rfl <;> rfl) (by decide) (by unfold maxLen; omega) (by omega) (by have := HO4.out.1.off.size; simp; omega) (w4.heap.size + 1) (by simp) ?_); intro g cap w5 hown5 hgrow5 hat5 hlt5; have HP : Hid (OW w2 p q l at2 er2 w5 (.slice (some ⟨g, 0, none⟩) (X.length + 1) cap) (X ++ [(⟨⟨xk, xn, xm, xt, xb⟩, a3, c3⟩ : OX)])) := (HO4.out.1.later ((Below.refl _ w4).alloc (Nat.le_refl _) _)).push (H := w4.heap.size + 1) hown5 hgrow5 hat5 (by simp) (HO4.out.2.off (S := fun _ => False) (Off.of_below ((Below.refl _ w4).alloc (Nat.le_refl _) _)) (fun _ _ _ => id)); clear hown5 hgrow5 hat5))
          go_roundw
          case rel => exact ⟨k + 1, at2, er2, _, by omega, by go_num, by rw [List.length_append]; simp; omega, HP.out, by show _ = _; have := HF2.out; simpa using this⟩
          case measure => simp [intOf]; omega
      · obtain rfl : k = n := by omega
        have HRE2 : Hid (res = if (er1 != 0) = true ∨ 0 < l.length - at1 then none else some (X.map OX.o)) := by
          show _ = _
          have h1 := hf.out
          rw [Nat.sub_self, rOps] at h1
          rw [HRS.out, ← h1]
          rfl
        have HER := err_any wr p q l at1 er1 hw.out.rd
        have HLF := left_any wr p q l at1 er1 hw.out.rd (by omega)
        by_cases he : (er1 != 0) = true
        · have HE : Hid (res = none) := by show _ = _; rw [HRE2.out, if_pos (.inl he)]
          go_wp2_with (go_at_call 41; refine HER.mono ?_; rintro e w3 ⟨rfl, rfl⟩)
          go_ret2
          exact .inr ⟨HE.out, rfl, HBL.out _ hw.out.off⟩
        · obtain rfl := er_zero he
          by_cases hd : 0 < l.length - at1
          · have HE : Hid (res = none) := by show _ = _; rw [HRE2.out, if_pos (.inr hd)]
            have hdi : (0 : Int) < ((l.length - at1 : Nat) : Int) := by omega
            generalize l.length - at1 = d at hdi HLF
            clear hd he
            go_wp2_with (first | (go_at_call 41; refine HER.mono ?_; rintro e w3 ⟨rfl, rfl⟩) | (go_at_call 42; refine HLF.mono ?_; rintro e w4 ⟨rfl, m4, rfl⟩))
            go_ret2
            exact .inr ⟨HE.out, rfl, below_drewN (HBL.out _ hw.out.off) m4⟩
          · have HE : Hid (res = some (X.map OX.o)) := by show _ = _; rw [HRE2.out, if_neg (by rintro (h | h); exact he h; exact hd h)]
            have hdi : ((l.length - at1 : Nat) : Int) = 0 := by omega
            rw [hdi] at HLF
            clear hd he hdi
            have HOP : Hid (∀ m, OpsAt (wr.drewN m) va (X.map OX.o)) := fun m => (hw.out.ops (by omega)).later (below_drewN (Below.refl _ _) m)
            go_wp2_with (first | (go_at_call 41; refine HER.mono ?_; rintro e w3 ⟨rfl, rfl⟩) | (go_at_call 42; refine HLF.mono ?_; rintro e w4 ⟨rfl, m4, rfl⟩))
            go_ret2
            exact .inl ⟨X.map OX.o, va, vc, HE.out, by rw [List.length_map]; rfl, HOP.out m4, below_drewN (HBL.out _ hw.out.off) m4⟩
end Go.Proofs.Ytfocejmfmnijpaa
