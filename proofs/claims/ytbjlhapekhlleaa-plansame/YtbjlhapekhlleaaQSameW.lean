/- The walk of PlanSame. -/
import Derived.Test.YtbjlhapekhlleaaQEq
namespace Go.Proofs.Ytbjlhapekhlleaa
open Go.RowKit
set_option linter.unusedVariables false
attribute [local go_sem ↓] eqlC
/-- the law's arguments in their boxes. -/
structure SB (w : World) (nn mm : Int) (a b : Option Addr) (m1 k1 m2 k2 : Nat) (c : Ct) (W : World) : Prop where
  p : W.heap[w.heap.size]? = some (.cells #[.int .i64 nn, .slice a m1 k1] 24 (0, 0))
  q : W.heap[w.heap.size + 1]? = some (.cells #[.int .i64 mm, .slice b m2 k2] 24 (0, 0))
  c : W.heap[w.heap.size + 2]? = some (.cells #[.int .i64 c.frm, .int .i64 c.to, .int .i64 c.st, .int .i64 c.en, .int .i64 c.rt, .int .i64 c.dl] 43 (0, 0))
  bel : Below w.heap.size w W
theorem SB.later {w W W' : World} {nn mm : Int} {a b : Option Addr} {m1 k1 m2 k2 : Nat} {c : Ct} (h : SB w nn mm a b m1 k1 m2 k2 c W) (hb : Below W.heap.size W W') : SB w nn mm a b m1 k1 m2 k2 c W' := ⟨old_block hb h.p, old_block hb h.q, old_block hb h.c, below_of h.bel hb⟩
theorem SB.made (w : World) (nn mm : Int) (a b : Option Addr) (m1 k1 m2 k2 : Nat) (c : Ct) : SB w nn mm a b m1 k1 m2 k2 c (((w.alloc (.cells #[.int .i64 nn, .slice a m1 k1] 24)).alloc (.cells #[.int .i64 mm, .slice b m2 k2] 24)).alloc (.cells #[.int .i64 c.frm, .int .i64 c.to, .int .i64 c.st, .int .i64 c.en, .int .i64 c.rt, .int .i64 c.dl] 43)) := by
  refine ⟨?_, ?_, ?_, (((Below.refl _ w).alloc (Nat.le_refl _) _).alloc (by simp) _).alloc (by simp; omega) _⟩
  all_goals (show (((w.heap.push _).push _).push _)[_]? = _; simp only [Array.getElem?_push, Array.size_push]; repeat (first | (rw [if_neg (by omega)]) | (rw [if_pos trivial]) | (rw [if_pos rfl])))
theorem SB.cells {w W : World} {nn mm : Int} {a b : Option Addr} {m1 k1 m2 k2 : Nat} {c : Ct} (h : SB w nn mm a b m1 k1 m2 k2 c W) : W.cell? ⟨w.heap.size, 0, none⟩ = some (.int .i64 nn) ∧ W.cell? ⟨w.heap.size, 1, none⟩ = some (.slice a m1 k1) ∧ W.cell? ⟨w.heap.size + 1, 0, none⟩ = some (.int .i64 mm) ∧ W.cell? ⟨w.heap.size + 1, 1, none⟩ = some (.slice b m2 k2) ∧ W.cell? ⟨w.heap.size + 1 + 1, 0, none⟩ = some (.int .i64 c.frm) ∧ W.cell? ⟨w.heap.size + 1 + 1, 1, none⟩ = some (.int .i64 c.to) ∧ W.cell? ⟨w.heap.size + 1 + 1, 2, none⟩ = some (.int .i64 c.st) ∧ W.cell? ⟨w.heap.size + 1 + 1, 3, none⟩ = some (.int .i64 c.en) ∧ W.cell? ⟨w.heap.size + 1 + 1, 4, none⟩ = some (.int .i64 c.rt) ∧ W.cell? ⟨w.heap.size + 1 + 1, 5, none⟩ = some (.int .i64 c.dl) := by
  refine ⟨?_, ?_, ?_, ?_, ?_, ?_, ?_, ?_, ?_, ?_⟩
  · rw [cell_of h.p]; rfl
  · rw [cell_of h.p]; rfl
  · rw [cell_of h.q]; rfl
  · rw [cell_of h.q]; rfl
  all_goals (rw [cell_of h.c]; rfl)
set_option maxRecDepth 20000 in
set_option maxHeartbeats 8000000 in
theorem samelaw_any (w : World) (nn mm : Int) (a b : Option Addr) (k1 k2 : Nat) (X Y : List Ct) (c : Ct) (hk1 : X.length ≤ k1) (hk2 : k1 ≤ maxLen) (h48 : X.length * 48 ≤ 140737488351232) (hX : CtAt (fun _ => False) w a X) (hl1 : Y.length ≤ k2) (hl2 : k2 ≤ maxLen) (h49 : Y.length * 48 ≤ 140737488351232) (hY : CtAt (fun _ => False) w b Y) :
    Calls Try.prog 5 #[pv nn a X.length k1, pv mm b Y.length k2, cv c] w fun r w' => r = .returned (.bool true) ∧ Hid (Below w.heap.size w w') := by
  obtain ⟨m1, hm1⟩ : ∃ m, X.length = m := ⟨_, rfl⟩
  obtain ⟨m2, hm2⟩ : ∃ m, Y.length = m := ⟨_, rfl⟩
  rw [hm1, hm2]
  rw [hm1] at hk1 h48
  rw [hm2] at hl1 h49
  have HSB : Hid (SB w nn mm a b m1 k1 m2 k2 c (((w.alloc (.cells #[.int .i64 nn, .slice a m1 k1] 24)).alloc (.cells #[.int .i64 mm, .slice b m2 k2] 24)).alloc (.cells #[.int .i64 c.frm, .int .i64 c.to, .int .i64 c.st, .int .i64 c.en, .int .i64 c.rt, .int .i64 c.dl] 43))) := SB.made w nn mm a b m1 k1 m2 k2 c
  have HX : Hid (∀ W, Below w.heap.size w W → CtAt (fun _ => False) W a X) := fun W hb => hX.later hb
  have HY : Hid (∀ W, Below w.heap.size w W → CtAt (fun _ => False) W b Y) := fun W hb => hY.later hb
  have HSM : Hid (∀ W, Below w.heap.size w W → Calls Try.prog 17 #[pv nn a m1 k1, pv mm b m2 k2] W fun e w' => e = .returned (.bool (sameP nn mm X Y)) ∧ Hid (Below W.heap.size W w')) := fun W hb => same_any nn mm m1 m2 k1 k2 a b X Y W hm1 hm2 (by omega) (by omega) (hX.later hb) (hY.later hb)
  have HSC : Hid (∀ W g cc, Below w.heap.size w W → CtAt (fun _ => False) W (some ⟨g, 0, none⟩) X → Calls Try.prog 17 #[pv nn a m1 k1, pv nn (some ⟨g, 0, none⟩) m1 cc] W fun e w' => e = .returned (.bool true) ∧ Hid (Below W.heap.size W w')) := fun W g cc hb hg => by
    refine (same_any nn nn m1 m1 k1 cc a _ X X W hm1 hm1 (by omega) (by omega) (hX.later hb) hg).mono ?_
    rintro e w' ⟨rfl, hq⟩
    exact ⟨by rw [sameP, eqK_self, decide_eq_true rfl, decide_eq_true rfl]; rfl, hq⟩
  have HCP : Hid (∀ W, Below w.heap.size w W → Calls Try.prog 9 #[pv nn a m1 k1] W fun e w' => ∃ g cc, e = .returned (pv nn (some ⟨g, 0, none⟩) m1 cc) ∧ Hid (CtAt (fun _ => False) w' (some ⟨g, 0, none⟩) X ∧ m1 ≤ cc ∧ cc ≤ maxLen ∧ W.heap.size ≤ g ∧ Below W.heap.size W w')) := fun W hb => copied_any nn a m1 k1 X W hm1 h48 (hX.later hb)
  have HVL : Hid (∀ W, Calls Try.prog 16 #[cv c] W fun e w' => e = .returned (.int .i64 (vol c)) ∧ Hid (Below W.heap.size W w')) := fun W => volume_any c W
  unfold pv at HSM HSC HCP ⊢
  unfold cv at HVL ⊢
  have HN : Hid (X.length = m1 ∧ Y.length = m2) := ⟨hm1, hm2⟩
  clear hX hY hm1 hm2
  go_enter Try.func5, Try.ntmps5
  go_wp2_with fail
  go_at_call 7
  refine (wakes_any _).mono ?_
  rintro r w1 ⟨rfl, H1⟩
  have HP1 : Hid (SB w nn mm a b m1 k1 m2 k2 c w1) := HSB.out.later H1.out
  obtain ⟨p0, p1, q0, q1, c0, c1, c2, c3, c4, c5⟩ := HP1.out.cells
  clear HSB
  cases hb1 : (nn == mm) with
  | true =>
    cases hb2 : ((m1 : Int) == (m2 : Int)) with
    | true =>
      have HE : Hid (m1 = m2 ∧ nn = mm) := by
        rw [beq_iff_eq] at hb1 hb2
        exact ⟨by omega, hb1⟩
      go_wp2
      go_loopw [7, 29] (fun s i wr => ∃ j : Nat, j ≤ m1 ∧ s = .bool (eqK X Y j) ∧ i = .int .i64 j ∧ Hid (SB w nn mm a b m1 k1 m2 k2 c wr)) (fun _ i _ => m1 - (intOf i).toNat)
      case atStart => exact ⟨0, Nat.zero_le _, rfl, rfl, HP1.out⟩
      case round =>
        obtain ⟨j, hj, rfl, rfl, HJ⟩ := hrel
        obtain ⟨p0, p1, q0, q1, c0, c1, c2, c3, c4, c5⟩ := HJ.out.cells
        by_cases hlt : j < m1
        · obtain ⟨d, hd⟩ : ∃ d, X[j]? = some d := ⟨_, List.getElem?_eq_getElem (by have := HN.out; omega)⟩
          obtain ⟨e, he⟩ : ∃ e, Y[j]? = some e := ⟨_, List.getElem?_eq_getElem (by have := HE.out; have := HN.out; omega)⟩
          have hlt2 : j < m2 := by have := HE.out; omega
          obtain ⟨b1, o1, rfl, d0, d1, d2, d3, d4, d5⟩ := (HX.out _ HJ.out.bel).cells6 hd
          obtain ⟨b2, o2, rfl, e0, e1, e2, e3, e4, e5⟩ := (HY.out _ HJ.out.bel).cells6 he
          have HQ : Hid (eqK X Y (j + 1) = (eqK X Y j && eqC d e)) := eqK_succ hd he
          clear hd he
          cases hq : eqK X Y j with
          | true =>
            rw [hq, Bool.true_and] at HQ
            go_wp2_with fail
            go_region
            go_wp2
            go_roundw
            case rel => exact ⟨j + 1, by omega, by rw [HQ.out], by go_num, HJ.out.later (Below.refl _ _).drew⟩
            case measure => simp [intOf]; omega
          | false =>
            rw [hq, Bool.false_and] at HQ
            go_wp2_with fail
            go_region
            go_wp2
            go_roundw
            case rel => exact ⟨j + 1, by omega, by rw [HQ.out], by go_num, HJ.out.later (Below.refl _ _).drew⟩
            case measure => simp [intOf]; omega
        · have HF : Hid (sameP nn mm X Y = eqK X Y j) := by
            show _ = _
            have h1 := HE.out
            have h2 := HN.out
            rw [sameP, decide_eq_true h1.2, decide_eq_true (by omega), h2.1, show j = m1 by omega]
            rfl
          generalize eqK X Y j = S at HF
          have HCD : Hid (c.st < c.en ∧ 0 ≤ c.st ∧ c.en ≤ 1048576 ∧ 0 ≤ c.rt ∧ c.rt ≤ 1048576 ∨ ¬ (c.st < c.en ∧ 0 ≤ c.st ∧ c.en ≤ 1048576 ∧ 0 ≤ c.rt ∧ c.rt ≤ 1048576)) := Classical.em _
          rcases HCD.out with hv | hv
          · have HV : Hid (vol c = c.rt * (c.en - c.st)) := by
              show _ = _
              rw [vol, if_pos hv]
            obtain ⟨v1, v2, v3, v4, v5⟩ := hv
            have hmul : 0 ≤ c.rt * (c.en - c.st) ∧ c.rt * (c.en - c.st) ≤ 1048576 * 1048576 := ⟨Int.mul_nonneg v4 (by omega), Int.mul_le_mul v5 (by omega) (by omega) (by omega)⟩
            obtain ⟨hmul1, hmul2⟩ := hmul
            go_wp2_with fail
            have hPd : SB w nn mm a b m1 k1 m2 k2 c wr.drew := HJ.out.later (Below.refl _ wr).drew
            refine wp_region_held_drew (S := fun W' => W'.cell? ⟨w.heap.size, 0, none⟩ = some (.int .i64 nn) ∧ W'.cell? ⟨w.heap.size, 1, none⟩ = some (.slice a m1 k1) ∧ W'.cell? ⟨w.heap.size + 1, 0, none⟩ = some (.int .i64 mm) ∧ W'.cell? ⟨w.heap.size + 1, 1, none⟩ = some (.slice b m2 k2) ∧ W'.cell? ⟨w.heap.size + 1 + 1, 0, none⟩ = some (.int .i64 c.frm) ∧ W'.cell? ⟨w.heap.size + 1 + 1, 1, none⟩ = some (.int .i64 c.to) ∧ W'.cell? ⟨w.heap.size + 1 + 1, 2, none⟩ = some (.int .i64 c.st) ∧ W'.cell? ⟨w.heap.size + 1 + 1, 3, none⟩ = some (.int .i64 c.en) ∧ W'.cell? ⟨w.heap.size + 1 + 1, 4, none⟩ = some (.int .i64 c.rt) ∧ W'.cell? ⟨w.heap.size + 1 + 1, 5, none⟩ = some (.int .i64 c.dl)) (by kernel_rfl) HJ.out.cells (fun hHeld => ?_)
            refine takeH 0 (.agg #[.int .i64 nn, .slice a m1 k1]) rfl (by kernel_rfl) (by kernel_rfl) (by kernel_rfl) (fun _ _ _ h => h) (Or.inl ⟨by rfl, ?_⟩) (by assumption) ?_
            · (intro w hSw; obtain ⟨hS0, hS1, hS2, hS3, hS4, hS5, hS6, hS7, hS8, hS9⟩ := hSw; go_simp)
            try simp only [Act.put, List.setIfInBounds_toArray, List.set_cons_zero, List.set_cons_succ]
            refine takeH 1 (.agg #[.int .i64 mm, .slice b m2 k2]) rfl (by kernel_rfl) (by kernel_rfl) (by kernel_rfl) (fun _ _ _ h => h) (Or.inl ⟨by rfl, ?_⟩) (by assumption) ?_
            · (intro w hSw; obtain ⟨hS0, hS1, hS2, hS3, hS4, hS5, hS6, hS7, hS8, hS9⟩ := hSw; go_simp)
            try simp only [Act.put, List.setIfInBounds_toArray, List.set_cons_zero, List.set_cons_succ]
            refine takeH 3 (.bool S) rfl (by kernel_rfl) (by kernel_rfl) (by kernel_rfl) (fun _ _ _ h => h) (Or.inl ⟨by rfl, ?_⟩) (by assumption) ?_
            · (intro w hSw; obtain ⟨hS0, hS1, hS2, hS3, hS4, hS5, hS6, hS7, hS8, hS9⟩ := hSw; go_simp)
            try simp only [Act.put, List.setIfInBounds_toArray, List.set_cons_zero, List.set_cons_succ]
            refine wpAnyH_ready (rs := [2]) (by kernel_rfl) (by simp) ?_
            refine stepH 2 rfl (fun K hK => ?_) AllReadyH.nil
            go_simp
            go_at_call 17
            refine (HSM.out _ hPd.bel).mono ?_
            rw [HF.out]
            rintro r w2 ⟨rfl, H2⟩
            have hP2 : SB w nn mm a b m1 k1 m2 k2 c w2 := hPd.later H2.out
            refine hK.out _ _ (hP2).cells (fun hHeld => ?_)
            clear hK K
            try simp only [Act.put, List.setIfInBounds_toArray, List.set_cons_zero, List.set_cons_succ]
            refine takeH 4 (.bool true) rfl (by kernel_rfl) (by kernel_rfl) (by kernel_rfl) (fun _ _ _ h => h) (Or.inl ⟨by rfl, ?_⟩) (by assumption) ?_
            · (intro w hSw; obtain ⟨hS0, hS1, hS2, hS3, hS4, hS5, hS6, hS7, hS8, hS9⟩ := hSw; go_simp)
            try simp only [Act.put, List.setIfInBounds_toArray, List.set_cons_zero, List.set_cons_succ]
            refine takeH 5 (.bool true) rfl (by kernel_rfl) (by kernel_rfl) (by kernel_rfl) (fun _ _ _ h => h) (Or.inl ⟨by rfl, ?_⟩) (by assumption) ?_
            · (intro w hSw; obtain ⟨hS0, hS1, hS2, hS3, hS4, hS5, hS6, hS7, hS8, hS9⟩ := hSw; go_simp)
            try simp only [Act.put, List.setIfInBounds_toArray, List.set_cons_zero, List.set_cons_succ]
            refine takeH 6 (.agg #[.int .i64 nn, .slice a m1 k1]) rfl (by kernel_rfl) (by kernel_rfl) (by kernel_rfl) (fun _ _ _ h => h) (Or.inl ⟨by rfl, ?_⟩) (by assumption) ?_
            · (intro w hSw; obtain ⟨hS0, hS1, hS2, hS3, hS4, hS5, hS6, hS7, hS8, hS9⟩ := hSw; go_simp)
            try simp only [Act.put, List.setIfInBounds_toArray, List.set_cons_zero, List.set_cons_succ]
            refine takeH 7 (.agg #[.int .i64 nn, .slice a m1 k1]) rfl (by kernel_rfl) (by kernel_rfl) (by kernel_rfl) (fun _ _ _ h => h) (Or.inl ⟨by rfl, ?_⟩) (by assumption) ?_
            · (intro w hSw; obtain ⟨hS0, hS1, hS2, hS3, hS4, hS5, hS6, hS7, hS8, hS9⟩ := hSw; go_simp)
            try simp only [Act.put, List.setIfInBounds_toArray, List.set_cons_zero, List.set_cons_succ]
            refine wpAnyH_ready (rs := [8]) (by kernel_rfl) (by simp) ?_
            refine stepH 8 rfl (fun K hK => ?_) AllReadyH.nil
            go_simp
            go_at_call 9
            refine (HCP.out _ hP2.bel).mono ?_
            rintro r w3 ⟨g3, k3, rfl, H3⟩
            have hP3 : SB w nn mm a b m1 k1 m2 k2 c w3 := hP2.later H3.out.2.2.2.2
            refine hK.out _ _ (hP3).cells (fun hHeld => ?_)
            clear hK K
            try simp only [Act.put, List.setIfInBounds_toArray, List.set_cons_zero, List.set_cons_succ]
            refine wpAnyH_ready (rs := [9]) (by kernel_rfl) (by simp) ?_
            refine stepH 9 rfl (fun K hK => ?_) AllReadyH.nil
            go_simp
            go_at_call 17
            refine (HSC.out _ g3 k3 hP3.bel H3.out.1).mono ?_
            rintro r w4 ⟨rfl, H4⟩
            have hP4 : SB w nn mm a b m1 k1 m2 k2 c w4 := hP3.later H4.out
            refine hK.out _ _ (hP4).cells (fun hHeld => ?_)
            clear hK K
            try simp only [Act.put, List.setIfInBounds_toArray, List.set_cons_zero, List.set_cons_succ]
            refine takeH 10 (.bool true) rfl (by kernel_rfl) (by kernel_rfl) (by kernel_rfl) (fun _ _ _ h => h) (Or.inl ⟨by rfl, ?_⟩) (by assumption) ?_
            · (intro w hSw; obtain ⟨hS0, hS1, hS2, hS3, hS4, hS5, hS6, hS7, hS8, hS9⟩ := hSw; go_simp)
            try simp only [Act.put, List.setIfInBounds_toArray, List.set_cons_zero, List.set_cons_succ]
            refine takeH 11 (.bool true) rfl (by kernel_rfl) (by kernel_rfl) (by kernel_rfl) (fun _ _ _ h => h) (Or.inl ⟨by rfl, ?_⟩) (by assumption) ?_
            · (intro w hSw; obtain ⟨hS0, hS1, hS2, hS3, hS4, hS5, hS6, hS7, hS8, hS9⟩ := hSw; go_simp)
            try simp only [Act.put, List.setIfInBounds_toArray, List.set_cons_zero, List.set_cons_succ]
            refine takeH 12 (.agg #[.int .i64 c.frm, .int .i64 c.to, .int .i64 c.st, .int .i64 c.en, .int .i64 c.rt, .int .i64 c.dl]) rfl (by kernel_rfl) (by kernel_rfl) (by kernel_rfl) (fun _ _ _ h => h) (Or.inl ⟨by rfl, ?_⟩) (by assumption) ?_
            · (intro w hSw; obtain ⟨hS0, hS1, hS2, hS3, hS4, hS5, hS6, hS7, hS8, hS9⟩ := hSw; go_simp)
            try simp only [Act.put, List.setIfInBounds_toArray, List.set_cons_zero, List.set_cons_succ]
            refine takeH 14 (.int .i64 (c.rt * (c.en - c.st))) rfl (by kernel_rfl) (by kernel_rfl) (by kernel_rfl) (fun _ _ _ h => h) (Or.inl ⟨by rfl, ?_⟩) (by assumption) ?_
            · (intro w hSw; obtain ⟨hS0, hS1, hS2, hS3, hS4, hS5, hS6, hS7, hS8, hS9⟩ := hSw; go_simp)
            try simp only [Act.put, List.setIfInBounds_toArray, List.set_cons_zero, List.set_cons_succ]
            refine wpAnyH_ready (rs := [13]) (by kernel_rfl) (by simp) ?_
            refine stepH 13 rfl (fun K hK => ?_) AllReadyH.nil
            go_simp
            go_at_call 16
            refine (HVL.out _).mono ?_
            rw [HV.out]
            rintro r w5 ⟨rfl, H5⟩
            have hP5 : SB w nn mm a b m1 k1 m2 k2 c w5 := hP4.later H5.out
            refine hK.out _ _ (hP5).cells (fun hHeld => ?_)
            clear hK K
            try simp only [Act.put, List.setIfInBounds_toArray, List.set_cons_zero, List.set_cons_succ]
            refine takeH 15 (.bool true) rfl (by kernel_rfl) (by kernel_rfl) (by kernel_rfl) (fun _ _ _ h => h) (Or.inl ⟨by rfl, ?_⟩) (by assumption) ?_
            · (intro w hSw; obtain ⟨hS0, hS1, hS2, hS3, hS4, hS5, hS6, hS7, hS8, hS9⟩ := hSw; go_simp)
            try simp only [Act.put, List.setIfInBounds_toArray, List.set_cons_zero, List.set_cons_succ]
            refine takeH 16 (.bool true) rfl (by kernel_rfl) (by kernel_rfl) (by kernel_rfl) (fun _ _ _ h => h) (Or.inl ⟨by rfl, ?_⟩) (by assumption) ?_
            · (intro w hSw; obtain ⟨hS0, hS1, hS2, hS3, hS4, hS5, hS6, hS7, hS8, hS9⟩ := hSw; go_simp)
            try simp only [Act.put, List.setIfInBounds_toArray, List.set_cons_zero, List.set_cons_succ]
            refine takeH 17 (.bool true) rfl (by kernel_rfl) (by kernel_rfl) (by kernel_rfl) (fun _ _ _ h => h) (Or.inl ⟨by rfl, ?_⟩) (by assumption) ?_
            · (intro w hSw; obtain ⟨hS0, hS1, hS2, hS3, hS4, hS5, hS6, hS7, hS8, hS9⟩ := hSw; go_simp)
            try simp only [Act.put, List.setIfInBounds_toArray, List.set_cons_zero, List.set_cons_succ]
            refine wpAnyH_done (by kernel_rfl) ?_ _
            go_wp2
            go_ret
            exact ⟨rfl, hP5.bel⟩
          · have HV : Hid (vol c = 0) := by
              show _ = _
              rw [vol, if_neg hv]
            have HNV : Hid (¬ (c.st < c.en ∧ 0 ≤ c.st ∧ c.en ≤ 1048576 ∧ 0 ≤ c.rt ∧ c.rt ≤ 1048576)) := hv
            clear hv
            go_wp2_with fail
            all_goals first
              | (exfalso; exact HNV.out ⟨by omega, by omega, by omega, by omega, by omega⟩)
              | skip
            all_goals
              have hPd : SB w nn mm a b m1 k1 m2 k2 c wr.drew := HJ.out.later (Below.refl _ wr).drew
              refine wp_region_held_drew (S := fun W' => W'.cell? ⟨w.heap.size, 0, none⟩ = some (.int .i64 nn) ∧ W'.cell? ⟨w.heap.size, 1, none⟩ = some (.slice a m1 k1) ∧ W'.cell? ⟨w.heap.size + 1, 0, none⟩ = some (.int .i64 mm) ∧ W'.cell? ⟨w.heap.size + 1, 1, none⟩ = some (.slice b m2 k2) ∧ W'.cell? ⟨w.heap.size + 1 + 1, 0, none⟩ = some (.int .i64 c.frm) ∧ W'.cell? ⟨w.heap.size + 1 + 1, 1, none⟩ = some (.int .i64 c.to) ∧ W'.cell? ⟨w.heap.size + 1 + 1, 2, none⟩ = some (.int .i64 c.st) ∧ W'.cell? ⟨w.heap.size + 1 + 1, 3, none⟩ = some (.int .i64 c.en) ∧ W'.cell? ⟨w.heap.size + 1 + 1, 4, none⟩ = some (.int .i64 c.rt) ∧ W'.cell? ⟨w.heap.size + 1 + 1, 5, none⟩ = some (.int .i64 c.dl)) (by kernel_rfl) HJ.out.cells (fun hHeld => ?_)
              refine takeH 0 (.agg #[.int .i64 nn, .slice a m1 k1]) rfl (by kernel_rfl) (by kernel_rfl) (by kernel_rfl) (fun _ _ _ h => h) (Or.inl ⟨by rfl, ?_⟩) (by assumption) ?_
              · (intro w hSw; obtain ⟨hS0, hS1, hS2, hS3, hS4, hS5, hS6, hS7, hS8, hS9⟩ := hSw; go_simp)
              try simp only [Act.put, List.setIfInBounds_toArray, List.set_cons_zero, List.set_cons_succ]
              refine takeH 1 (.agg #[.int .i64 mm, .slice b m2 k2]) rfl (by kernel_rfl) (by kernel_rfl) (by kernel_rfl) (fun _ _ _ h => h) (Or.inl ⟨by rfl, ?_⟩) (by assumption) ?_
              · (intro w hSw; obtain ⟨hS0, hS1, hS2, hS3, hS4, hS5, hS6, hS7, hS8, hS9⟩ := hSw; go_simp)
              try simp only [Act.put, List.setIfInBounds_toArray, List.set_cons_zero, List.set_cons_succ]
              refine takeH 3 (.bool S) rfl (by kernel_rfl) (by kernel_rfl) (by kernel_rfl) (fun _ _ _ h => h) (Or.inl ⟨by rfl, ?_⟩) (by assumption) ?_
              · (intro w hSw; obtain ⟨hS0, hS1, hS2, hS3, hS4, hS5, hS6, hS7, hS8, hS9⟩ := hSw; go_simp)
              try simp only [Act.put, List.setIfInBounds_toArray, List.set_cons_zero, List.set_cons_succ]
              refine wpAnyH_ready (rs := [2]) (by kernel_rfl) (by simp) ?_
              refine stepH 2 rfl (fun K hK => ?_) AllReadyH.nil
              go_simp
              go_at_call 17
              refine (HSM.out _ hPd.bel).mono ?_
              rw [HF.out]
              rintro r w2 ⟨rfl, H2⟩
              have hP2 : SB w nn mm a b m1 k1 m2 k2 c w2 := hPd.later H2.out
              refine hK.out _ _ (hP2).cells (fun hHeld => ?_)
              clear hK K
              try simp only [Act.put, List.setIfInBounds_toArray, List.set_cons_zero, List.set_cons_succ]
              refine takeH 4 (.bool true) rfl (by kernel_rfl) (by kernel_rfl) (by kernel_rfl) (fun _ _ _ h => h) (Or.inl ⟨by rfl, ?_⟩) (by assumption) ?_
              · (intro w hSw; obtain ⟨hS0, hS1, hS2, hS3, hS4, hS5, hS6, hS7, hS8, hS9⟩ := hSw; go_simp)
              try simp only [Act.put, List.setIfInBounds_toArray, List.set_cons_zero, List.set_cons_succ]
              refine takeH 5 (.bool true) rfl (by kernel_rfl) (by kernel_rfl) (by kernel_rfl) (fun _ _ _ h => h) (Or.inl ⟨by rfl, ?_⟩) (by assumption) ?_
              · (intro w hSw; obtain ⟨hS0, hS1, hS2, hS3, hS4, hS5, hS6, hS7, hS8, hS9⟩ := hSw; go_simp)
              try simp only [Act.put, List.setIfInBounds_toArray, List.set_cons_zero, List.set_cons_succ]
              refine takeH 6 (.agg #[.int .i64 nn, .slice a m1 k1]) rfl (by kernel_rfl) (by kernel_rfl) (by kernel_rfl) (fun _ _ _ h => h) (Or.inl ⟨by rfl, ?_⟩) (by assumption) ?_
              · (intro w hSw; obtain ⟨hS0, hS1, hS2, hS3, hS4, hS5, hS6, hS7, hS8, hS9⟩ := hSw; go_simp)
              try simp only [Act.put, List.setIfInBounds_toArray, List.set_cons_zero, List.set_cons_succ]
              refine takeH 7 (.agg #[.int .i64 nn, .slice a m1 k1]) rfl (by kernel_rfl) (by kernel_rfl) (by kernel_rfl) (fun _ _ _ h => h) (Or.inl ⟨by rfl, ?_⟩) (by assumption) ?_
              · (intro w hSw; obtain ⟨hS0, hS1, hS2, hS3, hS4, hS5, hS6, hS7, hS8, hS9⟩ := hSw; go_simp)
              try simp only [Act.put, List.setIfInBounds_toArray, List.set_cons_zero, List.set_cons_succ]
              refine wpAnyH_ready (rs := [8]) (by kernel_rfl) (by simp) ?_
              refine stepH 8 rfl (fun K hK => ?_) AllReadyH.nil
              go_simp
              go_at_call 9
              refine (HCP.out _ hP2.bel).mono ?_
              rintro r w3 ⟨g3, k3, rfl, H3⟩
              have hP3 : SB w nn mm a b m1 k1 m2 k2 c w3 := hP2.later H3.out.2.2.2.2
              refine hK.out _ _ (hP3).cells (fun hHeld => ?_)
              clear hK K
              try simp only [Act.put, List.setIfInBounds_toArray, List.set_cons_zero, List.set_cons_succ]
              refine wpAnyH_ready (rs := [9]) (by kernel_rfl) (by simp) ?_
              refine stepH 9 rfl (fun K hK => ?_) AllReadyH.nil
              go_simp
              go_at_call 17
              refine (HSC.out _ g3 k3 hP3.bel H3.out.1).mono ?_
              rintro r w4 ⟨rfl, H4⟩
              have hP4 : SB w nn mm a b m1 k1 m2 k2 c w4 := hP3.later H4.out
              refine hK.out _ _ (hP4).cells (fun hHeld => ?_)
              clear hK K
              try simp only [Act.put, List.setIfInBounds_toArray, List.set_cons_zero, List.set_cons_succ]
              refine takeH 10 (.bool true) rfl (by kernel_rfl) (by kernel_rfl) (by kernel_rfl) (fun _ _ _ h => h) (Or.inl ⟨by rfl, ?_⟩) (by assumption) ?_
              · (intro w hSw; obtain ⟨hS0, hS1, hS2, hS3, hS4, hS5, hS6, hS7, hS8, hS9⟩ := hSw; go_simp)
              try simp only [Act.put, List.setIfInBounds_toArray, List.set_cons_zero, List.set_cons_succ]
              refine takeH 11 (.bool true) rfl (by kernel_rfl) (by kernel_rfl) (by kernel_rfl) (fun _ _ _ h => h) (Or.inl ⟨by rfl, ?_⟩) (by assumption) ?_
              · (intro w hSw; obtain ⟨hS0, hS1, hS2, hS3, hS4, hS5, hS6, hS7, hS8, hS9⟩ := hSw; go_simp)
              try simp only [Act.put, List.setIfInBounds_toArray, List.set_cons_zero, List.set_cons_succ]
              refine takeH 12 (.agg #[.int .i64 c.frm, .int .i64 c.to, .int .i64 c.st, .int .i64 c.en, .int .i64 c.rt, .int .i64 c.dl]) rfl (by kernel_rfl) (by kernel_rfl) (by kernel_rfl) (fun _ _ _ h => h) (Or.inl ⟨by rfl, ?_⟩) (by assumption) ?_
              · (intro w hSw; obtain ⟨hS0, hS1, hS2, hS3, hS4, hS5, hS6, hS7, hS8, hS9⟩ := hSw; go_simp)
              try simp only [Act.put, List.setIfInBounds_toArray, List.set_cons_zero, List.set_cons_succ]
              refine takeH 14 (.int .i64 0) rfl (by kernel_rfl) (by kernel_rfl) (by kernel_rfl) (fun _ _ _ h => h) (Or.inl ⟨by rfl, ?_⟩) (by assumption) ?_
              · (intro w hSw; obtain ⟨hS0, hS1, hS2, hS3, hS4, hS5, hS6, hS7, hS8, hS9⟩ := hSw; go_simp)
              try simp only [Act.put, List.setIfInBounds_toArray, List.set_cons_zero, List.set_cons_succ]
              refine wpAnyH_ready (rs := [13]) (by kernel_rfl) (by simp) ?_
              refine stepH 13 rfl (fun K hK => ?_) AllReadyH.nil
              go_simp
              go_at_call 16
              refine (HVL.out _).mono ?_
              rw [HV.out]
              rintro r w5 ⟨rfl, H5⟩
              have hP5 : SB w nn mm a b m1 k1 m2 k2 c w5 := hP4.later H5.out
              refine hK.out _ _ (hP5).cells (fun hHeld => ?_)
              clear hK K
              try simp only [Act.put, List.setIfInBounds_toArray, List.set_cons_zero, List.set_cons_succ]
              refine takeH 15 (.bool true) rfl (by kernel_rfl) (by kernel_rfl) (by kernel_rfl) (fun _ _ _ h => h) (Or.inl ⟨by rfl, ?_⟩) (by assumption) ?_
              · (intro w hSw; obtain ⟨hS0, hS1, hS2, hS3, hS4, hS5, hS6, hS7, hS8, hS9⟩ := hSw; go_simp)
              try simp only [Act.put, List.setIfInBounds_toArray, List.set_cons_zero, List.set_cons_succ]
              refine takeH 16 (.bool true) rfl (by kernel_rfl) (by kernel_rfl) (by kernel_rfl) (fun _ _ _ h => h) (Or.inl ⟨by rfl, ?_⟩) (by assumption) ?_
              · (intro w hSw; obtain ⟨hS0, hS1, hS2, hS3, hS4, hS5, hS6, hS7, hS8, hS9⟩ := hSw; go_simp)
              try simp only [Act.put, List.setIfInBounds_toArray, List.set_cons_zero, List.set_cons_succ]
              refine takeH 17 (.bool true) rfl (by kernel_rfl) (by kernel_rfl) (by kernel_rfl) (fun _ _ _ h => h) (Or.inl ⟨by rfl, ?_⟩) (by assumption) ?_
              · (intro w hSw; obtain ⟨hS0, hS1, hS2, hS3, hS4, hS5, hS6, hS7, hS8, hS9⟩ := hSw; go_simp)
              try simp only [Act.put, List.setIfInBounds_toArray, List.set_cons_zero, List.set_cons_succ]
              refine wpAnyH_done (by kernel_rfl) ?_ _
              go_wp2
              go_ret
              exact ⟨rfl, hP5.bel⟩
    | false =>
      have HF : Hid (sameP nn mm X Y = false) := by
        show _ = _
        have h2 := HN.out
        rw [beq_eq_false_iff_ne] at hb2
        rw [sameP, decide_eq_false (p := X.length = Y.length) (by omega), Bool.false_and, Bool.and_false]
      go_wp2
      go_loopw [7, 29] (fun s i wr => ∃ j : Nat, j ≤ m1 ∧ s = .bool false ∧ i = .int .i64 j ∧ Hid (SB w nn mm a b m1 k1 m2 k2 c wr)) (fun _ i _ => m1 - (intOf i).toNat)
      case atStart => exact ⟨0, Nat.zero_le _, rfl, rfl, HP1.out⟩
      case round =>
        obtain ⟨j, hj, rfl, rfl, HJ⟩ := hrel
        obtain ⟨p0, p1, q0, q1, c0, c1, c2, c3, c4, c5⟩ := HJ.out.cells
        by_cases hlt : j < m1
        · go_wp2_with fail
          go_region
          go_wp2
          go_roundw
          case rel => exact ⟨j + 1, by omega, rfl, by go_num, HJ.out.later (Below.refl _ _).drew⟩
          case measure => simp [intOf]; omega
        · skip
          have HCD : Hid (c.st < c.en ∧ 0 ≤ c.st ∧ c.en ≤ 1048576 ∧ 0 ≤ c.rt ∧ c.rt ≤ 1048576 ∨ ¬ (c.st < c.en ∧ 0 ≤ c.st ∧ c.en ≤ 1048576 ∧ 0 ≤ c.rt ∧ c.rt ≤ 1048576)) := Classical.em _
          rcases HCD.out with hv | hv
          · have HV : Hid (vol c = c.rt * (c.en - c.st)) := by
              show _ = _
              rw [vol, if_pos hv]
            obtain ⟨v1, v2, v3, v4, v5⟩ := hv
            have hmul : 0 ≤ c.rt * (c.en - c.st) ∧ c.rt * (c.en - c.st) ≤ 1048576 * 1048576 := ⟨Int.mul_nonneg v4 (by omega), Int.mul_le_mul v5 (by omega) (by omega) (by omega)⟩
            obtain ⟨hmul1, hmul2⟩ := hmul
            go_wp2_with fail
            have hPd : SB w nn mm a b m1 k1 m2 k2 c wr.drew := HJ.out.later (Below.refl _ wr).drew
            refine wp_region_held_drew (S := fun W' => W'.cell? ⟨w.heap.size, 0, none⟩ = some (.int .i64 nn) ∧ W'.cell? ⟨w.heap.size, 1, none⟩ = some (.slice a m1 k1) ∧ W'.cell? ⟨w.heap.size + 1, 0, none⟩ = some (.int .i64 mm) ∧ W'.cell? ⟨w.heap.size + 1, 1, none⟩ = some (.slice b m2 k2) ∧ W'.cell? ⟨w.heap.size + 1 + 1, 0, none⟩ = some (.int .i64 c.frm) ∧ W'.cell? ⟨w.heap.size + 1 + 1, 1, none⟩ = some (.int .i64 c.to) ∧ W'.cell? ⟨w.heap.size + 1 + 1, 2, none⟩ = some (.int .i64 c.st) ∧ W'.cell? ⟨w.heap.size + 1 + 1, 3, none⟩ = some (.int .i64 c.en) ∧ W'.cell? ⟨w.heap.size + 1 + 1, 4, none⟩ = some (.int .i64 c.rt) ∧ W'.cell? ⟨w.heap.size + 1 + 1, 5, none⟩ = some (.int .i64 c.dl)) (by kernel_rfl) HJ.out.cells (fun hHeld => ?_)
            refine takeH 0 (.agg #[.int .i64 nn, .slice a m1 k1]) rfl (by kernel_rfl) (by kernel_rfl) (by kernel_rfl) (fun _ _ _ h => h) (Or.inl ⟨by rfl, ?_⟩) (by assumption) ?_
            · (intro w hSw; obtain ⟨hS0, hS1, hS2, hS3, hS4, hS5, hS6, hS7, hS8, hS9⟩ := hSw; go_simp)
            try simp only [Act.put, List.setIfInBounds_toArray, List.set_cons_zero, List.set_cons_succ]
            refine takeH 1 (.agg #[.int .i64 mm, .slice b m2 k2]) rfl (by kernel_rfl) (by kernel_rfl) (by kernel_rfl) (fun _ _ _ h => h) (Or.inl ⟨by rfl, ?_⟩) (by assumption) ?_
            · (intro w hSw; obtain ⟨hS0, hS1, hS2, hS3, hS4, hS5, hS6, hS7, hS8, hS9⟩ := hSw; go_simp)
            try simp only [Act.put, List.setIfInBounds_toArray, List.set_cons_zero, List.set_cons_succ]
            refine takeH 3 (.bool false) rfl (by kernel_rfl) (by kernel_rfl) (by kernel_rfl) (fun _ _ _ h => h) (Or.inl ⟨by rfl, ?_⟩) (by assumption) ?_
            · (intro w hSw; obtain ⟨hS0, hS1, hS2, hS3, hS4, hS5, hS6, hS7, hS8, hS9⟩ := hSw; go_simp)
            try simp only [Act.put, List.setIfInBounds_toArray, List.set_cons_zero, List.set_cons_succ]
            refine wpAnyH_ready (rs := [2]) (by kernel_rfl) (by simp) ?_
            refine stepH 2 rfl (fun K hK => ?_) AllReadyH.nil
            go_simp
            go_at_call 17
            refine (HSM.out _ hPd.bel).mono ?_
            rw [HF.out]
            rintro r w2 ⟨rfl, H2⟩
            have hP2 : SB w nn mm a b m1 k1 m2 k2 c w2 := hPd.later H2.out
            refine hK.out _ _ (hP2).cells (fun hHeld => ?_)
            clear hK K
            try simp only [Act.put, List.setIfInBounds_toArray, List.set_cons_zero, List.set_cons_succ]
            refine takeH 4 (.bool true) rfl (by kernel_rfl) (by kernel_rfl) (by kernel_rfl) (fun _ _ _ h => h) (Or.inl ⟨by rfl, ?_⟩) (by assumption) ?_
            · (intro w hSw; obtain ⟨hS0, hS1, hS2, hS3, hS4, hS5, hS6, hS7, hS8, hS9⟩ := hSw; go_simp)
            try simp only [Act.put, List.setIfInBounds_toArray, List.set_cons_zero, List.set_cons_succ]
            refine takeH 5 (.bool true) rfl (by kernel_rfl) (by kernel_rfl) (by kernel_rfl) (fun _ _ _ h => h) (Or.inl ⟨by rfl, ?_⟩) (by assumption) ?_
            · (intro w hSw; obtain ⟨hS0, hS1, hS2, hS3, hS4, hS5, hS6, hS7, hS8, hS9⟩ := hSw; go_simp)
            try simp only [Act.put, List.setIfInBounds_toArray, List.set_cons_zero, List.set_cons_succ]
            refine takeH 6 (.agg #[.int .i64 nn, .slice a m1 k1]) rfl (by kernel_rfl) (by kernel_rfl) (by kernel_rfl) (fun _ _ _ h => h) (Or.inl ⟨by rfl, ?_⟩) (by assumption) ?_
            · (intro w hSw; obtain ⟨hS0, hS1, hS2, hS3, hS4, hS5, hS6, hS7, hS8, hS9⟩ := hSw; go_simp)
            try simp only [Act.put, List.setIfInBounds_toArray, List.set_cons_zero, List.set_cons_succ]
            refine takeH 7 (.agg #[.int .i64 nn, .slice a m1 k1]) rfl (by kernel_rfl) (by kernel_rfl) (by kernel_rfl) (fun _ _ _ h => h) (Or.inl ⟨by rfl, ?_⟩) (by assumption) ?_
            · (intro w hSw; obtain ⟨hS0, hS1, hS2, hS3, hS4, hS5, hS6, hS7, hS8, hS9⟩ := hSw; go_simp)
            try simp only [Act.put, List.setIfInBounds_toArray, List.set_cons_zero, List.set_cons_succ]
            refine wpAnyH_ready (rs := [8]) (by kernel_rfl) (by simp) ?_
            refine stepH 8 rfl (fun K hK => ?_) AllReadyH.nil
            go_simp
            go_at_call 9
            refine (HCP.out _ hP2.bel).mono ?_
            rintro r w3 ⟨g3, k3, rfl, H3⟩
            have hP3 : SB w nn mm a b m1 k1 m2 k2 c w3 := hP2.later H3.out.2.2.2.2
            refine hK.out _ _ (hP3).cells (fun hHeld => ?_)
            clear hK K
            try simp only [Act.put, List.setIfInBounds_toArray, List.set_cons_zero, List.set_cons_succ]
            refine wpAnyH_ready (rs := [9]) (by kernel_rfl) (by simp) ?_
            refine stepH 9 rfl (fun K hK => ?_) AllReadyH.nil
            go_simp
            go_at_call 17
            refine (HSC.out _ g3 k3 hP3.bel H3.out.1).mono ?_
            rintro r w4 ⟨rfl, H4⟩
            have hP4 : SB w nn mm a b m1 k1 m2 k2 c w4 := hP3.later H4.out
            refine hK.out _ _ (hP4).cells (fun hHeld => ?_)
            clear hK K
            try simp only [Act.put, List.setIfInBounds_toArray, List.set_cons_zero, List.set_cons_succ]
            refine takeH 10 (.bool true) rfl (by kernel_rfl) (by kernel_rfl) (by kernel_rfl) (fun _ _ _ h => h) (Or.inl ⟨by rfl, ?_⟩) (by assumption) ?_
            · (intro w hSw; obtain ⟨hS0, hS1, hS2, hS3, hS4, hS5, hS6, hS7, hS8, hS9⟩ := hSw; go_simp)
            try simp only [Act.put, List.setIfInBounds_toArray, List.set_cons_zero, List.set_cons_succ]
            refine takeH 11 (.bool true) rfl (by kernel_rfl) (by kernel_rfl) (by kernel_rfl) (fun _ _ _ h => h) (Or.inl ⟨by rfl, ?_⟩) (by assumption) ?_
            · (intro w hSw; obtain ⟨hS0, hS1, hS2, hS3, hS4, hS5, hS6, hS7, hS8, hS9⟩ := hSw; go_simp)
            try simp only [Act.put, List.setIfInBounds_toArray, List.set_cons_zero, List.set_cons_succ]
            refine takeH 12 (.agg #[.int .i64 c.frm, .int .i64 c.to, .int .i64 c.st, .int .i64 c.en, .int .i64 c.rt, .int .i64 c.dl]) rfl (by kernel_rfl) (by kernel_rfl) (by kernel_rfl) (fun _ _ _ h => h) (Or.inl ⟨by rfl, ?_⟩) (by assumption) ?_
            · (intro w hSw; obtain ⟨hS0, hS1, hS2, hS3, hS4, hS5, hS6, hS7, hS8, hS9⟩ := hSw; go_simp)
            try simp only [Act.put, List.setIfInBounds_toArray, List.set_cons_zero, List.set_cons_succ]
            refine takeH 14 (.int .i64 (c.rt * (c.en - c.st))) rfl (by kernel_rfl) (by kernel_rfl) (by kernel_rfl) (fun _ _ _ h => h) (Or.inl ⟨by rfl, ?_⟩) (by assumption) ?_
            · (intro w hSw; obtain ⟨hS0, hS1, hS2, hS3, hS4, hS5, hS6, hS7, hS8, hS9⟩ := hSw; go_simp)
            try simp only [Act.put, List.setIfInBounds_toArray, List.set_cons_zero, List.set_cons_succ]
            refine wpAnyH_ready (rs := [13]) (by kernel_rfl) (by simp) ?_
            refine stepH 13 rfl (fun K hK => ?_) AllReadyH.nil
            go_simp
            go_at_call 16
            refine (HVL.out _).mono ?_
            rw [HV.out]
            rintro r w5 ⟨rfl, H5⟩
            have hP5 : SB w nn mm a b m1 k1 m2 k2 c w5 := hP4.later H5.out
            refine hK.out _ _ (hP5).cells (fun hHeld => ?_)
            clear hK K
            try simp only [Act.put, List.setIfInBounds_toArray, List.set_cons_zero, List.set_cons_succ]
            refine takeH 15 (.bool true) rfl (by kernel_rfl) (by kernel_rfl) (by kernel_rfl) (fun _ _ _ h => h) (Or.inl ⟨by rfl, ?_⟩) (by assumption) ?_
            · (intro w hSw; obtain ⟨hS0, hS1, hS2, hS3, hS4, hS5, hS6, hS7, hS8, hS9⟩ := hSw; go_simp)
            try simp only [Act.put, List.setIfInBounds_toArray, List.set_cons_zero, List.set_cons_succ]
            refine takeH 16 (.bool true) rfl (by kernel_rfl) (by kernel_rfl) (by kernel_rfl) (fun _ _ _ h => h) (Or.inl ⟨by rfl, ?_⟩) (by assumption) ?_
            · (intro w hSw; obtain ⟨hS0, hS1, hS2, hS3, hS4, hS5, hS6, hS7, hS8, hS9⟩ := hSw; go_simp)
            try simp only [Act.put, List.setIfInBounds_toArray, List.set_cons_zero, List.set_cons_succ]
            refine takeH 17 (.bool true) rfl (by kernel_rfl) (by kernel_rfl) (by kernel_rfl) (fun _ _ _ h => h) (Or.inl ⟨by rfl, ?_⟩) (by assumption) ?_
            · (intro w hSw; obtain ⟨hS0, hS1, hS2, hS3, hS4, hS5, hS6, hS7, hS8, hS9⟩ := hSw; go_simp)
            try simp only [Act.put, List.setIfInBounds_toArray, List.set_cons_zero, List.set_cons_succ]
            refine wpAnyH_done (by kernel_rfl) ?_ _
            go_wp2
            go_ret
            exact ⟨rfl, hP5.bel⟩
          · have HV : Hid (vol c = 0) := by
              show _ = _
              rw [vol, if_neg hv]
            have HNV : Hid (¬ (c.st < c.en ∧ 0 ≤ c.st ∧ c.en ≤ 1048576 ∧ 0 ≤ c.rt ∧ c.rt ≤ 1048576)) := hv
            clear hv
            go_wp2_with fail
            all_goals first
              | (exfalso; exact HNV.out ⟨by omega, by omega, by omega, by omega, by omega⟩)
              | skip
            all_goals
              have hPd : SB w nn mm a b m1 k1 m2 k2 c wr.drew := HJ.out.later (Below.refl _ wr).drew
              refine wp_region_held_drew (S := fun W' => W'.cell? ⟨w.heap.size, 0, none⟩ = some (.int .i64 nn) ∧ W'.cell? ⟨w.heap.size, 1, none⟩ = some (.slice a m1 k1) ∧ W'.cell? ⟨w.heap.size + 1, 0, none⟩ = some (.int .i64 mm) ∧ W'.cell? ⟨w.heap.size + 1, 1, none⟩ = some (.slice b m2 k2) ∧ W'.cell? ⟨w.heap.size + 1 + 1, 0, none⟩ = some (.int .i64 c.frm) ∧ W'.cell? ⟨w.heap.size + 1 + 1, 1, none⟩ = some (.int .i64 c.to) ∧ W'.cell? ⟨w.heap.size + 1 + 1, 2, none⟩ = some (.int .i64 c.st) ∧ W'.cell? ⟨w.heap.size + 1 + 1, 3, none⟩ = some (.int .i64 c.en) ∧ W'.cell? ⟨w.heap.size + 1 + 1, 4, none⟩ = some (.int .i64 c.rt) ∧ W'.cell? ⟨w.heap.size + 1 + 1, 5, none⟩ = some (.int .i64 c.dl)) (by kernel_rfl) HJ.out.cells (fun hHeld => ?_)
              refine takeH 0 (.agg #[.int .i64 nn, .slice a m1 k1]) rfl (by kernel_rfl) (by kernel_rfl) (by kernel_rfl) (fun _ _ _ h => h) (Or.inl ⟨by rfl, ?_⟩) (by assumption) ?_
              · (intro w hSw; obtain ⟨hS0, hS1, hS2, hS3, hS4, hS5, hS6, hS7, hS8, hS9⟩ := hSw; go_simp)
              try simp only [Act.put, List.setIfInBounds_toArray, List.set_cons_zero, List.set_cons_succ]
              refine takeH 1 (.agg #[.int .i64 mm, .slice b m2 k2]) rfl (by kernel_rfl) (by kernel_rfl) (by kernel_rfl) (fun _ _ _ h => h) (Or.inl ⟨by rfl, ?_⟩) (by assumption) ?_
              · (intro w hSw; obtain ⟨hS0, hS1, hS2, hS3, hS4, hS5, hS6, hS7, hS8, hS9⟩ := hSw; go_simp)
              try simp only [Act.put, List.setIfInBounds_toArray, List.set_cons_zero, List.set_cons_succ]
              refine takeH 3 (.bool false) rfl (by kernel_rfl) (by kernel_rfl) (by kernel_rfl) (fun _ _ _ h => h) (Or.inl ⟨by rfl, ?_⟩) (by assumption) ?_
              · (intro w hSw; obtain ⟨hS0, hS1, hS2, hS3, hS4, hS5, hS6, hS7, hS8, hS9⟩ := hSw; go_simp)
              try simp only [Act.put, List.setIfInBounds_toArray, List.set_cons_zero, List.set_cons_succ]
              refine wpAnyH_ready (rs := [2]) (by kernel_rfl) (by simp) ?_
              refine stepH 2 rfl (fun K hK => ?_) AllReadyH.nil
              go_simp
              go_at_call 17
              refine (HSM.out _ hPd.bel).mono ?_
              rw [HF.out]
              rintro r w2 ⟨rfl, H2⟩
              have hP2 : SB w nn mm a b m1 k1 m2 k2 c w2 := hPd.later H2.out
              refine hK.out _ _ (hP2).cells (fun hHeld => ?_)
              clear hK K
              try simp only [Act.put, List.setIfInBounds_toArray, List.set_cons_zero, List.set_cons_succ]
              refine takeH 4 (.bool true) rfl (by kernel_rfl) (by kernel_rfl) (by kernel_rfl) (fun _ _ _ h => h) (Or.inl ⟨by rfl, ?_⟩) (by assumption) ?_
              · (intro w hSw; obtain ⟨hS0, hS1, hS2, hS3, hS4, hS5, hS6, hS7, hS8, hS9⟩ := hSw; go_simp)
              try simp only [Act.put, List.setIfInBounds_toArray, List.set_cons_zero, List.set_cons_succ]
              refine takeH 5 (.bool true) rfl (by kernel_rfl) (by kernel_rfl) (by kernel_rfl) (fun _ _ _ h => h) (Or.inl ⟨by rfl, ?_⟩) (by assumption) ?_
              · (intro w hSw; obtain ⟨hS0, hS1, hS2, hS3, hS4, hS5, hS6, hS7, hS8, hS9⟩ := hSw; go_simp)
              try simp only [Act.put, List.setIfInBounds_toArray, List.set_cons_zero, List.set_cons_succ]
              refine takeH 6 (.agg #[.int .i64 nn, .slice a m1 k1]) rfl (by kernel_rfl) (by kernel_rfl) (by kernel_rfl) (fun _ _ _ h => h) (Or.inl ⟨by rfl, ?_⟩) (by assumption) ?_
              · (intro w hSw; obtain ⟨hS0, hS1, hS2, hS3, hS4, hS5, hS6, hS7, hS8, hS9⟩ := hSw; go_simp)
              try simp only [Act.put, List.setIfInBounds_toArray, List.set_cons_zero, List.set_cons_succ]
              refine takeH 7 (.agg #[.int .i64 nn, .slice a m1 k1]) rfl (by kernel_rfl) (by kernel_rfl) (by kernel_rfl) (fun _ _ _ h => h) (Or.inl ⟨by rfl, ?_⟩) (by assumption) ?_
              · (intro w hSw; obtain ⟨hS0, hS1, hS2, hS3, hS4, hS5, hS6, hS7, hS8, hS9⟩ := hSw; go_simp)
              try simp only [Act.put, List.setIfInBounds_toArray, List.set_cons_zero, List.set_cons_succ]
              refine wpAnyH_ready (rs := [8]) (by kernel_rfl) (by simp) ?_
              refine stepH 8 rfl (fun K hK => ?_) AllReadyH.nil
              go_simp
              go_at_call 9
              refine (HCP.out _ hP2.bel).mono ?_
              rintro r w3 ⟨g3, k3, rfl, H3⟩
              have hP3 : SB w nn mm a b m1 k1 m2 k2 c w3 := hP2.later H3.out.2.2.2.2
              refine hK.out _ _ (hP3).cells (fun hHeld => ?_)
              clear hK K
              try simp only [Act.put, List.setIfInBounds_toArray, List.set_cons_zero, List.set_cons_succ]
              refine wpAnyH_ready (rs := [9]) (by kernel_rfl) (by simp) ?_
              refine stepH 9 rfl (fun K hK => ?_) AllReadyH.nil
              go_simp
              go_at_call 17
              refine (HSC.out _ g3 k3 hP3.bel H3.out.1).mono ?_
              rintro r w4 ⟨rfl, H4⟩
              have hP4 : SB w nn mm a b m1 k1 m2 k2 c w4 := hP3.later H4.out
              refine hK.out _ _ (hP4).cells (fun hHeld => ?_)
              clear hK K
              try simp only [Act.put, List.setIfInBounds_toArray, List.set_cons_zero, List.set_cons_succ]
              refine takeH 10 (.bool true) rfl (by kernel_rfl) (by kernel_rfl) (by kernel_rfl) (fun _ _ _ h => h) (Or.inl ⟨by rfl, ?_⟩) (by assumption) ?_
              · (intro w hSw; obtain ⟨hS0, hS1, hS2, hS3, hS4, hS5, hS6, hS7, hS8, hS9⟩ := hSw; go_simp)
              try simp only [Act.put, List.setIfInBounds_toArray, List.set_cons_zero, List.set_cons_succ]
              refine takeH 11 (.bool true) rfl (by kernel_rfl) (by kernel_rfl) (by kernel_rfl) (fun _ _ _ h => h) (Or.inl ⟨by rfl, ?_⟩) (by assumption) ?_
              · (intro w hSw; obtain ⟨hS0, hS1, hS2, hS3, hS4, hS5, hS6, hS7, hS8, hS9⟩ := hSw; go_simp)
              try simp only [Act.put, List.setIfInBounds_toArray, List.set_cons_zero, List.set_cons_succ]
              refine takeH 12 (.agg #[.int .i64 c.frm, .int .i64 c.to, .int .i64 c.st, .int .i64 c.en, .int .i64 c.rt, .int .i64 c.dl]) rfl (by kernel_rfl) (by kernel_rfl) (by kernel_rfl) (fun _ _ _ h => h) (Or.inl ⟨by rfl, ?_⟩) (by assumption) ?_
              · (intro w hSw; obtain ⟨hS0, hS1, hS2, hS3, hS4, hS5, hS6, hS7, hS8, hS9⟩ := hSw; go_simp)
              try simp only [Act.put, List.setIfInBounds_toArray, List.set_cons_zero, List.set_cons_succ]
              refine takeH 14 (.int .i64 0) rfl (by kernel_rfl) (by kernel_rfl) (by kernel_rfl) (fun _ _ _ h => h) (Or.inl ⟨by rfl, ?_⟩) (by assumption) ?_
              · (intro w hSw; obtain ⟨hS0, hS1, hS2, hS3, hS4, hS5, hS6, hS7, hS8, hS9⟩ := hSw; go_simp)
              try simp only [Act.put, List.setIfInBounds_toArray, List.set_cons_zero, List.set_cons_succ]
              refine wpAnyH_ready (rs := [13]) (by kernel_rfl) (by simp) ?_
              refine stepH 13 rfl (fun K hK => ?_) AllReadyH.nil
              go_simp
              go_at_call 16
              refine (HVL.out _).mono ?_
              rw [HV.out]
              rintro r w5 ⟨rfl, H5⟩
              have hP5 : SB w nn mm a b m1 k1 m2 k2 c w5 := hP4.later H5.out
              refine hK.out _ _ (hP5).cells (fun hHeld => ?_)
              clear hK K
              try simp only [Act.put, List.setIfInBounds_toArray, List.set_cons_zero, List.set_cons_succ]
              refine takeH 15 (.bool true) rfl (by kernel_rfl) (by kernel_rfl) (by kernel_rfl) (fun _ _ _ h => h) (Or.inl ⟨by rfl, ?_⟩) (by assumption) ?_
              · (intro w hSw; obtain ⟨hS0, hS1, hS2, hS3, hS4, hS5, hS6, hS7, hS8, hS9⟩ := hSw; go_simp)
              try simp only [Act.put, List.setIfInBounds_toArray, List.set_cons_zero, List.set_cons_succ]
              refine takeH 16 (.bool true) rfl (by kernel_rfl) (by kernel_rfl) (by kernel_rfl) (fun _ _ _ h => h) (Or.inl ⟨by rfl, ?_⟩) (by assumption) ?_
              · (intro w hSw; obtain ⟨hS0, hS1, hS2, hS3, hS4, hS5, hS6, hS7, hS8, hS9⟩ := hSw; go_simp)
              try simp only [Act.put, List.setIfInBounds_toArray, List.set_cons_zero, List.set_cons_succ]
              refine takeH 17 (.bool true) rfl (by kernel_rfl) (by kernel_rfl) (by kernel_rfl) (fun _ _ _ h => h) (Or.inl ⟨by rfl, ?_⟩) (by assumption) ?_
              · (intro w hSw; obtain ⟨hS0, hS1, hS2, hS3, hS4, hS5, hS6, hS7, hS8, hS9⟩ := hSw; go_simp)
              try simp only [Act.put, List.setIfInBounds_toArray, List.set_cons_zero, List.set_cons_succ]
              refine wpAnyH_done (by kernel_rfl) ?_ _
              go_wp2
              go_ret
              exact ⟨rfl, hP5.bel⟩
  | false =>
    have HF : Hid (sameP nn mm X Y = false) := by
      show _ = _
      rw [beq_eq_false_iff_ne] at hb1
      rw [sameP, decide_eq_false hb1, Bool.false_and]
    go_wp2
    go_loopw [7, 29] (fun s i wr => ∃ j : Nat, j ≤ m1 ∧ s = .bool false ∧ i = .int .i64 j ∧ Hid (SB w nn mm a b m1 k1 m2 k2 c wr)) (fun _ i _ => m1 - (intOf i).toNat)
    case atStart => exact ⟨0, Nat.zero_le _, rfl, rfl, HP1.out⟩
    case round =>
      obtain ⟨j, hj, rfl, rfl, HJ⟩ := hrel
      obtain ⟨p0, p1, q0, q1, c0, c1, c2, c3, c4, c5⟩ := HJ.out.cells
      by_cases hlt : j < m1
      · go_wp2_with fail
        go_region
        go_wp2
        go_roundw
        case rel => exact ⟨j + 1, by omega, rfl, by go_num, HJ.out.later (Below.refl _ _).drew⟩
        case measure => simp [intOf]; omega
      · skip
        have HCD : Hid (c.st < c.en ∧ 0 ≤ c.st ∧ c.en ≤ 1048576 ∧ 0 ≤ c.rt ∧ c.rt ≤ 1048576 ∨ ¬ (c.st < c.en ∧ 0 ≤ c.st ∧ c.en ≤ 1048576 ∧ 0 ≤ c.rt ∧ c.rt ≤ 1048576)) := Classical.em _
        rcases HCD.out with hv | hv
        · have HV : Hid (vol c = c.rt * (c.en - c.st)) := by
            show _ = _
            rw [vol, if_pos hv]
          obtain ⟨v1, v2, v3, v4, v5⟩ := hv
          have hmul : 0 ≤ c.rt * (c.en - c.st) ∧ c.rt * (c.en - c.st) ≤ 1048576 * 1048576 := ⟨Int.mul_nonneg v4 (by omega), Int.mul_le_mul v5 (by omega) (by omega) (by omega)⟩
          obtain ⟨hmul1, hmul2⟩ := hmul
          go_wp2_with fail
          have hPd : SB w nn mm a b m1 k1 m2 k2 c wr.drew := HJ.out.later (Below.refl _ wr).drew
          refine wp_region_held_drew (S := fun W' => W'.cell? ⟨w.heap.size, 0, none⟩ = some (.int .i64 nn) ∧ W'.cell? ⟨w.heap.size, 1, none⟩ = some (.slice a m1 k1) ∧ W'.cell? ⟨w.heap.size + 1, 0, none⟩ = some (.int .i64 mm) ∧ W'.cell? ⟨w.heap.size + 1, 1, none⟩ = some (.slice b m2 k2) ∧ W'.cell? ⟨w.heap.size + 1 + 1, 0, none⟩ = some (.int .i64 c.frm) ∧ W'.cell? ⟨w.heap.size + 1 + 1, 1, none⟩ = some (.int .i64 c.to) ∧ W'.cell? ⟨w.heap.size + 1 + 1, 2, none⟩ = some (.int .i64 c.st) ∧ W'.cell? ⟨w.heap.size + 1 + 1, 3, none⟩ = some (.int .i64 c.en) ∧ W'.cell? ⟨w.heap.size + 1 + 1, 4, none⟩ = some (.int .i64 c.rt) ∧ W'.cell? ⟨w.heap.size + 1 + 1, 5, none⟩ = some (.int .i64 c.dl)) (by kernel_rfl) HJ.out.cells (fun hHeld => ?_)
          refine takeH 0 (.agg #[.int .i64 nn, .slice a m1 k1]) rfl (by kernel_rfl) (by kernel_rfl) (by kernel_rfl) (fun _ _ _ h => h) (Or.inl ⟨by rfl, ?_⟩) (by assumption) ?_
          · (intro w hSw; obtain ⟨hS0, hS1, hS2, hS3, hS4, hS5, hS6, hS7, hS8, hS9⟩ := hSw; go_simp)
          try simp only [Act.put, List.setIfInBounds_toArray, List.set_cons_zero, List.set_cons_succ]
          refine takeH 1 (.agg #[.int .i64 mm, .slice b m2 k2]) rfl (by kernel_rfl) (by kernel_rfl) (by kernel_rfl) (fun _ _ _ h => h) (Or.inl ⟨by rfl, ?_⟩) (by assumption) ?_
          · (intro w hSw; obtain ⟨hS0, hS1, hS2, hS3, hS4, hS5, hS6, hS7, hS8, hS9⟩ := hSw; go_simp)
          try simp only [Act.put, List.setIfInBounds_toArray, List.set_cons_zero, List.set_cons_succ]
          refine takeH 3 (.bool false) rfl (by kernel_rfl) (by kernel_rfl) (by kernel_rfl) (fun _ _ _ h => h) (Or.inl ⟨by rfl, ?_⟩) (by assumption) ?_
          · (intro w hSw; obtain ⟨hS0, hS1, hS2, hS3, hS4, hS5, hS6, hS7, hS8, hS9⟩ := hSw; go_simp)
          try simp only [Act.put, List.setIfInBounds_toArray, List.set_cons_zero, List.set_cons_succ]
          refine wpAnyH_ready (rs := [2]) (by kernel_rfl) (by simp) ?_
          refine stepH 2 rfl (fun K hK => ?_) AllReadyH.nil
          go_simp
          go_at_call 17
          refine (HSM.out _ hPd.bel).mono ?_
          rw [HF.out]
          rintro r w2 ⟨rfl, H2⟩
          have hP2 : SB w nn mm a b m1 k1 m2 k2 c w2 := hPd.later H2.out
          refine hK.out _ _ (hP2).cells (fun hHeld => ?_)
          clear hK K
          try simp only [Act.put, List.setIfInBounds_toArray, List.set_cons_zero, List.set_cons_succ]
          refine takeH 4 (.bool true) rfl (by kernel_rfl) (by kernel_rfl) (by kernel_rfl) (fun _ _ _ h => h) (Or.inl ⟨by rfl, ?_⟩) (by assumption) ?_
          · (intro w hSw; obtain ⟨hS0, hS1, hS2, hS3, hS4, hS5, hS6, hS7, hS8, hS9⟩ := hSw; go_simp)
          try simp only [Act.put, List.setIfInBounds_toArray, List.set_cons_zero, List.set_cons_succ]
          refine takeH 5 (.bool true) rfl (by kernel_rfl) (by kernel_rfl) (by kernel_rfl) (fun _ _ _ h => h) (Or.inl ⟨by rfl, ?_⟩) (by assumption) ?_
          · (intro w hSw; obtain ⟨hS0, hS1, hS2, hS3, hS4, hS5, hS6, hS7, hS8, hS9⟩ := hSw; go_simp)
          try simp only [Act.put, List.setIfInBounds_toArray, List.set_cons_zero, List.set_cons_succ]
          refine takeH 6 (.agg #[.int .i64 nn, .slice a m1 k1]) rfl (by kernel_rfl) (by kernel_rfl) (by kernel_rfl) (fun _ _ _ h => h) (Or.inl ⟨by rfl, ?_⟩) (by assumption) ?_
          · (intro w hSw; obtain ⟨hS0, hS1, hS2, hS3, hS4, hS5, hS6, hS7, hS8, hS9⟩ := hSw; go_simp)
          try simp only [Act.put, List.setIfInBounds_toArray, List.set_cons_zero, List.set_cons_succ]
          refine takeH 7 (.agg #[.int .i64 nn, .slice a m1 k1]) rfl (by kernel_rfl) (by kernel_rfl) (by kernel_rfl) (fun _ _ _ h => h) (Or.inl ⟨by rfl, ?_⟩) (by assumption) ?_
          · (intro w hSw; obtain ⟨hS0, hS1, hS2, hS3, hS4, hS5, hS6, hS7, hS8, hS9⟩ := hSw; go_simp)
          try simp only [Act.put, List.setIfInBounds_toArray, List.set_cons_zero, List.set_cons_succ]
          refine wpAnyH_ready (rs := [8]) (by kernel_rfl) (by simp) ?_
          refine stepH 8 rfl (fun K hK => ?_) AllReadyH.nil
          go_simp
          go_at_call 9
          refine (HCP.out _ hP2.bel).mono ?_
          rintro r w3 ⟨g3, k3, rfl, H3⟩
          have hP3 : SB w nn mm a b m1 k1 m2 k2 c w3 := hP2.later H3.out.2.2.2.2
          refine hK.out _ _ (hP3).cells (fun hHeld => ?_)
          clear hK K
          try simp only [Act.put, List.setIfInBounds_toArray, List.set_cons_zero, List.set_cons_succ]
          refine wpAnyH_ready (rs := [9]) (by kernel_rfl) (by simp) ?_
          refine stepH 9 rfl (fun K hK => ?_) AllReadyH.nil
          go_simp
          go_at_call 17
          refine (HSC.out _ g3 k3 hP3.bel H3.out.1).mono ?_
          rintro r w4 ⟨rfl, H4⟩
          have hP4 : SB w nn mm a b m1 k1 m2 k2 c w4 := hP3.later H4.out
          refine hK.out _ _ (hP4).cells (fun hHeld => ?_)
          clear hK K
          try simp only [Act.put, List.setIfInBounds_toArray, List.set_cons_zero, List.set_cons_succ]
          refine takeH 10 (.bool true) rfl (by kernel_rfl) (by kernel_rfl) (by kernel_rfl) (fun _ _ _ h => h) (Or.inl ⟨by rfl, ?_⟩) (by assumption) ?_
          · (intro w hSw; obtain ⟨hS0, hS1, hS2, hS3, hS4, hS5, hS6, hS7, hS8, hS9⟩ := hSw; go_simp)
          try simp only [Act.put, List.setIfInBounds_toArray, List.set_cons_zero, List.set_cons_succ]
          refine takeH 11 (.bool true) rfl (by kernel_rfl) (by kernel_rfl) (by kernel_rfl) (fun _ _ _ h => h) (Or.inl ⟨by rfl, ?_⟩) (by assumption) ?_
          · (intro w hSw; obtain ⟨hS0, hS1, hS2, hS3, hS4, hS5, hS6, hS7, hS8, hS9⟩ := hSw; go_simp)
          try simp only [Act.put, List.setIfInBounds_toArray, List.set_cons_zero, List.set_cons_succ]
          refine takeH 12 (.agg #[.int .i64 c.frm, .int .i64 c.to, .int .i64 c.st, .int .i64 c.en, .int .i64 c.rt, .int .i64 c.dl]) rfl (by kernel_rfl) (by kernel_rfl) (by kernel_rfl) (fun _ _ _ h => h) (Or.inl ⟨by rfl, ?_⟩) (by assumption) ?_
          · (intro w hSw; obtain ⟨hS0, hS1, hS2, hS3, hS4, hS5, hS6, hS7, hS8, hS9⟩ := hSw; go_simp)
          try simp only [Act.put, List.setIfInBounds_toArray, List.set_cons_zero, List.set_cons_succ]
          refine takeH 14 (.int .i64 (c.rt * (c.en - c.st))) rfl (by kernel_rfl) (by kernel_rfl) (by kernel_rfl) (fun _ _ _ h => h) (Or.inl ⟨by rfl, ?_⟩) (by assumption) ?_
          · (intro w hSw; obtain ⟨hS0, hS1, hS2, hS3, hS4, hS5, hS6, hS7, hS8, hS9⟩ := hSw; go_simp)
          try simp only [Act.put, List.setIfInBounds_toArray, List.set_cons_zero, List.set_cons_succ]
          refine wpAnyH_ready (rs := [13]) (by kernel_rfl) (by simp) ?_
          refine stepH 13 rfl (fun K hK => ?_) AllReadyH.nil
          go_simp
          go_at_call 16
          refine (HVL.out _).mono ?_
          rw [HV.out]
          rintro r w5 ⟨rfl, H5⟩
          have hP5 : SB w nn mm a b m1 k1 m2 k2 c w5 := hP4.later H5.out
          refine hK.out _ _ (hP5).cells (fun hHeld => ?_)
          clear hK K
          try simp only [Act.put, List.setIfInBounds_toArray, List.set_cons_zero, List.set_cons_succ]
          refine takeH 15 (.bool true) rfl (by kernel_rfl) (by kernel_rfl) (by kernel_rfl) (fun _ _ _ h => h) (Or.inl ⟨by rfl, ?_⟩) (by assumption) ?_
          · (intro w hSw; obtain ⟨hS0, hS1, hS2, hS3, hS4, hS5, hS6, hS7, hS8, hS9⟩ := hSw; go_simp)
          try simp only [Act.put, List.setIfInBounds_toArray, List.set_cons_zero, List.set_cons_succ]
          refine takeH 16 (.bool true) rfl (by kernel_rfl) (by kernel_rfl) (by kernel_rfl) (fun _ _ _ h => h) (Or.inl ⟨by rfl, ?_⟩) (by assumption) ?_
          · (intro w hSw; obtain ⟨hS0, hS1, hS2, hS3, hS4, hS5, hS6, hS7, hS8, hS9⟩ := hSw; go_simp)
          try simp only [Act.put, List.setIfInBounds_toArray, List.set_cons_zero, List.set_cons_succ]
          refine takeH 17 (.bool true) rfl (by kernel_rfl) (by kernel_rfl) (by kernel_rfl) (fun _ _ _ h => h) (Or.inl ⟨by rfl, ?_⟩) (by assumption) ?_
          · (intro w hSw; obtain ⟨hS0, hS1, hS2, hS3, hS4, hS5, hS6, hS7, hS8, hS9⟩ := hSw; go_simp)
          try simp only [Act.put, List.setIfInBounds_toArray, List.set_cons_zero, List.set_cons_succ]
          refine wpAnyH_done (by kernel_rfl) ?_ _
          go_wp2
          go_ret
          exact ⟨rfl, hP5.bel⟩
        · have HV : Hid (vol c = 0) := by
            show _ = _
            rw [vol, if_neg hv]
          have HNV : Hid (¬ (c.st < c.en ∧ 0 ≤ c.st ∧ c.en ≤ 1048576 ∧ 0 ≤ c.rt ∧ c.rt ≤ 1048576)) := hv
          clear hv
          go_wp2_with fail
          all_goals first
            | (exfalso; exact HNV.out ⟨by omega, by omega, by omega, by omega, by omega⟩)
            | skip
          all_goals
            have hPd : SB w nn mm a b m1 k1 m2 k2 c wr.drew := HJ.out.later (Below.refl _ wr).drew
            refine wp_region_held_drew (S := fun W' => W'.cell? ⟨w.heap.size, 0, none⟩ = some (.int .i64 nn) ∧ W'.cell? ⟨w.heap.size, 1, none⟩ = some (.slice a m1 k1) ∧ W'.cell? ⟨w.heap.size + 1, 0, none⟩ = some (.int .i64 mm) ∧ W'.cell? ⟨w.heap.size + 1, 1, none⟩ = some (.slice b m2 k2) ∧ W'.cell? ⟨w.heap.size + 1 + 1, 0, none⟩ = some (.int .i64 c.frm) ∧ W'.cell? ⟨w.heap.size + 1 + 1, 1, none⟩ = some (.int .i64 c.to) ∧ W'.cell? ⟨w.heap.size + 1 + 1, 2, none⟩ = some (.int .i64 c.st) ∧ W'.cell? ⟨w.heap.size + 1 + 1, 3, none⟩ = some (.int .i64 c.en) ∧ W'.cell? ⟨w.heap.size + 1 + 1, 4, none⟩ = some (.int .i64 c.rt) ∧ W'.cell? ⟨w.heap.size + 1 + 1, 5, none⟩ = some (.int .i64 c.dl)) (by kernel_rfl) HJ.out.cells (fun hHeld => ?_)
            refine takeH 0 (.agg #[.int .i64 nn, .slice a m1 k1]) rfl (by kernel_rfl) (by kernel_rfl) (by kernel_rfl) (fun _ _ _ h => h) (Or.inl ⟨by rfl, ?_⟩) (by assumption) ?_
            · (intro w hSw; obtain ⟨hS0, hS1, hS2, hS3, hS4, hS5, hS6, hS7, hS8, hS9⟩ := hSw; go_simp)
            try simp only [Act.put, List.setIfInBounds_toArray, List.set_cons_zero, List.set_cons_succ]
            refine takeH 1 (.agg #[.int .i64 mm, .slice b m2 k2]) rfl (by kernel_rfl) (by kernel_rfl) (by kernel_rfl) (fun _ _ _ h => h) (Or.inl ⟨by rfl, ?_⟩) (by assumption) ?_
            · (intro w hSw; obtain ⟨hS0, hS1, hS2, hS3, hS4, hS5, hS6, hS7, hS8, hS9⟩ := hSw; go_simp)
            try simp only [Act.put, List.setIfInBounds_toArray, List.set_cons_zero, List.set_cons_succ]
            refine takeH 3 (.bool false) rfl (by kernel_rfl) (by kernel_rfl) (by kernel_rfl) (fun _ _ _ h => h) (Or.inl ⟨by rfl, ?_⟩) (by assumption) ?_
            · (intro w hSw; obtain ⟨hS0, hS1, hS2, hS3, hS4, hS5, hS6, hS7, hS8, hS9⟩ := hSw; go_simp)
            try simp only [Act.put, List.setIfInBounds_toArray, List.set_cons_zero, List.set_cons_succ]
            refine wpAnyH_ready (rs := [2]) (by kernel_rfl) (by simp) ?_
            refine stepH 2 rfl (fun K hK => ?_) AllReadyH.nil
            go_simp
            go_at_call 17
            refine (HSM.out _ hPd.bel).mono ?_
            rw [HF.out]
            rintro r w2 ⟨rfl, H2⟩
            have hP2 : SB w nn mm a b m1 k1 m2 k2 c w2 := hPd.later H2.out
            refine hK.out _ _ (hP2).cells (fun hHeld => ?_)
            clear hK K
            try simp only [Act.put, List.setIfInBounds_toArray, List.set_cons_zero, List.set_cons_succ]
            refine takeH 4 (.bool true) rfl (by kernel_rfl) (by kernel_rfl) (by kernel_rfl) (fun _ _ _ h => h) (Or.inl ⟨by rfl, ?_⟩) (by assumption) ?_
            · (intro w hSw; obtain ⟨hS0, hS1, hS2, hS3, hS4, hS5, hS6, hS7, hS8, hS9⟩ := hSw; go_simp)
            try simp only [Act.put, List.setIfInBounds_toArray, List.set_cons_zero, List.set_cons_succ]
            refine takeH 5 (.bool true) rfl (by kernel_rfl) (by kernel_rfl) (by kernel_rfl) (fun _ _ _ h => h) (Or.inl ⟨by rfl, ?_⟩) (by assumption) ?_
            · (intro w hSw; obtain ⟨hS0, hS1, hS2, hS3, hS4, hS5, hS6, hS7, hS8, hS9⟩ := hSw; go_simp)
            try simp only [Act.put, List.setIfInBounds_toArray, List.set_cons_zero, List.set_cons_succ]
            refine takeH 6 (.agg #[.int .i64 nn, .slice a m1 k1]) rfl (by kernel_rfl) (by kernel_rfl) (by kernel_rfl) (fun _ _ _ h => h) (Or.inl ⟨by rfl, ?_⟩) (by assumption) ?_
            · (intro w hSw; obtain ⟨hS0, hS1, hS2, hS3, hS4, hS5, hS6, hS7, hS8, hS9⟩ := hSw; go_simp)
            try simp only [Act.put, List.setIfInBounds_toArray, List.set_cons_zero, List.set_cons_succ]
            refine takeH 7 (.agg #[.int .i64 nn, .slice a m1 k1]) rfl (by kernel_rfl) (by kernel_rfl) (by kernel_rfl) (fun _ _ _ h => h) (Or.inl ⟨by rfl, ?_⟩) (by assumption) ?_
            · (intro w hSw; obtain ⟨hS0, hS1, hS2, hS3, hS4, hS5, hS6, hS7, hS8, hS9⟩ := hSw; go_simp)
            try simp only [Act.put, List.setIfInBounds_toArray, List.set_cons_zero, List.set_cons_succ]
            refine wpAnyH_ready (rs := [8]) (by kernel_rfl) (by simp) ?_
            refine stepH 8 rfl (fun K hK => ?_) AllReadyH.nil
            go_simp
            go_at_call 9
            refine (HCP.out _ hP2.bel).mono ?_
            rintro r w3 ⟨g3, k3, rfl, H3⟩
            have hP3 : SB w nn mm a b m1 k1 m2 k2 c w3 := hP2.later H3.out.2.2.2.2
            refine hK.out _ _ (hP3).cells (fun hHeld => ?_)
            clear hK K
            try simp only [Act.put, List.setIfInBounds_toArray, List.set_cons_zero, List.set_cons_succ]
            refine wpAnyH_ready (rs := [9]) (by kernel_rfl) (by simp) ?_
            refine stepH 9 rfl (fun K hK => ?_) AllReadyH.nil
            go_simp
            go_at_call 17
            refine (HSC.out _ g3 k3 hP3.bel H3.out.1).mono ?_
            rintro r w4 ⟨rfl, H4⟩
            have hP4 : SB w nn mm a b m1 k1 m2 k2 c w4 := hP3.later H4.out
            refine hK.out _ _ (hP4).cells (fun hHeld => ?_)
            clear hK K
            try simp only [Act.put, List.setIfInBounds_toArray, List.set_cons_zero, List.set_cons_succ]
            refine takeH 10 (.bool true) rfl (by kernel_rfl) (by kernel_rfl) (by kernel_rfl) (fun _ _ _ h => h) (Or.inl ⟨by rfl, ?_⟩) (by assumption) ?_
            · (intro w hSw; obtain ⟨hS0, hS1, hS2, hS3, hS4, hS5, hS6, hS7, hS8, hS9⟩ := hSw; go_simp)
            try simp only [Act.put, List.setIfInBounds_toArray, List.set_cons_zero, List.set_cons_succ]
            refine takeH 11 (.bool true) rfl (by kernel_rfl) (by kernel_rfl) (by kernel_rfl) (fun _ _ _ h => h) (Or.inl ⟨by rfl, ?_⟩) (by assumption) ?_
            · (intro w hSw; obtain ⟨hS0, hS1, hS2, hS3, hS4, hS5, hS6, hS7, hS8, hS9⟩ := hSw; go_simp)
            try simp only [Act.put, List.setIfInBounds_toArray, List.set_cons_zero, List.set_cons_succ]
            refine takeH 12 (.agg #[.int .i64 c.frm, .int .i64 c.to, .int .i64 c.st, .int .i64 c.en, .int .i64 c.rt, .int .i64 c.dl]) rfl (by kernel_rfl) (by kernel_rfl) (by kernel_rfl) (fun _ _ _ h => h) (Or.inl ⟨by rfl, ?_⟩) (by assumption) ?_
            · (intro w hSw; obtain ⟨hS0, hS1, hS2, hS3, hS4, hS5, hS6, hS7, hS8, hS9⟩ := hSw; go_simp)
            try simp only [Act.put, List.setIfInBounds_toArray, List.set_cons_zero, List.set_cons_succ]
            refine takeH 14 (.int .i64 0) rfl (by kernel_rfl) (by kernel_rfl) (by kernel_rfl) (fun _ _ _ h => h) (Or.inl ⟨by rfl, ?_⟩) (by assumption) ?_
            · (intro w hSw; obtain ⟨hS0, hS1, hS2, hS3, hS4, hS5, hS6, hS7, hS8, hS9⟩ := hSw; go_simp)
            try simp only [Act.put, List.setIfInBounds_toArray, List.set_cons_zero, List.set_cons_succ]
            refine wpAnyH_ready (rs := [13]) (by kernel_rfl) (by simp) ?_
            refine stepH 13 rfl (fun K hK => ?_) AllReadyH.nil
            go_simp
            go_at_call 16
            refine (HVL.out _).mono ?_
            rw [HV.out]
            rintro r w5 ⟨rfl, H5⟩
            have hP5 : SB w nn mm a b m1 k1 m2 k2 c w5 := hP4.later H5.out
            refine hK.out _ _ (hP5).cells (fun hHeld => ?_)
            clear hK K
            try simp only [Act.put, List.setIfInBounds_toArray, List.set_cons_zero, List.set_cons_succ]
            refine takeH 15 (.bool true) rfl (by kernel_rfl) (by kernel_rfl) (by kernel_rfl) (fun _ _ _ h => h) (Or.inl ⟨by rfl, ?_⟩) (by assumption) ?_
            · (intro w hSw; obtain ⟨hS0, hS1, hS2, hS3, hS4, hS5, hS6, hS7, hS8, hS9⟩ := hSw; go_simp)
            try simp only [Act.put, List.setIfInBounds_toArray, List.set_cons_zero, List.set_cons_succ]
            refine takeH 16 (.bool true) rfl (by kernel_rfl) (by kernel_rfl) (by kernel_rfl) (fun _ _ _ h => h) (Or.inl ⟨by rfl, ?_⟩) (by assumption) ?_
            · (intro w hSw; obtain ⟨hS0, hS1, hS2, hS3, hS4, hS5, hS6, hS7, hS8, hS9⟩ := hSw; go_simp)
            try simp only [Act.put, List.setIfInBounds_toArray, List.set_cons_zero, List.set_cons_succ]
            refine takeH 17 (.bool true) rfl (by kernel_rfl) (by kernel_rfl) (by kernel_rfl) (fun _ _ _ h => h) (Or.inl ⟨by rfl, ?_⟩) (by assumption) ?_
            · (intro w hSw; obtain ⟨hS0, hS1, hS2, hS3, hS4, hS5, hS6, hS7, hS8, hS9⟩ := hSw; go_simp)
            try simp only [Act.put, List.setIfInBounds_toArray, List.set_cons_zero, List.set_cons_succ]
            refine wpAnyH_done (by kernel_rfl) ?_ _
            go_wp2
            go_ret
            exact ⟨rfl, hP5.bel⟩
end Go.Proofs.Ytbjlhapekhlleaa
