/- the laws' own short. -/
import Derived.Test.YthmfbhanmncfgaaZShort
namespace Go.Proofs.Ythmfbhanmncfgaa
open Go.RowKit
set_option linter.unusedVariables false
theorem off13 (W : World) (q : Nat) (v0 v1 v2 v3 v4 v5 v6 v7 v8 v9 v10 v11 v12 : Value) : Off (fun k => k = q) W (((((((((((((W.setCell ⟨q, 0, none⟩ v0).setCell ⟨q, 1, none⟩ v1).setCell ⟨q, 2, none⟩ v2).setCell ⟨q, 3, none⟩ v3).setCell ⟨q, 4, none⟩ v4).setCell ⟨q, 5, none⟩ v5).setCell ⟨q, 6, none⟩ v6).setCell ⟨q, 7, none⟩ v7).setCell ⟨q, 8, none⟩ v8).setCell ⟨q, 9, none⟩ v9).setCell ⟨q, 10, none⟩ v10).setCell ⟨q, 11, none⟩ v11).setCell ⟨q, 12, none⟩ v12) :=
  ((((((((((((((Off.refl (fun k => k = q) W).setCell (p := ⟨q, 0, none⟩) (.inr rfl) _).setCell (p := ⟨q, 1, none⟩) (.inr rfl) _).setCell (p := ⟨q, 2, none⟩) (.inr rfl) _).setCell (p := ⟨q, 3, none⟩) (.inr rfl) _).setCell (p := ⟨q, 4, none⟩) (.inr rfl) _).setCell (p := ⟨q, 5, none⟩) (.inr rfl) _).setCell (p := ⟨q, 6, none⟩) (.inr rfl) _).setCell (p := ⟨q, 7, none⟩) (.inr rfl) _).setCell (p := ⟨q, 8, none⟩) (.inr rfl) _).setCell (p := ⟨q, 9, none⟩) (.inr rfl) _).setCell (p := ⟨q, 10, none⟩) (.inr rfl) _).setCell (p := ⟨q, 11, none⟩) (.inr rfl) _).setCell (p := ⟨q, 12, none⟩) (.inr rfl) _)
theorem shqC {wc w3 : World} {M g3 d3 : Nat} {L : List (Int × Int)} (hl : L.length = M) (ho3 : w3.ownsRow wc.heap.size 38 2 (.slice (some ⟨g3, 0, none⟩) (M + 1) d3) (M + 1) (ccells (L ++ [(77, 0)]))) : RowC w3 (some ⟨g3, 0, none⟩) L ∧ M ≤ d3 ∧ d3 ≤ maxLen ∧ wc.heap.size ≤ g3 := by
  obtain ⟨a, cap, hv, _, h1, h2, h3, h4⟩ := ownC_row ho3
  simp only [Value.slice.injEq] at hv
  obtain ⟨rfl, hn, rfl⟩ := hv
  have := rowC_take h3 M
  rw [← hl, List.take_left] at this
  exact ⟨this, by omega, h2, own_ge ho3 g3 rfl⟩
theorem made_first (w : World) (X Z : Obj) : ((w.alloc X).alloc Z).drew.heap[w.heap.size]? = some X := old_block (((Below.refl _ (w.alloc X)).alloc (Nat.le_refl _) Z).drew) (heap_alloc_new w X)
theorem shq {w wc w3 : World} {M g3 d3 : Nat} {L : List Nat} (hl : L.length = M) (hb : ∀ x ∈ L, x < 256) (htwo : w.heap.size + 2 ≤ wc.heap.size) (ho3 : w3.ownsRow wc.heap.size 5 1 (.slice (some ⟨g3, 0, none⟩) (M + 1) d3) (M + 1) (cells (L ++ [7]))) : Row w3 (some ⟨g3, 0, none⟩) L ∧ M ≤ d3 ∧ d3 ≤ maxLen ∧ w.heap.size + 2 ≤ g3 := by
  obtain ⟨_, _, hv, h1, h2⟩ := own_form ho3
  cases hv
  obtain ⟨r, _, _⟩ := own_some ho3 (fun x hx => by rcases List.mem_append.1 hx with h | h; exact hb x h; rw [List.mem_singleton.1 h]; omega) (by rw [List.length_append, List.length_singleton, hl]; omega)
  have := row_take r M
  rw [← hl, List.take_left] at this
  exact ⟨this, by omega, h2, Nat.le_trans htwo (own_ge ho3 g3 rfl)⟩
set_option maxRecDepth 20000 in
set_option maxHeartbeats 4000000 in
theorem short_new (s : Sg) (a : Option Addr) (c : Nat) (a2 : Option Addr) (c2 : Nat) (w : World) (hc : Came w s a c a2 c2) :
    Calls Try.prog 5 #[sv s a c a2 c2] w fun e w' => ∃ a' c' a2' c2', e = .returned (sv (shortS s) a' c' a2' c2') ∧ Hid (Below w.heap.size w w' ∧ Came w' (shortS s) a' c' a2' c2' ∧ (∀ bb, a' = some bb → w.heap.size ≤ bb.block) ∧ (∀ bb, a2' = some bb → w.heap.size ≤ bb.block)) := by
  have HC : Hid (Came w s a c a2 c2) := hc
  have hd := hc.fit.dat
  have hl := hc.fit.cls
  have hle := hc.le
  have hlc := hc.lec
  clear hc
  go_enter Try.func5, Try.ntmps5
  go_wp2_with fail
  obtain ⟨M, hM⟩ : ∃ M, min s.dat.length 300 = M := ⟨_, rfl⟩
  obtain ⟨N, hN⟩ : ∃ N, min s.cls.length 40 = N := ⟨_, rfl⟩
  have HM : Hid (min s.dat.length 300 = M) := hM
  have HN : Hid (min s.cls.length 40 = N) := hN
  have hM1 : M ≤ 300 := by omega
  have hN1 : N ≤ 40 := by omega
  have hM2 : M ≤ c := by omega
  have hN2 : N ≤ c2 := by omega
  clear hM hN
  have HW0 : Hid (∀ q, Sht w ((w.alloc (sc s a c a2 c2)).alloc (sc zeroS none 0 none 0) |>.drewN q) s a c a2 c2) := fun q => sht_first w s a c a2 c2 q
  go_cut [3, 4] from 5 (fun n k wc => n = .int .i64 (M : Nat) ∧ k = .int .i64 (N : Nat) ∧ Hid (Sht w wc s a c a2 c2))
  case first =>
    by_cases h1 : 300 < s.dat.length
    · have e1 : M = 300 := by have := HM.out; omega
      subst e1
      by_cases h2 : 40 < s.cls.length
      · have e2 : N = 40 := by have := HN.out; omega
        subst e2
        go_quiet (fail)
        go_wp2
        go_meet
        case rel => exact ⟨rfl, rfl, HW0.out _⟩
      · have e2 : N = s.cls.length := by have := HN.out; omega
        subst e2
        go_quiet (fail)
        go_wp2
        go_meet
        case rel => exact ⟨rfl, rfl, HW0.out _⟩
    · have e1 : M = s.dat.length := by have := HM.out; omega
      subst e1
      by_cases h2 : 40 < s.cls.length
      · have e2 : N = 40 := by have := HN.out; omega
        subst e2
        go_quiet (fail)
        go_wp2
        go_meet
        case rel => exact ⟨rfl, rfl, HW0.out _⟩
      · have e2 : N = s.cls.length := by have := HN.out; omega
        subst e2
        go_quiet (fail)
        go_wp2
        go_meet
        case rel => exact ⟨rfl, rfl, HW0.out _⟩
  case rest =>
    obtain ⟨rfl, rfl, HT⟩ := hcut
    go_wp2_with fail
    obtain ⟨Z11, hZ11, hmk11⟩ := make_u8 M (by omega)
    have HR11 : Hid (∀ W, Below wc.heap.size wc W → Row W a (s.dat.take M)) := fun W hb => row_take HC.out.row M |>.later (below_of HT.out.bel hb)
    have hl11 : (s.dat.take M).length = M := by have := HM.out; rw [List.length_take]; omega
    have HL11 : Hid _ := hl11
    clear hl11
    have ll0 : wc.cell? ⟨w.heap.size, 11, none⟩ = some (.slice a s.dat.length c) := (scells HT.out.arg).2.2.2.2.2.2.2.2.2.2.2.1
    have ll1 : ∀ X, (wc.alloc X).cell? ⟨w.heap.size, 11, none⟩ = some (.slice a s.dat.length c) := fun X => cell_later ((Below.refl _ _).alloc (Nat.le_refl _) X) ll0
    have ll2 : ∀ X Y, ((wc.alloc X).alloc Y).cell? ⟨w.heap.size, 11, none⟩ = some (.slice a s.dat.length c) := fun X Y => cell_later (((Below.refl _ _).alloc (Nat.le_refl _) X).alloc (by simp) Y) ll0
    have htwo := HT.out.two
    go_cut [] from 5 (fun wd => ∃ g d, Hid (Sht w wd { s with dat := s.dat.take 300 } (some ⟨g, 0, none⟩) d a2 c2 ∧ Row wd (some ⟨g, 0, none⟩) (s.dat.take 300) ∧ (s.dat.take 300).length ≤ d ∧ d ≤ maxLen ∧ w.heap.size + 2 ≤ g))
    case first =>
      go_region_law (first
        | (refine step_append_bytes rfl (.tmp 15) (.tmp 19) rfl wc.heap.size _ (M + 2) [] 0 M rfl (by first | exact own_at (by simp) (by omega) (by unfold maxLen; omega) hZ11 | exact own_alloc (own_at (by simp) (by omega) (by unfold maxLen; omega) hZ11) _) a c (s.dat.take M) HL11.out rfl (HR11.out _ (by repeat (first | exact Below.refl _ _ | apply Below.drew | (refine Below.alloc ?_ (by simp) _)))) (by omega) (by first | (simp; done) | (simp; omega)) ?_; intro g2 d2 w2 ho2 hf2 hat2 hle2; have hT2 : Hid (Sht w w2 s a c a2 c2) := (HT.out.later (by repeat (first | exact Below.refl _ _ | apply Below.drew | (refine Below.alloc ?_ (by simp) _)))).off hf2 (fun i e => Nat.le_trans (by omega) (Nat.le_of_eq (Eq.symm e))); have hO2 : Hid (w2.ownsRow wc.heap.size 5 1 (.slice (some ⟨g2, 0, none⟩) M d2) M (cells (s.dat.take M))) := (by show World.ownsRow _ _ _ _ _ _ _; simpa using ho2); have hg2 : wc.heap.size ≤ g2 := own_ge ho2 g2 rfl; have HF2 : Hid _ := hf2; clear ho2 hf2 hat2)
        | (refine step_append_bytes rfl (.tmp 20) (.tmp 21) rfl wc.heap.size g2 d2 (s.dat.take M) M 1 rfl (by first | exact hO2.out | exact own_alloc hO2.out _) _ 1 [7] rfl rfl (by first | exact row7 (made_at rfl) | exact row7 (HF2.out.at (made_at (by simp)) (by show ¬ _ = _; omega)) | exact row7 (HF2.out.at (made_first _ _ _) (by show ¬ _ = _; omega))) (by omega) (by have := hT2.out.two; have := HF2.out.size; simp at *; omega) ?_; intro g3 d3 w3 ho3 hf3 hat3 hle3; have hMd3 : M ≤ d3 := (by omega); have hT3 : Hid (Sht w w3 s a c a2 c2) := (hT2.out.later (by repeat (first | exact Below.refl _ _ | apply Below.drew | (refine Below.alloc ?_ (by simp) _)))).off hf3 (fun i e => Nat.le_trans (by omega) (Nat.le_of_eq (Eq.symm e))); have HQ3 : Hid (Row w3 (some ⟨g3, 0, none⟩) (s.dat.take M) ∧ M ≤ d3 ∧ d3 ≤ maxLen ∧ w.heap.size + 2 ≤ g3) := shq HL11.out (HR11.out wc (Below.refl _ _)).1 htwo ho3; have k3 := (scells hT3.out.arg).2.2.2.2.2.2.2.2.2.2.2.1; have f3 := frozen_of hT3.out.arg 11; clear ho3 hf3 hat3))
      all_goals
        have HE : Hid (s.dat.take M = s.dat.take 300) := by
          show _ = _
          have := HM.out
          by_cases h : s.dat.length ≤ 300
          · rw [List.take_of_length_le (by omega), List.take_of_length_le (by omega)]
          · rw [show M = 300 by omega]
        have HZ : Hid (Sht w (w3.setCell ⟨w.heap.size, 11, none⟩ (.slice (some ⟨g3, 0, none⟩) M d3)) { s with dat := s.dat.take M } (some ⟨g3, 0, none⟩) d3 a2 c2) := hT3.out.set 11 _ (by simp only [HL11.out]; simp)
        go_wp2
        go_meet
        case rel =>
          refine ⟨g3, d3, ?_⟩
          rw [← HE.out]
          exact ⟨HZ.out, HQ3.out.1.off (S := fun i => i = w.heap.size) ((Off.refl (fun i => i = w.heap.size) w3).setCell (p := ⟨w.heap.size, 11, none⟩) (.inr rfl) _) (fun _ b hb e => by cases hb; have := HQ3.out.2.2.2; have e2 : g3 = w.heap.size := e; omega), by rw [HL11.out]; exact HQ3.out.2.1, HQ3.out.2.2.1, HQ3.out.2.2.2⟩
    case rest =>
      obtain ⟨g, d, HT5⟩ := hcut
      clear ll0 ll1 ll2 htwo HR11 HL11 hmk11 hZ11 HT
      go_wp2_with fail
      obtain ⟨Z12, hZ12, hmk12⟩ := make_claim N (by omega)
      have HR12 : Hid (∀ W, Below wc.heap.size wc W → RowC W a2 (s.cls.take N)) := fun W hb => rowC_take HC.out.rowc N |>.later (below_of HT5.out.1.bel hb)
      have hl12 : (s.cls.take N).length = N := by have := HN.out; rw [List.length_take]; omega
      have HL12 : Hid _ := hl12
      clear hl12
      have ll0 : wc.cell? ⟨w.heap.size, 12, none⟩ = some (.slice a2 s.cls.length c2) := (scells HT5.out.1.arg).2.2.2.2.2.2.2.2.2.2.2.2
      have ll1 : ∀ X, (wc.alloc X).cell? ⟨w.heap.size, 12, none⟩ = some (.slice a2 s.cls.length c2) := fun X => cell_later ((Below.refl _ _).alloc (Nat.le_refl _) X) ll0
      have ll2 : ∀ X Y, ((wc.alloc X).alloc Y).cell? ⟨w.heap.size, 12, none⟩ = some (.slice a2 s.cls.length c2) := fun X Y => cell_later (((Below.refl _ _).alloc (Nat.le_refl _) X).alloc (by simp) Y) ll0
      have htwo := HT5.out.1.two
      go_cut [] from 5 (fun we => ∃ g d g' d', Hid (Sht w we (shortS s) (some ⟨g, 0, none⟩) d (some ⟨g', 0, none⟩) d' ∧ Came we (shortS s) (some ⟨g, 0, none⟩) d (some ⟨g', 0, none⟩) d' ∧ w.heap.size + 2 ≤ g ∧ w.heap.size + 2 ≤ g'))
      case first =>
        go_region_law (first
          | (refine step_append_claims rfl (.tmp 28) (.tmp 32) rfl wc.heap.size _ (N + 2) [] 0 N rfl (by first | exact own_at (by simp) (by omega) (by unfold maxLen; omega) hZ12 | exact own_alloc (own_at (by simp) (by omega) (by unfold maxLen; omega) hZ12) _) a2 c2 (s.cls.take N) HL12.out rfl (HR12.out _ (by repeat (first | exact Below.refl _ _ | apply Below.drew | (refine Below.alloc ?_ (by simp) _)))) (by omega) (by first | (simp; done) | (simp; omega)) ?_; intro g2 d2 w2 ho2 hf2 hat2 hle2; have hB2 : Hid (Below wc.heap.size wc w2) := Below.trans (by repeat (first | exact Below.refl _ _ | apply Below.drew | (refine Below.alloc ?_ (by simp) _))) (hf2.below (by first | (simp; done) | (simp; omega)) (fun i e => Nat.le_trans (by omega) (Nat.le_of_eq (Eq.symm e)))); have hO2 : Hid (w2.ownsRow wc.heap.size 38 2 (.slice (some ⟨g2, 0, none⟩) N d2) N (ccells (s.cls.take N))) := (by show World.ownsRow _ _ _ _ _ _ _; simpa using ho2); have hg2 : wc.heap.size ≤ g2 := own_ge ho2 g2 rfl; have HF2 : Hid _ := hf2; clear ho2 hf2 hat2)
          | (refine step_append_claims rfl (.tmp 33) (.tmp 35) rfl wc.heap.size g2 d2 (s.cls.take N) N 1 rfl (by first | exact hO2.out | exact own_alloc hO2.out _) _ 1 [(77, 0)] rfl rfl (by first | exact rowC77 (made_at rfl) | exact rowC77 (HF2.out.at (made_at (by simp)) (by show ¬ _ = _; omega)) | exact rowC77 (HF2.out.at (made_first _ _ _) (by show ¬ _ = _; omega))) (by omega) (by have := hB2.out.size; simp; omega) ?_; intro g3 d3 w3 ho3 hf3 hat3 hle3; have hMd3 : N ≤ d3 := (by omega); have hB3 : Hid (Below wc.heap.size wc w3) := Below.trans (below_of hB2.out (by repeat (first | exact Below.refl _ _ | apply Below.drew | (refine Below.alloc ?_ (by simp) _)))) (hf3.below (by have := hB2.out.size; simp; omega) (fun i e => Nat.le_trans (by omega) (Nat.le_of_eq (Eq.symm e)))); have hT3 : Hid (Sht w w3 { s with dat := s.dat.take 300 } (some ⟨g, 0, none⟩) d a2 c2) := HT5.out.1.later hB3.out; have HQ3 : Hid (RowC w3 (some ⟨g3, 0, none⟩) (s.cls.take N) ∧ N ≤ d3 ∧ d3 ≤ maxLen ∧ wc.heap.size ≤ g3) := shqC HL12.out ho3; have k3 := (scells hT3.out.arg).2.2.2.2.2.2.2.2.2.2.2.2; have f3 := frozen_of hT3.out.arg 12; clear ho3 hf3 hat3))
        all_goals
          have HE : Hid (s.cls.take N = s.cls.take 40) := by
            show _ = _
            have := HN.out
            by_cases h : s.cls.length ≤ 40
            · rw [List.take_of_length_le (by omega), List.take_of_length_le (by omega)]
            · rw [show N = 40 by omega]
          have HZ : Hid (Sht w (w3.setCell ⟨w.heap.size, 12, none⟩ (.slice (some ⟨g3, 0, none⟩) N d3)) { s with dat := s.dat.take 300, cls := s.cls.take N } (some ⟨g, 0, none⟩) d (some ⟨g3, 0, none⟩) d3) := hT3.out.set 12 _ (by simp only [HL12.out]; simp)
          go_wp2
          go_meet
          case rel =>
            refine ⟨g, d, g3, d3, ?_⟩
            unfold shortS
            rw [← HE.out]
            have ho : Off (fun i => i = w.heap.size) w3 (w3.setCell ⟨w.heap.size, 12, none⟩ (.slice (some ⟨g3, 0, none⟩) N d3)) := (Off.refl (fun i => i = w.heap.size) w3).setCell (p := ⟨w.heap.size, 12, none⟩) (.inr rfl) _
            obtain ⟨_, q1, q2, q3, q4⟩ := HT5.out
            obtain ⟨r1, r2, r3, r4⟩ := HQ3.out
            have hz := HC.out.fit
            refine ⟨HZ.out, ⟨⟨hz.knd, hz.src, hz.ses, hz.ser, hz.cks, hz.off, hz.tot, hz.low, hz.upp, hz.rea, by show (s.dat.take 300).length ≤ _; rw [List.length_take]; omega, by show (s.cls.take N).length ≤ _; rw [HL12.out]; omega, fun c hc => hz.clm c (List.mem_of_mem_take hc)⟩, (q1.later hB3.out).off ho (fun _ b hb e => by cases hb; have e2 : g = w.heap.size := e; omega), r1.off ho (fun _ b hb e => by cases hb; have e2 : g3 = w.heap.size := e; omega), q2, q3, by show (s.cls.take N).length ≤ _; rw [HL12.out]; exact r2, r3⟩, q4, by omega⟩
      case rest =>
        obtain ⟨g, d, g', d', HF⟩ := hcut
        obtain ⟨e0, e1, e2, e3, e4, e5, e6, e7, e8, e9, e10, e11, e12⟩ := scells HF.out.1.arg
        obtain ⟨z0, z1, z2, z3, z4, z5, z6, z7, z8, z9, z10, z11, z12⟩ := scells HF.out.1.res
        have fz := frozen_of HF.out.1.res
        have HFIN : Hid (∀ v0 v1 v2 v3 v4 v5 v6 v7 v8 v9 v10 v11 v12, Below w.heap.size w (((((((((((((wc.setCell ⟨w.heap.size + 1, 0, none⟩ v0).setCell ⟨w.heap.size + 1, 1, none⟩ v1).setCell ⟨w.heap.size + 1, 2, none⟩ v2).setCell ⟨w.heap.size + 1, 3, none⟩ v3).setCell ⟨w.heap.size + 1, 4, none⟩ v4).setCell ⟨w.heap.size + 1, 5, none⟩ v5).setCell ⟨w.heap.size + 1, 6, none⟩ v6).setCell ⟨w.heap.size + 1, 7, none⟩ v7).setCell ⟨w.heap.size + 1, 8, none⟩ v8).setCell ⟨w.heap.size + 1, 9, none⟩ v9).setCell ⟨w.heap.size + 1, 10, none⟩ v10).setCell ⟨w.heap.size + 1, 11, none⟩ v11).setCell ⟨w.heap.size + 1, 12, none⟩ v12) ∧ Came (((((((((((((wc.setCell ⟨w.heap.size + 1, 0, none⟩ v0).setCell ⟨w.heap.size + 1, 1, none⟩ v1).setCell ⟨w.heap.size + 1, 2, none⟩ v2).setCell ⟨w.heap.size + 1, 3, none⟩ v3).setCell ⟨w.heap.size + 1, 4, none⟩ v4).setCell ⟨w.heap.size + 1, 5, none⟩ v5).setCell ⟨w.heap.size + 1, 6, none⟩ v6).setCell ⟨w.heap.size + 1, 7, none⟩ v7).setCell ⟨w.heap.size + 1, 8, none⟩ v8).setCell ⟨w.heap.size + 1, 9, none⟩ v9).setCell ⟨w.heap.size + 1, 10, none⟩ v10).setCell ⟨w.heap.size + 1, 11, none⟩ v11).setCell ⟨w.heap.size + 1, 12, none⟩ v12) (shortS s) (some ⟨g, 0, none⟩) d (some ⟨g', 0, none⟩) d' ∧ (∀ bb, (some ⟨g, 0, none⟩ : Option Addr) = some bb → w.heap.size ≤ bb.block) ∧ (∀ bb, (some ⟨g', 0, none⟩ : Option Addr) = some bb → w.heap.size ≤ bb.block)) := fun v0 v1 v2 v3 v4 v5 v6 v7 v8 v9 v10 v11 v12 => by
          have ho := off13 wc (w.heap.size + 1) v0 v1 v2 v3 v4 v5 v6 v7 v8 v9 v10 v11 v12
          obtain ⟨h1, h2, h3, h4⟩ := HF.out
          exact ⟨h1.bel.trans (ho.below h1.bel.size (fun i e => by have : i = w.heap.size + 1 := e; omega)), ⟨h2.fit, h2.row.off ho (fun _ b hb e => by cases hb; have e2 : g = w.heap.size + 1 := e; omega), h2.rowc.off ho (fun _ b hb e => by cases hb; have e2 : g' = w.heap.size + 1 := e; omega), h2.le, h2.cap, h2.lec, h2.capc⟩, fun bb hb => by cases hb; show _ ≤ g; omega, fun bb hb => by cases hb; show _ ≤ g'; omega⟩
        go_wp2
        exact bodyPost_ret (v := sv (shortS s) (some ⟨g, 0, none⟩) d (some ⟨g', 0, none⟩) d') (by simp [results, Try.results5, go_sem, z0, z1, z2, z3, z4, z5, z6, z7, z8, z9, z10, z11, z12]) rfl ⟨_, _, _, _, rfl, HFIN.out _ _ _ _ _ _ _ _ _ _ _ _ _⟩
theorem short_any (s : Sg) (a : Option Addr) (c : Nat) (a2 : Option Addr) (c2 : Nat) (w : World) (hc : Came w s a c a2 c2) :
    Calls Try.prog 5 #[sv s a c a2 c2] w fun e w' => ∃ a' c' a2' c2', e = .returned (sv (shortS s) a' c' a2' c2') ∧ Hid (Below w.heap.size w w' ∧ Came w' (shortS s) a' c' a2' c2') :=
  (short_new s a c a2 c2 w hc).mono (by rintro e w' ⟨a', c', a2', c2', rfl, hq⟩; exact ⟨a', c', a2', c2', rfl, hq.out.1, hq.out.2.1⟩)
end Go.Proofs.Ythmfbhanmncfgaa
