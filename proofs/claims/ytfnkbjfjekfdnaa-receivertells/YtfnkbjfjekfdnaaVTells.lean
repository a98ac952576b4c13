/- ReceiverTells: what is told of whatever session is what the document says. -/
import Derived.Test.YtfnkbjfjekfdnaaVWakes
import Derived.Test.YtfnkbjfjekfdnaaVCopied
import Derived.Test.YtfnkbjfjekfdnaaVBlock
import Derived.Test.YtfnkbjfjekfdnaaVMiss
import Derived.Test.YtfnkbjfjekfdnaaVRSame
import Derived.Test.YtfnkbjfjekfdnaaVRRight2
import Derived.Test.YtfnkbjfjekfdnaaVRuns
import Derived.Deep.RegionHeld3
import Derived.Deep.CutRange
namespace Go.Proofs.Ytfnkbjfjekfdnaa
open Go.RowKit
set_option linter.unusedVariables false
def noS : Sg := ⟨0, 0, 0, 0, 0, 0, 0, 0, 0, 0, false, [], []⟩
theorem rrightAll_any (s : Tk) (a : Option Addr) (c : Nat) (g : Option Addr) (d : Nat) (w : World) (hc : CameK w s a c g d) :
    Calls Try.prog 12 #[kv s a c g d] w fun e w' => e = .returned (.bool (okK s)) ∧ Hid (Below w.heap.size w w') := by
  cases hk : numsK s with
  | false => exact rrightK_no s a c g d w hc hk
  | true => exact rrightK_yes s a c g d w hc hk
set_option maxRecDepth 20000 in
set_option maxHeartbeats 4000000 in
theorem tells_any (s t : Tk) (a : Option Addr) (c : Nat) (g : Option Addr) (d : Nat) (b : Option Addr) (p : Nat) (h : Option Addr) (q : Nat) (w : World) (hc : CameK w s a c g d) (ht : CameK w t b p h q) :
    Calls Try.prog 5 #[kv s a c g d, kv t b p h q] w fun e w' => e = .returned (.bool true) ∧ Hid (Below w.heap.size w w') := by
  have HC : Hid (CameK w s a c g d) := hc
  have HT : Hid (CameK w t b p h q) := ht
  clear hc ht
  obtain ⟨W0, hW0⟩ : ∃ W0, (w.alloc (kc s a c g d)).alloc (kc t b p h q) = W0 := ⟨_, rfl⟩
  have HB : Hid (Below w.heap.size w W0) := by rw [← hW0]; exact ((Below.refl _ w).alloc (Nat.le_refl _) _).alloc (by simp) _
  have HPS : Hid (W0.heap[w.heap.size]? = some (kc s a c g d)) := by rw [← hW0]; exact old_block ((Below.refl _ (w.alloc (kc s a c g d))).alloc (Nat.le_refl _) _) (heap_alloc_new w _)
  have HPT : Hid (W0.heap[w.heap.size + 1]? = some (kc t b p h q)) := by rw [← hW0]; exact second_new w _ _
  obtain ⟨cs, hcs⟩ : ∃ cs, Hid (cs = kcells s a c g d) := ⟨_, rfl⟩
  obtain ⟨ct, hct⟩ : ∃ ct, Hid (ct = kcells t b p h q) := ⟨_, rfl⟩
  have hs9 : (Try.prog.info? 26).map (·.size) = some 9 := by kernel_rfl
  have hsz : (Try.prog.info? 26).map (·.size) = some cs.length := by rw [show cs.length = 9 by rw [hcs.out]; rfl]; exact hs9
  have htz : (Try.prog.info? 26).map (·.size) = some ct.length := by rw [show ct.length = 9 by rw [hct.out]; rfl]; exact hs9
  have HRS : Hid (∀ W, Below W0.heap.size W0 W → W.rangeAt w.heap.size 0 cs) := fun W hb => by rw [hcs.out]; exact k_range (old_block hb HPS.out)
  have HRT : Hid (∀ W, Below W0.heap.size W0 W → W.rangeAt (w.heap.size + 1) 0 ct) := fun W hb => by rw [hct.out]; exact k_range (old_block hb HPT.out)
  have HLS : Hid (∀ W, Calls Try.prog 9 #[.agg cs.toArray, sv noS none 0 none 0] W fun e w' => e = .returned (.bool (largeK s noS)) ∧ Hid (Below W.heap.size W w')) := fun W => by rw [hcs.out]; exact vlarge_any s a c g d noS none 0 none 0 W
  have HLT : Hid (∀ W, Calls Try.prog 9 #[.agg ct.toArray, sv noS none 0 none 0] W fun e w' => e = .returned (.bool (largeK t noS)) ∧ Hid (Below W.heap.size W w')) := fun W => by rw [hct.out]; exact vlarge_any t b p h q noS none 0 none 0 W
  have HS1 : Hid (∀ W, Below w.heap.size w W → Calls Try.prog 22 #[kv s a c g d, kv t b p h q] W fun e w' => e = .returned (.bool (sameK s t)) ∧ Hid (Below W.heap.size W w')) := fun W hb => vsame_any s t a c g d b p h q W (HC.out.byt.later hb) (HC.out.got.later hb) (HT.out.byt.later hb) (HT.out.got.later hb) HC.out.zg HT.out.zg
  have HS2 : Hid (∀ W, Below w.heap.size w W → Calls Try.prog 13 #[kv s a c g d, kv t b p h q] W fun e w' => e = .returned (.bool (sameK s t)) ∧ Hid (Below W.heap.size W w')) := fun W hb => rsameK_any s t a c g d b p h q W (HC.out.byt.later hb) (HC.out.got.later hb) (HT.out.byt.later hb) (HT.out.got.later hb) HC.out.zg HT.out.zg
  have HS3 : Hid (∀ W a' c' g' d', Below w.heap.size w W → CameK W s a' c' g' d' → Calls Try.prog 22 #[kv s a c g d, kv s a' c' g' d'] W fun e w' => e = .returned (.bool true) ∧ Hid (Below W.heap.size W w')) := fun W a' c' g' d' hb hk => by
    have := vsame_any s s a c g d a' c' g' d' W (HC.out.byt.later hb) (HC.out.got.later hb) hk.byt hk.got HC.out.zg HC.out.zg
    rw [sameK_refl] at this
    exact this
  obtain ⟨SM, hSM⟩ : ∃ SM, sameK s t = SM := ⟨_, rfl⟩
  rw [hSM] at HS1 HS2
  clear hSM
  have hSS : (SM != SM) = false := by simp
  cases hlg : largeK s noS with
  | true =>
    rw [hlg] at HLS
    go_enter Try.func5, Try.ntmps5
    go_wp2_with (first | (go_at_call 8; refine (wakes_any _).mono ?_; rintro e w1 ⟨rfl, hb1⟩; have HBN : Hid (Below W0.heap.size W0 w1) := hb1) | (refine wpList_load_want (by rfl) 26 _ rfl w.heap.size 0 (by rfl) cs _ (HRS.out _ HBN.out) Try.underlying26 rfl hsz ?_) | (refine wpList_load_want (by rfl) 26 _ rfl (w.heap.size + 1) 0 (by rfl) ct _ (HRT.out _ HBN.out) Try.underlying26 rfl htz ?_) | (go_at_call 9; first | (have gd := HM1; refine (HLT.out _).mono ?_; rintro e w2 ⟨rfl, hb2⟩; have HBN : Hid (Below W0.heap.size W0 w2) := below_of HBN.out hb2.out) | (refine (HLS.out _).mono ?_; rintro e w2 ⟨rfl, hb2⟩; have HBN : Hid (Below W0.heap.size W0 w2) := below_of HBN.out hb2.out; have HM1 : True := trivial)))
    go_ret
    exact ⟨rfl, below_of HB.out HBN.out⟩
  | false =>
    have hln : s.byt.length ≤ 5000 ∧ s.got.length ≤ 5000 := by
      unfold largeK at hlg
      simp only [Bool.or_eq_false_iff, decide_eq_false_iff_not] at hlg
      omega
    have HCP : Hid (∀ W, Below w.heap.size w W → Calls Try.prog 11 #[kv s a c g d] W fun e w' => ∃ a' c' g' d', e = .returned (kv s a' c' g' d') ∧ Hid (Below W.heap.size W w' ∧ CameK w' s a' c' g' d')) := fun W hb => vcop_any s a c g d W (HC.out.later hb) hln.1 hln.2
    cases hlg2 : largeK t noS with
    | true =>
      rw [hlg] at HLS
      rw [hlg2] at HLT
      go_enter Try.func5, Try.ntmps5
      go_wp2_with (first | (go_at_call 8; refine (wakes_any _).mono ?_; rintro e w1 ⟨rfl, hb1⟩; have HBN : Hid (Below W0.heap.size W0 w1) := hb1) | (refine wpList_load_want (by rfl) 26 _ rfl w.heap.size 0 (by rfl) cs _ (HRS.out _ HBN.out) Try.underlying26 rfl hsz ?_) | (refine wpList_load_want (by rfl) 26 _ rfl (w.heap.size + 1) 0 (by rfl) ct _ (HRT.out _ HBN.out) Try.underlying26 rfl htz ?_) | (go_at_call 9; first | (have gd := HM1; refine (HLT.out _).mono ?_; rintro e w2 ⟨rfl, hb2⟩; have HBN : Hid (Below W0.heap.size W0 w2) := below_of HBN.out hb2.out) | (refine (HLS.out _).mono ?_; rintro e w2 ⟨rfl, hb2⟩; have HBN : Hid (Below W0.heap.size W0 w2) := below_of HBN.out hb2.out; have HM1 : True := trivial)))
      go_ret
      exact ⟨rfl, below_of HB.out HBN.out⟩
    | false =>
      rw [hlg] at HLS
      rw [hlg2] at HLT
      go_enter Try.func5, Try.ntmps5
      go_wp2_with (first | (go_at_call 8; refine (wakes_any _).mono ?_; rintro e w1 ⟨rfl, hb1⟩; have HBN : Hid (Below W0.heap.size W0 w1) := hb1) | (refine wpList_load_want (by rfl) 26 _ rfl w.heap.size 0 (by rfl) cs _ (HRS.out _ HBN.out) Try.underlying26 rfl hsz ?_) | (refine wpList_load_want (by rfl) 26 _ rfl (w.heap.size + 1) 0 (by rfl) ct _ (HRT.out _ HBN.out) Try.underlying26 rfl htz ?_) | (go_at_call 9; first | (have gd := HM1; refine (HLT.out _).mono ?_; rintro e w2 ⟨rfl, hb2⟩; have HBN : Hid (Below W0.heap.size W0 w2) := below_of HBN.out hb2.out) | (refine (HLS.out _).mono ?_; rintro e w2 ⟨rfl, hb2⟩; have HBN : Hid (Below W0.heap.size W0 w2) := below_of HBN.out hb2.out; have HM1 : True := trivial)))
      obtain ⟨e0, e1, e2, e3, e4, e5, e6, e7, e8⟩ := kcells_get (old_block HBN.out HPS.out)
      obtain ⟨f0, f1, f2, f3, f4, f5, f6, f7, f8⟩ := kcells_get (old_block HBN.out HPT.out)
      have hX : Below w2.heap.size w2 w2.drew := (Below.refl _ _).drew
      have HW2 : Hid (Below w.heap.size w w2) := below_of HB.out HBN.out
      go_region_held3 (fun W' => W'.cell? ⟨w.heap.size, 0, none⟩ = some (.int .i64 s.src) ∧ W'.cell? ⟨w.heap.size, 1, none⟩ = some (.int .u32 (s.ses : Nat)) ∧ W'.cell? ⟨w.heap.size, 2, none⟩ = some (.int .i64 s.tot) ∧ W'.cell? ⟨w.heap.size, 3, none⟩ = some (.slice a s.byt.length c) ∧ W'.cell? ⟨w.heap.size, 4, none⟩ = some (.slice g s.got.length d) ∧ W'.cell? ⟨w.heap.size, 5, none⟩ = some (.int .u32 (s.ser : Nat)) ∧ W'.cell? ⟨w.heap.size, 6, none⟩ = some (.int .i64 s.sta) ∧ W'.cell? ⟨w.heap.size, 7, none⟩ = some (.int .i64 s.lif) ∧ W'.cell? ⟨w.heap.size, 8, none⟩ = some (.int .i64 s.due) ∧ W'.cell? ⟨w.heap.size + 1, 0, none⟩ = some (.int .i64 t.src) ∧ W'.cell? ⟨w.heap.size + 1, 1, none⟩ = some (.int .u32 (t.ses : Nat)) ∧ W'.cell? ⟨w.heap.size + 1, 2, none⟩ = some (.int .i64 t.tot) ∧ W'.cell? ⟨w.heap.size + 1, 3, none⟩ = some (.slice b t.byt.length p) ∧ W'.cell? ⟨w.heap.size + 1, 4, none⟩ = some (.slice h t.got.length q) ∧ W'.cell? ⟨w.heap.size + 1, 5, none⟩ = some (.int .u32 (t.ser : Nat)) ∧ W'.cell? ⟨w.heap.size + 1, 6, none⟩ = some (.int .i64 t.sta) ∧ W'.cell? ⟨w.heap.size + 1, 7, none⟩ = some (.int .i64 t.lif) ∧ W'.cell? ⟨w.heap.size + 1, 8, none⟩ = some (.int .i64 t.due)) (first | exact ⟨e0, e1, e2, e3, e4, e5, e6, e7, e8, f0, f1, f2, f3, f4, f5, f6, f7, f8⟩ | exact ⟨cell_later hX e0, cell_later hX e1, cell_later hX e2, cell_later hX e3, cell_later hX e4, cell_later hX e5, cell_later hX e6, cell_later hX e7, cell_later hX e8, cell_later hX f0, cell_later hX f1, cell_later hX f2, cell_later hX f3, cell_later hX f4, cell_later hX f5, cell_later hX f6, cell_later hX f7, cell_later hX f8⟩) (first
        | (go_at_call 22; have hq4' := hq4; refine (HS3.out _ a4 c4 g4 d4 (below_of HW2.out hX) hq4.out.2).mono ?_; rintro e w5 ⟨rfl, hq5⟩; have hX := below_of hX hq5.out)
        | (go_at_call 11; refine (HCP.out _ (below_of HW2.out hX)).mono ?_; rintro e w4 ⟨a4, c4, g4, d4, rfl, hq4⟩; have hX := below_of hX hq4.out.1)
        | (go_at_call 13; refine (HS2.out _ (below_of HW2.out hX)).mono ?_; rintro e w3 ⟨rfl, hq3⟩; have hX := below_of hX hq3.out)
        | (go_at_call 22; refine (HS1.out _ (below_of HW2.out hX)).mono ?_; rintro e w6 ⟨rfl, hq2⟩; have hX := below_of hX hq2.out))
      have HBN : Hid (Below W0.heap.size W0 w5) := below_of HBN.out hX
      clear e0 e1 e2 e3 e4 e5 e6 e7 e8 f0 f1 f2 f3 f4 f5 f6 f7 f8 hX
      have HRI : Hid (∀ W, Below w.heap.size w W → Calls Try.prog 12 #[kv s a c g d] W fun e w' => e = .returned (.bool (okK s)) ∧ Hid (Below W.heap.size W w')) := fun W hb => rrightAll_any s a c g d W (HC.out.later hb)
      have HCK : Hid (∀ W a' c' g' d', CameK W s a' c' g' d' → Calls Try.prog 25 #[kv s a' c' g' d'] W fun e w' => e = .returned (.int .i64 (chkK s)) ∧ Hid (Below W.heap.size W w')) := fun W a' c' g' d' hk => vcheck_any s a' c' g' d' W hk
      have HMI : Hid (∀ W a' c' g' d', CameK W s a' c' g' d' → Calls Try.prog 24 #[kv s a' c' g' d'] W fun e w' => e = .returned (.int .i64 (missK s)) ∧ Hid (Below W.heap.size W w')) := fun W a' c' g' d' hk => vmiss_any s a' c' g' d' W hk (fun h => ⟨(smallK h).1, (smallK h).2.2.2.2.1⟩)
      have HBK : Hid (∀ W a' c' g' d', CameK W s a' c' g' d' → Calls Try.prog 23 #[kv s a' c' g' d'] W fun e w' => ∃ a' c', e = .returned (.tuple #[.slice a' (blockK s).1.length c', .int .i64 (blockK s).2]) ∧ Hid (Below W.heap.size W w' ∧ w'.ownsRow W.heap.size 5 1 (.slice a' (blockK s).1.length c') (blockK s).1.length (cells (blockK s).1))) := fun W a' c' g' d' hk => vblock_any s a' c' g' d' W hk (fun h => by have := smallK h; omega)
      clear HS1 HS2 HS3 HLS HLT HRS HRT hsz htz hs9 hcs hct hlg hlg2 hln hSS HW2
      cases hok : okK s with
      | false =>
        have hE : blockK s = ([], 250) := by unfold blockK; rw [if_neg (by simp [hok])]
        have hM : missK s = 0 := by unfold missK; rw [if_neg (by simp [hok])]
        rw [hE] at HBK
        rw [hM] at HMI
        rw [chkK_no hok] at HCK
        rw [hok] at HRI
        obtain ⟨e0, e1, e2, e3, e4, e5, e6, e7, e8⟩ := kcells_get (old_block HBN.out HPS.out)
        go_wp2_with (first | (go_at_call 23; refine (HBK.out _ _ _ _ _ HC7.out).mono ?_; rintro e w8 ⟨a8, c8, rfl, hq8⟩; have HBN : Hid (Below W0.heap.size W0 w8) := below_of HBN.out hq8.out.1; obtain ⟨e0, e1, e2, e3, e4, e5, e6, e7, e8⟩ := kcells_get (old_block HBN.out HPS.out)) | (go_at_call 24; refine (HMI.out _ _ _ _ _ HC7.out).mono ?_; rintro e w9 ⟨rfl, hb9⟩; have HBN : Hid (Below W0.heap.size W0 w9) := below_of HBN.out hb9.out; obtain ⟨e0, e1, e2, e3, e4, e5, e6, e7, e8⟩ := kcells_get (old_block HBN.out HPS.out)) | (go_at_call 25; refine (HCK.out _ _ _ _ _ HC7.out).mono ?_; rintro e w10 ⟨rfl, hb10⟩; have HBN : Hid (Below W0.heap.size W0 w10) := below_of HBN.out hb10.out; obtain ⟨e0, e1, e2, e3, e4, e5, e6, e7, e8⟩ := kcells_get (old_block HBN.out HPS.out)) | (go_at_call 12; refine (HRI.out _ (below_of HB.out HBN.out)).mono ?_; rintro e w11 ⟨rfl, hb11⟩; have HBN : Hid (Below W0.heap.size W0 w11) := below_of HBN.out hb11.out; obtain ⟨e0, e1, e2, e3, e4, e5, e6, e7, e8⟩ := kcells_get (old_block HBN.out HPS.out)) | (go_at_call 11; refine (HCP.out _ (below_of HB.out HBN.out)).mono ?_; rintro e w7 ⟨a7, c7, g7, d7, rfl, hq7⟩; have HBN : Hid (Below W0.heap.size W0 w7) := below_of HBN.out hq7.out.1; have HC7 : Hid (CameK w7 s a7 c7 g7 d7) := hq7.out.2; obtain ⟨e0, e1, e2, e3, e4, e5, e6, e7, e8⟩ := kcells_get (old_block HBN.out HPS.out)))
        go_ret
        exact ⟨rfl, below_of HB.out HBN.out⟩
      | true =>
        obtain ⟨⟨ht1, ht2⟩, _, _, _, hcl, _⟩ := smallK hok
        have HSW := sum_whole ht1 hcl
        have hM : missK s = s.tot - sumN s.got := by unfold missK; rw [if_pos hok]
        have HIN : Hid (∀ W, Below w.heap.size w W → ∀ x : Int, Calls Try.prog 26 #[.slice g s.got.length d, .int .i64 x] W fun e w' => e = .returned (.bool (cov s.got x)) ∧ ∃ n, w' = W.drewN n) := fun W hb x => rin_any g d s.got x W (HC.out.got.later hb) HC.out.zg (fun c hcm => clsOk_all s.tot s.got 0 (by omega) ht2 hcl c hcm)
        have HCN : Hid (∀ T : Nat, (T : Int) = s.tot → cnt s.got T = sumN s.got) := fun T e => cnt_all (least := 0) (by omega) (by rw [e]; exact hcl)
        have hm0 : 0 ≤ s.tot - sumN s.got ∧ s.tot - sumN s.got ≤ 512 := by
          have hp : 0 ≤ sumN s.got := (sumN_le hcl).1
          have hq : cnt s.got s.tot.toNat = sumN s.got := HCN.out _ (by omega)
          have := cnt_le s.got s.tot.toNat
          omega
        have HMW : Hid (wholeK s = decide (s.tot - sumN s.got = 0)) := by
          show _ = _
          unfold wholeK
          rw [decide_eq_decide, ← HSW]
          omega
        have hCN := HCN.out
        generalize hMM : s.tot - sumN s.got = M at hM hm0 HMW
        have HMM : Hid (∀ T : Nat, (T : Int) = s.tot → (T : Int) - cnt s.got T = M) := fun T e => by rw [hCN T e, ← hMM, e]
        obtain ⟨BL, BE, hBL⟩ : ∃ BL BE, blockK s = (BL, BE) := ⟨_, _, rfl⟩
        rw [hBL] at HBK
        have HBL : Hid (blockK s = (BL, BE)) := hBL
        rw [hM] at HMI
        rw [chkK_ok hok] at HCK
        rw [hok] at HRI
        clear hBL
        clear hCN HCN HSW hcl hM hMM
        obtain ⟨e0, e1, e2, e3, e4, e5, e6, e7, e8⟩ := kcells_get (old_block HBN.out HPS.out)
        go_wp2_with (first | (go_at_call 23; refine (HBK.out _ _ _ _ _ HC7.out).mono ?_; rintro e w8 ⟨a8, c8, rfl, hq8⟩; have HBN : Hid (Below W0.heap.size W0 w8) := below_of HBN.out hq8.out.1; have H8 : Hid (Below w8.heap.size w8 w8) := Below.refl _ _; have HOW := hq8; obtain ⟨e0, e1, e2, e3, e4, e5, e6, e7, e8⟩ := kcells_get (old_block HBN.out HPS.out)) | (go_at_call 24; refine (HMI.out _ _ _ _ _ HC7.out).mono ?_; rintro e w9 ⟨rfl, hb9⟩; have HBN : Hid (Below W0.heap.size W0 w9) := below_of HBN.out hb9.out; have H8 : Hid (Below w8.heap.size w8 w9) := below_of H8.out hb9.out; obtain ⟨e0, e1, e2, e3, e4, e5, e6, e7, e8⟩ := kcells_get (old_block HBN.out HPS.out)) | (go_at_call 25; refine (HCK.out _ _ _ _ _ HC7.out).mono ?_; rintro e w10 ⟨rfl, hb10⟩; have HBN : Hid (Below W0.heap.size W0 w10) := below_of HBN.out hb10.out; have H8 : Hid (Below w8.heap.size w8 w10) := below_of H8.out hb10.out; obtain ⟨e0, e1, e2, e3, e4, e5, e6, e7, e8⟩ := kcells_get (old_block HBN.out HPS.out)) | (go_at_call 12; refine (HRI.out _ (below_of HB.out HBN.out)).mono ?_; rintro e w11 ⟨rfl, hb11⟩; have HBN : Hid (Below W0.heap.size W0 w11) := below_of HBN.out hb11.out; have H8 : Hid (Below w8.heap.size w8 w11) := below_of H8.out hb11.out; obtain ⟨e0, e1, e2, e3, e4, e5, e6, e7, e8⟩ := kcells_get (old_block HBN.out HPS.out)) | (go_at_call 11; refine (HCP.out _ (below_of HB.out HBN.out)).mono ?_; rintro e w7 ⟨a7, c7, g7, d7, rfl, hq7⟩; have HBN : Hid (Below W0.heap.size W0 w7) := below_of HBN.out hq7.out.1; have HC7 : Hid (CameK w7 s a7 c7 g7 d7) := hq7.out.2; (first | have H8 : Hid (Below w8.heap.size w8 w7) := below_of H8.out hq7.out.1 | skip); obtain ⟨e0, e1, e2, e3, e4, e5, e6, e7, e8⟩ := kcells_get (old_block HBN.out HPS.out)))
        have HBNL := HBN
        have H8L := H8
        clear e0 e1 e2 e3 e4 e5 e6 e7 e8 HRI HMI
        go_loopw [8, 65] (fun u i wr => ∃ k : Nat, (k : Int) ≤ s.tot ∧ i = .int .i64 k ∧ u = .int .i64 ((k : Int) - cnt s.got k) ∧ Hid (Below W0.heap.size W0 wr ∧ Below w8.heap.size w8 wr)) (fun _ i _ => (s.tot - intOf i).toNat)
        case atStart => exact ⟨0, by omega, rfl, rfl, HBNL.out, H8L.out⟩
        case round =>
          obtain ⟨k, hk, rfl, rfl, HW⟩ := hrel
          have HBN : Hid (Below W0.heap.size W0 wr) := HW.out.1
          have H8 : Hid (Below w8.heap.size w8 wr) := HW.out.2
          obtain ⟨e0, e1, e2, e3, e4, e5, e6, e7, e8⟩ := kcells_get (old_block HBN.out HPS.out)
          have hc0 := cnt_le s.got k
          by_cases hlt : (k : Int) < s.tot
          · have HNX : Hid (cnt s.got (k + 1) = cnt s.got k + (if cov s.got k = true then 1 else 0)) := rfl
            have HWN : Hid (∀ n, Below W0.heap.size W0 (wr.drewN n) ∧ Below w8.heap.size w8 (wr.drewN n)) := fun n => ⟨below_drewN HBN.out n, below_drewN H8.out n⟩
            cases hcv : cov s.got (k : Int) with
            | true =>
              have HIN2 : Hid (∀ W, Below w.heap.size w W → Calls Try.prog 26 #[.slice g s.got.length d, .int .i64 (k : Int)] W fun e w' => e = .returned (.bool true) ∧ ∃ n, w' = W.drewN n) := fun W hb => by rw [← hcv]; exact HIN.out W hb k
              rw [hcv, if_pos rfl] at HNX
              go_wp2_with (go_at_call 26; refine (HIN2.out _ (below_of HB.out HBN.out)).mono ?_; rintro e w13 ⟨rfl, n13, rfl⟩)
              go_roundw
              case rel => repeat (first | exact ⟨k + 1, by omega, by go_num, by rw [HNX.out]; go_num, HWN.out _⟩ | refine ⟨_, ?_⟩)
              case measure => simp [intOf]; omega
            | false =>
              have HIN2 : Hid (∀ W, Below w.heap.size w W → Calls Try.prog 26 #[.slice g s.got.length d, .int .i64 (k : Int)] W fun e w' => e = .returned (.bool false) ∧ ∃ n, w' = W.drewN n) := fun W hb => by rw [← hcv]; exact HIN.out W hb k
              rw [hcv, if_neg (by simp)] at HNX
              go_wp2_with (go_at_call 26; refine (HIN2.out _ (below_of HB.out HBN.out)).mono ?_; rintro e w13 ⟨rfl, n13, rfl⟩)
              go_roundw
              case rel => repeat (first | exact ⟨k + 1, by omega, by go_num, by rw [HNX.out]; go_num, HWN.out _⟩ | refine ⟨_, ?_⟩)
              case measure => simp [intOf]; omega
          · have hMk : (k : Int) - cnt s.got k = M := HMM.out k (by omega)
            rw [hMk]
            clear hMk hc0
            have hMM2 : (M != M) = false := by simp
            have hbk := HBL.out
            unfold blockK at hbk
            rw [if_pos hok] at hbk
            cases hw : wholeK s with
            | true =>
              rw [hw, if_pos rfl] at hbk
              obtain ⟨rfl, rfl⟩ := Prod.mk.inj hbk
              have hM0 : decide ((0 : Int) < M) = false := by
                have := HMW.out
                rw [hw] at this
                have h0 : M = 0 := by simpa using this.symm
                rw [decide_eq_false_iff_not]; omega
              have HSA : Hid (∀ W, Below w8.heap.size w8 W → Below w.heap.size w W → Calls Try.prog 27 #[.slice a8 s.byt.length c8, .slice a s.byt.length c] W fun e w' => e = .returned (.bool true) ∧ ∃ n, w' = W.drewN n) := fun W hb8 hb => by
                obtain ⟨a9, c9, e9, _, _, hrow⟩ := own_row HOW.out.2 HC.out.byt.1 HC.out.byt.2.1
                cases e9
                have := rsame_any a8 a c8 c s.byt s.byt W (hrow.later hb8) (HC.out.byt.later hb)
                rw [decide_eq_true rfl] at this
                exact this
              clear hbk HBL HMW HMM hw
              go_wp2_with (first | (go_at_call 27; refine (HSA.out _ H8.out (below_of HB.out HBN.out)).mono ?_; rintro e w12 ⟨rfl, n12, rfl⟩) | (go_at_call 25; refine (HCK.out _ _ _ _ _ HC7.out).mono ?_; rintro e w10 ⟨rfl, hb10⟩; have HBN : Hid (Below W0.heap.size W0 w10) := below_of HBN.out hb10.out; have H8 : Hid (Below w8.heap.size w8 w10) := below_of H8.out hb10.out; obtain ⟨e0, e1, e2, e3, e4, e5, e6, e7, e8⟩ := kcells_get (old_block HBN.out HPS.out)) | (go_at_call 11; refine (HCP.out _ (below_of HB.out HBN.out)).mono ?_; rintro e w7 ⟨a7, c7, g7, d7, rfl, hq7⟩; have HBN : Hid (Below W0.heap.size W0 w7) := below_of HBN.out hq7.out.1; have HC7 : Hid (CameK w7 s a7 c7 g7 d7) := hq7.out.2; (first | have H8 : Hid (Below w8.heap.size w8 w7) := below_of H8.out hq7.out.1 | skip); obtain ⟨e0, e1, e2, e3, e4, e5, e6, e7, e8⟩ := kcells_get (old_block HBN.out HPS.out)))
              go_ret
              exact ⟨rfl, by first | exact below_drewN (below_of HB.out HBN.out) _ | exact below_of HB.out HBN.out⟩
            | false =>
              rw [hw, if_neg (by simp)] at hbk
              obtain ⟨rfl, rfl⟩ := Prod.mk.inj hbk
              have hM0 : decide ((0 : Int) < M) = true := by
                have := HMW.out
                rw [hw] at this
                have h0 : ¬ M = 0 := by simpa using this.symm
                rw [decide_eq_true_iff]; omega
              have HSA : Hid True := trivial
              clear hbk HBL HMW HMM hw
              go_wp2_with (first | (go_at_call 27; refine (HSA.out _ H8.out (below_of HB.out HBN.out)).mono ?_; rintro e w12 ⟨rfl, n12, rfl⟩) | (go_at_call 25; refine (HCK.out _ _ _ _ _ HC7.out).mono ?_; rintro e w10 ⟨rfl, hb10⟩; have HBN : Hid (Below W0.heap.size W0 w10) := below_of HBN.out hb10.out; have H8 : Hid (Below w8.heap.size w8 w10) := below_of H8.out hb10.out; obtain ⟨e0, e1, e2, e3, e4, e5, e6, e7, e8⟩ := kcells_get (old_block HBN.out HPS.out)) | (go_at_call 11; refine (HCP.out _ (below_of HB.out HBN.out)).mono ?_; rintro e w7 ⟨a7, c7, g7, d7, rfl, hq7⟩; have HBN : Hid (Below W0.heap.size W0 w7) := below_of HBN.out hq7.out.1; have HC7 : Hid (CameK w7 s a7 c7 g7 d7) := hq7.out.2; (first | have H8 : Hid (Below w8.heap.size w8 w7) := below_of H8.out hq7.out.1 | skip); obtain ⟨e0, e1, e2, e3, e4, e5, e6, e7, e8⟩ := kcells_get (old_block HBN.out HPS.out)))
              go_ret
              exact ⟨rfl, by first | exact below_drewN (below_of HB.out HBN.out) _ | exact below_of HB.out HBN.out⟩
end Go.Proofs.Ytfnkbjfjekfdnaa
