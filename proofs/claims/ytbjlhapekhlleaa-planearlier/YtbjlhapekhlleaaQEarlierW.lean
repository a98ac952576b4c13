/- The walk of PlanEarlier. -/
import Derived.Test.YtbjlhapekhlleaaQEarlier
namespace Go.Proofs.Ytbjlhapekhlleaa
open Go.RowKit
set_option linter.unusedVariables false
set_option maxRecDepth 20000 in
set_option maxHeartbeats 8000000 in
theorem earlier_any (w : World) (nn : Int) (a : Option Addr) (k : Nat) (X : List Ct) (hk1 : X.length ≤ k) (hk2 : k ≤ maxLen) (hX : CtAt (fun _ => False) w a X) (f t n e : Int) (he64 : e ≤ 9223372036854775807) (ma : Option Addr) (mk : Nat) (M : List Int) (hM0 : M.length ≤ mk) (hM1 : mk ≤ maxLen) (hM2 : ∀ x ∈ M, In64 x) (hM : RowI (fun _ => False) w ma M) :
    Calls Try.prog 6 #[pv nn a X.length k, .agg #[.int .i64 f, .int .i64 t, .int .i64 n, .int .i64 e], .slice ma M.length mk] w fun r w' => r = .returned (.bool true) ∧ Hid (Below w.heap.size w w') := by
  obtain ⟨m, hm⟩ : ∃ m, X.length = m := ⟨_, rfl⟩
  obtain ⟨mm, hmm⟩ : ∃ mm, M.length = mm := ⟨_, rfl⟩
  rw [hm, hmm]
  rw [hm] at hk1
  rw [hmm] at hM0
  have HPB : Hid (PB w nn a m k f t n e ((w.alloc (.cells #[.int .i64 nn, .slice a m k] 24)).alloc (.cells #[.int .i64 f, .int .i64 t, .int .i64 n, .int .i64 e] 27))) := by
    obtain ⟨W2, hW2, z2, zb, d0, d1⟩ := alloc2w w (.cells #[.int .i64 nn, .slice a m k] 24) (.cells #[.int .i64 f, .int .i64 t, .int .i64 n, .int .i64 e] 27)
    rw [← hW2]
    exact ⟨d0, d1, zb⟩
  have HV : Hid (∀ W, Below w.heap.size w W → Calls Try.prog 13 #[pv nn a m k] W fun r w' => ∃ va vc, r = .returned (.slice va (vols nn X).length vc) ∧ Hid (w'.ownsRow W.heap.size 3 1 (.slice va (vols nn X).length vc) (vols nn X).length (icells (vols nn X)) ∧ RowI (fun _ => False) w' va (vols nn X) ∧ (vols nn X).length ≤ maxLen ∧ Below W.heap.size W w')) := fun W hb => by
    refine (volumes_any nn a m k X W hm hk1 hk2 (hX.later hb)).mono ?_
    rintro r w' ⟨v, rfl, hv⟩
    obtain ⟨va, vc, rfl, _, h3, h4, hr⟩ := iown_row (N := fun _ => False) hv.out.1 (fun _ _ h => h)
    exact ⟨va, vc, rfl, hv.out.1, hr, by omega, hv.out.2⟩
  have HR : Hid (∀ (W : World) (la : Option Addr) (lm lc : Nat) (L : List Int) (now need : Int), L.length = lm → Below w.heap.size w W → lm ≤ maxLen → RowI (fun _ => False) W la L → Calls Try.prog 8 #[pv nn a m k, .slice la lm lc, .int .i64 f, .int .i64 t, .int .i64 now, .int .i64 need] W fun r w' => r = .returned (.tuple #[.int .i64 (rtR nn X L f t now need).1, .int .i64 (rtR nn X L f t now need).2.1, .int .i64 (rtR nn X L f t now need).2.2]) ∧ Hid (Below W.heap.size W w')) := fun W la lm lc L now need hl hb hlm hL => route_any nn f t now need a la m k lm lc X L W hm hk1 hk2 hl hlm (hX.later hb) hL
  have HMM : Hid (∀ W, Below w.heap.size w W → RowI (fun _ => False) W ma M) := fun W hb => hM.later hb
  unfold pv at HV HR ⊢
  obtain ⟨lv, hlv⟩ : ∃ lv, (vols nn X).length = lv := ⟨_, rfl⟩
  rw [hlv] at HV
  have HX : Hid (X.length = m ∧ M.length = mm ∧ (vols nn X).length = lv ∧ ∀ x ∈ M, In64 x) := ⟨hm, hmm, hlv, hM2⟩
  clear hX hM hm hmm hlv hM2
  go_enter Try.func6, Try.ntmps6
  go_wp2_with fail
  go_at_call 7
  refine (wakes_any _).mono ?_
  rintro r w1 ⟨rfl, H1⟩
  have HP1 : Hid (PB w nn a m k f t n e w1) := HPB.out.later H1.out
  obtain ⟨p0, p1, a0, a1, a2, a3⟩ := HP1.out.cells
  clear HPB
  go_wp2_with fail
  go_at_call 13
  refine (HV.out _ HP1.out.bel).mono ?_
  rintro r w2 ⟨va, vc, rfl, H2⟩
  have HP2 : Hid (PB w nn a m k f t n e w2) := HP1.out.later H2.out.2.2.2
  clear p0 p1 a0 a1 a2 a3
  obtain ⟨p0, p1, a0, a1, a2, a3⟩ := HP2.out.cells
  go_wp2_with fail
  go_at_call 8
  refine (HR.out _ va lv vc (vols nn X) n e HX.out.2.2.1 HP2.out.bel H2.out.2.2.1 H2.out.2.1).mono ?_
  rintro r w3 ⟨rfl, H3⟩
  have HP3 : Hid (PB w nn a m k f t n e w3) := HP2.out.later H3.out
  clear p0 p1 a0 a1 a2 a3
  obtain ⟨p0, p1, a0, a1, a2, a3⟩ := HP3.out.cells
  obtain ⟨R, HRR⟩ : ∃ R, Hid (rtR nn X (vols nn X) f t n e = R) := ⟨_, rfl⟩
  rw [HRR.out]
  by_cases he : R.2.2 = 0
  · have hR : rtR nn X (vols nn X) f t n e = (R.1, R.2.1, 0) := by rw [HRR.out]; rw [← he]
    obtain ⟨ok1, ok2, ok3, ok4, ok5⟩ := rt_ok hR
    have hlvm : lv = m := by
      have h1 := HX.out.2.2.1
      have h2 := HX.out.1
      unfold vols at h1
      rw [if_pos ok1, List.length_map] at h1
      omega
    have h0 : 0 < lv := by have := HX.out.1; omega
    have h24 : lv ≤ 24 := by have := (okP_of ok1).len; have := HX.out.1; omega
    obtain ⟨g, c', hv, hgb, hgc, hgm, hll, HLf⟩ := LfB.of H2.out.1 h0
    cases hv
    have HL0 : Hid (LfB w3 g (moreK (vols nn X) M 0) ∧ w1.heap.size ≤ g ∧ Below w.heap.size w w3 ∧ PB w nn a m k f t n e w3) := ⟨HLf.off H3.out, hgb, HP3.out.bel, HP3.out⟩
    have HOK : Hid (rtR nn X (vols nn X) f t n e = (R.1, R.2.1, 0)) := hR
    have hw1 : w.heap.size + 1 < w1.heap.size := (Array.getElem?_eq_some_iff.1 HP1.out.q).1
    have hgne : w.heap.size + 1 < g := by omega
    clear hR ok1 ok2 hlvm HLf hgb hll
    go_wp2_with fail
    go_loopw [43] (fun i wr => ∃ j : Nat, j ≤ lv ∧ i = .int .i64 j ∧ Hid (LfB wr g (moreK (vols nn X) M j) ∧ Below w.heap.size w wr ∧ PB w nn a m k f t n e wr)) (fun i _ => lv - (intOf i).toNat)
    case atStart => exact ⟨0, Nat.zero_le _, rfl, HL0.out.1, HL0.out.2.2.1, HL0.out.2.2.2⟩
    case round =>
      obtain ⟨j, hj, rfl, HJ⟩ := hrel
      by_cases hlt : j < lv
      · by_cases hmo : j < mm
        · obtain ⟨x, hx⟩ : ∃ x, M[j]? = some x := ⟨_, List.getElem?_eq_getElem (by rw [HX.out.2.1]; exact hmo)⟩
          obtain ⟨b, o, rfl, cx⟩ := (HMM.out wr HJ.out.2.1).at hx
          obtain ⟨y, hy⟩ : ∃ y, (moreK (vols nn X) M j)[j]? = some y := ⟨_, List.getElem?_eq_getElem (by rw [more_len, HX.out.2.2.1]; exact hlt)⟩
          obtain ⟨cy, fy⟩ := HJ.out.1.cell hy
          have hyb := more_bd (M := M) vols_bd j j y hy
          have hxb := HX.out.2.2.2 x (List.mem_of_getElem? hx)
          unfold In64 at hxb
          obtain ⟨hx1, hx2⟩ := hxb
          have hy1 : 0 ≤ y := hyb.1
          have hy2 : y ≤ 1099511629000 := by omega
          have HM : Hid (moreK (vols nn X) M (j + 1) = (moreK (vols nn X) M j).set j (y + max x 0 % 1000)) := by
            show moreK _ _ _ = _
            rw [moreK, hx]
            simp only
            rw [List.getD_eq_getElem?_getD, hy]
            rfl
          have HJL : Hid (j < (moreK (vols nn X) M j).length) := (List.getElem?_eq_some_iff.1 hy).1
          have hmd1 : 0 ≤ max x 0 % 1000 := Int.emod_nonneg _ (by omega)
          have hmd2 : max x 0 % 1000 < 1000 := Int.emod_lt_of_pos _ (by omega)
          clear hx hy hyb
          go_wp2_with fail
          go_region
          go_wp2
          go_roundw
          case rel =>
            rw [show (if x < 0 then 0 else x) = max x 0 from by split <;> omega]
            have hof : Off (fun k => k = g) wr (wr.setCell ⟨g, j, none⟩ (.int .i64 (y + max x 0 % 1000))).drew := ((Off.refl (fun k => k = g) wr).setCell (p := ⟨g, j, none⟩) (.inr rfl) _).drew
            have hbl : Below w.heap.size w (wr.setCell ⟨g, j, none⟩ (.int .i64 (y + max x 0 % 1000))).drew := (HJ.out.2.1.setCell (p := ⟨g, j, none⟩) (by show _ ≤ g; omega) _).drew
            refine ⟨j + 1, by omega, by go_num, ?_⟩
            show LfB _ g _ ∧ _
            rw [HM.out]
            exact ⟨(HJ.out.1.set HJL.out _).off ((Below.refl _ _).drew), hbl, hof.at HJ.out.2.2.p (by omega), hof.at HJ.out.2.2.q (by omega), hbl⟩
          case measure => simp [intOf]; omega
        · go_wp2_with fail
          go_roundw
          case rel => exact ⟨j + 1, by omega, by go_num, by show LfB _ g _ ∧ _; rw [moreK, show M[j]? = none from List.getElem?_eq_none (by rw [HX.out.2.1]; omega)]; exact HJ.out⟩
          case measure => simp [intOf]; omega
      · obtain rfl : j = lv := by omega
        have HLL : Hid ((moreK (vols nn X) M j).length = j) := by show _ = _; rw [more_len]; exact HX.out.2.2.1
        obtain ⟨i1, u1, hu1, hul⟩ := rt_less (L' := moreK (vols nn X) M j) (need' := e / 2) (now' := n) (more_len _ _ _).symm (more_ge _ _ _) (fun l hl => by obtain ⟨q, hq⟩ := List.mem_iff_getElem?.1 hl; exact (more_bd vols_bd j q l hq).1) (by omega) (by omega) (Int.le_refl _) id HOK.out
        obtain ⟨i2, u2, hu2, hul2⟩ := rt_less (L' := moreK (vols nn X) M j) (need' := e) (now' := n / 2) (more_len _ _ _).symm (more_ge _ _ _) (fun l hl => by obtain ⟨q, hq⟩ := List.mem_iff_getElem?.1 hl; exact (more_bd vols_bd j q l hq).1) (Int.le_refl _) id (by omega) (by omega) HOK.out
        clear p0 p1 a0 a1 a2 a3
        obtain ⟨p0, p1, a0, a1, a2, a3⟩ := HJ.out.2.2.cells
        go_wp2_with fail
        go_at_call 8
        refine (HR.out _ _ _ _ (moreK (vols nn X) M j) _ _ HLL.out HJ.out.2.1 (by unfold maxLen; omega) (HJ.out.1.row id)).mono ?_
        rintro r w4 ⟨rfl, H4⟩
        rw [hu1]
        have HP4 : Hid (PB w nn a m k f t n e w4) := HJ.out.2.2.later H4.out
        clear p0 p1 a0 a1 a2 a3
        obtain ⟨p0, p1, a0, a1, a2, a3⟩ := HP4.out.cells
        go_wp2_with fail
        go_at_call 8
        refine (HR.out _ _ _ _ (moreK (vols nn X) M j) _ _ HLL.out HP4.out.bel (by unfold maxLen; omega) ((HJ.out.1.off H4.out).row id)).mono ?_
        rintro r w5 ⟨rfl, H5⟩
        rw [hu2]
        go_wp2
        go_ret
        exact ⟨rfl, below_of HP4.out.bel H5.out⟩
  · have hz := rt_zero (i := R.1) (t := R.2.1) (e := R.2.2) HRR.out he
    obtain ⟨R1, R2, R3⟩ := R
    simp only at hz he
    obtain ⟨rfl, rfl⟩ := hz
    have he' : (R3 == 0) = false := by simpa using he
    clear he
    go_wp2
    go_ret
    exact ⟨rfl, below_of HP2.out.bel H3.out⟩
end Go.Proofs.Ytbjlhapekhlleaa
