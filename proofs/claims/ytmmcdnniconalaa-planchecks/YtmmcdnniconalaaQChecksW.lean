/- The walk of PlanChecks. -/
import Derived.Test.YtmmcdnniconalaaQROpn
import Derived.Test.YtmmcdnniconalaaQEarlier
import Derived.Test.YtmmcdnniconalaaQRRight
import Derived.Deep.RegionHeld3
import Derived.Deep.CutRange
namespace Go.Proofs.Ytmmcdnniconalaa
open Go.RowKit
set_option linter.unusedVariables false
theorem vols_at {nn : Int} {X : List Ct} {j : Nat} {c : Ct} (h : okP nn X = true) (hc : X[j]? = some c) : (vols nn X).length = X.length ∧ (vols nn X).getD j 0 = vol c ∧ vol c = c.rt * (c.en - c.st) := by
  have hok := (okP_of h).each j c hc
  have h1 := hok.r1
  have h2 := hok.r2
  have h3 := hok.s0
  have h4 := hok.e2
  have h5 := hok.se
  unfold vols
  rw [if_pos h]
  refine ⟨by simp, ?_, ?_⟩
  · rw [List.getD_eq_getElem?_getD, List.getElem?_map, hc]; rfl
  · unfold vol
    rw [if_pos (by omega)]
theorem vols_lenY {nn : Int} {X : List Ct} (h : okP nn X = true) : (vols nn X).length = X.length := by unfold vols; rw [if_pos h]; simp
theorem vols_no {nn : Int} {X : List Ct} (h : okP nn X = false) : vols nn X = [] := by unfold vols; rw [if_neg (by simp [h])]
set_option maxRecDepth 20000 in
set_option maxHeartbeats 16000000 in
theorem checks_any (w : World) (nn : Int) (a : Option Addr) (k : Nat) (X : List Ct) (hk1 : X.length ≤ k) (hk2 : k ≤ maxLen) (h48 : X.length * 48 ≤ 140737488351232) (hX : CtAt (fun _ => False) w a X) (f t n e : Int) :
    Calls Try.prog 4 #[pv nn a X.length k, .agg #[.int .i64 f, .int .i64 t, .int .i64 n, .int .i64 e]] w fun r w' => r = .returned (.bool true) ∧ Hid (Below w.heap.size w w') := by
  obtain ⟨m, hm⟩ : ∃ m, X.length = m := ⟨_, rfl⟩
  rw [hm]
  rw [hm] at hk1 h48
  have hkx := hk2
  have HPB : Hid (PB w nn a m k f t n e ((w.alloc (.cells #[.int .i64 nn, .slice a m k] 24)).alloc (.cells #[.int .i64 f, .int .i64 t, .int .i64 n, .int .i64 e] 27))) := by
    obtain ⟨W2, hW2, z2, zb, d0, d1⟩ := alloc2w w (.cells #[.int .i64 nn, .slice a m k] 24) (.cells #[.int .i64 f, .int .i64 t, .int .i64 n, .int .i64 e] 27)
    rw [← hW2]
    exact ⟨d0, d1, zb⟩
  have HCO : Hid (∀ W, Below w.heap.size w W → Calls Try.prog 7 #[pv nn a m k] W fun r w' => ∃ g c, r = .returned (pv nn (some ⟨g, 0, none⟩) m c) ∧ Hid (CtAt (fun _ => False) w' (some ⟨g, 0, none⟩) X ∧ m ≤ c ∧ c ≤ maxLen ∧ W.heap.size ≤ g ∧ Below W.heap.size W w')) := fun W hb => copied_any nn a m k X W hm h48 (hX.later hb)
  obtain ⟨R, hR⟩ : ∃ R, opnR nn X f t n = R := ⟨_, rfl⟩
  have HRR : Hid (opnR nn X f t n = R) := hR
  have HOP : Hid (∀ (W : World) (g c : Nat), CtAt (fun _ => False) W (some ⟨g, 0, none⟩) X → (m ≤ c ∧ c ≤ maxLen) → Calls Try.prog 10 #[pv nn (some ⟨g, 0, none⟩) m c, .int .i64 f, .int .i64 t, .int .i64 n] W fun r w' => r = .returned (.tuple #[.int .i64 R.1, .int .i64 R.2]) ∧ Hid (Below W.heap.size W w')) := fun W g c hx hc => by
    have := open_any W nn f t n (some ⟨g, 0, none⟩) m c X hm hc.1 hc.2 hx
    rw [hR] at this
    exact this
  clear hR
  have HVO : Hid (∀ (W : World) (g c : Nat), CtAt (fun _ => False) W (some ⟨g, 0, none⟩) X → (m ≤ c ∧ c ≤ maxLen) → Calls Try.prog 11 #[pv nn (some ⟨g, 0, none⟩) m c] W fun r w' => ∃ la lk, r = .returned (.slice la (vols nn X).length lk) ∧ Hid (RowI (fun _ => False) w' la (vols nn X) ∧ Below W.heap.size W w')) := fun W g c hx hc => by
    refine (volumes_any nn (some ⟨g, 0, none⟩) m c X W hm hc.1 hc.2 hx).mono ?_
    rintro e w' ⟨v, rfl, hv⟩
    obtain ⟨la, lk, rfl, _, _, _, hr⟩ := iown_row (N := fun _ => False) hv.out.1 (fun _ _ h => h)
    exact ⟨la, lk, rfl, hr, hv.out.2⟩
  obtain ⟨lv, hlv⟩ : ∃ lv, (vols nn X).length = lv := ⟨_, rfl⟩
  have HVL : Hid ((vols nn X).length = lv) := hlv
  rw [hlv] at HVO
  clear hlv
  obtain ⟨CK, hCK⟩ : ∃ CK, chk nn X = CK := ⟨_, rfl⟩
  have HCQ : Hid (chk nn X = CK) := hCK
  have HCK : Hid (∀ (W : World) (g c : Nat), CtAt (fun _ => False) W (some ⟨g, 0, none⟩) X → (m ≤ c ∧ c ≤ maxLen) → Calls Try.prog 12 #[pv nn (some ⟨g, 0, none⟩) m c] W fun r w' => r = .returned (.int .i64 CK) ∧ Below W.heap.size W w') := fun W g c hx hc => hCK ▸ check_any nn (some ⟨g, 0, none⟩) m c X W hm hc.1 hc.2 hx
  have HRI : Hid (∀ W, Below w.heap.size w W → Calls Try.prog 8 #[pv nn a m k] W fun r w' => r = .returned (.bool (okP nn X)) ∧ Hid (Below W.heap.size W w')) := fun W hb => rright_any nn a m k X W hm hk1 hkx (hX.later hb)
  have HRO : Hid (∀ W, Below w.heap.size w W → Calls Try.prog 13 #[pv nn a m k, .int .i64 f, .int .i64 t, .int .i64 n] W fun r w' => r = .returned (.int .i64 (opnK X f t n m)) ∧ Hid (Below W.heap.size W w')) := fun W hb => ropen_any W nn f t n a m k X hm hk1 hkx (hX.later hb)
  have HX : Hid (X.length = m) := hm
  have HXA : Hid (CtAt (fun _ => False) w a X) := hX
  unfold pv at HCO HOP HVO HCK HRI HRO ⊢
  clear hX hm hk2
  go_enter Try.func4, Try.ntmps4
  go_upto_region 3 with (go_at_call 5; refine (wakes_any _).mono ?_; rintro r w1 ⟨rfl, H1⟩)
  have HP1 : Hid (PB w nn a m k f t n e w1) := HPB.out.later H1.out
  have hPd : PB w nn a m k f t n e w1.drew := HP1.out.later (Below.refl _ w1).drew
  have s1 := HP1.out.cells
  have s1' := hPd.cells
  clear HPB
  go_cut [5, 6] from 13 to 24 (fun vi ve wc => vi = .int .i64 R.1 ∧ ve = .int .i64 R.2 ∧ Hid (PB w nn a m k f t n e wc))
  case first =>
    go_region_held3 (fun W' => W'.cell? ⟨w.heap.size, 0, none⟩ = some (.int .i64 nn) ∧ W'.cell? ⟨w.heap.size, 1, none⟩ = some (.slice a m k) ∧ W'.cell? ⟨w.heap.size + 1, 0, none⟩ = some (.int .i64 f) ∧ W'.cell? ⟨w.heap.size + 1, 1, none⟩ = some (.int .i64 t) ∧ W'.cell? ⟨w.heap.size + 1, 2, none⟩ = some (.int .i64 n) ∧ W'.cell? ⟨w.heap.size + 1, 3, none⟩ = some (.int .i64 e)) (first | exact s1' | exact s3 | exact s2) (first | (go_at_call 7; refine (HCO.out _ hPd.bel).mono ?_; rintro r w2 ⟨g2, c2, rfl, H2⟩; have hP2 := hPd.later H2.out.2.2.2.2; have s2 := hP2.cells) | (go_at_call 10; refine (HOP.out _ _ _ H2.out.1 ⟨H2.out.2.1, H2.out.2.2.1⟩).mono ?_; rintro r w3 ⟨rfl, H3⟩; have hP3 := hP2.later H3.out; have s3 := hP3.cells))
    go_wp2
    go_meet
    case rel => exact ⟨rfl, rfl, hP3⟩
  case rest =>
    obtain ⟨rfl, rfl, HP5⟩ := hcut
    obtain ⟨p0, p1, a0, a1, a2, a3⟩ := HP5.out.cells
    clear s1 s1' hPd HP1 hCK HOP
    go_upto_region 5 with (first | (go_at_call 7; refine (HCO.out _ HP5.out.bel).mono ?_; rintro r w2 ⟨g2, c2, rfl, H2⟩; have HP6 : Hid (PB w nn a m k f t n e w2) := HP5.out.later H2.out.2.2.2.2) | (go_at_call 11; refine (HVO.out _ _ _ H2.out.1 ⟨H2.out.2.1, H2.out.2.2.1⟩).mono ?_; rintro r w4 ⟨la, lk, rfl, H4⟩; have HP7 : Hid (PB w nn a m k f t n e w4) := HP6.out.later H4.out.2))
    have HLV : Hid (RowI (fun _ => False) w4 la (vols nn X)) := H4.out.1
    clear p0 p1 a0 a1 a2 a3 H2 H4 HP6 HP5 HVO
    obtain ⟨p0, p1, a0, a1, a2, a3⟩ := HP7.out.cells
    cases hp : okP nn X with
    | false =>
      rw [hp] at HRI
      have hR : R = (0, 230) := by rw [← HRR.out]; unfold opnR; rw [if_neg (by simp [hp])]
      have hl0 : lv = 0 := by rw [← HVL.out, vols_no hp]; rfl
      have hc0 : CK = 230 := by rw [← HCQ.out]; exact if_neg (by simp [hp])
      subst hR hl0 hc0
      clear hp HRO
      go_wp2_with (first | (go_at_call 8; refine (HRI.out _ HP7.out.bel).mono ?_; rintro r w6 ⟨rfl, H6⟩; have HP8 : Hid (PB w nn a m k f t n e w6) := HP7.out.later H6.out; have b0 := HP8.out.cells.1; have b1 := HP8.out.cells.2.1) | (go_at_call 7; refine (HCO.out _ HP8.out.bel).mono ?_; rintro r w7 ⟨g2, c2, rfl, H2⟩; have HP9 : Hid (PB w nn a m k f t n e w7) := HP8.out.later H2.out.2.2.2.2) | (go_at_call 12; refine (HCK.out _ _ _ H2.out.1 ⟨H2.out.2.1, H2.out.2.2.1⟩).mono ?_; rintro r w8 ⟨rfl, h8⟩; have HPA : Hid (PB w nn a m k f t n e w8) := HP9.out.later h8))
      go_ret
      exact ⟨rfl, HPA.out.bel⟩
    | true =>
      have HOK : Hid (okP nn X = true) := hp
      rw [hp] at HRI
      have hl0 : m = lv := by rw [← HVL.out, vols_lenY hp, HX.out]
      have hc0 : CK = 0 := by rw [← HCQ.out]; exact if_pos hp
      subst hl0 hc0
      obtain ⟨K, hK⟩ : ∃ K, opnK X f t n m = K := ⟨_, rfl⟩
      have hKR : opnK X f t n X.length = K := by rw [HX.out]; exact hK
      have HR3 : Hid (R = if K < 0 then (0, 4) else (K, 0)) := by show _ = _; rw [← HRR.out]; unfold opnR; rw [if_pos hp, hKR]
      rw [hK] at HRO
      clear hp hK hKR
      go_upto_region 8 with (first | (go_at_call 8; refine (HRI.out _ HP7.out.bel).mono ?_; rintro r w6 ⟨rfl, H6⟩; have HP8 : Hid (PB w nn a m k f t n e w6) := HP7.out.later H6.out; have b0 := HP8.out.cells.1; have b1 := HP8.out.cells.2.1; have b2 := HP8.out.cells.2.2.1; have b3 := HP8.out.cells.2.2.2.1; have b4 := HP8.out.cells.2.2.2.2.1) | (go_at_call 13; refine (HRO.out _ HP8.out.bel).mono ?_; rintro r w7 ⟨rfl, H7⟩; have HP9 : Hid (PB w nn a m k f t n e w7) := HP8.out.later H7.out))
      have HL7 : Hid (RowI (fun _ => False) w7 la (vols nn X)) := (HLV.out.later H6.out).later H7.out
      clear p0 p1 a0 a1 a2 a3 b0 b1 b2 b3 b4
      obtain ⟨p0, p1, a0, a1, a2, a3⟩ := HP9.out.cells
      go_cut [5, 6, 92] from 56 to 92 (fun v5 v6 v wd => v = .bool false ∧ Hid (PB w nn a m k f t n e wd ∧ Below w7.heap.size w7 wd))
      case first =>
        by_cases hk : K < 0
        · have hR : R = (0, 4) := by rw [HR3.out, if_pos hk]
          have hk2 : ¬ 0 ≤ K := by omega
          have hk3 : decide (0 ≤ K) = false := decide_eq_false hk2
          subst hR
          go_wp2_with (first | (go_at_call 7; refine (HCO.out _ HP9.out.bel).mono ?_; rintro r w8 ⟨g2, c2, rfl, H2⟩; have HPA : Hid (PB w nn a m k f t n e w8) := HP9.out.later H2.out.2.2.2.2) | (go_at_call 12; refine (HCK.out _ _ _ H2.out.1 ⟨H2.out.2.1, H2.out.2.2.1⟩).mono ?_; rintro r w9 ⟨rfl, h8⟩; have HPC : Hid (PB w nn a m k f t n e w9) := HPA.out.later h8))
          go_meet
          case rel => exact ⟨rfl, HPC.out, below_of H2.out.2.2.2.2 h8⟩
        · have hR : R = (K, 0) := by rw [HR3.out, if_neg hk]
          have hk2 : 0 ≤ K := by omega
          subst hR
          go_wp2_with (first | (go_at_call 7; refine (HCO.out _ HP9.out.bel).mono ?_; rintro r w8 ⟨g2, c2, rfl, H2⟩; have HPA : Hid (PB w nn a m k f t n e w8) := HP9.out.later H2.out.2.2.2.2) | (go_at_call 12; refine (HCK.out _ _ _ H2.out.1 ⟨H2.out.2.1, H2.out.2.2.1⟩).mono ?_; rintro r w9 ⟨rfl, h8⟩; have HPC : Hid (PB w nn a m k f t n e w9) := HPA.out.later h8))
          go_meet
          case rel => exact ⟨rfl, HPC.out, below_of H2.out.2.2.2.2 h8⟩
      case rest =>
        obtain ⟨rfl, HPD⟩ := hcut
        have HPW : Hid (PB w nn a m k f t n e wc) := HPD.out.1
        have HLW : Hid (RowI (fun _ => False) wc la (vols nn X)) := HL7.out.later HPD.out.2
        have HXW : Hid (CtAt (fun _ => False) wc a X) := HXA.out.later HPW.out.bel
        clear p0 p1 a0 a1 a2 a3 HPD HL7 HXA HP9 HP8 HLV HP7 HRO HRI HCO HCK HRR HR3
        obtain ⟨p0, p1, a0, a1, a2, a3⟩ := HPW.out.cells
        go_wp2_with fail
        go_loopw [96] (fun i wl => ∃ j : Nat, j ≤ m ∧ i = .int .i64 j ∧ Hid (Below wc.heap.size wc wl)) (fun i _ => m - (intOf i).toNat)
        case atStart => exact ⟨0, by omega, rfl, Below.refl _ _⟩
        case round =>
          rename World => wl
          obtain ⟨j, hj, rfl, HB⟩ := hrel
          by_cases hlt : j < m
          · have hji : (j : Int) < (m : Int) := by omega
            obtain ⟨c, hc⟩ : ∃ c, X[j]? = some c := ⟨_, List.getElem?_eq_getElem (by have := HX.out; omega)⟩
            obtain ⟨b', o, rfl, c0, c1, c2, c3, c4, c5⟩ := (HXW.out.later HB.out).cells6 hc
            obtain ⟨v1, v2, v3⟩ := vols_at HOK.out hc
            have hlen : (vols nn X).length = m := by rw [v1, HX.out]
            obtain ⟨lb, lo, rfl, _, hrow⟩ := (HLW.out.later HB.out) (by omega)
            have hcell := hrow j (by omega)
            rw [v2] at hcell
            obtain ⟨V, hV⟩ : ∃ V, vol c = V := ⟨_, rfl⟩
            have hok := (okP_of HOK.out).each j c hc
            have q1 := hok.r1
            have q2 := hok.r2
            have q3 := hok.s0
            have q4 := hok.e2
            have q5 := hok.se
            obtain ⟨D, hD⟩ : ∃ D, c.en - c.st = D := ⟨_, rfl⟩
            have hD1 : 1 ≤ D ∧ D ≤ 1048576 := by omega
            have hVD : c.rt * D = V := by rw [← hV, v3, hD]
            have hV1 : 0 ≤ V ∧ V ≤ 4294967296 := by
              rw [← hVD]
              refine ⟨Int.mul_nonneg (by omega) (by omega), ?_⟩
              have := Int.mul_le_mul q2 hD1.2 (by omega) (by omega)
              omega
            have hw1 : IntKind.i64.wrap (c.en - c.st) = D := by rw [IntKind.wrap_i64, hD]; omega
            have hw2 : IntKind.i64.wrap (c.rt * D) = V := by rw [hVD, IntKind.wrap_i64]; omega
            rw [hV] at hcell
            have HVO2 : Hid (∀ W, Calls Try.prog 14 #[cv c] W fun r w' => r = .returned (.int .i64 V) ∧ Below W.heap.size W w') := fun W => hV ▸ volume_any c W
            unfold cv at HVO2
            have hbb : Below wl.heap.size wl (wl.alloc (.cells (cc c) 43)) := (Below.refl _ wl).alloc (Nat.le_refl _) _
            have hbx : (wl.alloc (.cells (cc c) 43)).heap[wl.heap.size]? = some (.cells (cc c) 43 (0, 0)) := heap_alloc_new wl _
            have HW1 : Hid (∀ W, Below (wl.alloc (.cells (cc c) 43)).heap.size (wl.alloc (.cells (cc c) 43)) W → W.cell? ⟨lb, lo + j, none⟩ = some (.int .i64 V) ∧ W.cell? ⟨wl.heap.size, 0, none⟩ = some (.int .i64 c.frm) ∧ W.cell? ⟨wl.heap.size, 1, none⟩ = some (.int .i64 c.to) ∧ W.cell? ⟨wl.heap.size, 2, none⟩ = some (.int .i64 c.st) ∧ W.cell? ⟨wl.heap.size, 3, none⟩ = some (.int .i64 c.en) ∧ W.cell? ⟨wl.heap.size, 4, none⟩ = some (.int .i64 c.rt) ∧ W.cell? ⟨wl.heap.size, 5, none⟩ = some (.int .i64 c.dl)) := fun W hb => by
              have hx2 := old_block hb hbx
              refine ⟨cell_later hb (cell_later hbb hcell), ?_, ?_, ?_, ?_, ?_, ?_⟩
              all_goals (rw [cell_of hx2]; rfl)
            have HBN : Hid (Below wc.heap.size wc (wl.alloc (.cells (cc c) 43))) := below_of HB.out hbb
            unfold cc at HW1 HBN
            clear hbb hbx hrow v1 v2 v3 hlen hD hVD hD1 hV1 hV hok q1 q2 q3 q4 q5 hc hcell
            go_upto_region 13 with fail
            generalize hWA : wl.alloc (.cells #[.int .i64 c.frm, .int .i64 c.to, .int .i64 c.st, .int .i64 c.en, .int .i64 c.rt, .int .i64 c.dl] 43) = wa at HW1 HBN ⊢
            clear hWA c0 c1 c2 c3 c4 c5
            have s1 := HW1.out _ (Below.refl _ wa)
            have s2 := HW1.out _ ((Below.refl _ wa).drew)
            have HS3 : Hid (∀ W, Below wa.drew.heap.size wa.drew W → Below wa.heap.size wa W) := fun W hb => below_of ((Below.refl _ wa).drew) hb
            go_region_held3 (fun W' => W'.cell? ⟨lb, lo + j, none⟩ = some (.int .i64 V) ∧ W'.cell? ⟨wl.heap.size, 0, none⟩ = some (.int .i64 c.frm) ∧ W'.cell? ⟨wl.heap.size, 1, none⟩ = some (.int .i64 c.to) ∧ W'.cell? ⟨wl.heap.size, 2, none⟩ = some (.int .i64 c.st) ∧ W'.cell? ⟨wl.heap.size, 3, none⟩ = some (.int .i64 c.en) ∧ W'.cell? ⟨wl.heap.size, 4, none⟩ = some (.int .i64 c.rt) ∧ W'.cell? ⟨wl.heap.size, 5, none⟩ = some (.int .i64 c.dl)) (first | exact s3 | exact s2 | exact s1) ((go_at_call 14; refine (HVO2.out _).mono ?_; rintro r w8 ⟨rfl, h8⟩; have s3 := HW1.out _ (HS3.out _ h8); have HBO : Hid (Below wc.heap.size wc w8) := below_of HBN.out (HS3.out _ h8)))
            all_goals
              go_wp2
              go_roundw
              case rel => exact ⟨j + 1, by omega, by go_num, HBO⟩
              case measure => simp [intOf]; omega
          · obtain rfl : j = m := by omega
            go_wp2
            go_ret
            exact ⟨rfl, below_of HPW.out.bel HB.out⟩
end Go.Proofs.Ytmmcdnniconalaa
