/- The walk of the reference's Arrivals. -/
import Derived.Test.YtmmcdnniconalaaQRArr
namespace Go.Proofs.Ytmmcdnniconalaa
open Go.RowKit
set_option linter.unusedVariables false
set_option maxRecDepth 20000 in
set_option maxHeartbeats 8000000 in
theorem rarr_any (w : World) (nn src now need : Int) (ad la : Option Addr) (m k lk : Nat) (X : List Ct) (L : List Int) (hX : OkX nn X) (hm : X.length = m) (hl : L.length = m) (n1 : 1 ≤ src) (n2 : src ≤ 6) (hXA : CtAt (fun _ => False) w ad X) (hLA : RowI (fun _ => False) w la L) :
    Calls Try.prog 18 #[pv nn ad m k, .slice la m lk, .int .i64 src, .int .i64 now, .int .i64 need] w fun e w' => e = .returned (.agg (wc (arrs X L src.toNat now need))) ∧ Hid (Below w.heap.size w w') := by
  have h6 := hX.n6
  have h24 := hX.len
  rw [hm] at h24
  unfold pv
  have HA0 : Hid (AI w nn ad m k (List.replicate 7 0) (((w.alloc (.cells #[.int .i64 nn, .slice ad m k] 24)).alloc (.cells #[.int .i64 0, .int .i64 0, .int .i64 0, .int .i64 0, .int .i64 0, .int .i64 0, .int .i64 0] 51)).alloc (.cells #[.int .i64 0, .int .i64 0, .int .i64 0, .int .i64 0, .int .i64 0, .int .i64 0, .int .i64 0] 51))) := by
    obtain ⟨W3, hW3, z3, zb, d0, d1, d2⟩ := alloc3w w (.cells #[.int .i64 nn, .slice ad m k] 24) (.cells #[.int .i64 0, .int .i64 0, .int .i64 0, .int .i64 0, .int .i64 0, .int .i64 0, .int .i64 0] 51) (.cells #[.int .i64 0, .int .i64 0, .int .i64 0, .int .i64 0, .int .i64 0, .int .i64 0, .int .i64 0] 51)
    rw [← hW3]
    exact ⟨d0, d1, d2, zb, by simp⟩
  go_enter Try.func18, Try.ntmps18
  go_wp2
  go_loopw [12] (fun i wr => ∃ (j : Nat) (A : List Int), j ≤ 7 ∧ i = .int .i64 j ∧ Hid (AI w nn ad m k A wr ∧ ∀ v, v < j → gt A v = far)) (fun i _ => 7 - (intOf i).toNat)
  case atStart => exact ⟨0, _, by omega, rfl, HA0.out, fun v hv => by omega⟩
  case round =>
    obtain ⟨j, A, hj, rfl, HJ⟩ := hrel
    by_cases hlt : j < 7
    · obtain ⟨c1, f1⟩ := HJ.out.1.cell hlt
      go_wp2
      go_roundw
      case rel =>
        refine ⟨j + 1, A.set j far, by omega, by go_num, HJ.out.1.set hlt far, fun v hv => ?_⟩
        rw [gt_set (by rw [HJ.out.1.len]; omega)]
        split
        · rfl
        · exact HJ.out.2 v (by omega)
      case measure => simp [intOf]; omega
    · have hj7 : j = 7 := by omega
      have hj7i : (j : Int) = 7 := by omega
      have hs7 : src.toNat < 7 := by omega
      obtain ⟨c1, f1⟩ := HJ.out.1.cell hs7
      have hAf := far_all HJ.out.1.len (fun v hv => HJ.out.2 v (by omega))
      have HI0 : Hid (AI w nn ad m k (rnds need X L (ini src.toNat now) 0) (wr.setCell ⟨w.heap.size + 1 + 1, src.toNat, none⟩ (.int .i64 now))) := (HJ.out.1.set hs7 now).eq (by rw [hAf]; rfl)
      clear hAf
      rw [hj7i]
      clear hj7i hlt hj
      go_wp2
      generalize wr.setCell ⟨w.heap.size + 1 + 1, src.toNat, none⟩ (.int .i64 now) = WS at HI0 ⊢
      go_loopw [13] (fun i wr => ∃ r : Nat, r ≤ 8 ∧ i = .int .i64 r ∧ Hid (AI w nn ad m k (rnds need X L (ini src.toNat now) r) wr)) (fun i _ => 8 - (intOf i).toNat)
      case atStart => exact ⟨0, by omega, rfl, HI0.out⟩
      case round =>
        obtain ⟨r, hr, rfl, HR⟩ := hrel
        by_cases hlr : r < 8
        · rename World => wo
          go_wp2
          try rw [show decide ((r : Int) < 8) = true from by simp; omega]
          go_loopw [14] (fun i wr => ∃ q : Nat, q ≤ m ∧ i = .int .i64 q ∧ Hid (AI w nn ad m k (rndK need X L (rnds need X L (ini src.toNat now) r) q) wr)) (fun i _ => m - (intOf i).toNat)
          case atStart => exact ⟨0, Nat.zero_le _, rfl, HR.out⟩
          case round =>
            obtain ⟨q, hq, rfl, HQ⟩ := hrel
            obtain ⟨p0, p1⟩ := HQ.out.pc
            by_cases hlq : q < m
            · obtain ⟨c, hc⟩ : ∃ c, X[q]? = some c := ⟨_, List.getElem?_eq_getElem (by omega)⟩
              obtain ⟨l, hll⟩ : ∃ l, L[q]? = some l := ⟨_, List.getElem?_eq_getElem (by omega)⟩
              obtain ⟨b', o, rfl, c0, c1', c2, c3, c4, c5⟩ := (hXA.later HQ.out.bel).cells6 hc
              have hbl : Below wr.heap.size wr (wr.alloc (.cells (cc c) 43)) := (Below.refl _ wr).alloc (Nat.le_refl _) _
              have HQ2 : Hid (AI w nn (some ⟨b', o, none⟩) m k (rndK need X L (rnds need X L (ini src.toNat now) r) q) (wr.alloc (.cells (cc c) 43))) := HQ.out.later hbl
              obtain ⟨lb, lo, rfl, cl⟩ := (hLA.later HQ2.out.bel).at hll
              have hok := hX.each _ _ hc
              have hfi := hok.fi h6
              have HN : Hid (rndK need X L (rnds need X L (ini src.toNat now) r) (q + 1) = rlx need (rndK need X L (rnds need X L (ini src.toNat now) r) q) c l) := rndK_at hc hll
              obtain ⟨A1, hA1⟩ : ∃ A1, rndK need X L (rnds need X L (ini src.toNat now) r) q = A1 := ⟨_, rfl⟩
              rw [hA1] at HN HQ2
              clear hA1
              obtain ⟨e1, _⟩ := HQ2.out.cell hfi.1
              obtain ⟨e2, f2⟩ := HQ2.out.cell hfi.2.1
              have HT7 : Hid (c.to.toNat < 7) := hfi.2.1
              have b1 : 0 ≤ c.frm := by have := hok.f1; omega
              have b2 : c.frm < 7 := by have := hok.f2; omega
              have b3 : 0 ≤ c.to := by have := hok.t1; omega
              have b4 : c.to < 7 := by have := hok.t2; omega
              have k1 := hok.s0
              have k2 := hok.se
              have k3 := hok.e2
              have k4 := hok.d0
              have k5 := hok.d2
              unfold cc at HQ2 e1 e2 f2 cl
              clear hc hll hok hfi HQ HR HI0 HA0 HJ hbl
              by_cases h1 : c.en ≤ gt A1 c.frm.toNat
              · have h1' : decide (c.en ≤ gt A1 c.frm.toNat) = true := by simpa using h1
                go_wp2
                go_region
                all_goals
                  go_wp2
                  first
                    | exact ⟨⟨q + 1, by omega, by go_num, (HQ2.out.later (Below.refl _ _).drew).eq (HN.out.trans (rlx_skip (.inl h1))).symm⟩, by simp [intOf]; omega⟩
                    | (refine ⟨?_, ?_⟩
                       · (repeat (apply Exists.intro))
                         exact ⟨⟨q + 1, by omega, by go_num, (HQ2.out.later (Below.refl _ _).drew).eq (HN.out.trans (rlx_skip (.inl h1))).symm⟩, rfl⟩
                       · simp [intOf]; omega)
              · have h1' : decide (c.en ≤ gt A1 c.frm.toNat) = false := by simpa using h1
                have h1'' : gt A1 c.frm.toNat < c.en := by omega
                by_cases h2 : l < need
                · go_wp2
                  go_region
                  all_goals
                    go_wp2
                    first
                      | exact ⟨⟨q + 1, by omega, by go_num, (HQ2.out.later (Below.refl _ _).drew).eq (HN.out.trans (rlx_skip (.inr h2))).symm⟩, by simp [intOf]; omega⟩
                      | (refine ⟨?_, ?_⟩
                         · (repeat (apply Exists.intro))
                           exact ⟨⟨q + 1, by omega, by go_num, (HQ2.out.later (Below.refl _ _).drew).eq (HN.out.trans (rlx_skip (.inr h2))).symm⟩, rfl⟩
                         · simp [intOf]; omega)
                · by_cases h3 : gt A1 c.frm.toNat < c.st
                  · have hmx : max (gt A1 c.frm.toNat) c.st = c.st := by omega
                    by_cases h4 : c.st + c.dl + 1 < gt A1 c.to.toNat
                    · have HY : Hid (rlx need A1 c l = A1.set c.to.toNat (c.st + c.dl + 1)) := by show _ = _; rw [rlx_yes (by omega) (by rw [hmx]; exact h4), hmx]
                      clear hmx
                      go_wp2
                      go_region
                      all_goals
                        go_wp2
                        first
                          | exact ⟨⟨q + 1, by omega, by go_num, ((HQ2.out.later (Below.refl _ _).drew).set HT7.out (c.st + c.dl + 1)).eq (HN.out.trans (HY.out)).symm⟩, by simp [intOf]; omega⟩
                          | (refine ⟨?_, ?_⟩
                             · (repeat (apply Exists.intro))
                               exact ⟨⟨q + 1, by omega, by go_num, ((HQ2.out.later (Below.refl _ _).drew).set HT7.out (c.st + c.dl + 1)).eq (HN.out.trans (HY.out)).symm⟩, rfl⟩
                             · simp [intOf]; omega)
                    · have HY : Hid (rlx need A1 c l = A1) := rlx_no (by omega) (by rw [hmx]; exact h4)
                      clear hmx
                      go_wp2
                      go_region
                      all_goals
                        go_wp2
                        first
                          | exact ⟨⟨q + 1, by omega, by go_num, (HQ2.out.later (Below.refl _ _).drew).eq (HN.out.trans (HY.out)).symm⟩, by simp [intOf]; omega⟩
                          | (refine ⟨?_, ?_⟩
                             · (repeat (apply Exists.intro))
                               exact ⟨⟨q + 1, by omega, by go_num, (HQ2.out.later (Below.refl _ _).drew).eq (HN.out.trans (HY.out)).symm⟩, rfl⟩
                             · simp [intOf]; omega)
                  · have hmx : max (gt A1 c.frm.toNat) c.st = gt A1 c.frm.toNat := by omega
                    by_cases h4 : gt A1 c.frm.toNat + c.dl + 1 < gt A1 c.to.toNat
                    · have HY : Hid (rlx need A1 c l = A1.set c.to.toNat (gt A1 c.frm.toNat + c.dl + 1)) := by show _ = _; rw [rlx_yes (by omega) (by rw [hmx]; exact h4), hmx]
                      clear hmx
                      go_wp2
                      go_region
                      all_goals
                        go_wp2
                        first
                          | exact ⟨⟨q + 1, by omega, by go_num, ((HQ2.out.later (Below.refl _ _).drew).set HT7.out (gt A1 c.frm.toNat + c.dl + 1)).eq (HN.out.trans (HY.out)).symm⟩, by simp [intOf]; omega⟩
                          | (refine ⟨?_, ?_⟩
                             · (repeat (apply Exists.intro))
                               exact ⟨⟨q + 1, by omega, by go_num, ((HQ2.out.later (Below.refl _ _).drew).set HT7.out (gt A1 c.frm.toNat + c.dl + 1)).eq (HN.out.trans (HY.out)).symm⟩, rfl⟩
                             · simp [intOf]; omega)
                    · have HY : Hid (rlx need A1 c l = A1) := rlx_no (by omega) (by rw [hmx]; exact h4)
                      clear hmx
                      go_wp2
                      go_region
                      all_goals
                        go_wp2
                        first
                          | exact ⟨⟨q + 1, by omega, by go_num, (HQ2.out.later (Below.refl _ _).drew).eq (HN.out.trans (HY.out)).symm⟩, by simp [intOf]; omega⟩
                          | (refine ⟨?_, ?_⟩
                             · (repeat (apply Exists.intro))
                               exact ⟨⟨q + 1, by omega, by go_num, (HQ2.out.later (Below.refl _ _).drew).eq (HN.out.trans (HY.out)).symm⟩, rfl⟩
                             · simp [intOf]; omega)
            · obtain rfl : q = m := by omega
              go_wp2
              first
                | exact ⟨⟨r + 1, by omega, by go_num, HQ.out.eq (by rw [rnds, rnd, hm])⟩, by simp [intOf]; omega⟩
                | (refine ⟨?_, ?_⟩
                   · (repeat (apply Exists.intro))
                     exact ⟨⟨r + 1, by omega, by go_num, HQ.out.eq (by rw [rnds, rnd, hm])⟩, rfl⟩
                   · simp [intOf]; omega)
        · obtain rfl : r = 8 := by omega
          obtain ⟨a0, _⟩ := HR.out.cell (v := 0) (by omega)
          have r0 := cell_of HR.out.r 0
          have z0 := frozen_of HR.out.r 0
          obtain ⟨a1, _⟩ := HR.out.cell (v := 1) (by omega)
          have r1 := cell_of HR.out.r 1
          have z1 := frozen_of HR.out.r 1
          obtain ⟨a2, _⟩ := HR.out.cell (v := 2) (by omega)
          have r2 := cell_of HR.out.r 2
          have z2 := frozen_of HR.out.r 2
          obtain ⟨a3, _⟩ := HR.out.cell (v := 3) (by omega)
          have r3 := cell_of HR.out.r 3
          have z3 := frozen_of HR.out.r 3
          obtain ⟨a4, _⟩ := HR.out.cell (v := 4) (by omega)
          have r4 := cell_of HR.out.r 4
          have z4 := frozen_of HR.out.r 4
          obtain ⟨a5, _⟩ := HR.out.cell (v := 5) (by omega)
          have r5 := cell_of HR.out.r 5
          have z5 := frozen_of HR.out.r 5
          obtain ⟨a6, _⟩ := HR.out.cell (v := 6) (by omega)
          have r6 := cell_of HR.out.r 6
          have z6 := frozen_of HR.out.r 6
          unfold wc at r0 r1 r2 r3 r4 r5 r6
          simp only [List.getElem?_toArray, List.getElem?_cons_zero, List.getElem?_cons_succ] at r0 r1 r2 r3 r4 r5 r6
          have HE : Hid (Below w.heap.size w wr) := HR.out.bel
          clear HR HI0 HJ HA0 c1 f1
          go_wp2
          refine bodyPost_ret (v := .agg (wc (arrs X L src.toNat now need))) (by simp [results, Try.results18, go_sem, wc, arrs, *]) rfl ⟨rfl, ?_⟩
          exact ((((((HE.out.setCell (p := ⟨w.heap.size + 1, 0, none⟩) (by show _ ≤ w.heap.size + 1; omega) _).setCell (p := ⟨w.heap.size + 1, 1, none⟩) (by show _ ≤ w.heap.size + 1; omega) _).setCell (p := ⟨w.heap.size + 1, 2, none⟩) (by show _ ≤ w.heap.size + 1; omega) _).setCell (p := ⟨w.heap.size + 1, 3, none⟩) (by show _ ≤ w.heap.size + 1; omega) _).setCell (p := ⟨w.heap.size + 1, 4, none⟩) (by show _ ≤ w.heap.size + 1; omega) _).setCell (p := ⟨w.heap.size + 1, 5, none⟩) (by show _ ≤ w.heap.size + 1; omega) _).setCell (p := ⟨w.heap.size + 1, 6, none⟩) (by show _ ≤ w.heap.size + 1; omega) _
end Go.Proofs.Ytmmcdnniconalaa
