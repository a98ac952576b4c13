/- The reference's Right of segments. -/
import Derived.Test.YtlhgjhbbiohcnaaR10Only
import Derived.Test.YtlhgjhbbiohcnaaR10Claims
import Derived.Test.YtlhgjhbbiohcnaaTRSame
import Derived.Test.YtlhgjhbbiohcnaaVSay
import Derived.Deep.RegionHeld3
import Derived.Deep.CutRange
namespace Go.Proofs.Ytlhgjhbbiohcnaa
open Go.RowKit
set_option linter.unusedVariables false
set_option maxRecDepth 20000 in
set_option maxHeartbeats 4000000 in
theorem rrightS_no (s : Sg) (a : Option Addr) (c : Nat) (a2 : Option Addr) (c2 : Nat) (w : World) (hc : Came w s a c a2 c2) (hs : sessS s = false) :
    Calls Try.prog 14 #[sv s a c a2 c2] w fun e w' => e = .returned (.bool (okS s)) ∧ Hid (Below w.heap.size w w') := by
  have HB : Hid (Below w.heap.size w (w.alloc (sc s a c a2 c2))) := (Below.refl _ w).alloc (Nat.le_refl _) _
  have HF : Hid (okS s = false) := by show _ = _; unfold okS; rw [hs]; rfl
  have hx : s.src < 1 ∨ 6 < s.src ∨ s.ses = 0 := by
    unfold sessS inB at hs
    simp only [Bool.and_eq_false_iff, decide_eq_false_iff_not] at hs
    omega
  clear hs hc
  by_cases b1 : s.src < 1
  · have hd : decide (s.src < 1) = true := decide_eq_true b1
    go_enter Try.func14, Try.ntmps14
    go_wp2_with fail
    go_quiet (fail)
    go_wp2
    go_ret
    exact ⟨ret_bool HF.out.symm, below_drewN HB.out _⟩
  · have hd1 : decide (s.src < 1) = false := decide_eq_false b1
    by_cases b2 : 6 < s.src
    · have hd : decide (6 < s.src) = true := decide_eq_true b2
      go_enter Try.func14, Try.ntmps14
      go_wp2_with fail
      go_quiet (fail)
      go_wp2
      go_ret
      exact ⟨ret_bool HF.out.symm, below_drewN HB.out _⟩
    · have hd2 : decide (6 < s.src) = false := decide_eq_false b2
      have hd3 : ((s.ses : Int) == 0) = true := by simp; omega
      clear hx
      go_enter Try.func14, Try.ntmps14
      go_wp2_with fail
      go_quiet (fail)
      go_wp2
      go_ret
      exact ⟨ret_bool HF.out.symm, below_drewN HB.out _⟩
set_option maxRecDepth 20000 in
set_option maxHeartbeats 4000000 in
theorem rrightS_yes (s : Sg) (a : Option Addr) (c : Nat) (a2 : Option Addr) (c2 : Nat) (w : World) (hc : Came w s a c a2 c2) (hs : sessS s = true) :
    Calls Try.prog 14 #[sv s a c a2 c2] w fun e w' => e = .returned (.bool (okS s)) ∧ Hid (Below w.heap.size w w') := by
  obtain ⟨W0, hW0⟩ : ∃ W0, w.alloc (sc s a c a2 c2) = W0 := ⟨_, rfl⟩
  have HB : Hid (Below w.heap.size w W0) := by rw [← hW0]; exact (Below.refl _ w).alloc (Nat.le_refl _) _
  have HP : Hid (W0.heap[w.heap.size]? = some (sc s a c a2 c2)) := by rw [← hW0]; exact heap_alloc_new w _
  have HC : Hid (Came w s a c a2 c2) := hc
  have HON : Hid (∀ W, Below w.heap.size w W → Calls Try.prog 36 #[sv s a c a2 c2] W fun e w' => ∃ b d b2 d2, e = .returned (sv (cntS s) b d b2 d2) ∧ Hid (Below W.heap.size W w' ∧ Row W b (cntS s).dat ∧ RowC W b2 (cntS s).cls)) := fun W hb => only_any s a c a2 c2 W (HC.out.row.later hb) (HC.out.rowc.later hb)
  have HSM : Hid (∀ W b d b2 d2, Below w.heap.size w W → Row W b (cntS s).dat → RowC W b2 (cntS s).cls → Calls Try.prog 35 #[sv s a c a2 c2, sv (cntS s) b d b2 d2] W fun e w' => e = .returned (.bool (sameS s (cntS s))) ∧ Hid (Below W.heap.size W w')) := fun W b d b2 d2 hb h1 h2 => rsameS_any s (cntS s) a c a2 c2 b d b2 d2 W (HC.out.row.later hb) (HC.out.rowc.later hb) h1 h2 HC.out.fit.cls (by rcases cnt_cls s with e | e <;> rw [e]; exact HC.out.fit.cls; simp)
  have HX : Hid (okS s = (sameS s (cntS s) && fieldsS s)) := by show _ = _; unfold okS; rw [hs]; cases fieldsS s <;> cases sameS s (cntS s) <;> rfl
  obtain ⟨SS, hSS⟩ : ∃ SS, sameS s (cntS s) = SS := ⟨_, rfl⟩
  rw [hSS] at HX HSM
  obtain ⟨R, hR⟩ : ∃ R, okS s = R := ⟨_, rfl⟩
  rw [hR] at HX ⊢
  have hx : ¬ s.src < 1 ∧ ¬ 6 < s.src ∧ ¬ s.ses = 0 := by
    unfold sessS inB at hs
    simp only [Bool.and_eq_true, decide_eq_true_eq] at hs
    omega
  have hd1 : decide (s.src < 1) = false := decide_eq_false hx.1
  have hd2 : decide (6 < s.src) = false := decide_eq_false hx.2.1
  have hd3 : ((s.ses : Int) == 0) = false := by simp; omega
  clear hx hR hSS hs hc
  obtain ⟨e0, e1, e2, e3, e4, e5, e6, e7, e8, e9, e10, e11, e12⟩ := scells HP.out
  go_enter Try.func14, Try.ntmps14
  go_wp2_with fail
  have hX : Below W0.heap.size W0 W0.drew := (Below.refl _ _).drew
  go_region_held3 (fun W' => W'.cell? ⟨w.heap.size, 0, none⟩ = some (.int .i64 s.knd) ∧ W'.cell? ⟨w.heap.size, 1, none⟩ = some (.int .i64 s.src) ∧ W'.cell? ⟨w.heap.size, 2, none⟩ = some (.int .u32 (s.ses : Nat)) ∧ W'.cell? ⟨w.heap.size, 3, none⟩ = some (.int .u32 (s.ser : Nat)) ∧ W'.cell? ⟨w.heap.size, 4, none⟩ = some (.int .u32 (s.cks : Nat)) ∧ W'.cell? ⟨w.heap.size, 5, none⟩ = some (.int .i64 s.off) ∧ W'.cell? ⟨w.heap.size, 6, none⟩ = some (.int .i64 s.tot) ∧ W'.cell? ⟨w.heap.size, 7, none⟩ = some (.int .i64 s.low) ∧ W'.cell? ⟨w.heap.size, 8, none⟩ = some (.int .i64 s.upp) ∧ W'.cell? ⟨w.heap.size, 9, none⟩ = some (.int .i64 s.rea) ∧ W'.cell? ⟨w.heap.size, 10, none⟩ = some (.bool s.chk) ∧ W'.cell? ⟨w.heap.size, 11, none⟩ = some (.slice a s.dat.length c) ∧ W'.cell? ⟨w.heap.size, 12, none⟩ = some (.slice a2 s.cls.length c2)) (first | exact ⟨e0, e1, e2, e3, e4, e5, e6, e7, e8, e9, e10, e11, e12⟩ | exact ⟨cell_later hX e0, cell_later hX e1, cell_later hX e2, cell_later hX e3, cell_later hX e4, cell_later hX e5, cell_later hX e6, cell_later hX e7, cell_later hX e8, cell_later hX e9, cell_later hX e10, cell_later hX e11, cell_later hX e12⟩) (first
    | (go_at_call 36; refine (HON.out _ (below_of HB.out hX)).mono ?_; rintro e w4 ⟨b4, d4, b5, d5, rfl, hq4⟩; have hX := below_of hX hq4.out.1)
    | (go_at_call 35; have hq4' := hq4; refine (HSM.out _ b4 d4 b5 d5 (below_of HB.out hX) (hq4.out.2.1.later hq4.out.1) (hq4.out.2.2.later hq4.out.1)).mono ?_; rintro e w5 ⟨rfl, hq5⟩; have hX := below_of hX hq5.out))
  have HW5 : Hid (Below w.heap.size w w5) := below_of HB.out hX
  have HP5 : Hid (w5.heap[w.heap.size]? = some (sc s a c a2 c2)) := old_block hX HP.out
  clear e0 e1 e2 e3 e4 e5 e6 e7 e8 e9 e10 e11 e12 hX HON HSM
  cases SS with
  | false =>
    have HF : Hid (R = false) := HX.out
    go_wp2
    go_ret
    exact ⟨ret_bool HF.out.symm, HW5.out⟩
  | true =>
    have HG : Hid (R = fieldsS s) := HX.out
    have HCL : Hid (∀ W, Below w.heap.size w W → 0 ≤ s.low → s.low < s.upp → s.upp ≤ 512 → Calls Try.prog 37 #[.slice a2 s.cls.length c2, .int .i64 s.low, .int .i64 s.upp] W fun e w' => e = .returned (.bool (decide ((s.cls.length : Int) ≤ 20) && clsOk s.upp s.low s.cls)) ∧ Hid (Below W.heap.size W w')) := fun W hb h1 h2 h3 => rclaims_any a2 c2 s.cls s.low s.upp W (HC.out.rowc.later hb) HC.out.fit.cls HC.out.fit.clm h1 h2 h3
    have HGE : Hid (fieldsS s = (if s.knd = 1 then dataS s else if s.knd = 2 then repS s else if s.knd = 3 then decide (0 < s.ser) else if s.knd = 4 ∨ s.knd = 6 then inB s.rea 0 255 else if s.knd = 5 ∨ s.knd = 7 then true else false)) := rfl
    have hz := HC.out.fit.dat
    obtain ⟨e0, e1, e2, e3, e4, e5, e6, e7, e8, e9, e10, e11, e12⟩ := scells HP5.out
    clear hq4 hq4' hq5 HC HP HX hW0 HP5
    cases k1 : (s.knd == 1) with
    | true =>
      have HGF : Hid (R = dataS s) := by show _ = _; rw [HG.out, HGE.out, if_pos (by simpa using k1)]
      clear HG HGE HCL
      go_wp2
      all_goals
        go_ret
        refine ⟨ret_bool ?_, (by first | exact HW5.out | exact below_drewN HW5.out _)⟩
        rw [HGF.out]
        clear HGF HW5 HB e0 e1 e2 e3 e4 e5 e6 e7 e8 e9 e10 e11 e12
        unfold dataS inB
        simp_all
        try omega
    | false =>
      cases k2 : (s.knd == 2) with
      | true =>
        have HGF : Hid (R = repS s) := by show _ = _; rw [HG.out, HGE.out, if_neg (by simpa using k1), if_pos (by simpa using k2)]
        clear HG HGE
        go_wp2_with (go_at_call 37; refine (HCL.out _ HW5.out (by omega) (by omega) (by omega)).mono ?_; rintro e w6 ⟨rfl, hb6⟩; have HW6 : Hid (Below w.heap.size w w6) := below_of HW5.out hb6.out)
        all_goals
          go_ret
          refine ⟨ret_bool ?_, (by first | exact HW6.out | exact HW5.out | exact below_drewN HW5.out _)⟩
          rw [HGF.out]
          clear HGF HW5 HB e0 e1 e2 e3 e4 e5 e6 e7 e8 e9 e10 e11 e12 HCL
          unfold repS
          simp_all
          try omega
      | false =>
        have HGF : Hid (R = (if s.knd = 3 then decide (0 < s.ser) else if s.knd = 4 ∨ s.knd = 6 then inB s.rea 0 255 else if s.knd = 5 ∨ s.knd = 7 then true else false)) := by show _ = _; rw [HG.out, HGE.out, if_neg (by simpa using k1), if_neg (by simpa using k2)]
        clear HG HGE HCL
        go_wp2
        all_goals
          go_ret
          refine ⟨ret_bool ?_, (by first | exact HW5.out | exact below_drewN HW5.out _)⟩
          rw [HGF.out]
          clear HGF HW5 HB e0 e1 e2 e3 e4 e5 e6 e7 e8 e9 e10 e11 e12
          unfold inB
          simp_all
          try omega
theorem rrightS_any (s : Sg) (a : Option Addr) (c : Nat) (a2 : Option Addr) (c2 : Nat) (w : World) (hc : Came w s a c a2 c2) :
    Calls Try.prog 14 #[sv s a c a2 c2] w fun e w' => e = .returned (.bool (okS s)) ∧ Hid (Below w.heap.size w w') := by
  cases hs : sessS s with
  | false => exact rrightS_no s a c a2 c2 w hc hs
  | true => exact rrightS_yes s a c a2 c2 w hc hs
end Go.Proofs.Ytlhgjhbbiohcnaa
