/- While nobody answers: what each tick leaves: pure. -/
import Derived.Test.YtnjcaolkcmpdcaaUTick
import Derived.Test.YtnjcaolkcmpdcaaUEndP
namespace Go.Proofs.Ytnjcaolkcmpdcaa
open Go.RowKit
set_option linter.unusedVariables false
/-- what a session that begins is. -/
structure EndI (s : Sn) (T W L : Int) : Prop where
  ok : okU s = true
  sta : s.sta = 1
  rea : 0 ≤ s.rea ∧ s.rea ≤ 255
  tri : s.bgn.tri = T
  wai : s.bgn.wai = W
  t : 1 ≤ T ∧ T ≤ 16
  w : 1 ≤ W ∧ W ≤ 4096
  l : 0 ≤ L ∧ L < 1000
theorem end_mul {k : Nat} {T W : Int} (ht : 1 ≤ T ∧ T ≤ 16) (hw : 1 ≤ W ∧ W ≤ 4096) (hk : (k : Int) ≤ 2 * T + 2) : 0 ≤ ((k : Int) + 1) * W ∧ ((k : Int) + 1) * W ≤ 143360 ∧ ((k : Int) + 2) * W = ((k : Int) + 1) * W + W ∧ 1 ≤ ((k : Int) + 2) * W ∧ ((k : Int) + 2) * W ≤ 147456 := by
  have h1 : 0 ≤ ((k : Int) + 1) * W := Int.mul_nonneg (by omega) (by omega)
  have h2 : ((k : Int) + 1) * W ≤ 35 * 4096 := Int.mul_le_mul (by omega) hw.2 (by omega) (by omega)
  have h3 : ((k : Int) + 2) * W = ((k : Int) + 1) * W + W := by
    rw [show (k : Int) + 2 = ((k : Int) + 1) + 1 by omega, Int.add_mul ((k : Int) + 1) 1 W, Int.one_mul]
  omega
theorem end_due {s : Sn} {T W L : Int} (h : EndI s T W L) {k : Nat} (hk : (k : Int) ≤ 2 * T + 1) : 1 ≤ (endS s T W L k).due ∧ (endS s T W L k).due ≤ ((k : Int) + 1) * W + L := by
  have hm := end_mul h.t h.w (k := k) (by omega)
  have hl := h.l
  have hw := h.w
  have hge : W ≤ ((k : Int) + 1) * W := by
    have : 1 * W ≤ ((k : Int) + 1) * W := Int.mul_le_mul_of_nonneg_right (by omega) (by omega)
    omega
  unfold endS
  split
  · show 1 ≤ (if k = 0 then W else ((k : Int) + 1) * W + L) ∧ (if k = 0 then W else ((k : Int) + 1) * W + L) ≤ _
    split <;> omega
  · show 1 ≤ ((k : Int) + 1) * W + L ∧ ((k : Int) + 1) * W + L ≤ _
    omega
theorem end_bgn (s : Sn) (T W L : Int) (k : Nat) : (endS s T W L k).bgn = s.bgn := by
  unfold endS
  split <;> rfl
theorem end_ok {s : Sn} {T W L : Int} (h : EndI s T W L) {k : Nat} (hk : (k : Int) ≤ 2 * T + 1) : okU (endS s T W L k) = true := by
  have hm := end_mul h.t h.w (k := k) (by omega)
  have hd := end_due h hk
  have hl := h.l
  have ht := h.t
  have hs := h.sta
  have hr := h.rea
  have htr := h.tri
  unfold endS at hd ⊢
  by_cases hkt : (k : Int) ≤ T
  · rw [if_pos hkt] at hd ⊢
    exact okU_set h.ok (sta := s.sta) (rea := s.rea) (ask := (k : Int)) (by omega) ⟨by have := hd.1; simp only at this; omega, by have := hd.2; simp only at this; omega⟩ (by omega) hr
  · rw [if_neg hkt] at hd ⊢
    exact okU_set h.ok (by omega) ⟨by have := hd.1; simp only at this; omega, by have := hd.2; simp only at this; omega⟩ (by omega) (by omega)
theorem end_asks {s : Sn} {T W L : Int} (h : EndI s T W L) (k : Nat) : asksU (endS s T W L k) = true ∧ (endS s T W L k).sta ≠ 4 := by
  have hs := h.sta
  unfold endS asksU
  split
  · constructor
    · show (decide (s.sta = 1) || decide (s.sta = 3)) = true
      rw [hs]
      rfl
    · show s.sta ≠ 4
      omega
  · constructor
    · rfl
    · show (3 : Int) ≠ 4
      omega
theorem end_step {s : Sn} {T W L : Int} (h : EndI s T W L) {k : Nat} (hk : (k : Int) < 2 * T + 1) {s' : Sn} {L' : List SD} (hr : TickR (endS s T W L k) (((k : Int) + 1) * W + L) s' L') : s' = endS s T W L (k + 1) ∧ L'.length = 1 := by
  have hm := end_mul h.t h.w (k := k) (by omega)
  have hd := end_due h (k := k) (by omega)
  have ha := (end_asks h k).1
  have hs := h.sta
  have htr := h.tri
  have hwa := h.wai
  have e2 : (((k + 1 : Nat) : Int) + 1) * W = ((k : Int) + 1) * W + W := by
    rw [← hm.2.2.1]
    congr 1
  rcases hr with ⟨q | q, _⟩ | ⟨_, _, hr⟩
  · rw [ha] at q; cases q
  · omega
  · by_cases hkt : (k : Int) ≤ T
    · have eS : endS s T W L k = { s with ask := (k : Int), due := if k = 0 then W else ((k : Int) + 1) * W + L } := by unfold endS; rw [if_pos hkt]
      rw [eS] at hr
      by_cases hke : (k : Int) = T
      · have e1 : endS s T W L (k + 1) = { s with sta := 3, rea := 1, ask := ((k + 1 : Nat) : Int) - T - 1, due := (((k + 1 : Nat) : Int) + 1) * W + L } := by unfold endS; rw [if_neg (by omega)]
        rcases hr with ⟨_, _, q3, q4⟩ | ⟨_, q2, _⟩ | ⟨q1, _⟩ | ⟨q1, _⟩
        · refine ⟨?_, by have := congrArg List.length q4; simpa using this⟩
          rw [q3, e1, e2, hwa]
          have z1 : ((k + 1 : Nat) : Int) - T - 1 = 0 := by omega
          have z2 : ((k : Int) + 1) * W + L + W = ((k : Int) + 1) * W + W + L := by omega
          rw [z1, z2]
        · exact absurd hs q2
        · exact absurd (show (k : Int) = s.bgn.tri by omega) q1
        · exact absurd (show (k : Int) = s.bgn.tri by omega) q1
      · have e1 : endS s T W L (k + 1) = { s with ask := ((k + 1 : Nat) : Int), due := (((k + 1 : Nat) : Int) + 1) * W + L } := by
          unfold endS
          rw [if_pos (by omega), if_neg (by omega)]
        rcases hr with ⟨q1, _⟩ | ⟨q1, _⟩ | ⟨_, _, q3, q4⟩ | ⟨_, q2, _⟩
        · have q1 : (k : Int) = s.bgn.tri := q1
          omega
        · have q1 : (k : Int) = s.bgn.tri := q1
          omega
        · refine ⟨?_, by have := congrArg List.length q4; simpa using this⟩
          rw [q3, e1, e2, hwa]
          have z2 : ((k : Int) + 1) * W + L + W = ((k : Int) + 1) * W + W + L := by omega
          rw [z2]
          rfl
        · exact absurd hs q2
    · have eS : endS s T W L k = { s with sta := 3, rea := 1, ask := (k : Int) - T - 1, due := ((k : Int) + 1) * W + L } := by unfold endS; rw [if_neg hkt]
      rw [eS] at hr
      have e1 : endS s T W L (k + 1) = { s with sta := 3, rea := 1, ask := ((k + 1 : Nat) : Int) - T - 1, due := (((k + 1 : Nat) : Int) + 1) * W + L } := by unfold endS; rw [if_neg (by omega)]
      rcases hr with ⟨_, q2, _⟩ | ⟨q1, _⟩ | ⟨_, q2, _⟩ | ⟨_, _, q3, q4⟩
      · have q2 : (3 : Int) = 1 := q2
        omega
      · have q1 : (k : Int) - T - 1 = s.bgn.tri := q1
        omega
      · have q2 : (3 : Int) = 1 := q2
        omega
      · refine ⟨?_, by have := congrArg List.length q4; simpa using this⟩
        rw [q3, e1, e2, hwa]
        have z1 : ((k + 1 : Nat) : Int) - T - 1 = (k : Int) - T - 1 + 1 := by omega
        have z2 : ((k : Int) + 1) * W + L + W = ((k : Int) + 1) * W + W + L := by omega
        rw [z1, z2]
theorem end_last {s : Sn} {T W L : Int} (h : EndI s T W L) {k : Nat} (hk : (k : Int) = 2 * T + 1) {s' : Sn} {L' : List SD} (hr : TickR (endS s T W L k) (((k : Int) + 1) * W + L) s' L') : s'.sta = 4 ∧ s'.rea = 1 ∧ L' = [] := by
  have hd := end_due h (k := k) (by omega)
  have ha := (end_asks h k).1
  have htr := h.tri
  have ht := h.t
  rcases hr with ⟨q | q, _⟩ | ⟨_, _, hr⟩
  · rw [ha] at q; cases q
  · omega
  · have eS : endS s T W L k = { s with sta := 3, rea := 1, ask := (k : Int) - T - 1, due := ((k : Int) + 1) * W + L } := by unfold endS; rw [if_neg (by omega)]
    rw [eS] at hr
    rcases hr with ⟨_, q2, _⟩ | ⟨_, _, q3, q4⟩ | ⟨_, q2, _⟩ | ⟨q1, _⟩
    · have q2 : (3 : Int) = 1 := q2
      omega
    · exact ⟨by rw [q3], by rw [q3], q4⟩
    · have q2 : (3 : Int) = 1 := q2
      omega
    · exact absurd (show (k : Int) - T - 1 = s.bgn.tri by omega) q1
theorem end_wait {s : Sn} {now : Int} {s' : Sn} {L' : List SD} (hn : now < s.due) (hr : TickR s now s' L') : s' = s ∧ L' = [] := by
  rcases hr with ⟨_, h1, h2⟩ | ⟨_, h, _⟩
  · exact ⟨h1, h2⟩
  · omega
theorem end_dueS {s : Sn} {T W L : Int} (h : EndI s T W L) {k : Nat} (hk : (k : Int) < 2 * T + 1) : (endS s T W L (k + 1)).due = ((k : Int) + 2) * W + L := by
  have e2 : (((k + 1 : Nat) : Int) + 1) = (k : Int) + 2 := by omega
  unfold endS
  split
  · show (if k + 1 = 0 then W else (((k + 1 : Nat) : Int) + 1) * W + L) = _
    rw [if_neg (by omega), e2]
  · show (((k + 1 : Nat) : Int) + 1) * W + L = _
    rw [e2]
end Go.Proofs.Ytnjcaolkcmpdcaa
