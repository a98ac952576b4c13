/- The reference's node, Right. -/
import Derived.Test.YtopfpdkknfjgoaaLOf
namespace Go.Proofs.Ytopfpdkknfjgoaa
open Go.RowKit
set_option linter.unusedVariables false

theorem node_v (x : Int) (R : Bool) (h : decide (1 ≤ x ∧ x ≤ 6) = R) (w : World) : Calls Try.prog 34 #[.int .i64 x] w fun e w' => e = .returned (.bool R) ∧ w' = w := by
  subst h
  by_cases h1 : 1 ≤ x
  · by_cases h2 : x ≤ 6
    all_goals
      go_enter Try.func34, Try.ntmps34
      go_wp2
      go_ret
      exact ⟨ret_bool (by simp [h1, h2]), rfl⟩
  · go_enter Try.func34, Try.ntmps34
    go_wp2
    go_ret
    exact ⟨ret_bool (by simp; omega), rfl⟩
theorem rightB_false {f t a : Int} {n : Nat} (h : ¬ ((1 ≤ f ∧ f ≤ 6) ∧ (1 ≤ t ∧ t ≤ 6) ∧ f ≠ t ∧ (0 ≤ a ∧ a ≤ 1048576) ∧ (1 ≤ (n : Int) ∧ (n : Int) ≤ 400))) : rightB f t a n = false := by
  cases hr : rightB f t a n
  · rfl
  · unfold rightB at hr
    simp only [Bool.and_eq_true, decide_eq_true_eq, bne_iff_ne, ne_eq] at hr
    exact absurd ⟨hr.1, hr.2.1, hr.2.2.1, hr.2.2.2.1, hr.2.2.2.2⟩ h
theorem rightB_true {f t a : Int} {n : Nat} (h : (1 ≤ f ∧ f ≤ 6) ∧ (1 ≤ t ∧ t ≤ 6) ∧ f ≠ t ∧ (0 ≤ a ∧ a ≤ 1048576) ∧ (1 ≤ (n : Int) ∧ (n : Int) ≤ 400)) : rightB f t a n = true := by
  unfold rightB
  simp only [Bool.and_eq_true, decide_eq_true_eq, bne_iff_ne, ne_eq]
  exact ⟨h.1, h.2.1, h.2.2.1, h.2.2.2.1, h.2.2.2.2⟩
set_option maxHeartbeats 1000000 in
theorem rright_0 (w : World) (f t x : Int) (a : Option Addr) (n c : Nat) (h1 : decide (1 ≤ f ∧ f ≤ 6) = false) (HR : Hid (rightB f t x n = false)) : Calls Try.prog 15 #[.agg #[.int .i64 f, .int .i64 t, .int .i64 x, .slice a n c]] w fun e w' => e = .returned (.bool (rightB f t x n)) ∧ Hid (Below w.heap.size w w') := by
  have H1 : Hid (_ = _) := h1
  clear h1
  go_enter Try.func15, Try.ntmps15
  go_wp2_with (go_at_call 34; refine (node_v _ _ (by first | exact H1.out) _).mono ?_; rintro e w' ⟨rfl, rfl⟩)
  go_ret
  exact ⟨ret_bool (by first | (rw [HR.out]; done) | (rw [HR.out]; simp; omega)), (Below.refl _ _).alloc (Nat.le_refl _) _⟩
set_option maxHeartbeats 1000000 in
theorem rright_1 (w : World) (f t x : Int) (a : Option Addr) (n c : Nat) (h1 : decide (1 ≤ f ∧ f ≤ 6) = true) (h2 : decide (1 ≤ t ∧ t ≤ 6) = false) (HR : Hid (rightB f t x n = false)) : Calls Try.prog 15 #[.agg #[.int .i64 f, .int .i64 t, .int .i64 x, .slice a n c]] w fun e w' => e = .returned (.bool (rightB f t x n)) ∧ Hid (Below w.heap.size w w') := by
  have H1 : Hid (_ = _) := h1
  clear h1
  have H2 : Hid (_ = _) := h2
  clear h2
  go_enter Try.func15, Try.ntmps15
  go_wp2_with (go_at_call 34; refine (node_v _ _ (by first | exact H1.out | exact H2.out) _).mono ?_; rintro e w' ⟨rfl, rfl⟩)
  go_ret
  exact ⟨ret_bool (by first | (rw [HR.out]; done) | (rw [HR.out]; simp; omega)), (Below.refl _ _).alloc (Nat.le_refl _) _⟩
set_option maxHeartbeats 1000000 in
theorem rright_2 (w : World) (f t x : Int) (a : Option Addr) (n c : Nat) (h1 : decide (1 ≤ f ∧ f ≤ 6) = true) (h2 : decide (1 ≤ t ∧ t ≤ 6) = true) (h3 : (f != t) = false) (HR : Hid (rightB f t x n = false)) : Calls Try.prog 15 #[.agg #[.int .i64 f, .int .i64 t, .int .i64 x, .slice a n c]] w fun e w' => e = .returned (.bool (rightB f t x n)) ∧ Hid (Below w.heap.size w w') := by
  have H1 : Hid (_ = _) := h1
  clear h1
  have H2 : Hid (_ = _) := h2
  clear h2
  go_enter Try.func15, Try.ntmps15
  go_wp2_with (go_at_call 34; refine (node_v _ _ (by first | exact H1.out | exact H2.out) _).mono ?_; rintro e w' ⟨rfl, rfl⟩)
  go_ret
  exact ⟨ret_bool (by first | (rw [HR.out]; done) | (rw [HR.out]; simp; omega)), (Below.refl _ _).alloc (Nat.le_refl _) _⟩
set_option maxHeartbeats 1000000 in
theorem rright_3 (w : World) (f t x : Int) (a : Option Addr) (n c : Nat) (h1 : decide (1 ≤ f ∧ f ≤ 6) = true) (h2 : decide (1 ≤ t ∧ t ≤ 6) = true) (h3 : (f != t) = true) (h4 : ¬ 0 ≤ x) (HR : Hid (rightB f t x n = false)) : Calls Try.prog 15 #[.agg #[.int .i64 f, .int .i64 t, .int .i64 x, .slice a n c]] w fun e w' => e = .returned (.bool (rightB f t x n)) ∧ Hid (Below w.heap.size w w') := by
  have H1 : Hid (_ = _) := h1
  clear h1
  have H2 : Hid (_ = _) := h2
  clear h2
  go_enter Try.func15, Try.ntmps15
  go_wp2_with (go_at_call 34; refine (node_v _ _ (by first | exact H1.out | exact H2.out) _).mono ?_; rintro e w' ⟨rfl, rfl⟩)
  go_ret
  exact ⟨ret_bool (by first | (rw [HR.out]; done) | (rw [HR.out]; simp; omega)), (Below.refl _ _).alloc (Nat.le_refl _) _⟩
set_option maxHeartbeats 1000000 in
theorem rright_4 (w : World) (f t x : Int) (a : Option Addr) (n c : Nat) (h1 : decide (1 ≤ f ∧ f ≤ 6) = true) (h2 : decide (1 ≤ t ∧ t ≤ 6) = true) (h3 : (f != t) = true) (h4 : 0 ≤ x) (h5 : ¬ x ≤ 1048576) (HR : Hid (rightB f t x n = false)) : Calls Try.prog 15 #[.agg #[.int .i64 f, .int .i64 t, .int .i64 x, .slice a n c]] w fun e w' => e = .returned (.bool (rightB f t x n)) ∧ Hid (Below w.heap.size w w') := by
  have H1 : Hid (_ = _) := h1
  clear h1
  have H2 : Hid (_ = _) := h2
  clear h2
  go_enter Try.func15, Try.ntmps15
  go_wp2_with (go_at_call 34; refine (node_v _ _ (by first | exact H1.out | exact H2.out) _).mono ?_; rintro e w' ⟨rfl, rfl⟩)
  go_ret
  exact ⟨ret_bool (by first | (rw [HR.out]; done) | (rw [HR.out]; simp; omega)), (Below.refl _ _).alloc (Nat.le_refl _) _⟩
set_option maxHeartbeats 1000000 in
theorem rright_5 (w : World) (f t x : Int) (a : Option Addr) (n c : Nat) (h1 : decide (1 ≤ f ∧ f ≤ 6) = true) (h2 : decide (1 ≤ t ∧ t ≤ 6) = true) (h3 : (f != t) = true) (h4 : 0 ≤ x) (h5 : x ≤ 1048576) (h6 : ¬ 1 ≤ (n : Int)) (HR : Hid (rightB f t x n = false)) : Calls Try.prog 15 #[.agg #[.int .i64 f, .int .i64 t, .int .i64 x, .slice a n c]] w fun e w' => e = .returned (.bool (rightB f t x n)) ∧ Hid (Below w.heap.size w w') := by
  have H1 : Hid (_ = _) := h1
  clear h1
  have H2 : Hid (_ = _) := h2
  clear h2
  go_enter Try.func15, Try.ntmps15
  go_wp2_with (go_at_call 34; refine (node_v _ _ (by first | exact H1.out | exact H2.out) _).mono ?_; rintro e w' ⟨rfl, rfl⟩)
  go_ret
  exact ⟨ret_bool (by first | (rw [HR.out]; done) | (rw [HR.out]; simp; omega)), (Below.refl _ _).alloc (Nat.le_refl _) _⟩
set_option maxHeartbeats 1000000 in
theorem rright_6 (w : World) (f t x : Int) (a : Option Addr) (n c : Nat) (h1 : decide (1 ≤ f ∧ f ≤ 6) = true) (h2 : decide (1 ≤ t ∧ t ≤ 6) = true) (h3 : (f != t) = true) (h4 : 0 ≤ x) (h5 : x ≤ 1048576) (h6 : 1 ≤ (n : Int)) (h7 : ¬ (n : Int) ≤ 400) (HR : Hid (rightB f t x n = false)) : Calls Try.prog 15 #[.agg #[.int .i64 f, .int .i64 t, .int .i64 x, .slice a n c]] w fun e w' => e = .returned (.bool (rightB f t x n)) ∧ Hid (Below w.heap.size w w') := by
  have H1 : Hid (_ = _) := h1
  clear h1
  have H2 : Hid (_ = _) := h2
  clear h2
  go_enter Try.func15, Try.ntmps15
  go_wp2_with (go_at_call 34; refine (node_v _ _ (by first | exact H1.out | exact H2.out) _).mono ?_; rintro e w' ⟨rfl, rfl⟩)
  go_ret
  exact ⟨ret_bool (by first | (rw [HR.out]; done) | (rw [HR.out]; simp; omega)), (Below.refl _ _).alloc (Nat.le_refl _) _⟩
set_option maxHeartbeats 1000000 in
theorem rright_7 (w : World) (f t x : Int) (a : Option Addr) (n c : Nat) (h1 : decide (1 ≤ f ∧ f ≤ 6) = true) (h2 : decide (1 ≤ t ∧ t ≤ 6) = true) (h3 : (f != t) = true) (h4 : 0 ≤ x) (h5 : x ≤ 1048576) (h6 : 1 ≤ (n : Int)) (h7 : (n : Int) ≤ 400) (HR : Hid (rightB f t x n = true)) : Calls Try.prog 15 #[.agg #[.int .i64 f, .int .i64 t, .int .i64 x, .slice a n c]] w fun e w' => e = .returned (.bool (rightB f t x n)) ∧ Hid (Below w.heap.size w w') := by
  have H1 : Hid (_ = _) := h1
  clear h1
  have H2 : Hid (_ = _) := h2
  clear h2
  go_enter Try.func15, Try.ntmps15
  go_wp2_with (go_at_call 34; refine (node_v _ _ (by first | exact H1.out | exact H2.out) _).mono ?_; rintro e w' ⟨rfl, rfl⟩)
  go_ret
  exact ⟨ret_bool (by first | (rw [HR.out]; done) | (rw [HR.out]; simp; omega)), (Below.refl _ _).alloc (Nat.le_refl _) _⟩
theorem rright_any (w : World) (f t x : Int) (a : Option Addr) (n c : Nat) : Calls Try.prog 15 #[.agg #[.int .i64 f, .int .i64 t, .int .i64 x, .slice a n c]] w fun e w' => e = .returned (.bool (rightB f t x n)) ∧ Hid (Below w.heap.size w w') := by
  by_cases h1 : 1 ≤ f ∧ f ≤ 6
  · by_cases h2 : 1 ≤ t ∧ t ≤ 6
    · by_cases h3 : f = t
      · exact rright_2 w f t x a n c (decide_eq_true h1) (decide_eq_true h2) (by simpa using h3) (rightB_false (fun h => h.2.2.1 h3))
      · have h3' : (f != t) = true := by simpa using h3
        by_cases h4 : 0 ≤ x
        · by_cases h5 : x ≤ 1048576
          · by_cases h6 : 1 ≤ (n : Int)
            · by_cases h7 : (n : Int) ≤ 400
              · exact rright_7 w f t x a n c (decide_eq_true h1) (decide_eq_true h2) h3' h4 h5 h6 h7 (rightB_true ⟨h1, h2, h3, ⟨h4, h5⟩, h6, h7⟩)
              · exact rright_6 w f t x a n c (decide_eq_true h1) (decide_eq_true h2) h3' h4 h5 h6 h7 (rightB_false (fun h => h7 h.2.2.2.2.2))
            · exact rright_5 w f t x a n c (decide_eq_true h1) (decide_eq_true h2) h3' h4 h5 h6 (rightB_false (fun h => h6 h.2.2.2.2.1))
          · exact rright_4 w f t x a n c (decide_eq_true h1) (decide_eq_true h2) h3' h4 h5 (rightB_false (fun h => h5 h.2.2.2.1.2))
        · exact rright_3 w f t x a n c (decide_eq_true h1) (decide_eq_true h2) h3' h4 (rightB_false (fun h => h4 h.2.2.2.1.1))
    · exact rright_1 w f t x a n c (decide_eq_true h1) (decide_eq_false h2) (rightB_false (fun h => h2 h.2.1))
  · exact rright_0 w f t x a n c (decide_eq_false h1) (rightB_false (fun h => h1 h.1))
end Go.Proofs.Ytopfpdkknfjgoaa
