/- The walk of SdnvRises. -/
import Derived.Test.YthhoafhkdioboaaSComp
namespace Go.Proofs.Ythhoafhkdioboaa
open Go.RowKit
set_option linter.unusedVariables false

theorem puts_nil (n : Nat) (hn : n < 18446744073709551616) (w1 : World) : Calls Try.prog 12 #[.slice none 0 0, .int .u64 n] w1 fun e w' => e = .returned (.slice (some ⟨w1.heap.size, 0, none⟩) (sz n) (sz n)) ∧ Hid (Bs w' w1.heap.size (sd n) ∧ Below w1.heap.size w1 w') := by
  have := put_any w1 none 0 [] n (row_nil _ _) (by simp) hn
  simpa using this
theorem pfx_no (p q : Nat) (hp : p < 18446744073709551616) (hq : q < 18446744073709551616) (h : p ≠ q) : pfx (sd p) (sd q) = false := by
  unfold pfx
  by_cases h1 : (sd p).take (sd q).length = sd q
  · exfalso
    refine h (sd_begin q p hq hp ((sd p).drop (sd q).length) ?_).symm
    have := List.take_append_drop (sd q).length (sd p)
    rw [h1] at this
    exact this
  · rw [decide_eq_false h1, Bool.and_false]
theorem pfx_sd (p q : Nat) (hp : p < 18446744073709551616) (hq : q < 18446744073709551616) (h : p ≠ q) (w : World) (g k : Nat) (h1 : Bs w g (sd p)) (h2 : Bs w k (sd q)) :
    Calls Try.prog 20 #[.slice (some ⟨g, 0, none⟩) (sz p) (sz p), .slice (some ⟨k, 0, none⟩) (sz q) (sz q)] w fun e w' => e = .returned (.bool false) ∧ w' = w := by
  have hz := sd_len p hp
  have := hasPrefix_any w _ _ (sz p) (sz q) (sd p) (sd q) h1.row h2.row (Nat.le_refl _) (by unfold sz at hz; omega)
  rw [pfx_no p q hp hq h] at this
  exact this
set_option maxRecDepth 20000 in
set_option maxHeartbeats 1000000 in
theorem rises_same (w : World) (n : Nat) (hn : n < 18446744073709551616) :
    Calls Try.prog 8 #[.int .u64 n, .int .u64 n] w fun e w' => e = .returned (.bool true) ∧ Hid (Below w.heap.size w w') := by
  have HWK := wakes_any w
  have HP := puts_nil n hn
  have hN : ((n : Int) != (n : Int)) = false := by simp
  have hM : ((n : Int) == (n : Int)) = true := by simp
  have hz := sd_len n hn
  generalize sz n = k at *
  go_enter Try.func8, Try.ntmps8
  go_wp2_with (first | (go_at_call 9; refine HWK.mono ?_; rintro e w1 ⟨rfl, hb1⟩) | (go_at_call 12; refine (HP _).mono ?_; rintro e w2 ⟨rfl, HQ⟩; have hb1 : Hid (Below w.heap.size w w2) := below_of hb1.out HQ.out.2; clear HQ))
  go_ret
  exact ⟨rfl, hb1.out⟩
set_option maxRecDepth 20000 in
set_option maxHeartbeats 1000000 in
theorem rises_at (w : World) (n m p q : Nat) (hp : p < 18446744073709551616) (hq : q < 18446744073709551616) (hpq : p < q) (h : (m < n ∧ p = m ∧ q = n) ∨ (¬ m < n ∧ p = n ∧ q = m)) :
    Calls Try.prog 8 #[.int .u64 n, .int .u64 m] w fun e w' => e = .returned (.bool true) ∧ Hid (Below w.heap.size w w') := by
  have HWK := wakes_any w
  have HP := puts_nil p hp
  have HQ := puts_nil q hq
  have HA := pfx_sd p q hp hq (by omega)
  have HB := pfx_sd q p hq hp (by omega)
  have hz1 := sd_len p hp
  have hz2 := sd_len q hq
  have hle := sz_mono p q (by omega)
  have HC : ∀ w g k, sz p = sz q → Bs w g (sd p) → Bs w k (sd q) → Calls Try.prog 21 #[.slice (some ⟨g, 0, none⟩) (sz p) (sz p), .slice (some ⟨k, 0, none⟩) (sz q) (sz q)] w fun e w' => e = .returned (.int .i64 (-1)) ∧ w' = w := fun w g k e h1 h2 => compare_less w _ _ (sz p) (sz q) (sd p) (sd q) h1.row h2.row (sd_less p q hp hq hpq e)
  have hne : ((p : Int) != (q : Int)) = true := by simp; omega
  have heq : ((p : Int) == (q : Int)) = false := by simp; omega
  generalize sz p = P at *
  generalize sz q = Q at *
  rcases h with ⟨hlt, rfl, rfl⟩ | ⟨hlt, rfl, rfl⟩
  all_goals
    rcases Nat.lt_or_ge P Q with hs | hs
    · go_enter Try.func8, Try.ntmps8
      go_wp2_with (first | (go_at_call 9; refine HWK.mono ?_; rintro e w1 ⟨rfl, hb1⟩) | (go_at_call 12; have hh := HX; clear hh; refine (HQ _).mono ?_; rintro e w3 ⟨rfl, HY⟩; have HZ : Hid _ := HX.out.1.later HY.out.2) | (go_at_call 12; refine (HP _).mono ?_; rintro e w2 ⟨rfl, HX⟩) | (go_at_call 20; have hh := FL; clear hh; refine (HB _ _ _ HY.out.1 HZ.out).mono ?_; rintro e w5 ⟨rfl, rfl⟩) | (go_at_call 20; refine (HA _ _ _ HZ.out HY.out.1).mono ?_; rintro e w4 ⟨rfl, rfl⟩; have FL : Hid (0 = 0) := rfl))
      go_ret
      exact ⟨rfl, below_of (below_of hb1.out HX.out.2) HY.out.2⟩
    · obtain rfl : P = Q := by omega
      go_enter Try.func8, Try.ntmps8
      go_wp2_with (first | (go_at_call 9; refine HWK.mono ?_; rintro e w1 ⟨rfl, hb1⟩) | (go_at_call 12; have hh := HX; clear hh; refine (HQ _).mono ?_; rintro e w3 ⟨rfl, HY⟩; have HZ : Hid _ := HX.out.1.later HY.out.2) | (go_at_call 12; refine (HP _).mono ?_; rintro e w2 ⟨rfl, HX⟩) | (go_at_call 20; have hh := FL; clear hh; refine (HB _ _ _ HY.out.1 HZ.out).mono ?_; rintro e w5 ⟨rfl, rfl⟩) | (go_at_call 20; refine (HA _ _ _ HZ.out HY.out.1).mono ?_; rintro e w4 ⟨rfl, rfl⟩; have FL : Hid (0 = 0) := rfl) | (go_at_call 21; refine (HC _ _ _ (by trivial) HZ.out HY.out.1).mono ?_; rintro e w5 ⟨rfl, rfl⟩))
      go_ret
      exact ⟨rfl, below_of (below_of hb1.out HX.out.2) HY.out.2⟩
theorem rises_any (w : World) (n m : Nat) (hn : n < 18446744073709551616) (hm : m < 18446744073709551616) :
    Calls Try.prog 8 #[.int .u64 n, .int .u64 m] w fun e w' => e = .returned (.bool true) ∧ Hid (Below w.heap.size w w') := by
  rcases Nat.lt_trichotomy n m with h | rfl | h
  · exact rises_at w n m n m hn hm h (.inr ⟨by omega, rfl, rfl⟩)
  · exact rises_same w n hn
  · exact rises_at w n m m n hm hn h (.inl ⟨h, rfl, rfl⟩)
end Go.Proofs.Ythhoafhkdioboaa
