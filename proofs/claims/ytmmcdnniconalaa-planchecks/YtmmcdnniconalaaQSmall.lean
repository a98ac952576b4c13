/- The walks of plan's small functions: within, meet, right, arrival, Volume, the function that Check makes. -/
import Derived.Test.YtmmcdnniconalaaQMem
namespace Go.Proofs.Ytmmcdnniconalaa
open Go.RowKit
set_option linter.unusedVariables false

def wi (x lo hi : Int) : Bool := decide (lo ≤ x) && decide (x ≤ hi)
/-- may the contact be, by itself? -/
def okC (c : Ct) (n : Int) : Bool := wi c.frm 1 n && (wi c.to 1 n && (decide (c.frm ≠ c.to) && (decide (0 ≤ c.st) && (decide (c.st < c.en) && (decide (c.en ≤ 1048576) && (wi c.rt 1 4096 && wi c.dl 0 4096))))))
/-- are they of one pair, with a moment in common? -/
def mtC (a b : Ct) : Bool := decide (a.frm = b.frm) && (decide (a.to = b.to) && (decide (a.st < b.en) && decide (b.st < a.en)))
def nvr : Int := 9223372036854775807
/-- when one arrives. -/
def arr (c : Ct) (t : Int) : Int := if c.en ≤ t then nvr else max t c.st + c.dl + 1
def vol (c : Ct) : Int := if c.st < c.en ∧ 0 ≤ c.st ∧ c.en ≤ 1048576 ∧ 0 ≤ c.rt ∧ c.rt ≤ 1048576 then c.rt * (c.en - c.st) else 0

theorem within_any (x lo hi : Int) (w : World) : Calls Try.prog 20 #[.int .i64 x, .int .i64 lo, .int .i64 hi] w fun e w' => e = .returned (.bool (wi x lo hi)) ∧ w' = w := by
  go_enter Try.func20, Try.ntmps20
  go_wp2
  all_goals
    go_ret
    exact ⟨ret_bool (by simp [wi, *] <;> (intros; omega)), rfl⟩

theorem meet_any (a b : Ct) (w : World) : Calls Try.prog 22 #[cv a, cv b] w fun e w' => e = .returned (.bool (mtC a b)) ∧ Below w.heap.size w w' := by
  unfold cv
  go_enter Try.func22, Try.ntmps22
  go_wp2
  all_goals
    go_ret
    exact ⟨ret_bool (by simp [mtC, *] <;> (intros; omega)), ((Below.refl _ w).alloc (Nat.le_refl _) _).alloc (by simp) _⟩

set_option maxHeartbeats 1000000 in
theorem right_any (c : Ct) (n : Int) (w : World) : Calls Try.prog 23 #[cv c, .int .i64 n] w fun e w' => e = .returned (.bool (okC c n)) ∧ Below w.heap.size w w' := by
  unfold cv
  go_enter Try.func23, Try.ntmps23
  go_wp2_with (go_at_call 20; refine (within_any _ _ _ _).mono ?_; rintro e w' ⟨rfl, rfl⟩)
  all_goals
    go_ret
    exact ⟨ret_bool (by simp [okC, *] <;> (intros; omega)), (Below.refl _ w).alloc (Nat.le_refl _) _⟩

theorem arrival_any (c : Ct) (t : Int) (w : World) (h1 : 0 ≤ c.st) (h2 : c.en ≤ 1048576) (h3 : 0 ≤ c.dl) (h4 : c.dl ≤ 4096) (h5 : 0 ≤ t) (h6 : c.st < c.en) : Calls Try.prog 27 #[cv c, .int .i64 t] w fun e w' => e = .returned (.int .i64 (arr c t)) ∧ Below w.heap.size w w' := by
  unfold cv
  by_cases h : c.en ≤ t
  · go_enter Try.func27, Try.ntmps27
    go_wp2
    go_ret
    exact ⟨ret_int (by unfold arr; rw [if_pos h]; rfl), (Below.refl _ w).alloc (Nat.le_refl _) _⟩
  · have h' : t < c.en := by omega
    go_enter Try.func27, Try.ntmps27
    go_wp2
    all_goals
      go_ret
      exact ⟨ret_int (by unfold arr; rw [if_neg (by omega)]; omega), (Below.refl _ w).alloc (Nat.le_refl _) _⟩

theorem mul_bound {a b : Int} (h1 : 0 ≤ a) (h2 : a ≤ 1048576) (h3 : 0 ≤ b) (h4 : b ≤ 1048576) : 0 ≤ a * b ∧ a * b ≤ 1099511627776 :=
  ⟨Int.mul_nonneg h1 h3, by have := Int.mul_le_mul h2 h4 h3 (by omega); omega⟩
set_option maxHeartbeats 1000000 in
theorem volume_any (c : Ct) (w : World) : Calls Try.prog 14 #[cv c] w fun e w' => e = .returned (.int .i64 (vol c)) ∧ Below w.heap.size w w' := by
  unfold cv
  by_cases h : c.st < c.en ∧ 0 ≤ c.st ∧ c.en ≤ 1048576 ∧ 0 ≤ c.rt ∧ c.rt ≤ 1048576
  · have hv : vol c = c.rt * (c.en - c.st) := by unfold vol; rw [if_pos h]
    obtain ⟨h1, h2, h3, h4, h5⟩ := h
    have q1 : wi c.st 0 1048576 = true := by simp [wi]; omega
    have q2 : wi c.en 0 1048576 = true := by simp [wi]; omega
    have q3 : wi c.rt 0 1048576 = true := by simp [wi]; omega
    have hb := mul_bound h4 h5 (b := c.en - c.st) (by omega) (by omega)
    obtain ⟨b1, b2⟩ := hb
    have HV : Hid (vol c = c.rt * (c.en - c.st)) := hv
    clear hv
    go_enter Try.func14, Try.ntmps14
    go_wp2_with (go_at_call 20; refine (within_any _ _ _ _).mono ?_; rintro e w' ⟨rfl, rfl⟩)
    go_ret
    exact ⟨ret_int HV.out.symm, (Below.refl _ w).alloc (Nat.le_refl _) _⟩
  · have HV : Hid (vol c = 0) := by show vol c = 0; unfold vol; rw [if_neg h]
    have HN : Hid (¬ (c.st < c.en ∧ wi c.st 0 1048576 = true ∧ wi c.en 0 1048576 = true ∧ wi c.rt 0 1048576 = true)) := by
      show ¬ _
      simp only [wi, Bool.and_eq_true, decide_eq_true_eq]
      omega
    clear h
    go_enter Try.func14, Try.ntmps14
    go_wp2_with (go_at_call 20; refine (within_any _ _ _ _).mono ?_; rintro e w' ⟨rfl, rfl⟩)
    all_goals
      go_ret
      first
        | exact ⟨ret_int HV.out.symm, (Below.refl _ w).alloc (Nat.le_refl _) _⟩
        | (exfalso; exact HN.out (by simp_all))

/-- what Check hands to the library: does it meet the one in the box? -/
theorem meets_any (c d : Ct) (b : Nat) (w : World) (h : w.heap[b]? = some (.cells (cc c) 43 (0, 0))) : Calls Try.prog 21 #[cv d, .pointer (some ⟨b, 0, none⟩)] w fun e w' => e = .returned (.bool (mtC c d)) ∧ Below w.heap.size w w' := by
  have hlt := (Array.getElem?_eq_some_iff.1 h).1
  obtain ⟨c0, c1, c2, c3, c4, c5⟩ := box6 h
  clear h
  have HM : Hid (∀ X, Calls Try.prog 22 #[cv c, cv d] (w.alloc X) fun e w' => e = .returned (.bool (mtC c d)) ∧ Below (w.alloc X).heap.size (w.alloc X) w') := fun X => meet_any _ _ _
  unfold cv at HM ⊢
  go_enter Try.func21, Try.ntmps21
  go_wp2_with (go_at_call 22; refine (HM.out _).mono ?_; rintro e w' ⟨rfl, hb⟩)
  go_ret
  exact ⟨rfl, below_of ((Below.refl _ w).alloc (Nat.le_refl _) _) hb⟩
end Go.Proofs.Ytmmcdnniconalaa
