/- The walk of the reference's one (heliographref07). -/
import Derived.Test.YthjemjclpjmomaaDoorCCheck
namespace Go.Proofs.YthjemjclpjmomaaDoor
open Go.RowKit
set_option linter.unusedVariables false

/-- may an item be, but for its Items? -/
def oneF (K : Int) (N B I : Nat) (v : Bool) : Bool :=
  if K = 1 then decide (B = 0) && decide (I = 0)
  else if K = 2 then decide (N = 0) && (decide (I = 0) && decide (B ≤ 512))
  else if K = 3 then decide (N = 0) && (decide (I = 0) && (decide (B ≤ 512) && v))
  else if K = 4 then decide (N = 0) && (decide (B = 0) && decide (I ≤ 64))
  else false
set_option maxRecDepth 20000 in
set_option maxHeartbeats 4000000 in
theorem one_any (w : World) (K : Int) (N B I : Nat) (v : Bool) (a1 a2 : Option Addr) (c1 c2 : Nat) (hK : -9223372036854775808 ≤ K ∧ K ≤ 9223372036854775807) (hN : N < 18446744073709551616) (hB : B ≤ 140737488351232) (hI : I ≤ 1000000000000)
    (HV : ∀ X : Obj, Calls Tryd.prog 36 #[.slice a1 B c1] (w.alloc X) fun e w' => e = .returned (.bool v) ∧ Hid (Below (w.alloc X).heap.size (w.alloc X) w')) :
    Calls Tryd.prog 35 #[.agg #[.int .i64 K, .int .u64 N, .slice a1 B c1, .slice a2 I c2]] w fun e w' => e = .returned (.bool (oneF K N B I v)) ∧ Hid (Below w.heap.size w w') := by
  have HBA : Hid (∀ X, Below w.heap.size w (w.alloc X)) := fun X => (Below.refl _ w).alloc (Nat.le_refl _) X
  by_cases k1 : K < 1
  · have HR : Hid (oneF K N B I v = false) := by show _ = _; unfold oneF; rw [if_neg (by omega), if_neg (by omega), if_neg (by omega), if_neg (by omega)]
    generalize oneF K N B I v = R at HR ⊢
    have h1 : decide (K < 1) = true := by simp; omega
    go_enter Tryd.func35, Tryd.ntmps35
    go_wp2
    go_ret
    exact ⟨ret_bool HR.out.symm, HBA.out _⟩
  by_cases k4 : 4 < K
  · have HR : Hid (oneF K N B I v = false) := by show _ = _; unfold oneF; rw [if_neg (by omega), if_neg (by omega), if_neg (by omega), if_neg (by omega)]
    generalize oneF K N B I v = R at HR ⊢
    have h1 : decide (K < 1) = false := by simp; omega
    have h2 : decide (4 < K) = true := by simp; omega
    go_enter Tryd.func35, Tryd.ntmps35
    go_wp2
    go_ret
    exact ⟨ret_bool HR.out.symm, HBA.out _⟩
  have h1 : decide (K < 1) = false := by simp; omega
  have h2 : decide (4 < K) = false := by simp; omega
  by_cases hK1 : K = 1
  · have e1 : (K != 1) = false := by simp [hK1]
    have e2 : (K == 1) = true := by simp [hK1]
    have e4 : (K != 4) = true := by simp [hK1]
    have e5 : (K == 4) = false := by simp [hK1]
    have e3 : (K != 3) = true := by simp [hK1]
    have HR0 : Hid (oneF K N B I v = (decide (B = 0) && decide (I = 0))) := by show _ = _; unfold oneF; rw [if_pos hK1]
    generalize oneF K N B I v = R at HR0 ⊢
    clear hK1 k1 k4
    by_cases hi : 0 < I
    · have HR : Hid (R = false) := by show _ = _; rw [HR0.out, decide_eq_false (show ¬ I = 0 by omega), Bool.and_false]
      go_enter Tryd.func35, Tryd.ntmps35
      go_wp2
      go_ret
      exact ⟨ret_bool HR.out.symm, HBA.out _⟩
    by_cases hb : 0 < B
    · have HR : Hid (R = false) := by show _ = _; rw [HR0.out, decide_eq_false (show ¬ B = 0 by omega), Bool.false_and]
      go_enter Tryd.func35, Tryd.ntmps35
      go_wp2
      go_ret
      exact ⟨ret_bool HR.out.symm, HBA.out _⟩
    · have HR : Hid (R = true) := by show _ = _; rw [HR0.out, decide_eq_true (show B = 0 by omega), decide_eq_true (show I = 0 by omega)]; rfl
      go_enter Tryd.func35, Tryd.ntmps35
      go_wp2
      go_ret
      exact ⟨ret_bool HR.out.symm, HBA.out _⟩
  by_cases hK2 : K = 2
  · have e1 : (K != 1) = true := by simp [hK2]
    have e2 : (K == 1) = false := by simp [hK2]
    have e4 : (K != 4) = true := by simp [hK2]
    have e5 : (K == 4) = false := by simp [hK2]
    have e3 : (K != 3) = true := by simp [hK2]
    have HR0 : Hid (oneF K N B I v = (decide (N = 0) && (decide (I = 0) && decide (B ≤ 512)))) := by show _ = _; unfold oneF; rw [if_neg (by omega), if_pos hK2]
    generalize oneF K N B I v = R at HR0 ⊢
    clear hK2 k1 k4
    by_cases hn0 : N = 0
    rotate_left
    · have n0 : ((N : Int) != 0) = true := by simp; omega
      have HR : Hid (R = false) := by show _ = _; rw [HR0.out, decide_eq_false hn0, Bool.false_and]
      go_enter Tryd.func35, Tryd.ntmps35
      go_wp2
      go_ret
      exact ⟨ret_bool HR.out.symm, HBA.out _⟩
    have n0 : ((N : Int) != 0) = false := by simp; omega
    rw [decide_eq_true hn0, Bool.true_and] at HR0
    clear hn0
    by_cases hi : 0 < I
    · have HR : Hid (R = false) := by show _ = _; rw [HR0.out, decide_eq_false (show ¬ I = 0 by omega), Bool.false_and]
      go_enter Tryd.func35, Tryd.ntmps35
      go_wp2
      go_ret
      exact ⟨ret_bool HR.out.symm, HBA.out _⟩
    rw [decide_eq_true (show I = 0 by omega), Bool.true_and] at HR0
    by_cases hb : B ≤ 512
    · have HR : Hid (R = true) := by show _ = _; rw [HR0.out, decide_eq_true hb]
      go_enter Tryd.func35, Tryd.ntmps35
      go_wp2
      go_ret
      exact ⟨ret_bool HR.out.symm, HBA.out _⟩
    · have HR : Hid (R = false) := by show _ = _; rw [HR0.out, decide_eq_false hb]
      go_enter Tryd.func35, Tryd.ntmps35
      go_wp2
      go_ret
      exact ⟨ret_bool HR.out.symm, HBA.out _⟩
  by_cases hK3 : K = 3
  · have e1 : (K != 1) = true := by simp [hK3]
    have e2 : (K == 1) = false := by simp [hK3]
    have e4 : (K != 4) = true := by simp [hK3]
    have e5 : (K == 4) = false := by simp [hK3]
    have e3 : (K != 3) = false := by simp [hK3]
    have HR0 : Hid (oneF K N B I v = (decide (N = 0) && (decide (I = 0) && (decide (B ≤ 512) && v)))) := by show _ = _; unfold oneF; rw [if_neg (by omega), if_neg (by omega), if_pos hK3]
    generalize oneF K N B I v = R at HR0 ⊢
    clear hK3 k1 k4
    by_cases hn0 : N = 0
    rotate_left
    · have n0 : ((N : Int) != 0) = true := by simp; omega
      have HR : Hid (R = false) := by show _ = _; rw [HR0.out, decide_eq_false hn0, Bool.false_and]
      go_enter Tryd.func35, Tryd.ntmps35
      go_wp2
      go_ret
      exact ⟨ret_bool HR.out.symm, HBA.out _⟩
    have n0 : ((N : Int) != 0) = false := by simp; omega
    rw [decide_eq_true hn0, Bool.true_and] at HR0
    clear hn0
    by_cases hi : 0 < I
    · have HR : Hid (R = false) := by show _ = _; rw [HR0.out, decide_eq_false (show ¬ I = 0 by omega), Bool.false_and]
      go_enter Tryd.func35, Tryd.ntmps35
      go_wp2
      go_ret
      exact ⟨ret_bool HR.out.symm, HBA.out _⟩
    rw [decide_eq_true (show I = 0 by omega), Bool.true_and] at HR0
    by_cases hb : B ≤ 512
    · have HR : Hid (R = v) := by show _ = _; rw [HR0.out, decide_eq_true hb, Bool.true_and]
      go_enter Tryd.func35, Tryd.ntmps35
      go_wp2_with (go_at_call 36; refine (HV _).mono ?_; rintro e w1 ⟨rfl, hq1⟩)
      go_ret
      exact ⟨ret_bool HR.out.symm, below_of (HBA.out _) hq1.out⟩
    · have HR : Hid (R = false) := by show _ = _; rw [HR0.out, decide_eq_false hb, Bool.false_and]
      go_enter Tryd.func35, Tryd.ntmps35
      go_wp2
      go_ret
      exact ⟨ret_bool HR.out.symm, HBA.out _⟩
  by_cases hK4 : K = 4
  · have e1 : (K != 1) = true := by simp [hK4]
    have e2 : (K == 1) = false := by simp [hK4]
    have e4 : (K != 4) = false := by simp [hK4]
    have e5 : (K == 4) = true := by simp [hK4]
    have e3 : (K != 3) = true := by simp [hK4]
    have HR0 : Hid (oneF K N B I v = (decide (N = 0) && (decide (B = 0) && decide (I ≤ 64)))) := by show _ = _; unfold oneF; rw [if_neg (by omega), if_neg (by omega), if_neg (by omega), if_pos hK4]
    generalize oneF K N B I v = R at HR0 ⊢
    clear hK4 k1 k4
    by_cases hn0 : N = 0
    rotate_left
    · have n0 : ((N : Int) != 0) = true := by simp; omega
      have HR : Hid (R = false) := by show _ = _; rw [HR0.out, decide_eq_false hn0, Bool.false_and]
      go_enter Tryd.func35, Tryd.ntmps35
      go_wp2
      go_ret
      exact ⟨ret_bool HR.out.symm, HBA.out _⟩
    have n0 : ((N : Int) != 0) = false := by simp; omega
    rw [decide_eq_true hn0, Bool.true_and] at HR0
    clear hn0
    by_cases hb : 0 < B
    · have HR : Hid (R = false) := by show _ = _; rw [HR0.out, decide_eq_false (show ¬ B = 0 by omega), Bool.false_and]
      go_enter Tryd.func35, Tryd.ntmps35
      go_wp2
      go_ret
      exact ⟨ret_bool HR.out.symm, HBA.out _⟩
    rw [decide_eq_true (show B = 0 by omega), Bool.true_and] at HR0
    by_cases hi : I ≤ 64
    · have HR : Hid (R = true) := by show _ = _; rw [HR0.out, decide_eq_true hi]
      go_enter Tryd.func35, Tryd.ntmps35
      go_wp2
      go_ret
      exact ⟨ret_bool HR.out.symm, HBA.out _⟩
    · have HR : Hid (R = false) := by show _ = _; rw [HR0.out, decide_eq_false hi]
      go_enter Tryd.func35, Tryd.ntmps35
      go_wp2
      go_ret
      exact ⟨ret_bool HR.out.symm, HBA.out _⟩
  omega
end Go.Proofs.YthjemjclpjmomaaDoor
