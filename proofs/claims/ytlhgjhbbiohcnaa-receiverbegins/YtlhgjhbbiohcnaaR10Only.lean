/- The reference's Only. -/
import Derived.Test.YtlhgjhbbiohcnaaTCheck
namespace Go.Proofs.Ytlhgjhbbiohcnaa
open Go.RowKit
set_option linter.unusedVariables false
set_option maxRecDepth 20000 in
set_option maxHeartbeats 4000000 in
theorem only_1 (s : Sg) (a : Option Addr) (c : Nat) (a2 : Option Addr) (c2 : Nat) (w : World) (h1 : Row w a s.dat) (h2 : RowC w a2 s.cls) (k1 : (s.knd == 1) = true) : Calls Try.prog 36 #[sv s a c a2 c2] w fun e w' => ∃ b d b2 d2, e = .returned (sv (cntS s) b d b2 d2) ∧ Hid (Below w.heap.size w w' ∧ Row w b (cntS s).dat ∧ RowC w b2 (cntS s).cls) := by
  have HB : Hid (∀ X Y Z : Obj, Below w.heap.size w (((w.alloc X).alloc Y).alloc Z)) := fun X Y Z => (((Below.refl _ w).alloc (Nat.le_refl _) X).alloc (by simp) Y).alloc (by simp; omega) Z
  have H1 : Hid (Row w a s.dat) := h1
  have H2 : Hid (RowC w a2 s.cls) := h2
  clear h1 h2
  go_enter Try.func36, Try.ntmps36
  go_wp2
  go_region
  go_wp2
  have k1 : s.knd = 1 := by simpa using k1
  refine bodyPost_ret (v := sv (cntS s) a c none 0) (by simp [results, Try.results36, go_sem, cntS, zeroS, k1]) rfl ⟨_, _, _, _, rfl, ?_, ?_, ?_⟩
  · repeat (first | exact HB.out _ _ _ | refine Below.drew ?_)
  · have e : (cntS s).dat = s.dat := by simp [cntS, zeroS, k1]
    rw [e]; exact H1.out
  · have e : (cntS s).cls = [] := by simp [cntS, zeroS, k1]
    rw [e]; exact rowC_nil _ _
set_option maxRecDepth 20000 in
set_option maxHeartbeats 4000000 in
theorem only_2 (s : Sg) (a : Option Addr) (c : Nat) (a2 : Option Addr) (c2 : Nat) (w : World) (h1 : Row w a s.dat) (h2 : RowC w a2 s.cls) (k1 : (s.knd == 1) = false) (k2 : (s.knd == 2) = true) : Calls Try.prog 36 #[sv s a c a2 c2] w fun e w' => ∃ b d b2 d2, e = .returned (sv (cntS s) b d b2 d2) ∧ Hid (Below w.heap.size w w' ∧ Row w b (cntS s).dat ∧ RowC w b2 (cntS s).cls) := by
  have HB : Hid (∀ X Y Z : Obj, Below w.heap.size w (((w.alloc X).alloc Y).alloc Z)) := fun X Y Z => (((Below.refl _ w).alloc (Nat.le_refl _) X).alloc (by simp) Y).alloc (by simp; omega) Z
  have H1 : Hid (Row w a s.dat) := h1
  have H2 : Hid (RowC w a2 s.cls) := h2
  clear h1 h2
  go_enter Try.func36, Try.ntmps36
  go_wp2
  go_region
  go_wp2
  have k1 : s.knd ≠ 1 := by simpa using k1
  have k2 : s.knd = 2 := by simpa using k2
  refine bodyPost_ret (v := sv (cntS s) none 0 a2 c2) (by simp [results, Try.results36, go_sem, cntS, zeroS, k2]) rfl ⟨_, _, _, _, rfl, ?_, ?_, ?_⟩
  · repeat (first | exact HB.out _ _ _ | refine Below.drew ?_)
  · have e : (cntS s).dat = [] := by simp [cntS, zeroS, k2]
    rw [e]; exact row_nil _ _
  · have e : (cntS s).cls = s.cls := by simp [cntS, zeroS, k2]
    rw [e]; exact H2.out
set_option maxRecDepth 20000 in
set_option maxHeartbeats 4000000 in
theorem only_3 (s : Sg) (a : Option Addr) (c : Nat) (a2 : Option Addr) (c2 : Nat) (w : World) (h1 : Row w a s.dat) (h2 : RowC w a2 s.cls) (k1 : (s.knd == 1) = false) (k2 : (s.knd == 2) = false) (k3 : (s.knd == 3) = true) : Calls Try.prog 36 #[sv s a c a2 c2] w fun e w' => ∃ b d b2 d2, e = .returned (sv (cntS s) b d b2 d2) ∧ Hid (Below w.heap.size w w' ∧ Row w b (cntS s).dat ∧ RowC w b2 (cntS s).cls) := by
  have HB : Hid (∀ X Y Z : Obj, Below w.heap.size w (((w.alloc X).alloc Y).alloc Z)) := fun X Y Z => (((Below.refl _ w).alloc (Nat.le_refl _) X).alloc (by simp) Y).alloc (by simp; omega) Z
  have H1 : Hid (Row w a s.dat) := h1
  have H2 : Hid (RowC w a2 s.cls) := h2
  clear h1 h2
  go_enter Try.func36, Try.ntmps36
  go_wp2
  have k1 : s.knd ≠ 1 := by simpa using k1
  have k2 : s.knd ≠ 2 := by simpa using k2
  have k3 : s.knd = 3 := by simpa using k3
  refine bodyPost_ret (v := sv (cntS s) none 0 none 0) (by simp [results, Try.results36, go_sem, cntS, zeroS, k3]) rfl ⟨_, _, _, _, rfl, ?_, ?_, ?_⟩
  · repeat (first | exact HB.out _ _ _ | refine Below.drew ?_)
  · have e : (cntS s).dat = [] := by simp [cntS, zeroS, k3]
    rw [e]; exact row_nil _ _
  · have e : (cntS s).cls = [] := by simp [cntS, zeroS, k3]
    rw [e]; exact rowC_nil _ _
set_option maxRecDepth 20000 in
set_option maxHeartbeats 4000000 in
theorem only_4 (s : Sg) (a : Option Addr) (c : Nat) (a2 : Option Addr) (c2 : Nat) (w : World) (h1 : Row w a s.dat) (h2 : RowC w a2 s.cls) (k1 : (s.knd == 1) = false) (k2 : (s.knd == 2) = false) (k3 : (s.knd == 3) = false) (k4 : (s.knd == 4) = true) : Calls Try.prog 36 #[sv s a c a2 c2] w fun e w' => ∃ b d b2 d2, e = .returned (sv (cntS s) b d b2 d2) ∧ Hid (Below w.heap.size w w' ∧ Row w b (cntS s).dat ∧ RowC w b2 (cntS s).cls) := by
  have HB : Hid (∀ X Y Z : Obj, Below w.heap.size w (((w.alloc X).alloc Y).alloc Z)) := fun X Y Z => (((Below.refl _ w).alloc (Nat.le_refl _) X).alloc (by simp) Y).alloc (by simp; omega) Z
  have H1 : Hid (Row w a s.dat) := h1
  have H2 : Hid (RowC w a2 s.cls) := h2
  clear h1 h2
  go_enter Try.func36, Try.ntmps36
  go_wp2
  have k1 : s.knd ≠ 1 := by simpa using k1
  have k2 : s.knd ≠ 2 := by simpa using k2
  have k3 : s.knd ≠ 3 := by simpa using k3
  have k4 : s.knd = 4 := by simpa using k4
  refine bodyPost_ret (v := sv (cntS s) none 0 none 0) (by simp [results, Try.results36, go_sem, cntS, zeroS, k4]) rfl ⟨_, _, _, _, rfl, ?_, ?_, ?_⟩
  · repeat (first | exact HB.out _ _ _ | refine Below.drew ?_)
  · have e : (cntS s).dat = [] := by simp [cntS, zeroS, k4]
    rw [e]; exact row_nil _ _
  · have e : (cntS s).cls = [] := by simp [cntS, zeroS, k4]
    rw [e]; exact rowC_nil _ _
set_option maxRecDepth 20000 in
set_option maxHeartbeats 4000000 in
theorem only_6 (s : Sg) (a : Option Addr) (c : Nat) (a2 : Option Addr) (c2 : Nat) (w : World) (h1 : Row w a s.dat) (h2 : RowC w a2 s.cls) (k1 : (s.knd == 1) = false) (k2 : (s.knd == 2) = false) (k3 : (s.knd == 3) = false) (k4 : (s.knd == 4) = false) (k6 : (s.knd == 6) = true) : Calls Try.prog 36 #[sv s a c a2 c2] w fun e w' => ∃ b d b2 d2, e = .returned (sv (cntS s) b d b2 d2) ∧ Hid (Below w.heap.size w w' ∧ Row w b (cntS s).dat ∧ RowC w b2 (cntS s).cls) := by
  have HB : Hid (∀ X Y Z : Obj, Below w.heap.size w (((w.alloc X).alloc Y).alloc Z)) := fun X Y Z => (((Below.refl _ w).alloc (Nat.le_refl _) X).alloc (by simp) Y).alloc (by simp; omega) Z
  have H1 : Hid (Row w a s.dat) := h1
  have H2 : Hid (RowC w a2 s.cls) := h2
  clear h1 h2
  go_enter Try.func36, Try.ntmps36
  go_wp2
  have k1 : s.knd ≠ 1 := by simpa using k1
  have k2 : s.knd ≠ 2 := by simpa using k2
  have k3 : s.knd ≠ 3 := by simpa using k3
  have k4 : s.knd ≠ 4 := by simpa using k4
  have k6 : s.knd = 6 := by simpa using k6
  refine bodyPost_ret (v := sv (cntS s) none 0 none 0) (by simp [results, Try.results36, go_sem, cntS, zeroS, k6]) rfl ⟨_, _, _, _, rfl, ?_, ?_, ?_⟩
  · repeat (first | exact HB.out _ _ _ | refine Below.drew ?_)
  · have e : (cntS s).dat = [] := by simp [cntS, zeroS, k6]
    rw [e]; exact row_nil _ _
  · have e : (cntS s).cls = [] := by simp [cntS, zeroS, k6]
    rw [e]; exact rowC_nil _ _
set_option maxRecDepth 20000 in
set_option maxHeartbeats 4000000 in
theorem only_0 (s : Sg) (a : Option Addr) (c : Nat) (a2 : Option Addr) (c2 : Nat) (w : World) (h1 : Row w a s.dat) (h2 : RowC w a2 s.cls) (k1 : (s.knd == 1) = false) (k2 : (s.knd == 2) = false) (k3 : (s.knd == 3) = false) (k4 : (s.knd == 4) = false) (k6 : (s.knd == 6) = false) : Calls Try.prog 36 #[sv s a c a2 c2] w fun e w' => ∃ b d b2 d2, e = .returned (sv (cntS s) b d b2 d2) ∧ Hid (Below w.heap.size w w' ∧ Row w b (cntS s).dat ∧ RowC w b2 (cntS s).cls) := by
  have HB : Hid (∀ X Y Z : Obj, Below w.heap.size w (((w.alloc X).alloc Y).alloc Z)) := fun X Y Z => (((Below.refl _ w).alloc (Nat.le_refl _) X).alloc (by simp) Y).alloc (by simp; omega) Z
  have H1 : Hid (Row w a s.dat) := h1
  have H2 : Hid (RowC w a2 s.cls) := h2
  clear h1 h2
  go_enter Try.func36, Try.ntmps36
  go_wp2
  have k1 : s.knd ≠ 1 := by simpa using k1
  have k2 : s.knd ≠ 2 := by simpa using k2
  have k3 : s.knd ≠ 3 := by simpa using k3
  have k4 : s.knd ≠ 4 := by simpa using k4
  have k6 : s.knd ≠ 6 := by simpa using k6
  refine bodyPost_ret (v := sv (cntS s) none 0 none 0) (by simp [results, Try.results36, go_sem, cntS, zeroS, k1, k2, k3, k4, k6]) rfl ⟨_, _, _, _, rfl, ?_, ?_, ?_⟩
  · repeat (first | exact HB.out _ _ _ | refine Below.drew ?_)
  · have e : (cntS s).dat = [] := by simp [cntS, zeroS, k1, k2, k3, k4, k6]
    rw [e]; exact row_nil _ _
  · have e : (cntS s).cls = [] := by simp [cntS, zeroS, k1, k2, k3, k4, k6]
    rw [e]; exact rowC_nil _ _
theorem only_any (s : Sg) (a : Option Addr) (c : Nat) (a2 : Option Addr) (c2 : Nat) (w : World) (h1 : Row w a s.dat) (h2 : RowC w a2 s.cls) : Calls Try.prog 36 #[sv s a c a2 c2] w fun e w' => ∃ b d b2 d2, e = .returned (sv (cntS s) b d b2 d2) ∧ Hid (Below w.heap.size w w' ∧ Row w b (cntS s).dat ∧ RowC w b2 (cntS s).cls) := by
  cases k1 : s.knd == 1 with
  | true => exact only_1 s a c a2 c2 w h1 h2 k1
  | false => cases k2 : s.knd == 2 with
    | true => exact only_2 s a c a2 c2 w h1 h2 k1 k2
    | false => cases k3 : s.knd == 3 with
      | true => exact only_3 s a c a2 c2 w h1 h2 k1 k2 k3
      | false => cases k4 : s.knd == 4 with
        | true => exact only_4 s a c a2 c2 w h1 h2 k1 k2 k3 k4
        | false => cases k6 : s.knd == 6 with
          | true => exact only_6 s a c a2 c2 w h1 h2 k1 k2 k3 k4 k6
          | false => exact only_0 s a c a2 c2 w h1 h2 k1 k2 k3 k4 k6
end Go.Proofs.Ytlhgjhbbiohcnaa
