/- segment.rightFields, Forward, counted. -/
import Derived.Test.YtnjcaolkcmpdcaaTSeg
namespace Go.Proofs.Ytnjcaolkcmpdcaa
open Go.RowKit
set_option linter.unusedVariables false
set_option maxRecDepth 20000 in
set_option maxHeartbeats 4000000 in
theorem fields_any (s : Sg) (a : Option Addr) (c : Nat) (a2 : Option Addr) (c2 : Nat) (w : World) (hz : s.dat.length ≤ 140737488351232) (hz2 : s.cls.length ≤ 140737488351232) (hr : RowC w a2 s.cls) (hm : ∀ c ∈ s.cls, in64 c.1 ∧ in64 c.2) : Calls Try.prog 72 #[sv s a c a2 c2] w fun e w' => e = .returned (.bool (fieldsS s)) ∧ Hid (Below w.heap.size w w') := by
  have HE : Hid (fieldsS s = if s.knd = 1 then dataS s else if s.knd = 2 then repS s else if s.knd = 3 then decide (0 < s.ser)
  else if s.knd = 4 ∨ s.knd = 6 then inB s.rea 0 255 else if s.knd = 5 ∨ s.knd = 7 then true else false) := rfl
  have HB : Hid (∀ X : Obj, Below w.heap.size w (w.alloc X)) := fun X => (Below.refl _ w).alloc (Nat.le_refl _) X
  have HD : Hid (∀ X, Calls Try.prog 86 #[sv s a c a2 c2] (w.alloc X) fun e w' => e = .returned (.bool (dataS s)) ∧ Hid (Below (w.alloc X).heap.size (w.alloc X) w')) := fun X => data_any s a c a2 c2 _ hz
  have HR : Hid (∀ X, Calls Try.prog 87 #[sv s a c a2 c2] (w.alloc X) fun e w' => e = .returned (.bool (repS s)) ∧ Hid (Below (w.alloc X).heap.size (w.alloc X) w')) := fun X => report_any s a c a2 c2 _ hz2 (hr.later (HB.out X)) hm
  generalize fieldsS s = R at HE ⊢
  clear hr hm
  go_enter Try.func72, Try.ntmps72
  go_wp2_with (first | (go_at_call 85; refine (within_any _ _ _ _).mono ?_; rintro e w' ⟨rfl, rfl⟩) | (go_at_call 86; refine (HD.out _).mono ?_; rintro e w1 ⟨rfl, hb1⟩) | (go_at_call 87; refine (HR.out _).mono ?_; rintro e w1 ⟨rfl, hb1⟩))
  all_goals
    go_ret
    refine ⟨ret_bool ?_, ?_⟩
    · rw [HE.out]
      clear HE HD HR HB
      simp_all
  all_goals first | exact HB.out _ | exact below_of (HB.out _) hb1.out
/-- does its Kind go forward? -/
def fwdS (s : Sg) : Bool := decide (s.knd = 1) || (decide (s.knd = 3) || (decide (s.knd = 4) || decide (s.knd = 7)))
set_option maxRecDepth 20000 in
set_option maxHeartbeats 4000000 in
theorem forward_any (s : Sg) (a : Option Addr) (c : Nat) (a2 : Option Addr) (c2 : Nat) (w : World) : Calls Try.prog 47 #[sv s a c a2 c2] w fun e w' => e = .returned (.bool (fwdS s)) ∧ Hid (Below w.heap.size w w') := by
  have HE : Hid (fwdS s = (decide (s.knd = 1) || (decide (s.knd = 3) || (decide (s.knd = 4) || decide (s.knd = 7))))) := rfl
  have HB : Hid (∀ X : Obj, Below w.heap.size w (w.alloc X)) := fun X => (Below.refl _ w).alloc (Nat.le_refl _) X
  generalize fwdS s = R at HE ⊢
  go_enter Try.func47, Try.ntmps47
  go_wp2
  all_goals
    go_ret
    refine ⟨ret_bool ?_, HB.out _⟩
    rw [HE.out]
    clear HE HB
    simp_all
theorem rowC_nil (w : World) (a : Option Addr) : RowC w a [] := ⟨by simp, fun h => absurd h (by simp)⟩
set_option maxRecDepth 20000 in
set_option maxHeartbeats 4000000 in
theorem counted_1 (s : Sg) (a : Option Addr) (c : Nat) (a2 : Option Addr) (c2 : Nat) (w : World) (h1 : Row w a s.dat) (h2 : RowC w a2 s.cls) (k1 : (s.knd == 1) = true) : Calls Try.prog 73 #[sv s a c a2 c2] w fun e w' => ∃ b d b2 d2, e = .returned (sv (cntS s) b d b2 d2) ∧ Hid (Below w.heap.size w w' ∧ Row w b (cntS s).dat ∧ RowC w b2 (cntS s).cls) := by
  have HB : Hid (∀ X Y Z : Obj, Below w.heap.size w (((w.alloc X).alloc Y).alloc Z)) := fun X Y Z => (((Below.refl _ w).alloc (Nat.le_refl _) X).alloc (by simp) Y).alloc (by simp; omega) Z
  have H1 : Hid (Row w a s.dat) := h1
  have H2 : Hid (RowC w a2 s.cls) := h2
  clear h1 h2
  go_enter Try.func73, Try.ntmps73
  go_wp2
  go_region
  go_wp2
  go_region
  go_wp2
  have k1 : s.knd = 1 := by simpa using k1
  refine bodyPost_ret (v := sv (cntS s) a c none 0) (by simp [results, Try.results73, go_sem, cntS, zeroS, k1]) rfl ⟨_, _, _, _, rfl, ?_, ?_, ?_⟩
  · repeat (first | exact HB.out _ _ _ | refine Below.drew ?_)
  · have e : (cntS s).dat = s.dat := by simp [cntS, zeroS, k1]
    rw [e]; exact H1.out
  · have e : (cntS s).cls = [] := by simp [cntS, zeroS, k1]
    rw [e]; exact rowC_nil _ _
set_option maxRecDepth 20000 in
set_option maxHeartbeats 4000000 in
theorem counted_2 (s : Sg) (a : Option Addr) (c : Nat) (a2 : Option Addr) (c2 : Nat) (w : World) (h1 : Row w a s.dat) (h2 : RowC w a2 s.cls) (k1 : (s.knd == 1) = false) (k2 : (s.knd == 2) = true) : Calls Try.prog 73 #[sv s a c a2 c2] w fun e w' => ∃ b d b2 d2, e = .returned (sv (cntS s) b d b2 d2) ∧ Hid (Below w.heap.size w w' ∧ Row w b (cntS s).dat ∧ RowC w b2 (cntS s).cls) := by
  have HB : Hid (∀ X Y Z : Obj, Below w.heap.size w (((w.alloc X).alloc Y).alloc Z)) := fun X Y Z => (((Below.refl _ w).alloc (Nat.le_refl _) X).alloc (by simp) Y).alloc (by simp; omega) Z
  have H1 : Hid (Row w a s.dat) := h1
  have H2 : Hid (RowC w a2 s.cls) := h2
  clear h1 h2
  go_enter Try.func73, Try.ntmps73
  go_wp2
  go_region
  go_wp2
  go_region
  go_wp2
  have k1 : s.knd ≠ 1 := by simpa using k1
  have k2 : s.knd = 2 := by simpa using k2
  refine bodyPost_ret (v := sv (cntS s) none 0 a2 c2) (by simp [results, Try.results73, go_sem, cntS, zeroS, k2]) rfl ⟨_, _, _, _, rfl, ?_, ?_, ?_⟩
  · repeat (first | exact HB.out _ _ _ | refine Below.drew ?_)
  · have e : (cntS s).dat = [] := by simp [cntS, zeroS, k2]
    rw [e]; exact row_nil _ _
  · have e : (cntS s).cls = s.cls := by simp [cntS, zeroS, k2]
    rw [e]; exact H2.out
set_option maxRecDepth 20000 in
set_option maxHeartbeats 4000000 in
theorem counted_3 (s : Sg) (a : Option Addr) (c : Nat) (a2 : Option Addr) (c2 : Nat) (w : World) (h1 : Row w a s.dat) (h2 : RowC w a2 s.cls) (k1 : (s.knd == 1) = false) (k2 : (s.knd == 2) = false) (k3 : (s.knd == 3) = true) : Calls Try.prog 73 #[sv s a c a2 c2] w fun e w' => ∃ b d b2 d2, e = .returned (sv (cntS s) b d b2 d2) ∧ Hid (Below w.heap.size w w' ∧ Row w b (cntS s).dat ∧ RowC w b2 (cntS s).cls) := by
  have HB : Hid (∀ X Y Z : Obj, Below w.heap.size w (((w.alloc X).alloc Y).alloc Z)) := fun X Y Z => (((Below.refl _ w).alloc (Nat.le_refl _) X).alloc (by simp) Y).alloc (by simp; omega) Z
  have H1 : Hid (Row w a s.dat) := h1
  have H2 : Hid (RowC w a2 s.cls) := h2
  clear h1 h2
  go_enter Try.func73, Try.ntmps73
  go_wp2
  have k1 : s.knd ≠ 1 := by simpa using k1
  have k2 : s.knd ≠ 2 := by simpa using k2
  have k3 : s.knd = 3 := by simpa using k3
  refine bodyPost_ret (v := sv (cntS s) none 0 none 0) (by simp [results, Try.results73, go_sem, cntS, zeroS, k3]) rfl ⟨_, _, _, _, rfl, ?_, ?_, ?_⟩
  · repeat (first | exact HB.out _ _ _ | refine Below.drew ?_)
  · have e : (cntS s).dat = [] := by simp [cntS, zeroS, k3]
    rw [e]; exact row_nil _ _
  · have e : (cntS s).cls = [] := by simp [cntS, zeroS, k3]
    rw [e]; exact rowC_nil _ _
set_option maxRecDepth 20000 in
set_option maxHeartbeats 4000000 in
theorem counted_4 (s : Sg) (a : Option Addr) (c : Nat) (a2 : Option Addr) (c2 : Nat) (w : World) (h1 : Row w a s.dat) (h2 : RowC w a2 s.cls) (k1 : (s.knd == 1) = false) (k2 : (s.knd == 2) = false) (k3 : (s.knd == 3) = false) (k4 : (s.knd == 4) = true) : Calls Try.prog 73 #[sv s a c a2 c2] w fun e w' => ∃ b d b2 d2, e = .returned (sv (cntS s) b d b2 d2) ∧ Hid (Below w.heap.size w w' ∧ Row w b (cntS s).dat ∧ RowC w b2 (cntS s).cls) := by
  have HB : Hid (∀ X Y Z : Obj, Below w.heap.size w (((w.alloc X).alloc Y).alloc Z)) := fun X Y Z => (((Below.refl _ w).alloc (Nat.le_refl _) X).alloc (by simp) Y).alloc (by simp; omega) Z
  have H1 : Hid (Row w a s.dat) := h1
  have H2 : Hid (RowC w a2 s.cls) := h2
  clear h1 h2
  go_enter Try.func73, Try.ntmps73
  go_wp2
  have k1 : s.knd ≠ 1 := by simpa using k1
  have k2 : s.knd ≠ 2 := by simpa using k2
  have k3 : s.knd ≠ 3 := by simpa using k3
  have k4 : s.knd = 4 := by simpa using k4
  refine bodyPost_ret (v := sv (cntS s) none 0 none 0) (by simp [results, Try.results73, go_sem, cntS, zeroS, k4]) rfl ⟨_, _, _, _, rfl, ?_, ?_, ?_⟩
  · repeat (first | exact HB.out _ _ _ | refine Below.drew ?_)
  · have e : (cntS s).dat = [] := by simp [cntS, zeroS, k4]
    rw [e]; exact row_nil _ _
  · have e : (cntS s).cls = [] := by simp [cntS, zeroS, k4]
    rw [e]; exact rowC_nil _ _
set_option maxRecDepth 20000 in
set_option maxHeartbeats 4000000 in
theorem counted_6 (s : Sg) (a : Option Addr) (c : Nat) (a2 : Option Addr) (c2 : Nat) (w : World) (h1 : Row w a s.dat) (h2 : RowC w a2 s.cls) (k1 : (s.knd == 1) = false) (k2 : (s.knd == 2) = false) (k3 : (s.knd == 3) = false) (k4 : (s.knd == 4) = false) (k6 : (s.knd == 6) = true) : Calls Try.prog 73 #[sv s a c a2 c2] w fun e w' => ∃ b d b2 d2, e = .returned (sv (cntS s) b d b2 d2) ∧ Hid (Below w.heap.size w w' ∧ Row w b (cntS s).dat ∧ RowC w b2 (cntS s).cls) := by
  have HB : Hid (∀ X Y Z : Obj, Below w.heap.size w (((w.alloc X).alloc Y).alloc Z)) := fun X Y Z => (((Below.refl _ w).alloc (Nat.le_refl _) X).alloc (by simp) Y).alloc (by simp; omega) Z
  have H1 : Hid (Row w a s.dat) := h1
  have H2 : Hid (RowC w a2 s.cls) := h2
  clear h1 h2
  go_enter Try.func73, Try.ntmps73
  go_wp2
  have k1 : s.knd ≠ 1 := by simpa using k1
  have k2 : s.knd ≠ 2 := by simpa using k2
  have k3 : s.knd ≠ 3 := by simpa using k3
  have k4 : s.knd ≠ 4 := by simpa using k4
  have k6 : s.knd = 6 := by simpa using k6
  refine bodyPost_ret (v := sv (cntS s) none 0 none 0) (by simp [results, Try.results73, go_sem, cntS, zeroS, k6]) rfl ⟨_, _, _, _, rfl, ?_, ?_, ?_⟩
  · repeat (first | exact HB.out _ _ _ | refine Below.drew ?_)
  · have e : (cntS s).dat = [] := by simp [cntS, zeroS, k6]
    rw [e]; exact row_nil _ _
  · have e : (cntS s).cls = [] := by simp [cntS, zeroS, k6]
    rw [e]; exact rowC_nil _ _
set_option maxRecDepth 20000 in
set_option maxHeartbeats 4000000 in
theorem counted_0 (s : Sg) (a : Option Addr) (c : Nat) (a2 : Option Addr) (c2 : Nat) (w : World) (h1 : Row w a s.dat) (h2 : RowC w a2 s.cls) (k1 : (s.knd == 1) = false) (k2 : (s.knd == 2) = false) (k3 : (s.knd == 3) = false) (k4 : (s.knd == 4) = false) (k6 : (s.knd == 6) = false) : Calls Try.prog 73 #[sv s a c a2 c2] w fun e w' => ∃ b d b2 d2, e = .returned (sv (cntS s) b d b2 d2) ∧ Hid (Below w.heap.size w w' ∧ Row w b (cntS s).dat ∧ RowC w b2 (cntS s).cls) := by
  have HB : Hid (∀ X Y Z : Obj, Below w.heap.size w (((w.alloc X).alloc Y).alloc Z)) := fun X Y Z => (((Below.refl _ w).alloc (Nat.le_refl _) X).alloc (by simp) Y).alloc (by simp; omega) Z
  have H1 : Hid (Row w a s.dat) := h1
  have H2 : Hid (RowC w a2 s.cls) := h2
  clear h1 h2
  go_enter Try.func73, Try.ntmps73
  go_wp2
  have k1 : s.knd ≠ 1 := by simpa using k1
  have k2 : s.knd ≠ 2 := by simpa using k2
  have k3 : s.knd ≠ 3 := by simpa using k3
  have k4 : s.knd ≠ 4 := by simpa using k4
  have k6 : s.knd ≠ 6 := by simpa using k6
  refine bodyPost_ret (v := sv (cntS s) none 0 none 0) (by simp [results, Try.results73, go_sem, cntS, zeroS, k1, k2, k3, k4, k6]) rfl ⟨_, _, _, _, rfl, ?_, ?_, ?_⟩
  · repeat (first | exact HB.out _ _ _ | refine Below.drew ?_)
  · have e : (cntS s).dat = [] := by simp [cntS, zeroS, k1, k2, k3, k4, k6]
    rw [e]; exact row_nil _ _
  · have e : (cntS s).cls = [] := by simp [cntS, zeroS, k1, k2, k3, k4, k6]
    rw [e]; exact rowC_nil _ _
theorem counted_any (s : Sg) (a : Option Addr) (c : Nat) (a2 : Option Addr) (c2 : Nat) (w : World) (h1 : Row w a s.dat) (h2 : RowC w a2 s.cls) : Calls Try.prog 73 #[sv s a c a2 c2] w fun e w' => ∃ b d b2 d2, e = .returned (sv (cntS s) b d b2 d2) ∧ Hid (Below w.heap.size w w' ∧ Row w b (cntS s).dat ∧ RowC w b2 (cntS s).cls) := by
  cases k1 : s.knd == 1 with
  | true => exact counted_1 s a c a2 c2 w h1 h2 k1
  | false => cases k2 : s.knd == 2 with
    | true => exact counted_2 s a c a2 c2 w h1 h2 k1 k2
    | false => cases k3 : s.knd == 3 with
      | true => exact counted_3 s a c a2 c2 w h1 h2 k1 k2 k3
      | false => cases k4 : s.knd == 4 with
        | true => exact counted_4 s a c a2 c2 w h1 h2 k1 k2 k3 k4
        | false => cases k6 : s.knd == 6 with
          | true => exact counted_6 s a c a2 c2 w h1 h2 k1 k2 k3 k4 k6
          | false => exact counted_0 s a c a2 c2 w h1 h2 k1 k2 k3 k4 k6
end Go.Proofs.Ytnjcaolkcmpdcaa
