/- pdu.counted. -/
import Derived.Test.YtfkkaihnmnjadaaPWalk
namespace Go.Proofs.Ytfkkaihnmnjadaa
open Go.RowKit
set_option linter.unusedVariables false
/-- what counted leaves. -/
def Cnt (w : World) (m : Ms) (e : Ending) (w' : World) : Prop := ∃ b d, e = .returned (mv (cntM m) b d) ∧ Hid (Below w.heap.size w w' ∧ Row w b (cntM m).bts)
set_option maxRecDepth 20000 in
set_option maxHeartbeats 4000000 in
theorem counted_1 (m : Ms) (a : Option Addr) (c : Nat) (w : World) (h1 : Row w a m.bts) (hk : m.knd = 1) : Calls Try.prog 26 #[mv m a c, .int .u8 3] w fun e w' => Cnt w m e w' := by
  have HB : Hid (∀ X Y Z : Obj, Below w.heap.size w (((w.alloc X).alloc Y).alloc Z)) := fun X Y Z => (((Below.refl _ w).alloc (Nat.le_refl _) X).alloc (by simp) Y).alloc (by simp; omega) Z
  have H1 : Hid (Row w a m.bts) := h1
  have ec : cntM m = ⟨m.knd, m.num, m.nam, m.siz, 0, 0, 0, []⟩ := by unfold cntM; rw [hk]; rfl
  unfold Cnt
  rw [ec]
  clear h1 hk ec
  have q1 : hsI 3 1 = true := by decide
  have q2 : hsI 3 2 = true := by decide
  have q4 : hsI 3 4 = false := by decide
  have q8 : hsI 3 8 = false := by decide
  have q16 : hsI 3 16 = false := by decide
  have q32 : hsI 3 32 = false := by decide
  go_enter Try.func26, Try.ntmps26
  go_wp2_with (go_at_call 22; refine (has_any _ _ _).mono ?_; rintro e w' ⟨rfl, rfl⟩)
  refine bodyPost_ret (v := mv ⟨m.knd, m.num, m.nam, m.siz, 0, 0, 0, []⟩ none 0) (by simp [results, Try.results26, go_sem]) rfl ⟨_, _, rfl, HB.out _ _ _, row_nil _ _⟩
set_option maxRecDepth 20000 in
set_option maxHeartbeats 4000000 in
theorem counted_2 (m : Ms) (a : Option Addr) (c : Nat) (w : World) (h1 : Row w a m.bts) (hk : m.knd = 2) : Calls Try.prog 26 #[mv m a c, .int .u8 36] w fun e w' => Cnt w m e w' := by
  have HB : Hid (∀ X Y Z : Obj, Below w.heap.size w (((w.alloc X).alloc Y).alloc Z)) := fun X Y Z => (((Below.refl _ w).alloc (Nat.le_refl _) X).alloc (by simp) Y).alloc (by simp; omega) Z
  have H1 : Hid (Row w a m.bts) := h1
  have ec : cntM m = ⟨m.knd, m.num, ⟨#[]⟩, 0, m.off, 0, 0, m.bts⟩ := by unfold cntM; rw [hk]; rfl
  unfold Cnt
  rw [ec]
  clear h1 hk ec
  have q1 : hsI 36 1 = false := by decide
  have q2 : hsI 36 2 = false := by decide
  have q4 : hsI 36 4 = true := by decide
  have q8 : hsI 36 8 = false := by decide
  have q16 : hsI 36 16 = false := by decide
  have q32 : hsI 36 32 = true := by decide
  go_enter Try.func26, Try.ntmps26
  go_wp2_with (go_at_call 22; refine (has_any _ _ _).mono ?_; rintro e w' ⟨rfl, rfl⟩)
  refine bodyPost_ret (v := mv ⟨m.knd, m.num, ⟨#[]⟩, 0, m.off, 0, 0, m.bts⟩ a c) (by simp [results, Try.results26, go_sem]) rfl ⟨_, _, rfl, HB.out _ _ _, H1.out⟩
set_option maxRecDepth 20000 in
set_option maxHeartbeats 4000000 in
theorem counted_3 (m : Ms) (a : Option Addr) (c : Nat) (w : World) (h1 : Row w a m.bts) (hk : m.knd = 3) : Calls Try.prog 26 #[mv m a c, .int .u8 10] w fun e w' => Cnt w m e w' := by
  have HB : Hid (∀ X Y Z : Obj, Below w.heap.size w (((w.alloc X).alloc Y).alloc Z)) := fun X Y Z => (((Below.refl _ w).alloc (Nat.le_refl _) X).alloc (by simp) Y).alloc (by simp; omega) Z
  have H1 : Hid (Row w a m.bts) := h1
  have ec : cntM m = ⟨m.knd, m.num, ⟨#[]⟩, m.siz, 0, m.sum, 0, []⟩ := by unfold cntM; rw [hk]; rfl
  unfold Cnt
  rw [ec]
  clear h1 hk ec
  have q1 : hsI 10 1 = false := by decide
  have q2 : hsI 10 2 = true := by decide
  have q4 : hsI 10 4 = false := by decide
  have q8 : hsI 10 8 = true := by decide
  have q16 : hsI 10 16 = false := by decide
  have q32 : hsI 10 32 = false := by decide
  go_enter Try.func26, Try.ntmps26
  go_wp2_with (go_at_call 22; refine (has_any _ _ _).mono ?_; rintro e w' ⟨rfl, rfl⟩)
  refine bodyPost_ret (v := mv ⟨m.knd, m.num, ⟨#[]⟩, m.siz, 0, m.sum, 0, []⟩ none 0) (by simp [results, Try.results26, go_sem]) rfl ⟨_, _, rfl, HB.out _ _ _, row_nil _ _⟩
set_option maxRecDepth 20000 in
set_option maxHeartbeats 4000000 in
theorem counted_4 (m : Ms) (a : Option Addr) (c : Nat) (w : World) (h1 : Row w a m.bts) (hk : m.knd = 4) : Calls Try.prog 26 #[mv m a c, .int .u8 16] w fun e w' => Cnt w m e w' := by
  have HB : Hid (∀ X Y Z : Obj, Below w.heap.size w (((w.alloc X).alloc Y).alloc Z)) := fun X Y Z => (((Below.refl _ w).alloc (Nat.le_refl _) X).alloc (by simp) Y).alloc (by simp; omega) Z
  have H1 : Hid (Row w a m.bts) := h1
  have ec : cntM m = ⟨m.knd, m.num, ⟨#[]⟩, 0, 0, 0, m.cod, []⟩ := by unfold cntM; rw [hk]; rfl
  unfold Cnt
  rw [ec]
  clear h1 hk ec
  have q1 : hsI 16 1 = false := by decide
  have q2 : hsI 16 2 = false := by decide
  have q4 : hsI 16 4 = false := by decide
  have q8 : hsI 16 8 = false := by decide
  have q16 : hsI 16 16 = true := by decide
  have q32 : hsI 16 32 = false := by decide
  go_enter Try.func26, Try.ntmps26
  go_wp2_with (go_at_call 22; refine (has_any _ _ _).mono ?_; rintro e w' ⟨rfl, rfl⟩)
  refine bodyPost_ret (v := mv ⟨m.knd, m.num, ⟨#[]⟩, 0, 0, 0, m.cod, []⟩ none 0) (by simp [results, Try.results26, go_sem]) rfl ⟨_, _, rfl, HB.out _ _ _, row_nil _ _⟩
set_option maxRecDepth 20000 in
set_option maxHeartbeats 4000000 in
theorem counted_5 (m : Ms) (a : Option Addr) (c : Nat) (w : World) (h1 : Row w a m.bts) (hk : m.knd = 5) : Calls Try.prog 26 #[mv m a c, .int .u8 33] w fun e w' => Cnt w m e w' := by
  have HB : Hid (∀ X Y Z : Obj, Below w.heap.size w (((w.alloc X).alloc Y).alloc Z)) := fun X Y Z => (((Below.refl _ w).alloc (Nat.le_refl _) X).alloc (by simp) Y).alloc (by simp; omega) Z
  have H1 : Hid (Row w a m.bts) := h1
  have ec : cntM m = ⟨m.knd, m.num, m.nam, 0, 0, 0, 0, m.bts⟩ := by unfold cntM; rw [hk]; rfl
  unfold Cnt
  rw [ec]
  clear h1 hk ec
  have q1 : hsI 33 1 = true := by decide
  have q2 : hsI 33 2 = false := by decide
  have q4 : hsI 33 4 = false := by decide
  have q8 : hsI 33 8 = false := by decide
  have q16 : hsI 33 16 = false := by decide
  have q32 : hsI 33 32 = true := by decide
  go_enter Try.func26, Try.ntmps26
  go_wp2_with (go_at_call 22; refine (has_any _ _ _).mono ?_; rintro e w' ⟨rfl, rfl⟩)
  refine bodyPost_ret (v := mv ⟨m.knd, m.num, m.nam, 0, 0, 0, 0, m.bts⟩ a c) (by simp [results, Try.results26, go_sem]) rfl ⟨_, _, rfl, HB.out _ _ _, H1.out⟩
set_option maxRecDepth 20000 in
set_option maxHeartbeats 4000000 in
theorem counted_6 (m : Ms) (a : Option Addr) (c : Nat) (w : World) (h1 : Row w a m.bts) (hk : m.knd = 6) : Calls Try.prog 26 #[mv m a c, .int .u8 1] w fun e w' => Cnt w m e w' := by
  have HB : Hid (∀ X Y Z : Obj, Below w.heap.size w (((w.alloc X).alloc Y).alloc Z)) := fun X Y Z => (((Below.refl _ w).alloc (Nat.le_refl _) X).alloc (by simp) Y).alloc (by simp; omega) Z
  have H1 : Hid (Row w a m.bts) := h1
  have ec : cntM m = ⟨m.knd, m.num, m.nam, 0, 0, 0, 0, []⟩ := by unfold cntM; rw [hk]; rfl
  unfold Cnt
  rw [ec]
  clear h1 hk ec
  have q1 : hsI 1 1 = true := by decide
  have q2 : hsI 1 2 = false := by decide
  have q4 : hsI 1 4 = false := by decide
  have q8 : hsI 1 8 = false := by decide
  have q16 : hsI 1 16 = false := by decide
  have q32 : hsI 1 32 = false := by decide
  go_enter Try.func26, Try.ntmps26
  go_wp2_with (go_at_call 22; refine (has_any _ _ _).mono ?_; rintro e w' ⟨rfl, rfl⟩)
  refine bodyPost_ret (v := mv ⟨m.knd, m.num, m.nam, 0, 0, 0, 0, []⟩ none 0) (by simp [results, Try.results26, go_sem]) rfl ⟨_, _, rfl, HB.out _ _ _, row_nil _ _⟩
set_option maxRecDepth 20000 in
set_option maxHeartbeats 4000000 in
theorem counted_7 (m : Ms) (a : Option Addr) (c : Nat) (w : World) (h1 : Row w a m.bts) (hk : m.knd = 7) : Calls Try.prog 26 #[mv m a c, .int .u8 32] w fun e w' => Cnt w m e w' := by
  have HB : Hid (∀ X Y Z : Obj, Below w.heap.size w (((w.alloc X).alloc Y).alloc Z)) := fun X Y Z => (((Below.refl _ w).alloc (Nat.le_refl _) X).alloc (by simp) Y).alloc (by simp; omega) Z
  have H1 : Hid (Row w a m.bts) := h1
  have ec : cntM m = ⟨m.knd, m.num, ⟨#[]⟩, 0, 0, 0, 0, m.bts⟩ := by unfold cntM; rw [hk]; rfl
  unfold Cnt
  rw [ec]
  clear h1 hk ec
  have q1 : hsI 32 1 = false := by decide
  have q2 : hsI 32 2 = false := by decide
  have q4 : hsI 32 4 = false := by decide
  have q8 : hsI 32 8 = false := by decide
  have q16 : hsI 32 16 = false := by decide
  have q32 : hsI 32 32 = true := by decide
  go_enter Try.func26, Try.ntmps26
  go_wp2_with (go_at_call 22; refine (has_any _ _ _).mono ?_; rintro e w' ⟨rfl, rfl⟩)
  refine bodyPost_ret (v := mv ⟨m.knd, m.num, ⟨#[]⟩, 0, 0, 0, 0, m.bts⟩ a c) (by simp [results, Try.results26, go_sem]) rfl ⟨_, _, rfl, HB.out _ _ _, H1.out⟩
set_option maxRecDepth 20000 in
set_option maxHeartbeats 4000000 in
theorem counted_8 (m : Ms) (a : Option Addr) (c : Nat) (w : World) (h1 : Row w a m.bts) (hk : m.knd = 8) : Calls Try.prog 26 #[mv m a c, .int .u8 48] w fun e w' => Cnt w m e w' := by
  have HB : Hid (∀ X Y Z : Obj, Below w.heap.size w (((w.alloc X).alloc Y).alloc Z)) := fun X Y Z => (((Below.refl _ w).alloc (Nat.le_refl _) X).alloc (by simp) Y).alloc (by simp; omega) Z
  have H1 : Hid (Row w a m.bts) := h1
  have ec : cntM m = ⟨m.knd, m.num, ⟨#[]⟩, 0, 0, 0, m.cod, m.bts⟩ := by unfold cntM; rw [hk]; rfl
  unfold Cnt
  rw [ec]
  clear h1 hk ec
  have q1 : hsI 48 1 = false := by decide
  have q2 : hsI 48 2 = false := by decide
  have q4 : hsI 48 4 = false := by decide
  have q8 : hsI 48 8 = false := by decide
  have q16 : hsI 48 16 = true := by decide
  have q32 : hsI 48 32 = true := by decide
  go_enter Try.func26, Try.ntmps26
  go_wp2_with (go_at_call 22; refine (has_any _ _ _).mono ?_; rintro e w' ⟨rfl, rfl⟩)
  refine bodyPost_ret (v := mv ⟨m.knd, m.num, ⟨#[]⟩, 0, 0, 0, m.cod, m.bts⟩ a c) (by simp [results, Try.results26, go_sem]) rfl ⟨_, _, rfl, HB.out _ _ _, H1.out⟩
theorem counted_any (m : Ms) (a : Option Addr) (c : Nat) (w : World) (h1 : Row w a m.bts) (hk : fld m.knd ≠ 0) : Calls Try.prog 26 #[mv m a c, .int .u8 (fld m.knd : Nat)] w fun e w' => Cnt w m e w' := by
  rcases fld_cases m.knd with h | h | h | h | h | h | h | h | h
  · have hf : fld m.knd = 3 := by rw [h]; rfl
    rw [hf]; exact counted_1 m a c w h1 h
  · have hf : fld m.knd = 36 := by rw [h]; rfl
    rw [hf]; exact counted_2 m a c w h1 h
  · have hf : fld m.knd = 10 := by rw [h]; rfl
    rw [hf]; exact counted_3 m a c w h1 h
  · have hf : fld m.knd = 16 := by rw [h]; rfl
    rw [hf]; exact counted_4 m a c w h1 h
  · have hf : fld m.knd = 33 := by rw [h]; rfl
    rw [hf]; exact counted_5 m a c w h1 h
  · have hf : fld m.knd = 1 := by rw [h]; rfl
    rw [hf]; exact counted_6 m a c w h1 h
  · have hf : fld m.knd = 32 := by rw [h]; rfl
    rw [hf]; exact counted_7 m a c w h1 h
  · have hf : fld m.knd = 48 := by rw [h]; rfl
    rw [hf]; exact counted_8 m a c w h1 h
  · exact absurd h hk
end Go.Proofs.Ytfkkaihnmnjadaa
