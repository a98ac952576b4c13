/- The walk of the laws' wakes. -/
import Derived.Test.YthhoafhkdioboaaSGet
import Derived.Test.YthhoafhkdioboaaHOpen
namespace Go.Proofs.Ythhoafhkdioboaa
open Go.RowKit
set_option linter.unusedVariables false

theorem three_row {w : World} (a b c : Nat) (ha : a < 256) (hb : b < 256) (hc : c < 256) : Row (w.alloc (.cells #[.int .u8 a, .int .u8 b, .int .u8 c] 5)) (some ⟨w.heap.size, 0, none⟩) [a, b, c] := by
  have hg := heap_alloc_new w (.cells #[.int .u8 a, .int .u8 b, .int .u8 c] 5)
  refine ⟨by simp; omega, by simp [maxLen], fun _ => ⟨_, _, rfl, fun i hi => ?_⟩⟩
  rw [cell_of hg, Nat.zero_add]
  match i, hi with
  | 0, _ => rfl
  | 1, _ => rfl
  | 2, _ => rfl
  | i + 3, hi => simp at hi; omega
theorem row_a {w : World} : Row (w.alloc (.cells #[.int .u8 130, .int .u8 44, .int .u8 5] 5)) (some ⟨w.heap.size, 0, none⟩) [130, 44, 5] := three_row 130 44 5 (by omega) (by omega) (by omega)
theorem row_b {w : World} {h : Nat} (e : w.heap.size = h) : Row (w.alloc (.cells #[.int .u8 7, .int .u8 130, .int .u8 44] 5)) (some ⟨h, 0, none⟩) [7, 130, 44] := by subst e; exact three_row 7 130 44 (by omega) (by omega) (by omega)
theorem row_c {w : World} {h : Nat} (e : w.heap.size = h) : Row (w.alloc (.cells #[.int .u8 7] 5)) (some ⟨h, 0, none⟩) [7] := by subst e; exact row_one 7 (by omega)
theorem get_wakes : getS [130, 44, 5] = (300, 2, 0) := by decide
theorem sd_wakes : sd 300 = [130, 44] := by decide
theorem sz_wakes : sz 300 = 2 := by decide
theorem sz_most : sz 18446744073709551615 = 10 := by decide

set_option maxRecDepth 20000 in
set_option maxHeartbeats 1000000 in
theorem wakes_any (w : World) : Calls Try.prog 9 #[] w fun e w' => e = .returned (.bool true) ∧ Hid (Below w.heap.size w w') := by
  have HB : Hid (∀ (w : World) X, Below w.heap.size w (w.alloc X)) := fun w X => (Below.refl _ w).alloc (Nat.le_refl _) X
  have HG : ∀ w a c, Row w a [130, 44, 5] → Calls Try.prog 16 #[.slice a 3 c] w fun e w' => e = .returned (.tuple #[.int .u64 300, .int .i64 2, .int .i64 0]) ∧ w = w' := fun w a c h => by
    have := get_any w a c _ h (by simp)
    rw [get_wakes] at this
    exact this
  have HP : ∀ w a c, Row w a [7] → Calls Try.prog 12 #[.slice a 1 c, .int .u64 300] w fun e w' => e = .returned (.slice (some ⟨w.heap.size, 0, none⟩) 3 3) ∧ Hid (Bs w' w.heap.size [7, 130, 44] ∧ Below w.heap.size w w') := fun w a c h => by
    have := put_any w a c _ 300 h (by simp) (by omega)
    rw [sd_wakes, sz_wakes] at this
    exact this
  have HZ : ∀ w, Calls Try.prog 14 #[.int .u64 18446744073709551615] w fun e w' => e = .returned (.int .i64 10) ∧ w = w' := fun w => by
    have := size_any w 18446744073709551615 (by omega)
    rw [sz_most] at this
    exact this
  have HE : ∀ w a b c d, Row w a [7, 130, 44] → Row w b [7, 130, 44] → Calls Try.prog 13 #[.slice a 3 c, .slice b 3 d] w fun e w' => e = .returned (.bool true) ∧ w' = w := fun w a b c d h1 h2 => by
    have := bytesEqual_any a b c d _ _ w h1 h2
    simpa using this
  go_enter Try.func9, Try.ntmps9
  go_wp2_with (first | (go_at_call 16; refine (HG _ _ _ row_a).mono ?_; rintro e w1 ⟨rfl, rfl⟩) | (go_at_call 12; refine (HP _ _ _ (row_c (w := w.alloc (.cells #[.int .u8 130, .int .u8 44, .int .u8 5] 5)) (h := w.heap.size + 1) (by simp))).mono ?_; rintro e w2 ⟨rfl, HQ⟩; have HQ1 : Hid (Bs w2 (w.heap.size + 2) [7, 130, 44]) := (by show Bs _ _ _; simpa using HQ.out.1)) | (go_at_call 13; refine (HE _ _ _ _ _ (HQ1.out.later (HB.out _ _)).row (row_b rfl)).mono ?_; rintro e w3 ⟨rfl, rfl⟩) | (go_at_call 14; refine (HZ _).mono ?_; rintro e w4 ⟨rfl, rfl⟩))
  go_ret
  exact ⟨rfl, below_of (below_of (below_of (HB.out _ _) (HB.out _ _)) HQ.out.2) (HB.out _ _)⟩
end Go.Proofs.Ythhoafhkdioboaa
