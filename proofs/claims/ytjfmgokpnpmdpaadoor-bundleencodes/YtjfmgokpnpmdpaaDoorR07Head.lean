/- The walk of the reference's Head (heliographref07). -/
import Derived.Test.YtjfmgokpnpmdpaaDoorR01
import Derived.Test.YtjfmgokpnpmdpaaDoorCIt
namespace Go.Proofs.YtjfmgokpnpmdpaaDoor
open Go.RowKit
set_option linter.unusedVariables false

theorem row_one_int {w : World} {x : Int} (n : Nat) (hx : x = (n : Nat)) (hn : n < 256) : Row (w.alloc (.cells #[.int .u8 x] 5)) (some ⟨w.heap.size, 0, none⟩) [n] := by subst hx; exact row_one n hn
theorem row_two_int {w : World} {x y : Int} (n m : Nat) (hx : x = (n : Nat)) (hy : y = (m : Nat)) (hn : n < 256) (hm : m < 256) : Row (w.alloc (.cells #[.int .u8 x, .int .u8 y] 5)) (some ⟨w.heap.size, 0, none⟩) [n, m] := by
  subst hx hy
  have hg := heap_alloc_new w (.cells #[.int .u8 n, .int .u8 m] 5)
  refine ⟨by simp; omega, by simp [maxLen], fun _ => ⟨_, _, rfl, fun i hi => ?_⟩⟩
  rw [cell_of hg, Nat.zero_add]
  match i, hi with
  | 0, _ => rfl
  | 1, _ => rfl
  | i + 2, hi => simp at hi; omega
set_option maxRecDepth 200000 in
set_option maxHeartbeats 2000000 in
theorem head_any (w : World) (t n : Nat) (ht : t < 8) (hn : n < 18446744073709551616) :
    Calls Tryd.prog 36 #[.int .i64 t, .int .u64 n] w fun e w' => ∃ a c, e = .returned (.slice a (hd t n).length c) ∧ Hid (Row w' a (hd t n) ∧ Below w.heap.size w w') := by
  have HBA : Hid (∀ (w : World) X, Below w.heap.size w (w.alloc X)) := fun w X => (Below.refl _ w).alloc (Nat.le_refl _) X
  by_cases h1 : n < 24
  · have HH : Hid (hd t n = [32 * t + n]) := by show _ = _; unfold hd; rw [if_pos h1]
    generalize hd t n = H at HH ⊢
    go_enter Tryd.func36, Tryd.ntmps36
    go_wp2
    go_ret
    rw [HH.out]
    exact ⟨_, 1, rfl, row_one_int (32 * t + n) (by omega) (by omega), HBA.out _ _⟩
  by_cases h2 : n < 256
  · have HH : Hid (hd t n = [32 * t + 24, n]) := by
      show _ = _
      unfold hd
      rw [if_neg h1, if_pos h2, be_succ]
      simp [be, leN]
      omega
    generalize hd t n = H at HH ⊢
    go_enter Tryd.func36, Tryd.ntmps36
    go_wp2
    go_ret
    rw [HH.out]
    exact ⟨_, 2, rfl, row_two_int (32 * t + 24) n (by omega) (by omega) (by omega) (by omega), HBA.out _ _⟩
  by_cases h3 : n < 65536
  · have HH : Hid (hd t n = [32 * t + 25] ++ be n 2) := by show _ = _; unfold hd; rw [if_neg h1, if_neg h2, if_pos h3]; rfl
    have HHI0 := fun w => high_any n 2 w hn (by omega)
    have HHI : Hid _ := HHI0
    clear HHI0
    generalize hd t n = H at HH ⊢
    have d1 : decide ((n : Int) < 24) = false := by simp; omega
    have d2 : decide ((n : Int) < 256) = false := by simp; omega
    have d3 : decide ((n : Int) < 65536) = true := by simp; omega
    clear h1 h2 h3 hn
    go_enter Tryd.func36, Tryd.ntmps36
    go_wp2_with fail
    refine (HHI.out _).mono ?_
    rintro e w1 ⟨rfl, hq1⟩
    have HR1 : Hid _ := (row_one_int (w := w) (x := 32 * (t : Int) + 25) (32 * t + 25) (by omega) (by omega)).later hq1.out.2
    have HR2 : Hid (Row w1 (some ⟨w.heap.size + 1, 0, none⟩) (be n 2)) := by show Row _ _ _; have := hq1.out.1.row; simpa using this
    go_wp2_with fail
    refine (both_at w1 _ _ _ _ 1 2 [32 * t + 25] (be n 2) rfl (be_length _ _) HR1.out HR2.out (by omega)).mono ?_
    rintro e w2 ⟨a2, c2, rfl, hq2⟩
    go_wp2
    go_ret
    rw [HH.out]
    exact ⟨a2, c2, by simp [be_length], hq2.out.1.row, below_of (below_of (HBA.out _ _) hq1.out.2) hq2.out.2⟩
  by_cases h4 : n < 4294967296
  · have HH : Hid (hd t n = [32 * t + 26] ++ be n 4) := by show _ = _; unfold hd; rw [if_neg h1, if_neg h2, if_neg h3, if_pos h4]; rfl
    have HHI0 := fun w => high_any n 4 w hn (by omega)
    have HHI : Hid _ := HHI0
    clear HHI0
    generalize hd t n = H at HH ⊢
    have d1 : decide ((n : Int) < 24) = false := by simp; omega
    have d2 : decide ((n : Int) < 256) = false := by simp; omega
    have d3 : decide ((n : Int) < 65536) = false := by simp; omega
    have d4 : decide ((n : Int) < 4294967296) = true := by simp; omega
    clear h1 h2 h3 h4 hn
    go_enter Tryd.func36, Tryd.ntmps36
    go_wp2_with fail
    refine (HHI.out _).mono ?_
    rintro e w1 ⟨rfl, hq1⟩
    have HR1 : Hid _ := (row_one_int (w := w) (x := 32 * (t : Int) + 26) (32 * t + 26) (by omega) (by omega)).later hq1.out.2
    have HR2 : Hid (Row w1 (some ⟨w.heap.size + 1, 0, none⟩) (be n 4)) := by show Row _ _ _; have := hq1.out.1.row; simpa using this
    go_wp2_with fail
    refine (both_at w1 _ _ _ _ 1 4 [32 * t + 26] (be n 4) rfl (be_length _ _) HR1.out HR2.out (by omega)).mono ?_
    rintro e w2 ⟨a2, c2, rfl, hq2⟩
    go_wp2
    go_ret
    rw [HH.out]
    exact ⟨a2, c2, by simp [be_length], hq2.out.1.row, below_of (below_of (HBA.out _ _) hq1.out.2) hq2.out.2⟩
  · have HH : Hid (hd t n = [32 * t + 27] ++ be n 8) := by show _ = _; unfold hd; rw [if_neg h1, if_neg h2, if_neg h3, if_neg h4]; rfl
    have HHI0 := fun w => high_any n 8 w hn (by omega)
    have HHI : Hid _ := HHI0
    clear HHI0
    generalize hd t n = H at HH ⊢
    have d1 : decide ((n : Int) < 24) = false := by simp; omega
    have d2 : decide ((n : Int) < 256) = false := by simp; omega
    have d3 : decide ((n : Int) < 65536) = false := by simp; omega
    have d4 : decide ((n : Int) < 4294967296) = false := by simp; omega
    clear h1 h2 h3 h4 hn
    go_enter Tryd.func36, Tryd.ntmps36
    go_wp2_with fail
    refine (HHI.out _).mono ?_
    rintro e w1 ⟨rfl, hq1⟩
    have HR1 : Hid _ := (row_one_int (w := w) (x := 32 * (t : Int) + 27) (32 * t + 27) (by omega) (by omega)).later hq1.out.2
    have HR2 : Hid (Row w1 (some ⟨w.heap.size + 1, 0, none⟩) (be n 8)) := by show Row _ _ _; have := hq1.out.1.row; simpa using this
    go_wp2_with fail
    refine (both_at w1 _ _ _ _ 1 8 [32 * t + 27] (be n 8) rfl (be_length _ _) HR1.out HR2.out (by omega)).mono ?_
    rintro e w2 ⟨a2, c2, rfl, hq2⟩
    go_wp2
    go_ret
    rw [HH.out]
    exact ⟨a2, c2, by simp [be_length], hq2.out.1.row, below_of (below_of (HBA.out _ _) hq1.out.2) hq2.out.2⟩
end Go.Proofs.YtjfmgokpnpmdpaaDoor
