/- PduSame: messages held against each other. -/
import Derived.Test.YtfkkaihnmnjadaaPWakes
import Derived.Test.YtfkkaihnmnjadaaPRSame
import Derived.Test.YtfkkaihnmnjadaaPCopy
namespace Go.Proofs.Ytfkkaihnmnjadaa
open Go.RowKit
set_option linter.unusedVariables false
set_option maxRecDepth 20000 in
set_option maxHeartbeats 16000000 in
theorem psame_any (w : World) (x y : Ms) (a : Option Addr) (c : Nat) (b : Option Addr) (d : Nat) (hx : Came w x a c) (hy : Came w y b d) : Calls Try.prog 5 #[mv x a c, mv y b d] w fun e w' => e = .returned (.bool true) ∧ Hid (Below w.heap.size w w') := by
  have HB : Hid (∀ (w : World) (X : Obj), Below w.heap.size w (w.alloc X)) := fun w X => (Below.refl _ w).alloc (Nat.le_refl _) X
  have HS1 : Hid (∀ W, Below w.heap.size w W → Calls Try.prog 18 #[mv x a c, mv y b d] W fun e w' => e = .returned (.bool (sameM x y)) ∧ Hid (Below W.heap.size W w')) := fun W hb => Go.Proofs.Ytfkkaihnmnjadaa.same_any x y a c b d W (hx.row.later hb) (hy.row.later hb)
  have HS2 : Hid (∀ W, Below w.heap.size w W → Calls Try.prog 17 #[mv x a c, mv y b d] W fun e w' => e = .returned (.bool (sameM x y)) ∧ Hid (Below W.heap.size W w')) := fun W hb => rsameM_any x y a c b d W (hx.row.later hb) (hy.row.later hb)
  have HCP : Hid (∀ W, Below w.heap.size w W → Calls Try.prog 10 #[mv x a c] W fun e w' => ∃ a' c', e = .returned (mv x a' c') ∧ Hid (Row w' a' x.bts ∧ Below W.heap.size W w')) := fun W hb => (copied_any x a c W (hx.later hb)).mono (by rintro e w' ⟨a', c', rfl, hq⟩; exact ⟨a', c', rfl, hq.out.1.row, hq.out.2⟩)
  have HS3 : Hid (∀ W a' c', Below w.heap.size w W → Row W a' x.bts → Calls Try.prog 18 #[mv x a c, mv x a' c'] W fun e w' => e = .returned (.bool true) ∧ Hid (Below W.heap.size W w')) := fun W a' c' hb h => by
    have := Go.Proofs.Ytfkkaihnmnjadaa.same_any x x a c a' c' W (hx.row.later hb) h
    rw [sameM_self] at this
    exact this
  have HS4 : Hid (∀ W, Below w.heap.size w W → Calls Try.prog 18 #[mv y b d, mv x a c] W fun e w' => e = .returned (.bool (sameM x y)) ∧ Hid (Below W.heap.size W w')) := fun W hb => by
    have := Go.Proofs.Ytfkkaihnmnjadaa.same_any y x b d a c W (hy.row.later hb) (hx.row.later hb)
    rw [sameM_comm y x] at this
    exact this
  generalize sameM x y = R at HS1 HS2 HS4
  have HN0 : Hid (((w.alloc (mc x a c)).alloc (mc y b d)).heap[w.heap.size]? = some (mc x a c)) := (show _ = _ from old_block (HB.out _ _) (heap_alloc_new w _))
  have HN1 : Hid (((w.alloc (mc x a c)).alloc (mc y b d)).heap[w.heap.size + 1]? = some (mc y b d)) := (show _ = _ from by have := heap_alloc_new (w.alloc (mc x a c)) (mc y b d); simpa using this)
  have HNB : Hid (Below w.heap.size w ((w.alloc (mc x a c)).alloc (mc y b d))) := below_of (HB.out _ _) (HB.out _ _)
  clear hx hy
  cases R
  all_goals
    go_enter Try.func5, Try.ntmps5
    go_wp2_with (go_at_call 8; refine (wakes_any _).mono ?_; rintro e w1 ⟨rfl, hb1⟩; have HW1 : Hid (Below w.heap.size w w1) := below_of HNB.out hb1.out; obtain ⟨e0, e1, e2, e3, e4, e5, e6, e7⟩ := mcells (old_block hb1.out HN0.out); obtain ⟨f0, f1, f2, f3, f4, f5, f6, f7⟩ := mcells (old_block hb1.out HN1.out); clear hb1)
    have hX : Below w1.heap.size w1 w1.drew := (Below.refl _ _).drew
    go_region_held3 (fun W' => W'.cell? ⟨w.heap.size, 0, none⟩ = some (.int .i64 x.knd) ∧ W'.cell? ⟨w.heap.size, 1, none⟩ = some (.int .u32 (x.num : Nat)) ∧ W'.cell? ⟨w.heap.size, 2, none⟩ = some (.string x.nam) ∧ W'.cell? ⟨w.heap.size, 3, none⟩ = some (.int .i64 x.siz) ∧ W'.cell? ⟨w.heap.size, 4, none⟩ = some (.int .i64 x.off) ∧ W'.cell? ⟨w.heap.size, 5, none⟩ = some (.int .u32 (x.sum : Nat)) ∧ W'.cell? ⟨w.heap.size, 6, none⟩ = some (.int .i64 x.cod) ∧ W'.cell? ⟨w.heap.size, 7, none⟩ = some (.slice a x.bts.length c) ∧ W'.cell? ⟨w.heap.size + 1, 0, none⟩ = some (.int .i64 y.knd) ∧ W'.cell? ⟨w.heap.size + 1, 1, none⟩ = some (.int .u32 (y.num : Nat)) ∧ W'.cell? ⟨w.heap.size + 1, 2, none⟩ = some (.string y.nam) ∧ W'.cell? ⟨w.heap.size + 1, 3, none⟩ = some (.int .i64 y.siz) ∧ W'.cell? ⟨w.heap.size + 1, 4, none⟩ = some (.int .i64 y.off) ∧ W'.cell? ⟨w.heap.size + 1, 5, none⟩ = some (.int .u32 (y.sum : Nat)) ∧ W'.cell? ⟨w.heap.size + 1, 6, none⟩ = some (.int .i64 y.cod) ∧ W'.cell? ⟨w.heap.size + 1, 7, none⟩ = some (.slice b y.bts.length d)) (first | exact ⟨e0, e1, e2, e3, e4, e5, e6, e7, f0, f1, f2, f3, f4, f5, f6, f7⟩ | exact ⟨cell_later hX e0, cell_later hX e1, cell_later hX e2, cell_later hX e3, cell_later hX e4, cell_later hX e5, cell_later hX e6, cell_later hX e7, cell_later hX f0, cell_later hX f1, cell_later hX f2, cell_later hX f3, cell_later hX f4, cell_later hX f5, cell_later hX f6, cell_later hX f7⟩) (first
      | (have gd := w6k; go_at_call 18; refine (HS1.out _ (below_of HW1.out hX)).mono ?_; rintro e w7 ⟨rfl, hq7⟩; have hX := below_of hX hq7.out)
      | (have gd := w5k; go_at_call 18; refine (HS4.out _ (below_of HW1.out hX)).mono ?_; rintro e w6 ⟨rfl, hq6⟩; have hX := below_of hX hq6.out; have w6k := w5k; clear w5k)
      | (have gd := hr4; go_at_call 18; refine (HS3.out _ a4 c4 (below_of HW1.out hX) hr4).mono ?_; rintro e w5 ⟨rfl, hq5⟩; have hX := below_of hX hq5.out; have w5k : True := trivial; clear hr4)
      | (go_at_call 10; refine (HCP.out _ (below_of HW1.out hX)).mono ?_; rintro e w4 ⟨a4, c4, rfl, hq4⟩; have hX := below_of hX hq4.out.2; have hr4 := hq4.out.1)
      | (go_at_call 17; refine (HS2.out _ (below_of HW1.out hX)).mono ?_; rintro e w3 ⟨rfl, hq3⟩; have hX := below_of hX hq3.out)
      | (go_at_call 18; refine (HS1.out _ (below_of HW1.out hX)).mono ?_; rintro e w2 ⟨rfl, hq2⟩; have hX := below_of hX hq2.out))
    all_goals
      go_wp2
      go_ret
      exact ⟨rfl, below_of HW1.out hX⟩
end Go.Proofs.Ytfkkaihnmnjadaa
