/- slices.Repeat of one number, ten times. -/
import Derived.Test.YtjfmgokpnpmdpaaDoorBList
import Derived.Deep.RegionLaw
namespace Go.Proofs.YtjfmgokpnpmdpaaDoor
open Go.RowKit
set_option linter.unusedVariables false
set_option maxRecDepth 20000 in
set_option maxHeartbeats 4000000 in
theorem mul_10 (w : World) : Calls Tryd.prog 71 #[.int .u64 1, .int .u64 10] w fun e w' => e = .returned (.tuple #[.int .u64 0, .int .u64 10]) ∧ w = w' := by
  go_enter Tryd.func71, Tryd.ntmps71
  go_wp2
  go_ret2
  refine ⟨?_, rfl⟩
  kernel_rfl
theorem Tryd.info3 : (Tryd.prog.info? 3).map (fun i => (i.zero, i.size, i.bytes)) = some (some (.int .i64 0), 1, 8) := by kernel_rfl
theorem Tryd.size3 : (Tryd.prog.info? 3).map (·.size) = some 1 := by kernel_rfl
def ones (k : Nat) : List Value := List.replicate k (.int .i64 1) ++ List.replicate (10 - k) (.int .i64 0)
theorem ones_src {w : World} {g k m : Nat} (h : w.heap[g]? = some (.cells (ones k).toArray 3 (0, 0))) (hm : m ≤ k) (hk : k ≤ 10) : ∀ j v, (List.replicate m (Value.int .i64 1))[j]? = some v → w.cell? ((⟨g, 0, none⟩ : Addr).add j) = some v := by
  intro j v hv
  have hj : j < m := by have := (List.getElem?_eq_some_iff.1 hv).1; simpa using this
  rw [Go.WideShapes.add_plain, Nat.zero_add, cell_of h, ← hv]
  simp only [List.getElem?_toArray, ones]
  rw [List.getElem?_append_left (by simp; omega), List.getElem?_replicate, List.getElem?_replicate, if_pos hj, if_pos (by omega)]
theorem made_ints {w w1 : World} (hown : w1.ownsRow w.heap.size 3 1 (.slice (some ⟨w.heap.size, 0, none⟩) 10 10) 10 (madeCells (Value.int .i64 0).cells (10 * 1)).toList) (hg : w.grownBy w1 none) :
    w1.heap[w.heap.size]? = some (.cells (ones 0).toArray 3 (0, 0)) ∧ Below w.heap.size w w1 := by
  obtain ⟨_, ⟨h, _⟩ | ⟨g, cap, cur, hv, _, hcur, _, _, hsz, ht⟩⟩ := hown
  · cases h
  · simp only [Value.slice.injEq, Option.some.injEq, Addr.mk.injEq, and_true, true_and] at hv
    obtain ⟨rfl, rfl⟩ := hv
    refine ⟨?_, (Below.refl _ w).grown hg (Nat.le_refl _) (fun _ e => by cases e)⟩
    rw [hcur]
    have h3 : cur.toList.take (10 * 1) = cur.toList := List.take_of_length_le (by simp [hsz])
    rw [h3] at ht
    have h4 : cur.toList = ones 0 := by
      rw [ht]
      unfold madeCells
      rw [show ones 0 = List.replicate (10 * 1) (Value.int .i64 0) from rfl, List.eq_replicate_iff]
      refine ⟨by simp, ?_⟩
      intro x hx
      simp only [Array.toList_map, List.mem_map, Value.cells] at hx
      obtain ⟨i, _, rfl⟩ := hx
      simp [Nat.mod_one]
    rw [← h4]
set_option maxRecDepth 20000 in
set_option maxHeartbeats 4000000 in
theorem repeat_any (w : World) (g : Nat) (hg : w.cell? ⟨g, 0, none⟩ = some (.int .i64 1)) : Calls Tryd.prog 59 #[.slice (some ⟨g, 0, none⟩) 1 1, .int .i64 10] w fun e w' => ∃ a, e = .returned (.slice a 10 10) ∧ Hid (Ints w' a ten1 ∧ Below w.heap.size w w') := by
  obtain ⟨i0, hi, hz0, hz1, hz2⟩ := info_parts Tryd.info3
  have HI : Hid _ := hi
  clear hi
  have hb2 : i0.bytes * 10 ≤ 281474976710656 := by rw [hz2]; omega
  have HSRC : Hid (∀ W, Below w.heap.size w W → ∀ j v, ([Value.int .i64 1] : List Value)[j]? = some v → W.cell? ((⟨g, 0, none⟩ : Addr).add j) = some v) := by
    intro W hb j v hv
    have hj : j = 0 := by have := (List.getElem?_eq_some_iff.1 hv).1; simpa using this
    subst hj
    rw [Go.WideShapes.add_plain, cell_later hb hg]
    exact hv
  clear hg
  go_enter Tryd.func59, Tryd.ntmps59
  go_wp2_with (first
    | (go_at_call 71; refine (mul_10 _).mono ?_; rintro e w' ⟨rfl, rfl⟩)
    | (at_make; refine wpList_make_full _ rfl _ _ 58 rfl w.heap.size 3 i0 _ 1 Tryd.underlying58 HI.out hz0 hz1 .i64 .i64 _ _ 10 (by rfl) (by rfl) rfl rfl hb2 (by unfold maxLen; omega) (Nat.le_refl _) ?_; intro w1 hown hgrow; obtain ⟨hm1, hm2⟩ := made_ints hown hgrow; have HM1 : Hid _ := hm1; have HB1 : Hid _ := hm2; clear hown hgrow hm1 hm2)
    | ((refine wpList_copy_splice rfl _ _ 58 58 rfl 3 Tryd.underlying58 Tryd.size3 _ _ _ _ _ _ (by rfl) (by rfl) w.heap.size 0 (ones 0) 3 HM1.out [.int .i64 1] (by rfl) (fun _ => ⟨rfl, _, rfl, HSRC.out _ HB1.out⟩) (by simp [ones]) (by simp [Value.oneCell']) w.heap.size w HB1.out (Nat.le_refl _) ?_); intro w2 hc hb))
  have HM2 : Hid (∀ W, Below w2.heap.size w2 W → W.heap[w.heap.size]? = some (.cells (ones 1).toArray 3 (0, 0))) := fun W h => old_block h hc.out
  have HB2 : Hid (Below w.heap.size w w2) := hb
  clear hc hb HM1 HB1
  go_wp2
  refine wp_loop_rounds 5 ?_
  rw [rounds_succ]
  go_wp2
  go_region_law (refine step_copy_splice rfl (.tmp 41) (.tmp 44) 58 58 rfl 3 Tryd.underlying58 Tryd.size3 (some ⟨w.heap.size, 1, none⟩) (some ⟨w.heap.size, 0, none⟩) 9 9 1 10 (by simp [Act.eval, Act.put]) (by simp [Act.eval, Act.put]) w.heap.size 1 (ones 1) 3 (HM2.out _ (by repeat (first | exact Below.refl _ _ | apply Below.drew | apply below_drewN))) (List.replicate 1 (.int .i64 1)) (by rfl) (fun _ => ⟨rfl, _, rfl, ones_src (HM2.out _ (by repeat (first | exact Below.refl _ _ | apply Below.drew | apply below_drewN))) (by omega) (by omega)⟩) (by simp [ones]) (by simp [Value.oneCell']) w.heap.size w (below_of HB2.out (by repeat (first | exact Below.refl _ _ | apply Below.drew | apply below_drewN))) (Nat.le_refl _) ?_; intro w3 hc hb; have HM3 : Hid (∀ W, Below w3.heap.size w3 W → W.heap[w.heap.size]? = some (.cells (ones 2).toArray 3 (0, 0))) := fun W h => old_block h hc.out; have HB3 : Hid (Below w.heap.size w w3) := hb; clear hc hb)
  go_wp2
  rw [rounds_succ]
  go_wp2
  go_region_law (refine step_copy_splice rfl (.tmp 41) (.tmp 44) 58 58 rfl 3 Tryd.underlying58 Tryd.size3 (some ⟨w.heap.size, 2, none⟩) (some ⟨w.heap.size, 0, none⟩) 8 8 2 10 (by simp [Act.eval, Act.put]) (by simp [Act.eval, Act.put]) w.heap.size 2 (ones 2) 3 (HM3.out _ (by repeat (first | exact Below.refl _ _ | apply Below.drew | apply below_drewN))) (List.replicate 2 (.int .i64 1)) (by rfl) (fun _ => ⟨rfl, _, rfl, ones_src (HM3.out _ (by repeat (first | exact Below.refl _ _ | apply Below.drew | apply below_drewN))) (by omega) (by omega)⟩) (by simp [ones]) (by simp [Value.oneCell']) w.heap.size w (below_of HB3.out (by repeat (first | exact Below.refl _ _ | apply Below.drew | apply below_drewN))) (Nat.le_refl _) ?_; intro w4 hc hb; have HM4 : Hid (∀ W, Below w4.heap.size w4 W → W.heap[w.heap.size]? = some (.cells (ones 4).toArray 3 (0, 0))) := fun W h => old_block h hc.out; have HB4 : Hid (Below w.heap.size w w4) := hb; clear hc hb)
  go_wp2
  rw [rounds_succ]
  go_wp2
  go_region_law (refine step_copy_splice rfl (.tmp 41) (.tmp 44) 58 58 rfl 3 Tryd.underlying58 Tryd.size3 (some ⟨w.heap.size, 4, none⟩) (some ⟨w.heap.size, 0, none⟩) 6 6 4 10 (by simp [Act.eval, Act.put]) (by simp [Act.eval, Act.put]) w.heap.size 4 (ones 4) 3 (HM4.out _ (by repeat (first | exact Below.refl _ _ | apply Below.drew | apply below_drewN))) (List.replicate 4 (.int .i64 1)) (by rfl) (fun _ => ⟨rfl, _, rfl, ones_src (HM4.out _ (by repeat (first | exact Below.refl _ _ | apply Below.drew | apply below_drewN))) (by omega) (by omega)⟩) (by simp [ones]) (by simp [Value.oneCell']) w.heap.size w (below_of HB4.out (by repeat (first | exact Below.refl _ _ | apply Below.drew | apply below_drewN))) (Nat.le_refl _) ?_; intro w5 hc hb; have HM5 : Hid (∀ W, Below w5.heap.size w5 W → W.heap[w.heap.size]? = some (.cells (ones 8).toArray 3 (0, 0))) := fun W h => old_block h hc.out; have HB5 : Hid (Below w.heap.size w w5) := hb; clear hc hb)
  go_wp2
  rw [rounds_succ]
  go_wp2
  go_region_law (refine step_copy_splice rfl (.tmp 41) (.tmp 44) 58 58 rfl 3 Tryd.underlying58 Tryd.size3 (some ⟨w.heap.size, 8, none⟩) (some ⟨w.heap.size, 0, none⟩) 2 2 8 10 (by simp [Act.eval, Act.put]) (by simp [Act.eval, Act.put]) w.heap.size 8 (ones 8) 3 (HM5.out _ (by repeat (first | exact Below.refl _ _ | apply Below.drew | apply below_drewN))) (List.replicate 2 (.int .i64 1)) (by rfl) (fun _ => ⟨rfl, _, rfl, ones_src (HM5.out _ (by repeat (first | exact Below.refl _ _ | apply Below.drew | apply below_drewN))) (by omega) (by omega)⟩) (by simp [ones]) (by simp [Value.oneCell']) w.heap.size w (below_of HB5.out (by repeat (first | exact Below.refl _ _ | apply Below.drew | apply below_drewN))) (Nat.le_refl _) ?_; intro w6 hc hb; have HM6 : Hid (∀ W, Below w6.heap.size w6 W → W.heap[w.heap.size]? = some (.cells (ones 10).toArray 3 (0, 0))) := fun W h => old_block h hc.out; have HB6 : Hid (Below w.heap.size w w6) := hb; clear hc hb)
  go_wp2
  rw [rounds_succ]
  go_wp2
  go_ret
  refine ⟨_, rfl, ⟨_, _, rfl, fun i hi => ?_⟩, HB6.out⟩
  rw [cell_of (HM6.out w6 (Below.refl _ _)), Nat.zero_add]
  simp only [List.getElem?_toArray, ones, ten1, List.getElem_replicate]
  have hi' : i < 10 := by simpa [ten1] using hi
  rw [List.getElem?_append_left (by simp; omega), List.getElem?_replicate, if_pos (by omega)]
end Go.Proofs.YtjfmgokpnpmdpaaDoor
