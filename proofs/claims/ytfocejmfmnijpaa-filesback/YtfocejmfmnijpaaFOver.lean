/- The walk of files.overlaid: old bytes with others from a place on, in new memory. -/
import Derived.Test.YtfocejmfmnijpaaFSet
import Derived.Deep.OwnRows
namespace Go.Proofs.Ytfocejmfmnijpaa
open Go.RowKit

/-- Old bytes with others from a place on. -/
def overS (old : List Nat) (at_ : Nat) (b : List Nat) : List Nat := old.take at_ ++ b ++ old.drop (at_ + b.length)
theorem overS_length (old : List Nat) (at_ : Nat) (b : List Nat) (h : at_ ≤ old.length) : (overS old at_ b).length = max old.length (at_ + b.length) := by
  simp [overS]; omega

theorem run_copy_bytes (w : World) (ty : TypeId) (g o dLen dCap : Nat) (a : Option Addr) (l : List Nat) (c : Nat) (hr : Row w a l) (hl : l.length ≤ dLen) (hc : ∀ j, j < l.length → (w.cell? ⟨g, o + j, none⟩).isSome = true) (hf : ∀ j, j < l.length → w.frozen? ⟨g, o + j, none⟩ = false) :
    (Builtin.copy_ #[35, 35] ty #[.slice (some ⟨g, o, none⟩) dLen dCap, .slice a l.length c]).run Try.prog w = .ok (goInt l.length) (w.setCells g o (cells l)) := by
  have hs : (Try.prog.info? 5).map (·.size) = some 1 := by kernel_rfl
  rcases Nat.eq_zero_or_pos l.length with h0 | h0
  · obtain rfl : l = [] := List.eq_nil_of_length_eq_zero h0
    exact run_copy_none w _ _ ty 5 _ _ _ _ _ _ Try.underlying35 hs (Nat.zero_min _)
  · obtain ⟨b, off, rfl, _⟩ := hr.2.2 h0
    have := run_copy_cells w 35 35 ty 5 g o dLen dCap ⟨b, off, none⟩ l.length c (cells l) Try.underlying35 hs (by rw [cells_length]; exact (Nat.min_eq_left hl).symm) (row_cells hr _ rfl) (by rw [cells_length]; exact hc) (by rw [cells_length]; exact hf) (one_cell l)
    rw [cells_length] at this
    exact this

theorem over_cells (old b : List Nat) (at_ N : Nat) (h : at_ ≤ old.length) (hN : N = max old.length (at_ + b.length)) (C C1 C2 : List Value) (hC : C.length = N) (h1 : C1 = C.take 0 ++ cells old ++ C.drop (0 + (cells old).length)) (h2 : C2 = C1.take at_ ++ cells b ++ C1.drop (at_ + (cells b).length)) : C2 = cells (overS old at_ b) := by
  rw [h2, h1]
  simp only [List.take_zero, List.nil_append, Nat.zero_add, cells_length]
  have e1 : (cells old ++ C.drop old.length).take at_ = cells (old.take at_) := by
    rw [List.take_append_of_le_length (by rw [cells_length]; exact h)]
    simp [cells, List.map_take]
  have e2 : (cells old ++ C.drop old.length).drop (at_ + b.length) = cells (old.drop (at_ + b.length)) := by
    rcases Nat.le_total (at_ + b.length) old.length with hle | hge
    · have hz : C.drop old.length = [] := List.drop_eq_nil_of_le (by omega)
      rw [hz, List.append_nil]
      simp [cells, List.map_drop]
    · rw [List.drop_eq_nil_of_le (by rw [List.length_append, cells_length, List.length_drop]; omega), List.drop_eq_nil_of_le hge]
      rfl
  rw [e1, e2]
  simp [overS, cells_append]

theorem byte_row {w : World} {g N : Nat} {cur : Array Value} {l : List Nat} (h : w.heap[g]? = some (.cells cur 5 (0, 0))) (hc : cur.toList = cells l) (hb : ∀ x ∈ l, x < 256) (hN : l.length = N) (hm : N ≤ maxLen) : Row w (some ⟨g, 0, none⟩) l := by
  refine ⟨hb, by omega, fun _ => ⟨g, 0, rfl, fun i hi => ?_⟩⟩
  rw [Nat.zero_add, cell_of h, ← Array.getElem?_toList, hc]
  unfold cells
  rw [List.getElem?_map, List.getD_eq_getElem?_getD, List.getElem?_eq_getElem hi]
  rfl

theorem overS_byte {old b : List Nat} {at_ : Nat} (h1 : ∀ x ∈ old, x < 256) (h2 : ∀ x ∈ b, x < 256) : ∀ x ∈ overS old at_ b, x < 256 := by
  intro x hx
  simp only [overS, List.mem_append] at hx
  rcases hx with (hx | hx) | hx
  · exact h1 x (List.mem_of_mem_take hx)
  · exact h2 x hx
  · exact h1 x (List.mem_of_mem_drop hx)


set_option maxHeartbeats 2000000 in
set_option maxRecDepth 100000 in
theorem overlaid_any (w : World) (a a2 : Option Addr) (c c2 : Nat) (old b : List Nat) (at_ : Nat) (hr : Row w a old) (hr2 : Row w a2 b) (hat : at_ ≤ old.length) (ho : old.length ≤ 4096) (hb : at_ + b.length ≤ 4096) :
    Calls Try.prog 80 #[.slice a old.length c, .int .i64 at_, .slice a2 b.length c2] w fun e w' => ∃ a' c', e = .returned (.slice a' (overS old at_ b).length c') ∧ Hid (Fresh w w' a' c' (overS old at_ b) ∧ Below w.heap.size w w') := by
  obtain ⟨N, hN⟩ : ∃ N, N = max old.length (at_ + b.length) := ⟨_, rfl⟩
  have hNs : N ≤ 4096 := by omega
  have hmk := run_make_row' (P := Try.prog) 35 5 (.int .u8 0) 1 Try.underlying35 Try.info5 rfl .i64 .i64 N (by omega) (by omega) w
  obtain ⟨W0, hW0⟩ : ∃ W0, W0 = w.alloc (.cells (madeCells #[.int .u8 0] N) 5) := ⟨_, rfl⟩
  obtain ⟨W1, hW1⟩ : ∃ W1, W1 = W0.setCells w.heap.size 0 (cells old) := ⟨_, rfl⟩
  obtain ⟨W2, hW2⟩ : ∃ W2, W2 = W1.setCells w.heap.size at_ (cells b) := ⟨_, rfl⟩
  have hb0 : Below w.heap.size w W0 := by rw [hW0]; exact (Below.refl _ w).alloc (Nat.le_refl _) _
  have hg0 : W0.heap[w.heap.size]? = some (.cells (madeCells #[.int .u8 0] N) 5 (0, 0)) := by rw [hW0]; exact heap_alloc_new w _
  have hC : (madeCells #[Value.int .u8 0] N).toList.length = N := by rw [Array.length_toList, size_madeCells]
  obtain ⟨cur1, hg1, hl1⟩ := heap_setCells w.heap.size (cells old) 0 W0 _ hg0 (by rw [cells_length, size_madeCells]; omega)
  rw [← hW1] at hg1
  have hs1 : cur1.size = N := by
    rw [← Array.length_toList, hl1]
    simp only [List.length_append, List.length_take, List.length_drop, hC, cells_length]
    omega
  obtain ⟨cur2, hg2, hl2⟩ := heap_setCells w.heap.size (cells b) at_ W1 cur1 hg1 (by rw [cells_length]; omega)
  rw [← hW2] at hg2
  have hcc := over_cells old b at_ N hat hN _ _ _ hC hl1 hl2
  have hoff1 : Off (fun k => k = w.heap.size) W0 W1 := by rw [hW1]; exact Off.setCells (S := fun k => k = w.heap.size) (.inr rfl) _ _ _ (Off.refl _ W0)
  have hoff2 : Off (fun k => k = w.heap.size) W0 W2 := by rw [hW2]; exact Off.setCells (S := fun k => k = w.heap.size) (.inr rfl) _ _ _ hoff1
  have hb1 : Below w.heap.size w W1 := hb0.trans (hoff1.below hb0.size (fun k hk => by omega))
  have hb2 : Below w.heap.size w W2 := hb0.trans (hoff2.below hb0.size (fun k hk => by omega))
  have hcp1 : ∀ ty, (Builtin.copy_ #[35, 35] ty #[.slice (some ⟨w.heap.size, 0, none⟩) N N, .slice a old.length c]).run Try.prog W0 = .ok (goInt old.length) W1 := fun ty => by
    rw [hW1]
    exact run_copy_bytes W0 ty w.heap.size 0 N N a old c (hr.later hb0) (by omega) (fun j hj => cells_there hg0 _ (by rw [size_madeCells]; omega)) (fun j hj => frozen_of hg0 _)
  have hcp2 : ∀ ty cc, (Builtin.copy_ #[35, 35] ty #[.slice (if N = at_ then some ⟨w.heap.size, 0, none⟩ else some ⟨w.heap.size, at_, none⟩) (N - at_) cc, .slice a2 b.length c2]).run Try.prog W1 = .ok (goInt b.length) W2 := fun ty cc => by
    rw [hW2]
    split
    · obtain rfl : b = [] := List.eq_nil_of_length_eq_zero (by omega)
      have := run_copy_bytes W1 ty w.heap.size 0 (N - at_) cc a2 [] c2 (hr2.later hb1) (Nat.zero_le _) (fun j hj => by simp at hj) (fun j hj => by simp at hj)
      exact this
    · exact run_copy_bytes W1 ty w.heap.size at_ (N - at_) cc a2 b c2 (hr2.later hb1) (by omega) (fun j hj => cells_there hg1 _ (by omega)) (fun j hj => frozen_of hg1 _)
  have HR : Hid (Fresh w W2 (some ⟨w.heap.size, 0, none⟩) N (overS old at_ b) ∧ Below w.heap.size w W2) :=
    ⟨⟨byte_row hg2 hcc (overS_byte hr.1 hr2.1) ((overS_length old at_ b hat).trans hN.symm) (by unfold maxLen; omega), by rw [overS_length old at_ b hat]; omega, by unfold maxLen; omega, fun x hx => by cases hx; exact Nat.le_refl _⟩, hb2⟩
  have HL : Hid ((overS old at_ b).length = N) := (overS_length old at_ b hat).trans hN.symm
  rw [← hW0] at hmk
  obtain ⟨A, hA⟩ : ∃ A, (if N = at_ then some (⟨w.heap.size, 0, none⟩ : Addr) else some ⟨w.heap.size, at_, none⟩) = some A := by split <;> exact ⟨_, rfl⟩
  rw [hA] at hcp2
  clear hg0 hg1 hg2 hl1 hl2 hcc hoff1 hoff2 hb0 hb1 hb2 hr hr2 hs1 hC hW0 hW1 hW2
  have hmx : max (old.length : Int) ((at_ : Int) + (b.length : Int)) = (N : Int) := by omega
  have hat2 : at_ ≤ N := by omega
  clear hN
  go_enter Try.func80, Try.ntmps80
  go_wp2_with (at_builtin; first | (refine wpList_copy_run _ rfl _ _ 35 35 rfl _ _ rfl rfl (hcp1 _) ?_) | (refine wpList_copy_run _ rfl _ _ 35 35 rfl _ _ rfl rfl (hcp2 _ _) ?_))
  go_ret
  exact ⟨some ⟨w.heap.size, 0, none⟩, N, by rw [HL.out]; rfl, HR⟩

end Go.Proofs.Ytfocejmfmnijpaa
