/- The walk of slices.Delete of one file, at a list that the caller owns. -/
import Derived.Test.YtfocejmfmnijpaaFInsert
namespace Go.Proofs.Ytfocejmfmnijpaa
open Go.RowKit

/-- What stands in the row behind a file less. -/
def delX (X : List FX) (i : Nat) : List FX := X.take i ++ X.drop (i + 1)
theorem delX_length (X : List FX) (i : Nat) (hi : i < X.length) : (delX X i).length = X.length - 1 := by
  simp [delX]; omega
theorem delX_cells (X : List FX) (i : Nat) : fcells (delX X i) = fcells (X.take i) ++ fcells (X.drop (i + 1)) := by
  simp [delX, fcells_append]

theorem zero_one : (Builtin.zeroCells (Value.agg #[.string ⟨#[]⟩, .slice none 0 0]).cells 1).toList = [.string ⟨#[]⟩, .slice none 0 0] := by kernel_rfl

set_option maxHeartbeats 4000000 in
set_option maxRecDepth 100000 in
theorem delete_any (w : World) (base g c i n : Nat) (X : List FX) (hnn : n = X.length) (ho : w.ownsRow base 53 2 (.slice (some ⟨g, 0, none⟩) n c) n (fcells X)) (hn : n ≤ 1000) (hi : i < n) :
    Calls Try.prog 81 #[.slice (some ⟨g, 0, none⟩) n c, .int .i64 i, .int .i64 (i + 1 : Nat)] w fun e w' => e = .returned (.slice (some ⟨g, 0, none⟩) (n - 1) c) ∧ Hid (w'.ownsRow base 53 2 (.slice (some ⟨g, 0, none⟩) (n - 1) c) (n - 1) (fcells (delX X i)) ∧ Off (fun k => k = g) w w') := by
  obtain ⟨i0, hi0, hz0, hz1, hz2⟩ := info_parts Try.info53
  obtain ⟨cur, hg, hb, hnc, hcm, hcs, htk⟩ := own_cur ho
  have hcm2 := hcm
  unfold maxLen at hcm2
  have hdl : (fcells (X.drop (i + 1))).length = (n - (i + 1)) * 2 := by rw [fcells_length, List.length_drop, ← hnn]
  obtain ⟨A, hA, hsrc⟩ : ∃ A : Addr, (if c = i + 1 then some (⟨g, 0, none⟩ : Addr) else some ⟨g, (i + 1) * 2, none⟩) = some A ∧ Hid (∀ t u, (fcells (X.drop (i + 1)))[t]? = some u → w.drew.cell? (A.add t) = some u) := by
    by_cases h : c = i + 1
    · refine ⟨⟨g, 0, none⟩, by simp [h], fun t u hu => ?_⟩
      have hj := (List.getElem?_eq_some_iff.1 hu).1
      omega
    · refine ⟨⟨g, (i + 1) * 2, none⟩, by simp [h], fun j u hu => ?_⟩
      rw [Go.WideShapes.add_plain]
      show w.cell? _ = _
      have hj := (List.getElem?_eq_some_iff.1 hu).1
      rw [ho.cellAt ((i + 1) * 2 + j) (by rw [hdl] at hj; omega), ← hu, ← fcells_drop, List.getElem?_drop]
  obtain ⟨W1, hW1⟩ : ∃ W1, W1 = w.drew.setCells g (0 + i * 2) (fcells (X.drop (i + 1))) := ⟨_, rfl⟩
  obtain ⟨W2, hW2⟩ : ∃ W2, W2 = W1.setCells g ((n - 1) * 2) [.string ⟨#[]⟩, .slice none 0 0] := ⟨_, rfl⟩
  obtain ⟨cur1, hg1, hl1⟩ := heap_setCells g (fcells (X.drop (i + 1))) (0 + i * 2) w.drew cur hg (by rw [hdl]; omega)
  rw [← hW1] at hg1
  have hs1 : cur1.size = cur.size := by
    rw [← Array.length_toList, hl1, ← Array.length_toList]
    simp only [List.length_append, List.length_take, List.length_drop, hdl, Array.length_toList]
    omega
  obtain ⟨cur2, hg2, hl2⟩ := heap_setCells g [.string ⟨#[]⟩, .slice none 0 0] ((n - 1) * 2) W1 cur1 hg1 (by simp; omega)
  rw [← hW2] at hg2
  have hs2 : cur2.size = cur1.size := by
    rw [← Array.length_toList, hl2, ← Array.length_toList]
    simp only [List.length_append, List.length_take, List.length_drop, Array.length_toList, List.length_cons, List.length_nil]
    omega
  have hoff1 : Off (fun k => k = g) w W1 := by rw [hW1]; exact Off.setCells (S := fun k => k = g) (.inr rfl) _ _ _ (Off.refl _ w).drew
  have hoff2 : Off (fun k => k = g) w W2 := by rw [hW2]; exact Off.setCells (S := fun k => k = g) (.inr rfl) _ _ _ hoff1
  have hcl : ∀ ty cc, (Builtin.clear_ #[22] ty #[.slice (some ⟨g, (n - 1) * 2, none⟩) 1 cc]).run Try.prog W1 = .ok (.tuple #[]) W2 := fun ty cc => by
    rw [hW2]
    exact run_clear_wide W1 _ ty 53 _ g ((n - 1) * 2) 1 cc [.string ⟨#[]⟩, .slice none 0 0] Try.underlying22 Try.zero53 (by omega) zero_one (fun j hj => cells_there hg1 _ (by simp at hj; omega)) (fun j hj => frozen_of hg1 _) (by intro u hu; simp at hu; rcases hu with rfl | rfl <;> rfl)
  have HR : Hid (W2.ownsRow base 53 2 (.slice (some ⟨g, 0, none⟩) (n - 1) c) (n - 1) (fcells (delX X i)) ∧ Off (fun k => k = g) w W2) := by
    refine ⟨⟨by rw [fcells_length, delX_length X i (by omega), hnn], .inr ⟨g, c, cur2, rfl, hb, hg2, by omega, hcm, by omega, ?_⟩⟩, hoff2⟩
    rw [delX_cells]
    have := list_delete cur.toList (fcells (X.take i)) (fcells [X[i]]) (fcells (X.drop (i + 1))) (i * 2) (n * 2) 2 (by rw [fcells_length, List.length_take]; omega) rfl (by rw [htk, ← fcells_append, ← fcells_append, List.append_assoc, List.singleton_append, ← List.drop_eq_getElem_cons, List.take_append_drop]) (by rw [hdl]; omega) [.string ⟨#[]⟩, .slice none 0 0] cur1.toList cur2.toList rfl (by rw [hl1]; simp only [Nat.zero_add]) (by rw [hl2, show n * 2 - 2 = (n - 1) * 2 by omega])
    rw [show (n - 1) * 2 = n * 2 - 2 by omega]
    exact this
  have s1 : Hid ((fcells (X.drop (i + 1))).length = (n - (i + 1)) * 2) := hdl
  have s2 : Hid (∀ u ∈ fcells (X.drop (i + 1)), u.oneCell' = true) := fcells_one _
  have s3 : Hid (∀ t, t < (fcells (X.drop (i + 1))).length → (w.drew.cell? ⟨g, 0 + i * 2 + t, none⟩).isSome = true ∧ w.drew.frozen? ⟨g, 0 + i * 2 + t, none⟩ = false) := fun t ht => ⟨cells_there (w := w.drew) hg _ (by rw [hdl] at ht; omega), frozen_of (w := w.drew) hg _⟩
  have HW : Hid (W1 = w.drew.setCells g (0 + i * 2) (fcells (X.drop (i + 1)))) := hW1
  have HI : Hid (Try.prog.info? 53 = some i0) := hi0
  have hq1 : i ≤ c := by omega
  have hq2 : i + 1 ≤ c := by omega
  have hq3 : ¬ ((i : Int) = (i : Int) + 1) := by omega
  clear hg hg1 hg2 hl1 hl2 hs1 hs2 hoff1 hoff2 hcs htk ho hdl hW1 hW2 hnn hcm hi0
  go_enter Try.func81, Try.ntmps81
  go_wp2_with fail
  have hq4 : (0 : Int) ≤ (i : Int) + 1 := by omega
  have hq5 : (i : Int) + 1 ≤ (n : Int) := by omega
  have HN : Hid (i + (n - (i + 1)) = n - 1) := by show _ = _; omega
  go_region_law (refine step_append_room rfl (.tmp 22) (.tmp 25) 22 rfl 53 i0 2 Try.underlying22 HI.out hz1 g 0 i c (by simp [Act.eval, Act.put]) A (n - (i + 1)) (c - (i + 1)) (fcells (X.drop (i + 1))) (by simp [Act.eval, Act.put]) s1.out hsrc.out s2.out (by omega) s3.out ?_; rw [← HW.out, HN.out])
  obtain ⟨m, rfl⟩ : ∃ m, n = m + 1 := ⟨n - 1, by omega⟩
  simp only [Nat.add_sub_cancel] at hcl ⊢
  have hcm3 : ¬ (c = m) := by omega
  go_wp2
  go_ret
  exact ⟨rfl, HR⟩

end Go.Proofs.Ytfocejmfmnijpaa
