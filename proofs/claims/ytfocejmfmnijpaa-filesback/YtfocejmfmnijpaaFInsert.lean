/- The walks of slices.Insert of one file and slices.Delete of one file, at a list that the caller owns. -/
import Derived.Test.YtfocejmfmnijpaaFRows
namespace Go.Proofs.Ytfocejmfmnijpaa
open Go.RowKit

theorem Try.zero53 (w : World) : (zeroValue 53).run Try.prog w = .ok (.agg #[.string ⟨#[]⟩, .slice none 0 0]) w := by kernel_rfl
theorem Try.size53 : (Try.prog.info? 53).map (·.size) = some 2 := by kernel_rfl

/-- What stands in the row behind a file more. -/
def insX (X : List FX) (i : Nat) (y : FX) : List FX := X.take i ++ y :: X.drop i
theorem insX_length (X : List FX) (i : Nat) (y : FX) (hi : i ≤ X.length) : (insX X i y).length = X.length + 1 := by
  simp [insX]; omega
theorem insX_cells (X : List FX) (i : Nat) (y : FX) : fcells (insX X i y) = fcells (X.take i) ++ [.string y.name, y.val] ++ fcells (X.drop i) := by
  simp [insX, fcells_append, fcells]
theorem insX_end (X : List FX) (y : FX) : insX X X.length y = X ++ [y] := by simp [insX]

/-- Where a list lies behind a call that may write it. -/
structure Moved (w w' : World) (v v' : Value) : Prop where
  off : Off (fun k => v.ownBlock = some k) w w'
  new : ∀ k, v'.ownBlock = some k → v.ownBlock = some k ∨ w.heap.size ≤ k

set_option maxHeartbeats 4000000 in
set_option maxRecDepth 100000 in
/-- at the end -/
theorem insert_end (w : World) (base : Nat) (v : Value) (X : List FX) (y : FX) (vb : Nat) (ho : w.ownsRow base 53 2 v X.length (fcells X)) (hv : w.heap[vb]? = some (.cells #[.string y.name, y.val] 53 (0, 0))) (hn : X.length ≤ 1000) (hbase : base ≤ w.heap.size) :
    Calls Try.prog 83 #[v, .int .i64 X.length, .slice (some ⟨vb, 0, none⟩) 1 1] w fun e w' => ∃ v', e = .returned v' ∧ Hid (w'.ownsRow base 53 2 v' (X.length + 1) (fcells (X ++ [y])) ∧ Moved w w' v v') := by
  obtain ⟨i0, hi, hz0, hz1, hz2⟩ := info_parts Try.info53
  obtain ⟨a, c, rfl, hc1, hc2⟩ := own_form ho
  have HI : Hid _ := hi
  have HO : Hid (w.ownsRow base 53 2 (.slice a X.length c) X.length (fcells X)) := ho
  have HV : Hid (∀ j u, ([.string y.name, y.val] : List Value)[j]? = some u → w.cell? ((⟨vb, 0, none⟩ : Addr).add j) = some u) := by
    intro j u hu
    rw [Go.WideShapes.add_plain, Nat.zero_add, cell_of hv]
    simpa using hu
  unfold maxLen at hc2
  clear hi ho hv
  go_enter Try.func83, Try.ntmps83
  go_wp2_with (at_builtin; go_must (refine wpList_append_lies _ rfl _ _ 22 rfl base 53 i0 (.agg #[.string ⟨#[]⟩, .slice none 0 0]) 2 40 Try.underlying22 HI.out hz0 hz1 hz2 rfl (by decide) (.slice a X.length c) X.length (fcells X) rfl HO.out ⟨vb, 0, none⟩ 1 1 [.string y.name, y.val] rfl rfl HV.out (by intro u hu; simp at hu; rcases hu with rfl | rfl <;> rfl) (by decide) (by unfold maxLen; omega) (by omega) hbase w.heap.size rfl ?_); intro g cap w1 hown hgrow hg hgl)
  all_goals
    go_ret
    refine ⟨_, rfl, ?_, (Off.refl _ w).grown hgrow (fun k hk => .inr (by cases a <;> exact hk)), fun k hk => ?_⟩
    · rw [fcells_append]; exact hown
    · cases hk
      rcases hg with hg | hg
      · exact .inl (by cases a <;> exact hg)
      · exact .inr (by show w.heap.size ≤ g; omega)

theorem own_cur {w : World} {base g n c : Nat} {X : List FX} (h : w.ownsRow base 53 2 (.slice (some ⟨g, 0, none⟩) n c) n (fcells X)) : ∃ cur : Array Value, w.heap[g]? = some (.cells cur 53 (0, 0)) ∧ base ≤ g ∧ n ≤ c ∧ c ≤ maxLen ∧ cur.size = c * 2 ∧ cur.toList.take (n * 2) = fcells X := by
  rcases h.2 with ⟨h1, _⟩ | ⟨g', cap, cur, h1, h2, h3, h4, h5, h6, h7⟩
  · cases h1
  · cases h1
    exact ⟨cur, h3, h2, h4, h5, h6, h7⟩

set_option maxHeartbeats 4000000 in
set_option maxRecDepth 100000 in
/-- in the midst, there is room -/
theorem insert_shift (w : World) (base g c i n : Nat) (X : List FX) (y : FX) (vb : Nat) (hnn : n = X.length) (ho : w.ownsRow base 53 2 (.slice (some ⟨g, 0, none⟩) n c) n (fcells X)) (hv : w.heap[vb]? = some (.cells #[.string y.name, y.val] 53 (0, 0))) (hvb : vb ≠ g) (hn : n ≤ 1000) (hi : i < n) (hc : n + 1 ≤ c) :
    Calls Try.prog 83 #[.slice (some ⟨g, 0, none⟩) n c, .int .i64 i, .slice (some ⟨vb, 0, none⟩) 1 1] w fun e w' => e = .returned (.slice (some ⟨g, 0, none⟩) (n + 1) c) ∧ Hid (w'.ownsRow base 53 2 (.slice (some ⟨g, 0, none⟩) (n + 1) c) (n + 1) (fcells (insX X i y)) ∧ Off (fun k => k = g) w w') := by
  obtain ⟨cur, hg, hb, _, hcm, hcs, htk⟩ := own_cur ho
  have hcm2 := hcm
  unfold maxLen at hcm2
  have hov : ∀ lb cb, (callFunc 84 #[.slice (some ⟨vb, 0, none⟩) 1 1, .slice (some ⟨g, (i + 1) * 2, none⟩) lb cb]).run Try.prog w = .ok (.value (.bool false)) w := fun lb cb => by
    rw [run_callFunc_extern Try.func84 (by kernel_rfl) (by kernel_rfl) (by kernel_rfl) (e := Extern.SlicesOverlaps.overlaps #[22, 22] #[4]) (by kernel_rfl),
      Lib.run_overlaps_apart w 22 4 53 Try.underlying22 2 (fun w => by kernel_rfl) ⟨vb, 0, none⟩ ⟨g, (i + 1) * 2, none⟩ 1 1 lb cb hvb 53 53 2 cur.size (by simp [World.shape?, hv]) (by simp [World.shape?, hg]) (by omega) (frozen_of hv 0) (frozen_of hv 2)]
    rfl
  have hdl : (fcells (X.drop i)).length = (n - i) * 2 := by rw [fcells_length, List.length_drop, ← hnn]
  obtain ⟨W1, hW1⟩ : ∃ W1, W1 = w.drew.setCells g ((i + 1) * 2) (fcells (X.drop i)) := ⟨_, rfl⟩
  obtain ⟨W2, hW2⟩ : ∃ W2, W2 = W1.setCells g (i * 2) [.string y.name, y.val] := ⟨_, rfl⟩
  have hsrc : ∀ j u, (fcells (X.drop i))[j]? = some u → w.drew.cell? ((⟨g, i * 2, none⟩ : Addr).add j) = some u := fun j u hu => by
    rw [Go.WideShapes.add_plain]
    show w.cell? _ = _
    have hj := (List.getElem?_eq_some_iff.1 hu).1
    rw [ho.cellAt (i * 2 + j) (by rw [hdl] at hj; omega), ← hu, ← fcells_drop, List.getElem?_drop]
  have hcp1 : ∀ ty dc sc, (Builtin.copy_ #[22, 22] ty #[.slice (some ⟨g, (i + 1) * 2, none⟩) (n - i) dc, .slice (some ⟨g, i * 2, none⟩) (n + 1 - i) sc]).run Try.prog w.drew = .ok (goInt (Nat.min (n + 1 - i) (n - i))) W1 := fun ty dc sc => by
    rw [hW1]
    exact run_copy_wide w.drew _ _ ty 53 2 g ((i + 1) * 2) _ dc ⟨g, i * 2, none⟩ _ sc (fcells (X.drop i)) Try.underlying22 Try.size53 (by rw [hdl]; simp only [Nat.min_def]; split <;> omega) hsrc
      (fun j hj => cells_there (w := w.drew) hg _ (by rw [hdl] at hj; omega)) (fun j hj => frozen_of (w := w.drew) hg _) (fcells_one _)
  obtain ⟨cur1, hg1, hl1⟩ := heap_setCells g (fcells (X.drop i)) ((i + 1) * 2) w.drew cur hg (by rw [hdl]; omega)
  rw [← hW1] at hg1
  have hs1 : cur1.size = cur.size := by
    rw [← Array.length_toList, hl1, ← Array.length_toList]
    simp only [List.length_append, List.length_take, List.length_drop, hdl, Array.length_toList]
    omega
  obtain ⟨cur2, hg2, hl2⟩ := heap_setCells g [.string y.name, y.val] (i * 2) W1 cur1 hg1 (by simp; omega)
  rw [← hW2] at hg2
  have hs2 : cur2.size = cur1.size := by
    rw [← Array.length_toList, hl2, ← Array.length_toList]
    simp only [List.length_append, List.length_take, List.length_drop, Array.length_toList, List.length_cons, List.length_nil]
    omega
  have hoff1 : Off (fun k => k = g) w W1 := by rw [hW1]; exact Off.setCells (S := fun k => k = g) (.inr rfl) _ _ _ (Off.refl _ w).drew
  have hoff2 : Off (fun k => k = g) w W2 := by rw [hW2]; exact Off.setCells (S := fun k => k = g) (.inr rfl) _ _ _ hoff1
  have hv1 := hoff1.at hv hvb
  have hcp2 : ∀ ty dc, (Builtin.copy_ #[22, 22] ty #[.slice (some ⟨g, i * 2, none⟩) (n + 1 - i) dc, .slice (some ⟨vb, 0, none⟩) 1 1]).run Try.prog W1 = .ok (goInt (Nat.min 1 (n + 1 - i))) W2 := fun ty dc => by
    rw [hW2]
    exact run_copy_wide W1 _ _ ty 53 2 g (i * 2) _ dc ⟨vb, 0, none⟩ 1 1 [.string y.name, y.val] Try.underlying22 Try.size53 (by simp only [Nat.min_def]; split <;> simp; omega) (fun j u hu => by rw [Go.WideShapes.add_plain, Nat.zero_add, cell_of hv1]; simpa using hu)
      (fun j hj => cells_there hg1 _ (by simp at hj; omega)) (fun j hj => frozen_of hg1 _) (by intro u hu; simp at hu; rcases hu with rfl | rfl <;> rfl)
  have HR : Hid (W2.ownsRow base 53 2 (.slice (some ⟨g, 0, none⟩) (n + 1) c) (n + 1) (fcells (insX X i y)) ∧ Off (fun k => k = g) w W2) := by
    refine ⟨⟨by rw [fcells_length, insX_length X i y (by omega), hnn], .inr ⟨g, c, cur2, rfl, hb, hg2, hc, hcm, by omega, ?_⟩⟩, hoff2⟩
    rw [insX_cells]
    have := list_insert cur.toList (fcells (X.take i)) (fcells (X.drop i)) [.string y.name, y.val] (i * 2) (n * 2) (by rw [fcells_length, List.length_take]; omega) (by rw [htk, ← fcells_append, List.take_append_drop]) (by simp; omega) (by rw [hdl]; omega) cur1.toList cur2.toList (by rw [hl1]; simp only [List.length_cons, List.length_nil]; rw [show i * 2 + (0 + 1 + 1) = (i + 1) * 2 by omega]) (by rw [hl2])
    rw [show (n + 1) * 2 = n * 2 + ([.string y.name, y.val] : List Value).length by simp; omega]
    exact this
  have hz1 : ¬ ((i : Int) = (n : Int)) := by omega
  have hb2 : ¬ (c = i + 1) := by omega
  have hb4 : ¬ (c = i) := by omega
  clear hsrc hg hg1 hg2 hl1 hl2 hs1 hs2 hoff1 hoff2 hv1 hv hcs htk ho hdl hW1 hW2 hnn hcm
  go_enter Try.func83, Try.ntmps83
  go_wp2_with fail
  have hw1 : IntKind.i64.wrap ((i : Int) + 1) = (i : Int) + 1 := by rw [IntKind.wrap_i64]; omega
  have hb1 : (0 : Int) ≤ (i : Int) + 1 := by omega
  have htn : ((i : Int) + 1).toNat = i + 1 := by omega
  have hb3 : (i : Int) ≤ (n : Int) := by omega
  have hb5 : (i : Int) ≤ (n : Int) + 1 := by omega
  go_region_law (refine step_copy_run rfl _ _ 22 22 rfl _ _ (by simp [Act.eval, Act.put]) (by simp [Act.eval, Act.put]) (hcp1 _ _ _) ?_)
  go_wp2_with (at_builtin; go_must (refine wpList_copy_run _ rfl _ _ 22 22 rfl _ _ rfl rfl (hcp2 _ _) ?_))
  go_ret
  exact ⟨rfl, HR⟩

set_option maxHeartbeats 4000000 in
set_option maxRecDepth 100000 in
/-- in the midst, there is no room -/
theorem insert_grow (w : World) (base g c i n : Nat) (X : List FX) (y : FX) (vb : Nat) (hnn : n = X.length) (ho : w.ownsRow base 53 2 (.slice (some ⟨g, 0, none⟩) n c) n (fcells X)) (hv : w.heap[vb]? = some (.cells #[.string y.name, y.val] 53 (0, 0))) (hn : n ≤ 1000) (hi : i < n) (hc : c < n + 1) (hbase : base ≤ w.heap.size) :
    Calls Try.prog 83 #[.slice (some ⟨g, 0, none⟩) n c, .int .i64 i, .slice (some ⟨vb, 0, none⟩) 1 1] w fun e w' => ∃ c', e = .returned (.slice (some ⟨w.heap.size, 0, none⟩) (n + 1) c') ∧ Hid (w'.ownsRow base 53 2 (.slice (some ⟨w.heap.size, 0, none⟩) (n + 1) c') (n + 1) (fcells (insX X i y)) ∧ Below w.heap.size w w') := by
  obtain ⟨i0, hi0, hz0, hz1, hz2⟩ := info_parts Try.info53
  obtain ⟨cur, hg, hb, hnc, hcm, hcs, htk⟩ := own_cur ho
  have hcm2 := hcm
  unfold maxLen at hcm2
  have hxl : (fcells (X.take i)).length = i * 2 := by rw [fcells_length, List.length_take]; omega
  have hold : (Builtin.firstCells i0.size i (.slice (some ⟨g, 0, none⟩) i c)).run Try.prog w.drew = .ok (fcells (X.take i)).toArray w.drew := by
    rw [hz1]
    exact run_firstCells_some w.drew 2 i ⟨g, 0, none⟩ i c (fcells (X.take i)) hxl (fun j u hu => by
      rw [Go.WideShapes.add_plain, Nat.zero_add]
      show w.cell? _ = _
      have hj := (List.getElem?_eq_some_iff.1 hu).1
      rw [ho.cellAt j (by omega), ← hu, ← fcells_take, List.getElem?_take_of_lt (by omega)])
  have happ := fun ty => Lib.run_append_grow_zeros w 22 3 ty 53 i0 _ .i64 .i64 Try.underlying22 Try.underlying3 hi0 hz0 (some ⟨g, 0, none⟩) i c (fcells (X.take i)) hold (n + 1 - i) (by omega) (by omega) (by omega) (by omega) (by rw [hz2]; omega) (by rw [hz2]; exact growslice_fits (by omega) (by omega))
  have hk : ((n + 1 - i : Nat) : Int) = (n : Int) + 1 - (i : Int) := by omega
  have hin : i + (n + 1 - i) = n + 1 := by omega
  have hge := grownCap_ge w (n + 1) c 53
  have hcap : grownCap w (n + 1) c 53 ≤ maxLen := grownCap_le_maxLen w _ _ _ (by unfold maxLen; omega)
  simp only [hk, hin] at happ
  obtain ⟨C, hC⟩ : ∃ C, C = (fcells (X.take i)).toArray ++ Builtin.zeroCells (Value.agg #[.string ⟨#[]⟩, .slice none 0 0]).cells (n + 1 - i) ++ Builtin.zeroCells (Value.agg #[.string ⟨#[]⟩, .slice none 0 0]).cells (grownCap w (n + 1) c 53 - (n + 1)) := ⟨_, rfl⟩
  rw [← hC] at happ
  have hCs : C.size = grownCap w (n + 1) c 53 * 2 := by
    rw [hC]
    simp only [Array.size_append, List.size_toArray, size_zeroCells, hxl]
    show i * 2 + (n + 1 - i) * 2 + (grownCap w (n + 1) c 53 - (n + 1)) * 2 = _
    omega
  have hCt : C.toList.take (i * 2) = fcells (X.take i) := by
    rw [hC, Array.toList_append, Array.toList_append, List.append_assoc, List.take_left' (by simpa using hxl)]
  clear hC hold
  generalize grownCap w (n + 1) c 53 = nc at *
  have hncm := hcap
  unfold maxLen at hncm
  obtain ⟨W0, hW0⟩ : ∃ W0, W0 = w.drew.alloc (.cells C 53) := ⟨_, rfl⟩
  obtain ⟨W1, hW1⟩ : ∃ W1, W1 = W0.setCells w.heap.size (i * 2) [.string y.name, y.val] := ⟨_, rfl⟩
  obtain ⟨W2, hW2⟩ : ∃ W2, W2 = W1.drew.setCells w.heap.size ((i + 1) * 2) (fcells (X.drop i)) := ⟨_, rfl⟩
  rw [← hW0] at happ
  have hb0 : Below w.heap.size w W0 := by rw [hW0]; exact (Below.refl _ w).drew.alloc (Nat.le_refl _) _
  have hg0 : W0.heap[w.heap.size]? = some (.cells C 53 (0, 0)) := by rw [hW0]; exact heap_alloc_new w.drew _
  obtain ⟨cur1, hg1, hl1⟩ := heap_setCells w.heap.size [.string y.name, y.val] (i * 2) W0 C hg0 (by simp; omega)
  rw [← hW1] at hg1
  have hs1 : cur1.size = C.size := by
    rw [← Array.length_toList, hl1, ← Array.length_toList]
    simp only [List.length_append, List.length_take, List.length_drop, Array.length_toList, List.length_cons, List.length_nil]
    omega
  have hdl : (fcells (X.drop i)).length = (n - i) * 2 := by rw [fcells_length, List.length_drop, ← hnn]
  obtain ⟨cur2, hg2, hl2⟩ := heap_setCells w.heap.size (fcells (X.drop i)) ((i + 1) * 2) W1.drew cur1 hg1 (by rw [hdl]; omega)
  rw [← hW2] at hg2
  have hs2 : cur2.size = cur1.size := by
    rw [← Array.length_toList, hl2, ← Array.length_toList]
    simp only [List.length_append, List.length_take, List.length_drop, Array.length_toList, hdl]
    omega
  have hoff1 : Off (fun k => k = w.heap.size) W0 W1 := by rw [hW1]; exact Off.setCells (S := fun k => k = w.heap.size) (.inr rfl) _ _ _ (Off.refl _ W0)
  have hoff2 : Off (fun k => k = w.heap.size) W0 W2 := by rw [hW2]; exact Off.setCells (S := fun k => k = w.heap.size) (.inr rfl) _ _ _ hoff1.drew
  have hb1 : Below w.heap.size w W1 := hb0.trans (hoff1.below hb0.size (fun k hk => by omega))
  have hb2 : Below w.heap.size w W2 := hb0.trans (hoff2.below hb0.size (fun k hk => by omega))
  have hvl : vb < w.heap.size := (Array.getElem?_eq_some_iff.1 hv).1
  have hgl : g < w.heap.size := (Array.getElem?_eq_some_iff.1 hg).1
  have hv0 : W0.heap[vb]? = some (.cells #[.string y.name, y.val] 53 (0, 0)) := by rw [hb0.block vb hvl]; exact hv
  have hsrc : ∀ j u, (fcells (X.drop i))[j]? = some u → W1.drew.cell? ((⟨g, i * 2, none⟩ : Addr).add j) = some u := fun j u hu => by
    rw [Go.WideShapes.add_plain]
    show W1.cell? _ = _
    have hj := (List.getElem?_eq_some_iff.1 hu).1
    rw [hb1.cell (p := ⟨g, i * 2 + j, none⟩) hgl, ho.cellAt (i * 2 + j) (by rw [hdl] at hj; omega), ← hu, ← fcells_drop, List.getElem?_drop]
  have hcp1 : ∀ ty dc, (Builtin.copy_ #[22, 22] ty #[.slice (some ⟨w.heap.size, i * 2, none⟩) (n + 1 - i) dc, .slice (some ⟨vb, 0, none⟩) 1 1]).run Try.prog W0 = .ok (goInt (Nat.min 1 (n + 1 - i))) W1 := fun ty dc => by
    rw [hW1]
    exact run_copy_wide W0 _ _ ty 53 2 w.heap.size (i * 2) _ dc ⟨vb, 0, none⟩ 1 1 [.string y.name, y.val] Try.underlying22 Try.size53 (by simp only [Nat.min_def]; split <;> simp; omega) (fun j u hu => by rw [Go.WideShapes.add_plain, Nat.zero_add, cell_of hv0]; simpa using hu)
      (fun j hj => cells_there hg0 _ (by simp at hj; omega)) (fun j hj => frozen_of hg0 _) (by intro u hu; simp at hu; rcases hu with rfl | rfl <;> rfl)
  have hcp2 : ∀ ty dc sc, (Builtin.copy_ #[22, 22] ty #[.slice (some ⟨w.heap.size, (i + 1) * 2, none⟩) (n - i) dc, .slice (some ⟨g, i * 2, none⟩) (n - i) sc]).run Try.prog W1.drew = .ok (goInt (Nat.min (n - i) (n - i))) W2 := fun ty dc sc => by
    rw [hW2]
    exact run_copy_wide W1.drew _ _ ty 53 2 w.heap.size ((i + 1) * 2) _ dc ⟨g, i * 2, none⟩ _ sc (fcells (X.drop i)) Try.underlying22 Try.size53 (by rw [hdl]; simp only [Nat.min_def]; split <;> omega) hsrc
      (fun j hj => cells_there (w := W1.drew) hg1 _ (by rw [hdl] at hj; omega)) (fun j hj => frozen_of (w := W1.drew) hg1 _) (fcells_one _)
  have HR : Hid (W2.ownsRow base 53 2 (.slice (some ⟨w.heap.size, 0, none⟩) (n + 1) nc) (n + 1) (fcells (insX X i y)) ∧ Below w.heap.size w W2) := by
    refine ⟨⟨by rw [fcells_length, insX_length X i y (by omega), hnn], .inr ⟨w.heap.size, nc, cur2, rfl, hbase, hg2, hge, hcap, by omega, ?_⟩⟩, hb2⟩
    have e1 : cur1.toList.take ((i + 1) * 2) = fcells (X.take i) ++ [.string y.name, y.val] := by
      rw [hl1, hCt, List.take_left' (by rw [List.length_append, hxl]; simp; omega)]
    rw [hl2, e1, insX_cells, List.take_left']
    simp only [List.length_append, hxl, hdl, List.length_cons, List.length_nil]
    omega
  have hz3 : ¬ ((i : Int) = (n : Int)) := by omega
  have hb4 : ¬ (c = i) := by omega
  have hb5 : ¬ (nc = i) := by omega
  have hb6 : ¬ (nc = i + 1) := by omega
  have hcc : (c : Int) < (n : Int) + 1 := by omega
  clear hsrc hg hg0 hg1 hg2 hl1 hl2 hs1 hs2 hoff1 hoff2 hb0 hb1 hb2 hv0 hv hcs htk ho hdl hW0 hW1 hW2 hnn hcm hCs hCt hxl hi0 hcap hk hin
  go_enter Try.func83, Try.ntmps83
  go_wp2_with (first | (at_builtin; refine Lib.wpList_append_run _ rfl _ _ _ _ rfl _ _ rfl rfl _ _ (happ _) ?_) | (at_builtin; refine wpList_copy_run _ rfl _ _ 22 22 rfl _ _ rfl rfl (hcp1 _ _) ?_))
  have hw1 : IntKind.i64.wrap ((i : Int) + 1) = (i : Int) + 1 := by rw [IntKind.wrap_i64]; omega
  have hb7 : (0 : Int) ≤ (i : Int) + 1 := by omega
  have htn : ((i : Int) + 1).toNat = i + 1 := by omega
  have hb3 : (i : Int) ≤ (n : Int) := by omega
  go_region_law (refine step_copy_run rfl _ _ 22 22 rfl _ _ (by simp [Act.eval, Act.put]) (by simp [Act.eval, Act.put]) (hcp2 _ _ _) ?_)
  go_wp2
  go_ret
  exact ⟨nc, rfl, HR⟩

/-- Insert of one file at a list that the caller owns. -/
theorem insert_any (w : World) (base i : Nat) (v : Value) (X : List FX) (y : FX) (vb : Nat) (ho : w.ownsRow base 53 2 v X.length (fcells X)) (hv : w.heap[vb]? = some (.cells #[.string y.name, y.val] 53 (0, 0))) (hvb : v.ownBlock ≠ some vb) (hn : X.length ≤ 1000) (hi : i ≤ X.length) (hbase : base ≤ w.heap.size) :
    Calls Try.prog 83 #[v, .int .i64 i, .slice (some ⟨vb, 0, none⟩) 1 1] w fun e w' => ∃ v', e = .returned v' ∧ Hid (w'.ownsRow base 53 2 v' (X.length + 1) (fcells (insX X i y)) ∧ Moved w w' v v') := by
  rcases Nat.lt_or_ge i X.length with hlt | hge
  · rcases ho.2 with ⟨_, h0⟩ | ⟨g, c, cur, rfl, _, _, hnc, _⟩
    · omega
    · rcases Nat.lt_or_ge c (X.length + 1) with hc | hc
      · refine (insert_grow w base g c i _ X y vb rfl ho hv hn hlt hc hbase).mono ?_
        rintro e w' ⟨c', rfl, hr⟩
        refine ⟨_, rfl, hr.out.1, Off.of_below hr.out.2, fun k hk => ?_⟩
        cases hk
        exact .inr (Nat.le_refl _)
      · refine (insert_shift w base g c i _ X y vb rfl ho hv (fun e => hvb (by rw [e]; rfl)) hn hlt hc).mono ?_
        rintro e w' ⟨rfl, hr⟩
        refine ⟨_, rfl, hr.out.1, hr.out.2.mono (fun k _ hk => by rw [hk]; rfl), fun k hk => .inl hk⟩
  · obtain rfl : i = X.length := by omega
    rw [insX_end]
    exact insert_end w base v X y vb ho hv hn hbase

end Go.Proofs.Ytfocejmfmnijpaa
