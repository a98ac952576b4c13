/- The walk of PlanEarlier. -/
import Derived.Test.YtmmcdnniconalaaQSome
import Derived.Test.YtmmcdnniconalaaQMono
namespace Go.Proofs.Ytmmcdnniconalaa
open Go.RowKit
set_option linter.unusedVariables false
/-- the first k have become more. -/
def moreK (L M : List Int) : Nat → List Int
  | 0 => L
  | k + 1 => match M[k]? with
    | some x => (moreK L M k).set k ((moreK L M k).getD k 0 + max x 0 % 1000)
    | none => moreK L M k
theorem more_len (L M : List Int) : ∀ k, (moreK L M k).length = L.length
  | 0 => rfl
  | k + 1 => by
    have := more_len L M k
    rw [moreK]
    split
    · rw [List.length_set, this]
    · exact this
theorem more_ge (L M : List Int) : ∀ (k i : Nat) (l l' : Int), L[i]? = some l → (moreK L M k)[i]? = some l' → l ≤ l'
  | 0, i, l, l', h, h' => by rw [moreK, h] at h'; cases h'; exact Int.le_refl _
  | k + 1, i, l, l', h, h' => by
    have ih := more_ge L M k i
    rw [moreK] at h'
    split at h'
    · rename_i x hx
      by_cases e : k = i
      · subst e
        have hl : k < (moreK L M k).length := by rw [more_len]; exact (List.getElem?_eq_some_iff.1 h).1
        rw [List.getElem?_set_self hl] at h'
        have hg := List.getElem?_eq_getElem hl
        have := ih l _ h hg
        rw [List.getD_eq_getElem?_getD, hg] at h'
        simp only [Option.getD_some, Option.some.injEq] at h'
        have : 0 ≤ max x 0 % 1000 := Int.emod_nonneg _ (by omega)
        omega
      · rw [List.getElem?_set_ne e] at h'
        exact ih l l' h h'
    · exact ih l l' h h'
theorem more_bd {L M : List Int} (hL : ∀ l ∈ L, 0 ≤ l ∧ l ≤ 1099511627776) : ∀ (k i : Nat) (l : Int), (moreK L M k)[i]? = some l → 0 ≤ l ∧ (l ≤ 1099511627776 ∨ i < k ∧ l ≤ 1099511629000)
  | 0, i, l, h => by rw [moreK] at h; have := hL l (List.mem_of_getElem? h); omega
  | k + 1, i, l, h => by
    have ih := more_bd (M := M) hL k i
    rw [moreK] at h
    split at h
    · rename_i x hx
      by_cases e : k = i
      · subst e
        have hl : k < (moreK L M k).length := by
          have := (List.getElem?_eq_some_iff.1 h).1
          rw [List.length_set] at this
          exact this
        rw [List.getElem?_set_self hl] at h
        have hg := List.getElem?_eq_getElem hl
        have := ih _ hg
        rw [List.getD_eq_getElem?_getD, hg] at h
        simp only [Option.getD_some, Option.some.injEq] at h
        have h1 : 0 ≤ max x 0 % 1000 := Int.emod_nonneg _ (by omega)
        have h2 : max x 0 % 1000 < 1000 := Int.emod_lt_of_pos _ (by omega)
        omega
      · rw [List.getElem?_set_ne e] at h
        have := ih l h
        omega
    · have := ih l h
      omega
theorem vol_bd {n : Int} {c : Ct} (h : OkC n c) : 0 ≤ vol c ∧ vol c ≤ 1099511627776 := by
  have h1 := h.s0; have h2 := h.se; have h3 := h.e2; have h4 := h.r1; have h5 := h.r2
  unfold vol
  rw [if_pos (by omega)]
  exact mul_bound (by omega) (by omega) (by omega) (by omega)
theorem vols_bd {nn : Int} {X : List Ct} : ∀ l ∈ vols nn X, 0 ≤ l ∧ l ≤ 1099511627776 := by
  intro l hl
  unfold vols at hl
  split at hl
  · rename_i h
    obtain ⟨c, hc, rfl⟩ := List.mem_map.1 hl
    obtain ⟨k, hk⟩ := List.mem_iff_getElem?.1 hc
    exact vol_bd ((okP_of h).each k c hk)
  · simp at hl
/-- the two boxes of a law. -/
structure PB (w : World) (nn : Int) (a : Option Addr) (m k : Nat) (f t n e : Int) (W : World) : Prop where
  p : W.heap[w.heap.size]? = some (.cells #[.int .i64 nn, .slice a m k] 24 (0, 0))
  q : W.heap[w.heap.size + 1]? = some (.cells #[.int .i64 f, .int .i64 t, .int .i64 n, .int .i64 e] 27 (0, 0))
  bel : Below w.heap.size w W
theorem PB.later {w W W' : World} {nn : Int} {a : Option Addr} {m k : Nat} {f t n e : Int} (h : PB w nn a m k f t n e W) (hb : Below W.heap.size W W') : PB w nn a m k f t n e W' := ⟨old_block hb h.p, old_block hb h.q, below_of h.bel hb⟩
theorem PB.cells {w W : World} {nn : Int} {a : Option Addr} {m k : Nat} {f t n e : Int} (h : PB w nn a m k f t n e W) : W.cell? ⟨w.heap.size, 0, none⟩ = some (.int .i64 nn) ∧ W.cell? ⟨w.heap.size, 1, none⟩ = some (.slice a m k) ∧ W.cell? ⟨w.heap.size + 1, 0, none⟩ = some (.int .i64 f) ∧ W.cell? ⟨w.heap.size + 1, 1, none⟩ = some (.int .i64 t) ∧ W.cell? ⟨w.heap.size + 1, 2, none⟩ = some (.int .i64 n) ∧ W.cell? ⟨w.heap.size + 1, 3, none⟩ = some (.int .i64 e) := by
  refine ⟨?_, ?_, ?_, ?_, ?_, ?_⟩
  · rw [cell_of h.p]; rfl
  · rw [cell_of h.p]; rfl
  · rw [cell_of h.q]; rfl
  · rw [cell_of h.q]; rfl
  · rw [cell_of h.q]; rfl
  · rw [cell_of h.q]; rfl
/-- numbers in a block of the law's own. -/
structure LfB (W : World) (g : Nat) (l : List Int) : Prop where
  ex : ∃ cur, W.heap[g]? = some (.cells cur 3 (0, 0)) ∧ ∀ (i : Nat) (x : Int), l[i]? = some x → cur[i]? = some (.int .i64 x)
theorem LfB.of {w : World} {base n : Nat} {v : Value} {l : List Int} (h : w.ownsRow base 3 1 v n (icells l)) (h0 : 0 < n) : ∃ g c, v = .slice (some ⟨g, 0, none⟩) n c ∧ base ≤ g ∧ n ≤ c ∧ c ≤ maxLen ∧ l.length = n ∧ LfB w g l := by
  obtain ⟨hl, h⟩ := h
  rw [icells_length, Nat.mul_one] at hl
  rcases h with ⟨rfl, h1⟩ | ⟨g, cap, cur, rfl, hb, hg, hnc, hcm, hcs, ht⟩
  · omega
  · refine ⟨g, cap, rfl, hb, hnc, hcm, hl, ⟨cur, hg, fun i x hi => ?_⟩⟩
    have hil := (List.getElem?_eq_some_iff.1 hi).1
    have h1 : (cur.toList.take (n * 1))[i]? = cur.toList[i]? := List.getElem?_take_of_lt (by omega)
    rw [ht] at h1
    rw [← Array.getElem?_toList, ← h1]
    unfold icells
    rw [List.getElem?_map, hi]
    rfl
theorem LfB.cell {W : World} {g : Nat} {l : List Int} (h : LfB W g l) {i : Nat} {x : Int} (hi : l[i]? = some x) : W.cell? ⟨g, i, none⟩ = some (.int .i64 x) ∧ W.frozen? ⟨g, i, none⟩ = false := by
  obtain ⟨cur, hg, hc⟩ := h.ex
  exact ⟨by rw [cell_of hg]; exact hc i x hi, frozen_of hg i⟩
theorem LfB.set {W : World} {g : Nat} {l : List Int} (h : LfB W g l) {j : Nat} (hj : j < l.length) (y : Int) : LfB (W.setCell ⟨g, j, none⟩ (.int .i64 y)) g (l.set j y) := by
  obtain ⟨cur, hg, hc⟩ := h.ex
  refine ⟨_, heap_setCell_same _ _ _ _ _ _ hg, fun i x hi => ?_⟩
  have hcj := hc j _ (List.getElem?_eq_getElem hj)
  have hjs := (Array.getElem?_eq_some_iff.1 hcj).1
  by_cases e : i = j
  · subst e
    rw [List.getElem?_set_self hj] at hi
    cases hi
    rw [Array.getElem?_setIfInBounds_self_of_lt hjs]
  · rw [List.getElem?_set_ne (Ne.symm e)] at hi
    rw [Array.getElem?_setIfInBounds_ne (Ne.symm e)]
    exact hc i x hi
theorem LfB.off {W W' : World} {g : Nat} {l : List Int} (h : LfB W g l) (hb : Below W.heap.size W W') : LfB W' g l := by
  obtain ⟨cur, hg, hc⟩ := h.ex
  exact ⟨cur, old_block hb hg, hc⟩
theorem LfB.row {N : Nat → Prop} {W : World} {g : Nat} {l : List Int} (h : LfB W g l) (hn : ¬ N g) : RowI N W (some ⟨g, 0, none⟩) l := fun h0 => ⟨g, 0, rfl, hn, fun i hi => by
  rw [Nat.zero_add, (h.cell (List.getElem?_eq_getElem hi)).1, List.getD_eq_getElem?_getD, List.getElem?_eq_getElem hi]
  rfl⟩
theorem rt_ok {nn : Int} {X : List Ct} {L : List Int} {frm to now need i t : Int} (h : rtR nn X L frm to now need = (i, t, 0)) : okP nn X = true ∧ 0 < X.length ∧ 0 ≤ now ∧ now ≤ 1048576 ∧ 0 ≤ need := by
  by_cases h1 : okP nn X = true
  · by_cases h2 : okA X.length L nn frm to now need = true
    · obtain ⟨a1, a2, a3, a4, a5, a6, a7, a8, a9⟩ := okA_of h2
      refine ⟨h1, ?_, a8, a9, a2⟩
      rcases Nat.eq_zero_or_pos X.length with h0 | h0
      · rw [rt_none h1 h2 (by rw [h0]; rfl)] at h
        simp at h
      · exact h0
    · rw [rt_arg h1 (by simpa using h2)] at h
      simp at h
  · rw [rt_no (by simpa using h1)] at h
    simp at h
end Go.Proofs.Ytmmcdnniconalaa
