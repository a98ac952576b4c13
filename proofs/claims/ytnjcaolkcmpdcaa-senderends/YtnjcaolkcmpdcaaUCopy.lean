/- sender.copied: of bytes, of claims, of numbers. -/
import Derived.Test.YtnjcaolkcmpdcaaUChk
import Derived.Test.YtnjcaolkcmpdcaaHApp0
import Derived.Test.YtnjcaolkcmpdcaaTOwn
namespace Go.Proofs.Ytnjcaolkcmpdcaa
open Go.RowKit
set_option linter.unusedVariables false
theorem App0.rowC {w w' : World} {b a : Option Addr} {c : Nat} {l : List (Int × Int)} (h : App0 w w' 56 2 b a l.length c (ccells l)) : RowC w' a l ∧ l.length ≤ c ∧ c ≤ maxLen ∧ ∀ bb, a = some bb → b = some bb ∨ w.heap.size ≤ bb.block := by
  rcases Nat.eq_zero_or_pos l.length with h0 | h0
  · obtain ⟨rfl, rfl⟩ := h.nil h0
    obtain rfl : l = [] := List.eq_nil_of_length_eq_zero h0
    exact ⟨⟨by simp, fun h => absurd h (by simp)⟩, Nat.le_refl _, Nat.zero_le _, fun bb hb => .inl hb⟩
  · obtain ⟨a2, c2, he, _, h1, h2, h3, h4⟩ := ownC_row (h.own h0)
    cases he
    exact ⟨h3, h1, h2, fun bb hb => .inr (h4 bb hb)⟩
theorem App0.row32 {w w' : World} {b a : Option Addr} {c : Nat} {l : List Nat} (h : App0 w w' 22 1 b a l.length c (cells32 l)) (hb : ∀ x ∈ l, x < 4294967296) (hm : l.length ≤ maxLen) : Row32 w' a l ∧ l.length ≤ c ∧ c ≤ maxLen ∧ ∀ bb, a = some bb → b = some bb ∨ w.heap.size ≤ bb.block := by
  rcases Nat.eq_zero_or_pos l.length with h0 | h0
  · obtain ⟨rfl, rfl⟩ := h.nil h0
    obtain rfl : l = [] := List.eq_nil_of_length_eq_zero h0
    exact ⟨⟨by simp, by simp, fun h => absurd h (by simp)⟩, Nat.le_refl _, Nat.zero_le _, fun bb hb => .inl hb⟩
  · obtain ⟨a2, c2, he, h1, h2, h3⟩ := own32_row (h.own h0) hb hm
    cases he
    exact ⟨h3, h1, h2, fun bb hb => .inr (own_ge (h.own h0) bb.block (by subst hb; rfl))⟩
theorem rowC_src {w : World} {a : Option Addr} {l : List (Int × Int)} (h : RowC w a l) : 0 < l.length → ∃ ad, a = some ad ∧ ∀ j u, (ccells l)[j]? = some u → w.cell? (ad.add j) = some u := by
  intro hm
  obtain ⟨b, off, rfl, hc⟩ := h.2 hm
  refine ⟨_, rfl, fun j u hu => ?_⟩
  have hj : j < l.length * 2 := by rw [← ccells_length l]; exact (List.getElem?_eq_some_iff.1 hu).1
  obtain ⟨k1, k2⟩ := ccells_get l (j / 2) (by omega)
  obtain ⟨q1, q2⟩ := hc (j / 2) (by omega)
  rw [Go.WideShapes.add_plain]
  rcases Nat.mod_two_eq_zero_or_one j with e | e
  · have ej : j = j / 2 * 2 := by omega
    rw [ej] at hu ⊢
    rw [q1, ← k1]; exact hu
  · have ej : j = j / 2 * 2 + 1 := by omega
    rw [show off + j = off + j / 2 * 2 + 1 by omega, q2, ← k2, ← ej]; exact hu
theorem row_src' {w : World} {a : Option Addr} {l : List Nat} (h : Row w a l) : 0 < l.length → ∃ ad, a = some ad ∧ ∀ j u, (cells l)[j]? = some u → w.cell? (ad.add j) = some u := fun h0 => row_src h (by rw [cells_length]; exact h0)
theorem row32_src {w : World} {a : Option Addr} {l : List Nat} (h : Row32 w a l) : 0 < l.length → ∃ ad, a = some ad ∧ ∀ j u, (cells32 l)[j]? = some u → w.cell? (ad.add j) = some u := by
  intro hm
  obtain ⟨b, off, rfl, _⟩ := row32_at h 0 hm
  refine ⟨_, rfl, fun j u hu => ?_⟩
  have hj : j < l.length := by rw [← cells32_length l]; exact (List.getElem?_eq_some_iff.1 hu).1
  obtain ⟨b', off', e, hc, _⟩ := row32_at h j hj
  cases e
  rw [Go.WideShapes.add_plain, hc, ← hu]
  simp [cells32, List.getElem?_eq_getElem hj]
theorem cells32_one (l : List Nat) : ∀ u ∈ cells32 l, u.oneCell' = true := by
  intro u hu
  obtain ⟨x, _, rfl⟩ := List.mem_map.1 hu
  rfl
/-- what a copy is: new, and the same. -/
theorem copiedB_any (w : World) (a : Option Addr) (c : Nat) (l : List Nat) (h : Row w a l) (hm : l.length ≤ 1000) : Calls Try.prog 64 #[.slice a l.length c] w fun e w' => ∃ a' c', e = .returned (.slice a' l.length c') ∧ Hid (Below w.heap.size w w' ∧ Row w' a' l ∧ l.length ≤ c' ∧ c' ≤ maxLen ∧ ∀ bb, a' = some bb → w.heap.size ≤ bb.block) := by
  obtain ⟨i0, hi, hz0, hz1, hz2⟩ := info_parts Try.info5
  have HI : Hid (Try.prog.info? 5 = some i0) := hi
  have HR : Hid (Row w a l) := h
  clear hi h
  go_enter Try.func64, Try.ntmps64
  go_wp2_with (at_builtin; refine wpList_app0 rfl _ _ 23 rfl 5 i0 (.int .u8 0) 1 1 Try.underlying23 HI.out hz0 hz1 hz2 rfl (by decide) none (by rfl) a l.length c (cells l) (by rfl) (by rw [cells_length, Nat.mul_one]) (row_src' HR.out) (one_cell _) (by unfold maxLen; omega) (by omega) ?_; intro a' c' w' hq; have HQ : Hid _ := hq; clear hq)
  obtain ⟨h1, h2, h3, h4⟩ := HQ.out.row HR.out.1 (by unfold maxLen; omega)
  have HF : Hid (Below w.heap.size w w' ∧ Row w' a' l ∧ l.length ≤ c' ∧ c' ≤ maxLen ∧ ∀ bb, a' = some bb → w.heap.size ≤ bb.block) := ⟨HQ.out.bel, h1, h2, h3, fun bb e => by rcases h4 bb e with h | h; cases h; exact h⟩
  clear h1 h2 h3 h4
  go_ret
  exact ⟨_, _, rfl, HF⟩
theorem copiedC_any (w : World) (a : Option Addr) (c : Nat) (l : List (Int × Int)) (h : RowC w a l) (hm : l.length ≤ 1000) : Calls Try.prog 65 #[.slice a l.length c] w fun e w' => ∃ a' c', e = .returned (.slice a' l.length c') ∧ Hid (Below w.heap.size w w' ∧ RowC w' a' l ∧ l.length ≤ c' ∧ c' ≤ maxLen ∧ ∀ bb, a' = some bb → w.heap.size ≤ bb.block) := by
  obtain ⟨i0, hi, hz0, hz1, hz2⟩ := info_parts Try.info56
  have HI : Hid (Try.prog.info? 56 = some i0) := hi
  have HR : Hid (RowC w a l) := h
  clear hi h
  go_enter Try.func65, Try.ntmps65
  go_wp2_with (at_builtin; refine wpList_app0 rfl _ _ 27 rfl 56 i0 (.agg #[.int .i64 0, .int .i64 0]) 2 16 Try.underlying27 HI.out hz0 hz1 hz2 rfl (by decide) none (by rfl) a l.length c (ccells l) (by rfl) (by rw [ccells_length]) (rowC_src HR.out) (ccells_one _) (by unfold maxLen; omega) (by omega) ?_; intro a' c' w' hq; have HQ : Hid _ := hq; clear hq)
  obtain ⟨h1, h2, h3, h4⟩ := HQ.out.rowC
  have HF : Hid (Below w.heap.size w w' ∧ RowC w' a' l ∧ l.length ≤ c' ∧ c' ≤ maxLen ∧ ∀ bb, a' = some bb → w.heap.size ≤ bb.block) := ⟨HQ.out.bel, h1, h2, h3, fun bb e => by rcases h4 bb e with h | h; cases h; exact h⟩
  clear h1 h2 h3 h4
  go_ret
  exact ⟨_, _, rfl, HF⟩
theorem own32_app0 {w w' : World} {a : Option Addr} {c : Nat} {l : List Nat} (h : App0 w w' 22 1 none a l.length c (cells32 l)) : w'.ownsRow w.heap.size 22 1 (.slice a l.length c) l.length (cells32 l) := by
  rcases Nat.eq_zero_or_pos l.length with h0 | h0
  · obtain ⟨rfl, rfl⟩ := h.nil h0
    obtain rfl : l = [] := List.eq_nil_of_length_eq_zero h0
    exact World.ownsRow_nil _ _ _ _
  · exact h.own h0
theorem copied32_any (w : World) (a : Option Addr) (c : Nat) (l : List Nat) (h : Row32 w a l) (hm : l.length ≤ 1000) : Calls Try.prog 66 #[.slice a l.length c] w fun e w' => ∃ a' c', e = .returned (.slice a' l.length c') ∧ Hid (Below w.heap.size w w' ∧ Row32 w' a' l ∧ l.length ≤ c' ∧ c' ≤ maxLen ∧ (∀ bb, a' = some bb → w.heap.size ≤ bb.block) ∧ w'.ownsRow w.heap.size 22 1 (.slice a' l.length c') l.length (cells32 l)) := by
  obtain ⟨i0, hi, hz0, hz1, hz2⟩ := info_parts Try.info22
  have HI : Hid (Try.prog.info? 22 = some i0) := hi
  have HR : Hid (Row32 w a l) := h
  clear hi h
  go_enter Try.func66, Try.ntmps66
  go_wp2_with (at_builtin; refine wpList_app0 rfl _ _ 30 rfl 22 i0 (.int .u32 0) 1 4 Try.underlying30 HI.out hz0 hz1 hz2 rfl (by decide) none (by rfl) a l.length c (cells32 l) (by rfl) (by rw [cells32_length, Nat.mul_one]) (row32_src HR.out) (cells32_one _) (by unfold maxLen; omega) (by omega) ?_; intro a' c' w' hq; have HQ : Hid _ := hq; clear hq)
  obtain ⟨h1, h2, h3, h4⟩ := HQ.out.row32 HR.out.1 (by unfold maxLen; omega)
  have HF : Hid (Below w.heap.size w w' ∧ Row32 w' a' l ∧ l.length ≤ c' ∧ c' ≤ maxLen ∧ (∀ bb, a' = some bb → w.heap.size ≤ bb.block) ∧ w'.ownsRow w.heap.size 22 1 (.slice a' l.length c') l.length (cells32 l)) := ⟨HQ.out.bel, h1, h2, h3, fun bb e => by rcases h4 bb e with h | h; cases h; exact h, own32_app0 HQ.out⟩
  clear h1 h2 h3 h4
  go_ret
  exact ⟨_, _, rfl, HF⟩
end Go.Proofs.Ytnjcaolkcmpdcaa
