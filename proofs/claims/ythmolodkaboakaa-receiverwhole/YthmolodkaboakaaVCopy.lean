/- receiver.copied of bytes and of claims; append onto nothing, as rows. -/
import Derived.Test.YthmolodkaboakaaVChk
import Derived.Test.YthmolodkaboakaaHApp0
import Derived.Test.YthmolodkaboakaaTOwn
namespace Go.Proofs.Ythmolodkaboakaa
open Go.RowKit
set_option linter.unusedVariables false
theorem App0.rowC {w w' : World} {b a : Option Addr} {c : Nat} {l : List (Int × Int)} (h : App0 w w' 60 2 b a l.length c (ccells l)) : RowC w' a l ∧ l.length ≤ c ∧ c ≤ maxLen ∧ ∀ bb, a = some bb → b = some bb ∨ w.heap.size ≤ bb.block := by
  rcases Nat.eq_zero_or_pos l.length with h0 | h0
  · obtain ⟨rfl, rfl⟩ := h.nil h0
    obtain rfl : l = [] := List.eq_nil_of_length_eq_zero h0
    exact ⟨⟨by simp, fun h => absurd h (by simp)⟩, Nat.le_refl _, Nat.zero_le _, fun bb hb => .inl hb⟩
  · obtain ⟨a2, c2, he, _, h1, h2, h3, h4⟩ := ownC_row (h.own h0)
    cases he
    exact ⟨h3, h1, h2, fun bb hb => .inr (h4 bb hb)⟩
theorem rowC_src {w : World} {a : Option Addr} {l : List (Int × Int)} (h : RowC w a l) : 0 < l.length → ∃ ad, a = some ad ∧ ∀ j u, (ccells l)[j]? = some u → w.cell? (ad.add j) = some u := by
  intro hm
  obtain ⟨b, off, rfl, hc⟩ := h.2 hm
  refine ⟨_, rfl, fun j u hu => ?_⟩
  have hj : j < l.length * 2 := by rw [← ccells_length l]; exact (List.getElem?_eq_some_iff.1 hu).1
  obtain ⟨k1, k2⟩ := ccells_get l (j / 2) (by omega)
  obtain ⟨q1, q2⟩ := hc (j / 2) (by omega)
  rw [Go.WideShapes.add_plain]
  rcases Nat.mod_two_eq_zero_or_one j with e | e
  · have ej : j = j / 2 * 2 := by omega
    rw [ej] at hu ⊢
    rw [q1, ← k1]; exact hu
  · have ej : j = j / 2 * 2 + 1 := by omega
    rw [show off + j = off + j / 2 * 2 + 1 by omega, q2, ← k2, ← ej]; exact hu
theorem row_src' {w : World} {a : Option Addr} {l : List Nat} (h : Row w a l) : 0 < l.length → ∃ ad, a = some ad ∧ ∀ j u, (cells l)[j]? = some u → w.cell? (ad.add j) = some u := fun h0 => row_src h (by rw [cells_length]; exact h0)
theorem App0.owns {w w' : World} {e : TypeId} {size : Nat} {a : Option Addr} {m c : Nat} {news : List Value} (h : App0 w w' e size none a m c news) (hl : news.length = m * size) : w'.ownsRow w.heap.size e size (.slice a m c) m news := by
  rcases Nat.eq_zero_or_pos m with h0 | h0
  · subst h0
    obtain ⟨rfl, rfl⟩ := h.nil rfl
    exact ⟨hl, .inl ⟨rfl, rfl⟩⟩
  · exact h.own h0
/-- what a copy is: new, and the same. -/
theorem vcopiedB_any (w : World) (a : Option Addr) (c : Nat) (l : List Nat) (h : Row w a l) (hm : l.length ≤ 100000) : Calls Try.prog 44 #[.slice a l.length c] w fun e w' => ∃ a' c', e = .returned (.slice a' l.length c') ∧ Hid (Below w.heap.size w w' ∧ w'.ownsRow w.heap.size 5 1 (.slice a' l.length c') l.length (cells l)) := by
  obtain ⟨i0, hi, hz0, hz1, hz2⟩ := info_parts Try.info5
  have HI : Hid (Try.prog.info? 5 = some i0) := hi
  have HR : Hid (Row w a l) := h
  clear hi h
  go_enter Try.func44, Try.ntmps44
  go_wp2_with (at_builtin; refine wpList_app0 rfl _ _ 23 rfl 5 i0 (.int .u8 0) 1 1 Try.underlying23 HI.out hz0 hz1 hz2 rfl (by decide) none (by rfl) a l.length c (cells l) (by rfl) (by rw [cells_length, Nat.mul_one]) (row_src' HR.out) (one_cell _) (by unfold maxLen; omega) (by omega) ?_; intro a' c' w' hq; have HQ : Hid _ := hq; clear hq)
  have HF : Hid (Below w.heap.size w w' ∧ w'.ownsRow w.heap.size 5 1 (.slice a' l.length c') l.length (cells l)) := ⟨HQ.out.bel, HQ.out.owns (by rw [cells_length, Nat.mul_one])⟩
  go_ret
  exact ⟨_, _, rfl, HF⟩
theorem vcopiedC_any (w : World) (a : Option Addr) (c : Nat) (l : List (Int × Int)) (h : RowC w a l) (hm : l.length ≤ 100000) : Calls Try.prog 53 #[.slice a l.length c] w fun e w' => ∃ a' c', e = .returned (.slice a' l.length c') ∧ Hid (Below w.heap.size w w' ∧ w'.ownsRow w.heap.size 60 2 (.slice a' l.length c') l.length (ccells l)) := by
  obtain ⟨i0, hi, hz0, hz1, hz2⟩ := info_parts Try.info60
  have HI : Hid (Try.prog.info? 60 = some i0) := hi
  have HR : Hid (RowC w a l) := h
  clear hi h
  go_enter Try.func53, Try.ntmps53
  go_wp2_with (at_builtin; refine wpList_app0 rfl _ _ 24 rfl 60 i0 (.agg #[.int .i64 0, .int .i64 0]) 2 16 Try.underlying24 HI.out hz0 hz1 hz2 rfl (by decide) none (by rfl) a l.length c (ccells l) (by rfl) (by rw [ccells_length]) (rowC_src HR.out) (ccells_one _) (by unfold maxLen; omega) (by omega) ?_; intro a' c' w' hq; have HQ : Hid _ := hq; clear hq)
  have HF : Hid (Below w.heap.size w w' ∧ w'.ownsRow w.heap.size 60 2 (.slice a' l.length c') l.length (ccells l)) := ⟨HQ.out.bel, HQ.out.owns (by rw [ccells_length])⟩
  go_ret
  exact ⟨_, _, rfl, HF⟩
end Go.Proofs.Ythmolodkaboakaa
