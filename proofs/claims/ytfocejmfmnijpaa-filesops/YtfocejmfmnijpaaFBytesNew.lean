/- Bytes in memory of their own: append of bytes onto a new row of none. -/
import Derived.Test.YtfocejmfmnijpaaFClone
import Derived.Deep.AppendSrc
namespace Go.Proofs.Ytfocejmfmnijpaa
open Go.RowKit

/-- append(new bytes of none, bytes that lie somewhere). -/
theorem wpList_append_bytes {ops : Array Oper} {rest : List Oper} {o : Oper} {a : Act} {w : World} {Q : Exit → Act → World → Prop} (hgd : o.guard = none) (s x : Operand)
    (ho : o.op = .call { callee := .builtin .append, args := #[s, x], argTypes := #[35, 35] }) (g : Nat) (hs : a.eval s = .slice (some ⟨g, 0, none⟩) 0 0) (hg : w.heap[g]? = some (.cells #[] 5 (0, 0)))
    (src : Option Addr) (c : Nat) (l : List Nat) (hr : Row w src l) (hx : a.eval x = .slice src l.length c) (hz : l.length ≤ 140737488351232)
    (h : ∀ a3 c3 w', Row w' a3 l → l.length ≤ c3 → c3 ≤ maxLen → w.grownBy w' (some g) → wpList Try.prog ops Q rest (a.put o.dst (.slice a3 l.length c3)) w') : wpList Try.prog ops Q (o :: rest) a w := by
  refine wpList_plain hgd fun K hK => ?_
  obtain ⟨i0, hi, hz0, hz1, hz2⟩ := info_parts Try.info5
  have hgl : g < w.heap.size := (Array.getElem?_eq_some_iff.1 hg).1
  have hown : w.ownsRow g 5 1 (.slice (some ⟨g, 0, none⟩) 0 0) 0 [] := ⟨rfl, .inr ⟨g, 0, #[], rfl, Nat.le_refl _, hg, Nat.le_refl _, Nat.zero_le _, rfl, rfl⟩⟩
  rcases Nat.eq_zero_or_pos l.length with h0 | h0
  · obtain rfl : l = [] := List.eq_nil_of_length_eq_zero h0
    simp only [List.length_nil] at hx
    have hsrc : Src Try.prog i0.size 35 (.slice src 0 c) 0 [] w := by
      cases src with
      | none => exact Src.ofNil _ Try.underlying35 c
      | some ad => exact Src.ofSlice _ Try.underlying35 ad 0 c [] (by simp) (by simp) (by simp)
    have happ := run_append_room_src w 35 35 o.type 5 i0 Try.underlying35 hi g 0 0 0 (.slice src 0 c) 0 [] hsrc
    have happ := happ (by omega) (by simp) (by simp)
    rw [Nat.add_zero, World.setCells] at happ
    unfold Oper.wp
    simp [execOp, ho, resolve, invoke, builtin, hs, hx, happ, Result.andThen]
    exact hK _ _ (h (some ⟨g, 0, none⟩) 0 w ⟨by simp, by simp, fun h => absurd h (by simp)⟩ (Nat.le_refl _) (Nat.zero_le _) (World.grownBy.refl w _))
  · obtain ⟨b, off, rfl, _⟩ := hr.2.2 h0
    refine wp_append_own w s x 35 ho g 5 i0 (.int .u8 0) 1 1 Try.underlying35 hi hz0 hz1 hz2 rfl (by decide) _ 0 [] hs hown ⟨b, off, none⟩ l.length c (cells l) hx (by rw [cells_length, Nat.mul_one]) (row_cells hr _ rfl) (one_cell l) (by unfold maxLen; omega) (by omega) (by omega) ?_
    intro v' w' h1 h2 _
    rw [Nat.zero_add, List.nil_append] at h1
    obtain ⟨a3, c3, rfl, e1, e2, e3⟩ := own_row h1 hr.1 hr.2.1
    exact hK _ _ (h a3 c3 w' e3 e1 e2 h2)
end Go.Proofs.Ytfocejmfmnijpaa
