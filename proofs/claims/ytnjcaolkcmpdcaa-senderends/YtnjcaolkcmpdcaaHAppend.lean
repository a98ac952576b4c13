/- append of bytes onto bytes of the call's own; one byte in memory of its own. -/
import Derived.Test.YtnjcaolkcmpdcaaHMem
namespace Go.Proofs.Ytnjcaolkcmpdcaa
open Go.RowKit
set_option linter.unusedVariables false

/-- append of bytes onto bytes that the call owns. -/
theorem wpList_append_row {ops : Array Oper} {rest : List Oper} {o : Oper} {a : Act} {w : World} {Q : Exit → Act → World → Prop} (hgd : o.guard = none) (s x : Operand)
    (ho : o.op = .call { callee := .builtin .append, args := #[s, x], argTypes := #[23, 23] }) (base : Nat) (v : Value) (l : List Nat) (hs : a.eval s = v) (hown : w.ownsRow base 5 1 v l.length (cells l))
    (src : Option Addr) (c : Nat) (m : List Nat) (hx : a.eval x = .slice src m.length c) (hr : Row w src m) (h0 : 0 < l.length ∨ 0 < m.length) (hz : l.length + m.length ≤ 140737488351232) (hbase : base ≤ w.heap.size)
    (h : ∀ v' w', w'.ownsRow base 5 1 v' (l ++ m).length (cells (l ++ m)) → Grew w w' v v' → wpList Try.prog ops Q rest (a.put o.dst v') w') : wpList Try.prog ops Q (o :: rest) a w := by
  obtain ⟨i0, hi, hz0, hz1, hz2⟩ := info_parts Try.info5
  rcases Nat.eq_zero_or_pos m.length with hm | hm
  · obtain rfl : m = [] := List.eq_nil_of_length_eq_zero hm
    have hl : 0 < l.length := by rcases h0 with h0 | h0; exact h0; simp at h0
    refine wpList_plain hgd fun K hK => ?_
    obtain ⟨g, cap, rfl, _, _⟩ := hown.form hl
    obtain ⟨a', c', hv, hle, _⟩ := own_form hown
    cases hv
    simp only [List.length_nil] at hx
    have hsrc : Src Try.prog i0.size 23 (.slice src 0 c) 0 [] w := by
      cases src with
      | none => exact Src.ofNil _ Try.underlying23 c
      | some ad => exact Src.ofSlice _ Try.underlying23 ad 0 c [] (by simp) (by simp) (by simp)
    have happ := run_append_room_src w 23 23 o.type 5 i0 Try.underlying23 hi g 0 l.length cap (.slice src 0 c) 0 [] hsrc
    have happ := happ (by omega) (by simp) (by simp)
    rw [Nat.add_zero, World.setCells] at happ
    unfold Oper.wp
    simp [execOp, ho, resolve, invoke, builtin, hs, hx, happ, Result.andThen]
    exact hK _ _ (h _ w (by rw [List.append_nil]; exact hown) (Grew.refl _ _))
  · obtain ⟨b, off, rfl, _⟩ := hr.2.2 hm
    refine wpList_append_lies _ hgd s x 23 ho base 5 i0 (.int .u8 0) 1 1 Try.underlying23 hi hz0 hz1 hz2 rfl (by decide) v l.length (cells l) hs hown ⟨b, off, none⟩ m.length c (cells m) hx (by rw [cells_length, Nat.mul_one]) (row_cells hr _ rfl) (one_cell _) hm (by unfold maxLen; omega) (by omega) hbase w.heap.size rfl ?_
    intro g cap w' h1 h2 h3 _
    exact h _ w' (own_more h1 (by rw [List.length_append])) (grew_lies (Below.refl _ w) h2 h3 rfl)

/-- the same, the lengths as the walk has them. -/
theorem wpList_append_row_at {ops : Array Oper} {rest : List Oper} {o : Oper} {a : Act} {w : World} {Q : Exit → Act → World → Prop} (hgd : o.guard = none) (s x : Operand)
    (ho : o.op = .call { callee := .builtin .append, args := #[s, x], argTypes := #[23, 23] }) (base : Nat) (v : Value) (l : List Nat) (nl nm : Nat) (hs : a.eval s = v) (hown : w.ownsRow base 5 1 v nl (cells l))
    (src : Option Addr) (c : Nat) (m : List Nat) (hnm : m.length = nm) (hx : a.eval x = .slice src nm c) (hr : Row w src m) (h0 : 0 < nl ∨ 0 < nm) (hz : nl + nm ≤ 140737488351232) (hbase : base ≤ w.heap.size)
    (h : ∀ v' w', w'.ownsRow base 5 1 v' (nl + nm) (cells (l ++ m)) → Grew w w' v v' → wpList Try.prog ops Q rest (a.put o.dst v') w') : wpList Try.prog ops Q (o :: rest) a w := by
  have hnl : l.length = nl := by have := hown.1; rw [cells_length] at this; omega
  subst hnl hnm
  refine wpList_append_row hgd s x ho base v l hs hown src c m hx hr h0 hz hbase (fun v' w' h1 h2 => h v' w' ?_ h2)
  rw [← List.length_append]; exact h1
/-- append onto bytes that the call owns and that lie somewhere, be they none. -/
theorem wpList_append_some {ops : Array Oper} {rest : List Oper} {o : Oper} {a : Act} {w : World} {Q : Exit → Act → World → Prop} (hgd : o.guard = none) (s x : Operand)
    (ho : o.op = .call { callee := .builtin .append, args := #[s, x], argTypes := #[23, 23] }) (base g cap : Nat) (l : List Nat) (nl nm : Nat) (hs : a.eval s = .slice (some ⟨g, 0, none⟩) nl cap) (hown : w.ownsRow base 5 1 (.slice (some ⟨g, 0, none⟩) nl cap) nl (cells l))
    (src : Option Addr) (c : Nat) (m : List Nat) (hnm : m.length = nm) (hx : a.eval x = .slice src nm c) (hr : Row w src m) (hz : nl + nm ≤ 140737488351232) (hbase : base ≤ w.heap.size)
    (h : ∀ g' cap' w', w'.ownsRow base 5 1 (.slice (some ⟨g', 0, none⟩) (nl + nm) cap') (nl + nm) (cells (l ++ m)) → Grew w w' (.slice (some ⟨g, 0, none⟩) nl cap) (.slice (some ⟨g', 0, none⟩) (nl + nm) cap') → nl + nm ≤ cap' → wpList Try.prog ops Q rest (a.put o.dst (.slice (some ⟨g', 0, none⟩) (nl + nm) cap')) w') : wpList Try.prog ops Q (o :: rest) a w := by
  obtain ⟨i0, hi, hz0, hz1, hz2⟩ := info_parts Try.info5
  obtain ⟨_, _, hv, hle, _⟩ := own_form hown
  cases hv
  rcases Nat.eq_zero_or_pos nm with hm | hm
  · subst hm
    obtain rfl : m = [] := List.eq_nil_of_length_eq_zero hnm
    refine wpList_plain hgd fun K hK => ?_
    have hsrc : Src Try.prog i0.size 23 (.slice src 0 c) 0 [] w := by
      cases src with
      | none => exact Src.ofNil _ Try.underlying23 c
      | some ad => exact Src.ofSlice _ Try.underlying23 ad 0 c [] (by simp) (by simp) (by simp)
    have happ := run_append_room_src w 23 23 o.type 5 i0 Try.underlying23 hi g 0 nl cap (.slice src 0 c) 0 [] hsrc
    have happ := happ (by omega) (by simp) (by simp)
    rw [World.setCells] at happ
    unfold Oper.wp
    simp [execOp, ho, resolve, invoke, builtin, hs, hx, happ, Result.andThen]
    exact hK _ _ (h g cap w (by rw [List.append_nil]; exact hown) (Grew.refl _ _) (by omega))
  · subst hnm
    obtain ⟨b, off, rfl, _⟩ := hr.2.2 hm
    refine wpList_append_lies _ hgd s x 23 ho base 5 i0 (.int .u8 0) 1 1 Try.underlying23 hi hz0 hz1 hz2 rfl (by decide) _ nl (cells l) hs hown ⟨b, off, none⟩ m.length c (cells m) hx (by rw [cells_length, Nat.mul_one]) (row_cells hr _ rfl) (one_cell _) hm (by unfold maxLen; omega) (by omega) hbase w.heap.size rfl ?_
    intro g2 cap2 w' h1 h2 h3 _
    obtain ⟨_, _, hv2, hle2, _⟩ := own_form h1
    cases hv2
    exact h g2 cap2 w' (by rw [cells_append]; exact h1) (grew_lies (Below.refl _ w) h2 h3 rfl) hle2
theorem row_one {w : World} (x : Nat) (hx : x < 256) : Row (w.alloc (.cells #[.int .u8 (x : Nat)] 5)) (some ⟨w.heap.size, 0, none⟩) [x] := by
  refine ⟨by simpa using hx, by simp [maxLen], fun _ => ⟨_, _, rfl, fun i hi => ?_⟩⟩
  obtain rfl : i = 0 := by simpa using hi
  rw [cell_of (heap_alloc_new w _)]
  rfl
theorem made_none (w : World) : (w.alloc (.cells #[] 5)).ownsRow w.heap.size 5 1 (.slice (some ⟨w.heap.size, 0, none⟩) 0 0) 0 (cells []) := World.ownsRow_made w #[] 0 (Nat.le_refl _) (Nat.zero_le _) rfl
theorem app_below {w2 w3 : World} {X : Obj} {v0 v3 : Value} {n0 : Nat} {xs0 : List Value} (ho : (w2.alloc X).ownsRow w2.heap.size 5 1 v0 n0 xs0) (hg : Grew (w2.alloc X) w3 v0 v3) : Below w2.heap.size w2 w3 :=
  ((Below.refl _ w2).alloc (Nat.le_refl _) _).trans (hg.below ho (by simp))
theorem app_more {w2 w3 w4 : World} {v3 v4 : Value} {n3 : Nat} {xs3 : List Value} (h : Below w2.heap.size w2 w3) (ho : w3.ownsRow w2.heap.size 5 1 v3 n3 xs3) (hg : Grew w3 w4 v3 v4) : Below w2.heap.size w2 w4 :=
  h.trans (hg.below ho h.size)
theorem own_some {w : World} {base g n c : Nat} {l : List Nat} (h : w.ownsRow base 5 1 (.slice (some ⟨g, 0, none⟩) n c) n (cells l)) (hb : ∀ x ∈ l, x < 256) (hm : l.length ≤ maxLen) : Row w (some ⟨g, 0, none⟩) l ∧ l.length = n ∧ n ≤ c := by
  obtain ⟨a, cap, e, h1, h2, h3⟩ := own_row h hb hm
  cases e
  exact ⟨h3, rfl, h1⟩
end Go.Proofs.Ytnjcaolkcmpdcaa
