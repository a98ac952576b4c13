/- Claims of the call's own; append of claims, of bytes. -/
import Derived.Test.YtnjcaolkcmpdcaaTCheck
import Derived.Deep.AppendSrc
import Derived.Deep.AppendLies
import Derived.Deep.Cut
import Derived.Deep.RegionLaw
namespace Go.Proofs.Ytnjcaolkcmpdcaa
open Go.RowKit
set_option linter.unusedVariables false
set_option linter.unusedVariables false
/-- the cells of claims. -/
def ccells : List (Int × Int) → List Value
  | [] => []
  | c :: r => Value.int .i64 c.1 :: Value.int .i64 c.2 :: ccells r
theorem ccells_append (l m : List (Int × Int)) : ccells (l ++ m) = ccells l ++ ccells m := by
  induction l with
  | nil => rfl
  | cons x r ih => simp [ccells, ih]
theorem ccells_length (l : List (Int × Int)) : (ccells l).length = l.length * 2 := by
  induction l with
  | nil => rfl
  | cons x r ih => simp only [ccells, List.length_cons, ih]; omega
theorem ccells_get (l : List (Int × Int)) : ∀ i (h : i < l.length), (ccells l)[i * 2]? = some (.int .i64 l[i].1) ∧ (ccells l)[i * 2 + 1]? = some (.int .i64 l[i].2) := by
  induction l with
  | nil => intro i h; simp at h
  | cons x r ih =>
    intro i h
    cases i with
    | zero => exact ⟨rfl, rfl⟩
    | succ i =>
      have := ih i (by simpa using h)
      rw [show (i + 1) * 2 = i * 2 + 2 by omega]
      exact this
/-- Claims of the call's own. -/
structure FreshC (w0 w : World) (a : Option Addr) (c : Nat) (l : List (Int × Int)) : Prop where
  row : RowC w a l
  le : l.length ≤ c
  cap : c ≤ maxLen
  new : ∀ b, a = some b → w0.heap.size ≤ b.block
theorem ownC_row {w : World} {base n : Nat} {v : Value} {l : List (Int × Int)} (h : w.ownsRow base 56 2 v n (ccells l)) :
    ∃ a cap, v = .slice a l.length cap ∧ n = l.length ∧ l.length ≤ cap ∧ cap ≤ maxLen ∧ RowC w a l ∧ (∀ b, a = some b → base ≤ b.block) := by
  obtain ⟨hl, h⟩ := h
  rw [ccells_length] at hl
  obtain rfl : n = l.length := by omega
  rcases h with ⟨rfl, h0⟩ | ⟨g, cap, cur, rfl, hb, hg, hnc, hcm, hcs, ht⟩
  · refine ⟨none, 0, by rw [h0], rfl, by omega, by simp, ⟨by omega, fun h => absurd h (by omega)⟩, fun b hb => by cases hb⟩
  · refine ⟨_, cap, rfl, rfl, hnc, hcm, ⟨by omega, fun h0 => ⟨g, 0, rfl, fun i hi => ?_⟩⟩, fun b h => by cases h; exact hb⟩
    have key : ∀ j, j < l.length * 2 → cur[j]? = (ccells l)[j]? := fun j hj => by
      have h1 : (cur.toList.take (l.length * 2))[j]? = cur.toList[j]? := List.getElem?_take_of_lt (by omega)
      rw [ht] at h1
      rw [← Array.getElem?_toList, ← h1]
    obtain ⟨k1, k2⟩ := ccells_get l i hi
    rw [Nat.zero_add]
    refine ⟨?_, ?_⟩
    · rw [← k1, ← key (i * 2) (by omega)]
      simp [World.cell?, hg]
    · rw [← k2, ← key (i * 2 + 1) (by omega)]
      simp [World.cell?, hg]
theorem ownC_form {w : World} {base n : Nat} {v : Value} {l : List (Int × Int)} (h : w.ownsRow base 56 2 v n (ccells l)) : ∃ a cap, v = .slice a n cap := by
  obtain ⟨a, cap, h1, h2, _⟩ := ownC_row h
  exact ⟨a, cap, by rw [h2]; exact h1⟩
theorem Try.info56 : (Try.prog.info? 56).map (fun i => (i.zero, i.size, i.bytes)) = some (some (.agg #[.int .i64 0, .int .i64 0]), 2, 16) := by kernel_rfl
theorem ccells_one (l : List (Int × Int)) : ∀ u ∈ ccells l, u.oneCell' = true := by
  induction l with
  | nil => simp [ccells]
  | cons x r ih =>
    intro u hu
    rcases List.mem_cons.1 hu with rfl | hu
    · rfl
    · rcases List.mem_cons.1 hu with rfl | hu
      · rfl
      · exact ih u hu
set_option linter.unusedVariables false
/-- append of claims onto claims that the call owns and that lie somewhere, be they none. -/
theorem wpList_append_claims {ops : Array Oper} {rest : List Oper} {o : Oper} {a : Act} {w : World} {Q : Exit → Act → World → Prop} (hgd : o.guard = none) (s x : Operand)
    (ho : o.op = .call { callee := .builtin .append, args := #[s, x], argTypes := #[27, 27] }) (base g cap : Nat) (l : List (Int × Int)) (nl nm : Nat) (hs : a.eval s = .slice (some ⟨g, 0, none⟩) nl cap) (hown : w.ownsRow base 56 2 (.slice (some ⟨g, 0, none⟩) nl cap) nl (ccells l))
    (src : Option Addr) (c : Nat) (m : List (Int × Int)) (hnm : m.length = nm) (hx : a.eval x = .slice src nm c) (hr : RowC w src m) (hz : nl + nm ≤ 8796093022208) (hbase : base ≤ w.heap.size)
    (h : ∀ g' cap' w', w'.ownsRow base 56 2 (.slice (some ⟨g', 0, none⟩) (nl + nm) cap') (nl + nm) (ccells (l ++ m)) → Off (fun k => k = g) w w' → (g' = g ∨ w.heap.size ≤ g') → nl + nm ≤ cap' → wpList Try.prog ops Q rest (a.put o.dst (.slice (some ⟨g', 0, none⟩) (nl + nm) cap')) w') : wpList Try.prog ops Q (o :: rest) a w := by
  obtain ⟨i0, hi, hz0, hz1, hz2⟩ := info_parts Try.info56
  obtain ⟨_, _, hv, hle, _⟩ := own_form hown
  cases hv
  rcases Nat.eq_zero_or_pos nm with hm | hm
  · subst hm
    obtain rfl : m = [] := List.eq_nil_of_length_eq_zero hnm
    refine wpList_plain hgd fun K hK => ?_
    have hsrc : Src Try.prog i0.size 27 (.slice src 0 c) 0 [] w := by
      cases src with
      | none => exact Src.ofNil _ Try.underlying27 c
      | some ad => exact Src.ofSlice _ Try.underlying27 ad 0 c [] (by simp) (by simp) (by simp)
    have happ := run_append_room_src w 27 27 o.type 56 i0 Try.underlying27 hi g 0 nl cap (.slice src 0 c) 0 [] hsrc
    have happ := happ (by omega) (by simp) (by simp)
    rw [World.setCells] at happ
    unfold Oper.wp
    simp [execOp, ho, resolve, invoke, builtin, hs, hx, happ, Result.andThen]
    exact hK _ _ (h g cap w (by rw [List.append_nil]; exact hown) (Off.refl _ _) (.inl rfl) (by omega))
  · subst hnm
    obtain ⟨b, off, rfl, hc⟩ := hr.2 hm
    have hcells : ∀ j u, (ccells m)[j]? = some u → w.cell? ((⟨b, off, none⟩ : Addr).add j) = some u := by
      intro j u hu
      have hj : j < m.length * 2 := by rw [← ccells_length m]; exact (List.getElem?_eq_some_iff.1 hu).1
      obtain ⟨k1, k2⟩ := ccells_get m (j / 2) (by omega)
      obtain ⟨q1, q2⟩ := hc (j / 2) (by omega)
      rw [Go.WideShapes.add_plain]
      rcases Nat.mod_two_eq_zero_or_one j with e | e
      · have ej : j = j / 2 * 2 := by omega
        rw [ej] at hu ⊢
        rw [q1, ← k1]; exact hu
      · have ej : j = j / 2 * 2 + 1 := by omega
        rw [show off + j = off + j / 2 * 2 + 1 by omega, q2, ← k2, ← ej]; exact hu
    refine wpList_append_lies _ hgd s x 27 ho base 56 i0 _ 2 16 Try.underlying27 hi hz0 hz1 hz2 rfl (by decide) _ nl (ccells l) hs hown ⟨b, off, none⟩ m.length c (ccells m) hx (ccells_length m) hcells (ccells_one _) hm (by unfold maxLen; omega) (by omega) hbase w.heap.size rfl ?_
    intro g2 cap2 w' h1 h2 h3 _
    obtain ⟨_, _, hv2, hle2, _⟩ := own_form h1
    cases hv2
    refine h g2 cap2 w' (by rw [ccells_append]; exact h1) ((Off.refl (fun k => k = g) w).grown h2 (fun k e => by cases e; exact .inr rfl)) ?_ hle2
    rcases h3 with h3 | h3
    · cases h3; exact .inl rfl
    · exact .inr (by omega)
/-- in a region that draws: append of claims onto claims that the call owns and that lie somewhere, be they none. -/
theorem step_append_claims {ops : Array Oper} {o : Oper} {a : Act} {w : World} {K : Act → World → Prop} {Q : Exit → Act → World → Prop} {E : Prop} (hgd : o.guard = none) (s x : Operand)
    (ho : o.op = .call { callee := .builtin .append, args := #[s, x], argTypes := #[27, 27] }) (base g cap : Nat) (l : List (Int × Int)) (nl nm : Nat) (hs : a.eval s = .slice (some ⟨g, 0, none⟩) nl cap) (hown : w.ownsRow base 56 2 (.slice (some ⟨g, 0, none⟩) nl cap) nl (ccells l))
    (src : Option Addr) (c : Nat) (m : List (Int × Int)) (hnm : m.length = nm) (hx : a.eval x = .slice src nm c) (hr : RowC w src m) (hz : nl + nm ≤ 8796093022208) (hbase : base ≤ w.heap.size)
    (h : ∀ g' cap' w', w'.ownsRow base 56 2 (.slice (some ⟨g', 0, none⟩) (nl + nm) cap') (nl + nm) (ccells (l ++ m)) → Off (fun k => k = g) w w' → (g' = g ∨ w.heap.size ≤ g') → nl + nm ≤ cap' → K (a.put o.dst (.slice (some ⟨g', 0, none⟩) (nl + nm) cap')) w') : if Region.wanted o (yielded ops a.tmps) = true then Oper.wp Try.prog o a w K Q else E := by
  rw [if_pos (by simp [Region.wanted, hgd])]
  obtain ⟨i0, hi, hz0, hz1, hz2⟩ := info_parts Try.info56
  obtain ⟨_, _, hv, hle, _⟩ := own_form hown
  cases hv
  rcases Nat.eq_zero_or_pos nm with hm | hm
  · subst hm
    obtain rfl : m = [] := List.eq_nil_of_length_eq_zero hnm
    have hsrc : Src Try.prog i0.size 27 (.slice src 0 c) 0 [] w := by
      cases src with
      | none => exact Src.ofNil _ Try.underlying27 c
      | some ad => exact Src.ofSlice _ Try.underlying27 ad 0 c [] (by simp) (by simp) (by simp)
    have happ := run_append_room_src w 27 27 o.type 56 i0 Try.underlying27 hi g 0 nl cap (.slice src 0 c) 0 [] hsrc
    have happ := happ (by omega) (by simp) (by simp)
    rw [World.setCells] at happ
    unfold Oper.wp
    simp [execOp, ho, resolve, invoke, builtin, hs, hx, happ, Result.andThen]
    exact h g cap w (by rw [List.append_nil]; exact hown) (Off.refl _ _) (.inl rfl) (by omega)
  · subst hnm
    obtain ⟨b, off, rfl, hc⟩ := hr.2 hm
    have hcells : ∀ j u, (ccells m)[j]? = some u → w.cell? ((⟨b, off, none⟩ : Addr).add j) = some u := by
      intro j u hu
      have hj : j < m.length * 2 := by rw [← ccells_length m]; exact (List.getElem?_eq_some_iff.1 hu).1
      obtain ⟨k1, k2⟩ := ccells_get m (j / 2) (by omega)
      obtain ⟨q1, q2⟩ := hc (j / 2) (by omega)
      rw [Go.WideShapes.add_plain]
      rcases Nat.mod_two_eq_zero_or_one j with e | e
      · have ej : j = j / 2 * 2 := by omega
        rw [ej] at hu ⊢
        rw [q1, ← k1]; exact hu
      · have ej : j = j / 2 * 2 + 1 := by omega
        rw [show off + j = off + j / 2 * 2 + 1 by omega, q2, ← k2, ← ej]; exact hu
    refine wp_append_lies _ s x 27 ho base 56 i0 _ 2 16 Try.underlying27 hi hz0 hz1 hz2 rfl (by decide) _ nl (ccells l) hs hown ⟨b, off, none⟩ m.length c (ccells m) hx (ccells_length m) hcells (ccells_one _) hm (by unfold maxLen; omega) (by omega) hbase w.heap.size rfl ?_
    intro g2 cap2 w' h1 h2 h3 _
    obtain ⟨_, _, hv2, hle2, _⟩ := own_form h1
    cases hv2
    refine h g2 cap2 w' (by rw [ccells_append]; exact h1) ((Off.refl (fun k => k = g) w).grown h2 (fun k e => by cases e; exact .inr rfl)) ?_ hle2
    rcases h3 with h3 | h3
    · cases h3; exact .inl rfl
    · exact .inr (by omega)
/-- in a region that draws: append of bytes onto bytes that the call owns and that lie somewhere, be they none. -/
theorem step_append_bytes {ops : Array Oper} {o : Oper} {a : Act} {w : World} {K : Act → World → Prop} {Q : Exit → Act → World → Prop} {E : Prop} (hgd : o.guard = none) (s x : Operand)
    (ho : o.op = .call { callee := .builtin .append, args := #[s, x], argTypes := #[23, 23] }) (base g cap : Nat) (l : List Nat) (nl nm : Nat) (hs : a.eval s = .slice (some ⟨g, 0, none⟩) nl cap) (hown : w.ownsRow base 5 1 (.slice (some ⟨g, 0, none⟩) nl cap) nl (cells l))
    (src : Option Addr) (c : Nat) (m : List Nat) (hnm : m.length = nm) (hx : a.eval x = .slice src nm c) (hr : Row w src m) (hz : nl + nm ≤ 140737488351232) (hbase : base ≤ w.heap.size)
    (h : ∀ g' cap' w', w'.ownsRow base 5 1 (.slice (some ⟨g', 0, none⟩) (nl + nm) cap') (nl + nm) (cells (l ++ m)) → Off (fun k => k = g) w w' → (g' = g ∨ w.heap.size ≤ g') → nl + nm ≤ cap' → K (a.put o.dst (.slice (some ⟨g', 0, none⟩) (nl + nm) cap')) w') : if Region.wanted o (yielded ops a.tmps) = true then Oper.wp Try.prog o a w K Q else E := by
  rw [if_pos (by simp [Region.wanted, hgd])]
  obtain ⟨i0, hi, hz0, hz1, hz2⟩ := info_parts Try.info5
  obtain ⟨_, _, hv, hle, _⟩ := own_form hown
  cases hv
  rcases Nat.eq_zero_or_pos nm with hm | hm
  · subst hm
    obtain rfl : m = [] := List.eq_nil_of_length_eq_zero hnm
    have hsrc : Src Try.prog i0.size 23 (.slice src 0 c) 0 [] w := by
      cases src with
      | none => exact Src.ofNil _ Try.underlying23 c
      | some ad => exact Src.ofSlice _ Try.underlying23 ad 0 c [] (by simp) (by simp) (by simp)
    have happ := run_append_room_src w 23 23 o.type 5 i0 Try.underlying23 hi g 0 nl cap (.slice src 0 c) 0 [] hsrc
    have happ := happ (by omega) (by simp) (by simp)
    rw [World.setCells] at happ
    unfold Oper.wp
    simp [execOp, ho, resolve, invoke, builtin, hs, hx, happ, Result.andThen]
    exact h g cap w (by rw [List.append_nil]; exact hown) (Off.refl _ _) (.inl rfl) (by omega)
  · subst hnm
    obtain ⟨b, off, rfl, _⟩ := hr.2.2 hm
    refine wp_append_lies _ s x 23 ho base 5 i0 (.int .u8 0) 1 1 Try.underlying23 hi hz0 hz1 hz2 rfl (by decide) _ nl (cells l) hs hown ⟨b, off, none⟩ m.length c (cells m) hx (by rw [cells_length, Nat.mul_one]) (row_cells hr _ rfl) (one_cell _) hm (by unfold maxLen; omega) (by omega) hbase w.heap.size rfl ?_
    intro g2 cap2 w' h1 h2 h3 _
    obtain ⟨_, _, hv2, hle2, _⟩ := own_form h1
    cases hv2
    refine h g2 cap2 w' (by rw [cells_append]; exact h1) ((Off.refl (fun k => k = g) w).grown h2 (fun k e => by cases e; exact .inr rfl)) ?_ hle2
    rcases h3 with h3 | h3
    · cases h3; exact .inl rfl
    · exact .inr (by omega)
theorem rowC_take {w : World} {a : Option Addr} {l : List (Int × Int)} (h : RowC w a l) (n : Nat) : RowC w a (l.take n) := by
  refine ⟨by have := h.1; rw [List.length_take]; omega, fun h0 => ?_⟩
  rw [List.length_take] at h0
  obtain ⟨b, o, rfl, hc⟩ := h.2 (by omega)
  refine ⟨b, o, rfl, fun i hi => ?_⟩
  rw [List.length_take] at hi
  have := hc i (by omega)
  rw [List.getElem_take]
  exact this
end Go.Proofs.Ytnjcaolkcmpdcaa
