/- Operations in memory of their own: append of operations onto a new row of none. -/
import Derived.Test.YtfocejmfmnijpaaFCopied
import Derived.Test.YtfocejmfmnijpaaFApply
namespace Go.Proofs.Ytfocejmfmnijpaa
open Go.RowKit

theorem Try.infoOp : (Try.prog.info? 44).map (fun i => (i.zero, i.size, i.bytes)) = some (some (.agg #[.int .i64 0, .string ⟨#[]⟩, .string ⟨#[]⟩, .int .i64 0, .slice none 0 0]), 5, 72) := by kernel_rfl

/-- the cells of operations. -/
theorem ops_cells {w : World} {b o : Nat} {l : List OpS} (h : ∀ i (h : i < l.length), OpAt w b (o + i * 5) l[i]) : ∃ cs : List Value, cs.length = l.length * 5 ∧ (∀ j, j < l.length * 5 → w.cell? ⟨b, o + j, none⟩ = cs[j]?) ∧ ∀ u ∈ cs, u.oneCell' = true := by
  have hx : ∀ j, j < l.length * 5 → ∃ u, w.cell? ⟨b, o + j, none⟩ = some u ∧ u.oneCell' = true := by
    intro j hj
    obtain ⟨h0, h1, h2, h3, a, c, h4, _⟩ := h (j / 5) (by omega)
    have hr : j % 5 = 0 ∨ j % 5 = 1 ∨ j % 5 = 2 ∨ j % 5 = 3 ∨ j % 5 = 4 := by omega
    rcases hr with hr | hr | hr | hr | hr
    · rw [show o + j = o + j / 5 * 5 by omega]; exact ⟨_, h0, rfl⟩
    · rw [show o + j = o + j / 5 * 5 + 1 by omega]; exact ⟨_, h1, rfl⟩
    · rw [show o + j = o + j / 5 * 5 + 2 by omega]; exact ⟨_, h2, rfl⟩
    · rw [show o + j = o + j / 5 * 5 + 3 by omega]; exact ⟨_, h3, rfl⟩
    · rw [show o + j = o + j / 5 * 5 + 4 by omega]; exact ⟨_, h4, rfl⟩
  refine ⟨(List.range (l.length * 5)).map fun j => (w.cell? ⟨b, o + j, none⟩).getD (.bool false), by simp, ?_, ?_⟩
  · intro j hj
    obtain ⟨u, hu, _⟩ := hx j hj
    rw [List.getElem?_map, List.getElem?_range hj, Option.map_some, hu]
    rfl
  · intro u hu
    obtain ⟨j, hj, rfl⟩ := List.mem_map.1 hu
    obtain ⟨u, hu, h1⟩ := hx j (List.mem_range.1 hj)
    rw [hu]
    exact h1

/-- operations whose cells were copied into a block. -/
theorem ops_copied {w w' : World} {b o g : Nat} {l : List OpS} (hf : ∀ x ∈ l, OpFits x) (hn : l.length ≤ 140737488351232) (h : ∀ i (h : i < l.length), OpAt w b (o + i * 5) l[i]) (hc : ∀ j, j < l.length * 5 → w'.cell? ⟨g, j, none⟩ = w.cell? ⟨b, o + j, none⟩) (hr : ∀ (a : Option Addr) (m : List Nat), Row w a m → Row w' a m) : OpsAt w' (some ⟨g, 0, none⟩) l := by
  refine ⟨hf, hn, fun _ => ⟨g, 0, rfl, fun i hi => ?_⟩⟩
  obtain ⟨h0, h1, h2, h3, a, c, h4, h5, h6, h7⟩ := h i hi
  refine ⟨?_, ?_, ?_, ?_, a, c, ?_, h5, h6, hr a _ h7⟩
  · rw [Nat.zero_add, hc _ (by omega)]; exact h0
  · rw [Nat.zero_add, hc _ (by omega), ← Nat.add_assoc]; exact h1
  · rw [Nat.zero_add, hc _ (by omega), ← Nat.add_assoc]; exact h2
  · rw [Nat.zero_add, hc _ (by omega), ← Nat.add_assoc]; exact h3
  · rw [Nat.zero_add, hc _ (by omega), ← Nat.add_assoc]; exact h4

/-- append(new operations of none, operations that lie somewhere). -/
theorem wpList_append_ops {ops : Array Oper} {rest : List Oper} {o : Oper} {a : Act} {w : World} {Q : Exit → Act → World → Prop} (hgd : o.guard = none) (s x : Operand)
    (ho : o.op = .call { callee := .builtin .append, args := #[s, x], argTypes := #[25, 25] }) (g : Nat) (hs : a.eval s = .slice (some ⟨g, 0, none⟩) 0 0) (hg : w.heap[g]? = some (.cells #[] 44 (0, 0)))
    (src : Option Addr) (c : Nat) (l : List OpS) (hr : OpsAt w src l) (hx : a.eval x = .slice src l.length c) (hz : l.length ≤ 1000)
    (h : ∀ a3 c3 w', OpsAt w' a3 l → w.grownBy w' (some g) → wpList Try.prog ops Q rest (a.put o.dst (.slice a3 l.length c3)) w') : wpList Try.prog ops Q (o :: rest) a w := by
  refine wpList_plain hgd fun K hK => ?_
  obtain ⟨i0, hi, hz0, hz1, hz2⟩ := info_parts Try.infoOp
  have hgl : g < w.heap.size := (Array.getElem?_eq_some_iff.1 hg).1
  have hown : w.ownsRow g 44 5 (.slice (some ⟨g, 0, none⟩) 0 0) 0 [] := ⟨rfl, .inr ⟨g, 0, #[], rfl, Nat.le_refl _, hg, Nat.le_refl _, Nat.zero_le _, rfl, rfl⟩⟩
  rcases Nat.eq_zero_or_pos l.length with h0 | h0
  · obtain rfl : l = [] := List.eq_nil_of_length_eq_zero h0
    simp only [List.length_nil] at hx
    have hsrc : Src Try.prog i0.size 25 (.slice src 0 c) 0 [] w := by
      cases src with
      | none => exact Src.ofNil _ Try.underlying25 c
      | some ad => exact Src.ofSlice _ Try.underlying25 ad 0 c [] (by simp) (by simp) (by simp)
    have happ := run_append_room_src w 25 25 o.type 44 i0 Try.underlying25 hi g 0 0 0 (.slice src 0 c) 0 [] hsrc
    have happ := happ (by omega) (by simp) (by simp)
    rw [Nat.add_zero, World.setCells] at happ
    unfold Oper.wp
    simp [execOp, ho, resolve, invoke, builtin, hs, hx, happ, Result.andThen]
    exact hK _ _ (h (some ⟨g, 0, none⟩) 0 w ⟨by simp, by simp, fun h => absurd h (by simp)⟩ (World.grownBy.refl w _))
  · obtain ⟨b, off, rfl, hc⟩ := hr.2.2 h0
    obtain ⟨cs, hl, hcs, h1⟩ := ops_cells hc
    refine wp_append_own w s x 25 ho g 44 i0 (.agg #[.int .i64 0, .string ⟨#[]⟩, .string ⟨#[]⟩, .int .i64 0, .slice none 0 0]) 5 72 Try.underlying25 hi hz0 hz1 hz2 rfl (by decide) _ 0 [] hs hown ⟨b, off, none⟩ l.length c cs hx hl (fun j u hu => ?_) h1 (by unfold maxLen; omega) (by omega) (by omega) ?_
    · rw [Go.WideShapes.add_plain, hcs j (by have := (List.getElem?_eq_some_iff.1 hu).1; omega)]
      exact hu
    · intro v' w' hw hgr _
      rw [Nat.zero_add, List.nil_append] at hw
      obtain ⟨g2, cap, rfl, hb2, hlt2⟩ := hw.form h0
      refine hK _ _ (h _ cap w' ?_ hgr)
      have ho2 : Off (fun k => k = g) w w' := (Off.refl (fun k => k = g) w).grown hgr (fun k e => .inr (by cases e; rfl))
      refine ops_copied hr.1 hr.2.1 hc (fun j hj => ?_) (fun a3 m hm => hm.off ho2 (fun hm0 b3 hb3 e => ?_))
      · rw [hw.cellAt j hj, hcs j hj]
      · obtain ⟨b4, o4, he, hc4⟩ := hm.2.2 hm0
        rw [hb3] at he
        cases he
        have := hc4 0 hm0
        simp only at e
        rw [e, cell_of hg] at this
        simp at this
end Go.Proofs.Ytfocejmfmnijpaa
