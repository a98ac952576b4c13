/- receiver.next; the closure that puts a row behind the others; together. -/
import Derived.Test.YthmolodkaboakaaVSay
import Derived.Deep.CutRange
namespace Go.Proofs.Ythmolodkaboakaa
open Go.RowKit
set_option linter.unusedVariables false
def nextN (n : Nat) : Nat := if n = 4294967295 then 1 else n + 1
theorem vnext_any (n : Nat) (hn : n < 4294967296) (w : World) : Calls Try.prog 64 #[.int .u32 (n : Nat)] w fun e w' => e = .returned (.int .u32 ((nextN n : Nat) : Nat)) ∧ w = w' := by
  unfold nextN
  by_cases h : n = 4294967295
  · subst h
    go_enter Try.func64, Try.ntmps64
    go_wp2
    go_ret
    exact ⟨rfl, rfl⟩
  · have hb : ((n : Int) == 4294967295) = false := by simp; omega
    rw [if_neg h]
    go_enter Try.func64, Try.ntmps64
    go_wp2
    go_ret
    exact ⟨congrArg (fun x => Ending.returned (.int .u32 x)) (by push_cast; rfl), rfl⟩
/-- the box of the rows that are gathered. -/
def Gx (w : World) (gb n : Nat) (v : Value) (l : List (Int × Int)) : Prop := w.heap[gb]? = some (.cells #[v] 24 (0, 0)) ∧ w.ownsRow n 60 2 v l.length (ccells l)
/-- append of one claim, which lies in a block of its own, onto claims that the call owns. -/
theorem wpList_append_one {ops : Array Oper} {rest : List Oper} {o : Oper} {a : Act} {w : World} {Q : Exit → Act → World → Prop} (hgd : o.guard = none) (s x : Operand)
    (ho : o.op = .call { callee := .builtin .append, args := #[s, x], argTypes := #[24, 24] }) (base : Nat) (v : Value) (l : List (Int × Int)) (hs : a.eval s = v) (hown : w.ownsRow base 60 2 v l.length (ccells l))
    (b : Nat) (p q : Int) (hx : a.eval x = .slice (some ⟨b, 0, none⟩) 1 1) (hb : w.heap[b]? = some (.cells #[.int .i64 p, .int .i64 q] 60 (0, 0))) (hz : l.length ≤ 100000) (hbase : base ≤ w.heap.size)
    (h : ∀ g' c' w', w'.ownsRow base 60 2 (.slice (some ⟨g', 0, none⟩) (l.length + 1) c') (l ++ [(p, q)]).length (ccells (l ++ [(p, q)])) → Off (fun k => v.ownBlock = some k) w w' → (v.ownBlock = some g' ∨ w.heap.size ≤ g') → l.length + 1 ≤ c' → wpList Try.prog ops Q rest (a.put o.dst (.slice (some ⟨g', 0, none⟩) (l.length + 1) c')) w') : wpList Try.prog ops Q (o :: rest) a w := by
  obtain ⟨i0, hi, hz0, hz1, hz2⟩ := info_parts Try.info60
  have hcells : ∀ j u, (ccells [(p, q)])[j]? = some u → w.cell? ((⟨b, 0, none⟩ : Addr).add j) = some u := by
    intro j u hu
    rw [Go.WideShapes.add_plain, Nat.zero_add, cell_of hb, ← List.getElem?_toArray] at *
    exact hu
  refine wpList_append_lies _ hgd s x 24 ho base 60 i0 _ 2 16 Try.underlying24 hi hz0 hz1 hz2 rfl (by decide) v l.length (ccells l) hs hown ⟨b, 0, none⟩ 1 1 (ccells [(p, q)]) hx rfl hcells (ccells_one _) (by decide) (by unfold maxLen; omega) (by omega) hbase w.heap.size rfl ?_
  intro g2 cap2 w' h1 h2 h3 _
  obtain ⟨_, _, hv2, hle2, _⟩ := own_form h1
  cases hv2
  refine h g2 cap2 w' (by rw [ccells_append, List.length_append]; exact h1) ((Off.refl (fun k => v.ownBlock = some k) w).grown h2 (fun k e => .inr e)) ?_ hle2
  rcases h3 with h3 | h3
  · exact .inl h3
  · exact .inr (by omega)
theorem gx_end {w W w' : World} {gb n : Nat} {v v' : Value} {l m : List (Int × Int)} (h : w.heap[gb]? = some (.cells #[v] 24 (0, 0))) (hn : gb < n) (hnw : n ≤ w.heap.size) (hb : Below w.heap.size w W) (ho : W.ownsRow n 60 2 v l.length (ccells l)) (hf : Off (fun k => v.ownBlock = some k) W w') (ho2 : w'.ownsRow n 60 2 v' m.length (ccells m)) :
    ∃ v2, Gx (w'.setCell ⟨gb, 0, none⟩ v') gb n v2 m ∧ Off (fun i => i = gb ∨ v.ownBlock = some i) w (w'.setCell ⟨gb, 0, none⟩ v') := by
  have hv : ∀ k, v.ownBlock = some k → n ≤ k := own_ge ho
  have h2 : w'.heap[gb]? = some (.cells #[v] 24 (0, 0)) := hf.at (old_block hb h) (fun e => by have := hv gb e; omega)
  have hs : Off (fun i => i = gb) w' (w'.setCell ⟨gb, 0, none⟩ v') := (Off.refl (fun i => i = gb) w').setCell (p := ⟨gb, 0, none⟩) (.inr rfl) _
  refine ⟨v', ⟨?_, hs.owns ho2 (fun k e t => by have := own_ge ho2 k e; have : k = gb := t; omega)⟩, ?_⟩
  · rw [heap_setCell_same _ _ _ _ _ _ h2]
    rfl
  · exact (((Off.of_below (S := fun i => i = gb ∨ v.ownBlock = some i) hb).trans hf (fun i _ t => .inr t)).trans hs (fun i _ t => .inl t))
theorem gx_cell {w W w' : World} {gb n : Nat} {v : Value} {l : List (Int × Int)} (h : w.heap[gb]? = some (.cells #[v] 24 (0, 0))) (hn : gb < n) (hb : Below w.heap.size w W) (ho : W.ownsRow n 60 2 v l.length (ccells l)) (hf : Off (fun k => v.ownBlock = some k) W w') : w'.cell? ⟨gb, 0, none⟩ = some v ∧ w'.frozen? ⟨gb, 0, none⟩ = false := by
  have h2 : w'.heap[gb]? = some (.cells #[v] 24 (0, 0)) := hf.at (old_block hb h) (fun e => by have := own_ge ho gb e; omega)
  exact ⟨by rw [cell_of h2]; rfl, frozen_of h2 0⟩
theorem second_new (w : World) (o p : Obj) : ((w.alloc o).alloc p).heap[w.heap.size + 1]? = some p := by
  have := heap_alloc_new (w.alloc o) p
  rw [show (w.alloc o).heap.size = w.heap.size + 1 by simp] at this
  exact this
set_option maxRecDepth 20000 in
set_option maxHeartbeats 4000000 in
theorem vadd_any (gb n : Nat) (l : List (Int × Int)) (x y : Int) (w : World) (v : Value) (h : Gx w gb n v l) (hl : l.length ≤ 100000) (hn : gb < n) (hnw : n ≤ w.heap.size) :
    Calls Try.prog 63 #[.agg #[.int .i64 x, .int .i64 y], .pointer (some ⟨gb, 0, none⟩)] w fun e w' => e = .returned (.tuple #[]) ∧ Hid (∃ v', Gx w' gb n v' (l ++ [(x, y)]) ∧ Off (fun i => i = gb ∨ v.ownBlock = some i) w w') := by
  obtain ⟨h1, h2⟩ := h
  have HT : Hid (w.heap[gb]? = some (.cells #[v] 24 (0, 0))) := h1
  have hb : Below w.heap.size w ((w.alloc (.cells #[.int .i64 x, .int .i64 y] 60)).alloc (.cells #[.int .i64 x, .int .i64 y] 60)) := ((Below.refl _ w).alloc (Nat.le_refl _) _).alloc (by simp) _
  have HB : Hid (Below w.heap.size w ((w.alloc (.cells #[.int .i64 x, .int .i64 y] 60)).alloc (.cells #[.int .i64 x, .int .i64 y] 60))) := hb
  have HO : Hid (((w.alloc (.cells #[.int .i64 x, .int .i64 y] 60)).alloc (.cells #[.int .i64 x, .int .i64 y] 60)).ownsRow n 60 2 v l.length (ccells l)) := (Off.of_below (S := fun _ => False) hb).owns h2 (fun _ _ t => t)
  have c1 : ∀ X, (w.alloc X).cell? ⟨gb, 0, none⟩ = some v := fun X => by rw [cell_of (old_block ((Below.refl _ w).alloc (Nat.le_refl _) X) h1)]; rfl
  have HN : Hid (((w.alloc (.cells #[.int .i64 x, .int .i64 y] 60)).alloc (.cells #[.int .i64 x, .int .i64 y] 60)).heap[w.heap.size + 1]? = some (.cells #[.int .i64 x, .int .i64 y] 60 (0, 0))) := second_new _ _ _
  have HZ : Hid (n ≤ ((w.alloc (.cells #[.int .i64 x, .int .i64 y] 60)).alloc (.cells #[.int .i64 x, .int .i64 y] 60)).heap.size) := Nat.le_trans hnw hb.size
  clear h1 h2 hb
  go_enter Try.func63, Try.ntmps63
  go_wp2_with (at_builtin; refine wpList_append_one rfl _ _ rfl n v l (by rfl) HO.out (w.heap.size + 1) x y (by rfl) HN.out hl HZ.out ?_; intro g' c' w' ho hf _ _; obtain ⟨k1, k2⟩ := gx_cell HT.out hn HB.out HO.out hf; have HE : Hid (∃ v2, Gx _ gb n v2 (l ++ [(x, y)]) ∧ Off (fun i => i = gb ∨ v.ownBlock = some i) w _) := gx_end HT.out hn hnw HB.out HO.out hf ho; clear ho hf)
  go_end0
  exact ⟨rfl, HE⟩
end Go.Proofs.Ythmolodkaboakaa
