/- Small things for the laws' own walks. -/
import Derived.Test.YtfocejmfmnijpaaFClone
namespace Go.Proofs.Ytfocejmfmnijpaa
open Go.RowKit

theorem cost_small {L : List Fil} (h1 : ∀ x ∈ L, x.name.size ≤ 140737488351232) (h2 : ∀ x ∈ L, x.bytes.length ≤ 140737488351232) : costS L ≤ L.length * 281474976702464 := by
  induction L with
  | nil => simp [costS]
  | cons x r ih =>
    have e1 := h1 x List.mem_cons_self
    have e2 := h2 x List.mem_cons_self
    have := ih (fun y hy => h1 y (List.mem_cons_of_mem _ hy)) (fun y hy => h2 y (List.mem_cons_of_mem _ hy))
    simp only [costS, List.map_cons, List.sum_cons, List.length_cons] at this ⊢
    omega
theorem two_of {w w1 : World} {A : Obj} (hb : Below (w.alloc A).heap.size (w.alloc A) w1) : w1.heap[w.heap.size]? = some A ∧ Below w.heap.size w w1 := by
  refine ⟨?_, ((Below.refl _ w).alloc (Nat.le_refl _) A).trans (hb.mono (by simp))⟩
  rw [hb.block _ (by simp)]; exact heap_alloc_new w _
/-- behind an append onto a new block. -/
theorem grown_below {w3 w4 : World} {A : Obj} (hg : (w3.alloc A).grownBy w4 (some w3.heap.size)) : Below w3.heap.size w3 w4 :=
  ((Below.refl _ w3).alloc (Nat.le_refl _) A).grown hg (by simp) (by intro k hk; cases hk; exact Nat.le_refl _)
end Go.Proofs.Ytfocejmfmnijpaa
