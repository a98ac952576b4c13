/- what readBlock stands on. -/
import Derived.Test.YtjfmgokpnpmdpaaDoorBRep
namespace Go.Proofs.YtjfmgokpnpmdpaaDoor
open Go.RowKit
set_option linter.unusedVariables false
theorem ten1_len : ten1.length = 10 := rfl
theorem six_alloc (w : World) (X0 X1 X2 X3 X4 X5 : Obj) : ((((((w.alloc X0).alloc X1).alloc X2).alloc X3).alloc X4).alloc X5).heap[w.heap.size]? = some X0 ∧ ((((((w.alloc X0).alloc X1).alloc X2).alloc X3).alloc X4).alloc X5).heap[w.heap.size + 1]? = some X1 ∧ ((((((w.alloc X0).alloc X1).alloc X2).alloc X3).alloc X4).alloc X5).heap[w.heap.size + 1 + 1]? = some X2 ∧ ((((((w.alloc X0).alloc X1).alloc X2).alloc X3).alloc X4).alloc X5).heap[w.heap.size + 1 + 1 + 1]? = some X3 ∧ ((((((w.alloc X0).alloc X1).alloc X2).alloc X3).alloc X4).alloc X5).heap[w.heap.size + 1 + 1 + 1 + 1]? = some X4 ∧ ((((((w.alloc X0).alloc X1).alloc X2).alloc X3).alloc X4).alloc X5).heap[w.heap.size + 1 + 1 + 1 + 1 + 1]? = some X5 ∧ Below w.heap.size w ((((((w.alloc X0).alloc X1).alloc X2).alloc X3).alloc X4).alloc X5) := by
  have B : ∀ (w : World) X, Below w.heap.size w (w.alloc X) := fun w X => (Below.refl _ w).alloc (Nat.le_refl _) X
  have e : ∀ (w : World) X, (w.alloc X).heap.size = w.heap.size + 1 := fun w X => by simp
  have n0 := heap_alloc_new w X0
  have n1 := heap_alloc_new (w.alloc X0) X1
  have n2 := heap_alloc_new ((w.alloc X0).alloc X1) X2
  have n3 := heap_alloc_new (((w.alloc X0).alloc X1).alloc X2) X3
  have n4 := heap_alloc_new ((((w.alloc X0).alloc X1).alloc X2).alloc X3) X4
  have n5 := heap_alloc_new (((((w.alloc X0).alloc X1).alloc X2).alloc X3).alloc X4) X5
  simp only [e] at n1 n2 n3 n4 n5
  exact ⟨old_block (B _ _) (old_block (B _ _) (old_block (B _ _) (old_block (B _ _) (old_block (B _ _) n0)))), old_block (B _ _) (old_block (B _ _) (old_block (B _ _) (old_block (B _ _) n1))), old_block (B _ _) (old_block (B _ _) (old_block (B _ _) n2)), old_block (B _ _) (old_block (B _ _) n3), old_block (B _ _) n4, n5, below_of (below_of (below_of (below_of (below_of (B _ _) (B _ _)) (B _ _)) (B _ _)) (B _ _)) (B _ _)⟩
/-- nothing of a bundle in a block of its own. -/
abbrev zb : Obj := .cells #[.int .i64 0, .int .i64 0, .int .u32 0, .int .i64 0, .int .i64 0, .int .i64 0, .int .i64 0, .int .i64 0, .int .i64 0, .int .i64 0, .slice none 0 0] 25
theorem zcells {W : World} {p : Nat} (h : W.heap[p]? = some zb) : W.cell? ⟨p, 0, none⟩ = some (.int .i64 0) ∧ W.cell? ⟨p, 1, none⟩ = some (.int .i64 0) ∧ W.cell? ⟨p, 2, none⟩ = some (.int .u32 0) ∧ W.cell? ⟨p, 3, none⟩ = some (.int .i64 0) ∧ W.cell? ⟨p, 4, none⟩ = some (.int .i64 0) ∧ W.cell? ⟨p, 5, none⟩ = some (.int .i64 0) ∧ W.cell? ⟨p, 6, none⟩ = some (.int .i64 0) ∧ W.cell? ⟨p, 7, none⟩ = some (.int .i64 0) ∧ W.cell? ⟨p, 8, none⟩ = some (.int .i64 0) ∧ W.cell? ⟨p, 9, none⟩ = some (.int .i64 0) ∧ W.cell? ⟨p, 10, none⟩ = some (.slice none 0 0) := by
  refine ⟨?_, ?_, ?_, ?_, ?_, ?_, ?_, ?_, ?_, ?_, ?_⟩
  all_goals (rw [cell_of h]; rfl)
/-- where the j-th number goes. -/
def bo (j : Nat) : Nat := [2, 1, 1, 3, 1, 1, 1, 1, 1, 1].getD j 0
def to9 (j : Nat) : Nat := [0, 1, 0, 0, 3, 4, 8, 9, 7, 5].getD j 0
theorem spots : ∀ j, j < 10 → ∀ k, k < 10 → bo j = bo k → to9 j = to9 k → j = k := by decide
theorem spot_bo : ∀ j, j < 10 → 0 < bo j ∧ bo j ≤ 3 := by decide
/-- of the j-th number so far, k being read. -/
def gotN (L : List T) (k j : Nat) : Int := if j < k then i64 (nm (L.getD j .nil)) else 0
/-- k numbers are read. -/
structure Got (H : Nat) (L : List T) (w2 wr : World) (k : Nat) : Prop where
  off : Off (fun q => q = H + 1 ∨ q = H + 1 + 1 ∨ q = H + 1 + 1 + 1) w2 wr
  at_ : ∀ j, j < 10 → wr.cell? ⟨H + bo j, to9 j, none⟩ = some (.int .i64 (gotN L k j))
  frz : ∀ q o, (q = H + 1 ∨ q = H + 1 + 1 ∨ q = H + 1 + 1 + 1) → wr.frozen? ⟨q, o, none⟩ = false
  c2 : wr.cell? ⟨H + 1, 2, none⟩ = some (.int .u32 0)
  c6 : wr.cell? ⟨H + 1, 6, none⟩ = some (.int .i64 0)
  c10 : wr.cell? ⟨H + 1, 10, none⟩ = some (.slice none 0 0)
theorem got_none {H : Nat} {L : List T} {w2 : World} (h1 : w2.heap[H + 1]? = some zb) (h2 : w2.heap[H + 1 + 1]? = some (.cells #[.int .i64 0] 3)) (h3 : w2.heap[H + 1 + 1 + 1]? = some (.cells #[.int .i64 0] 3)) : Got H L w2 w2 0 := by
  refine ⟨Off.refl _ _, fun j hj => ?_, fun q o h => ?_, by rw [cell_of h1]; rfl, by rw [cell_of h1]; rfl, by rw [cell_of h1]; rfl⟩
  · have hg : gotN L 0 j = 0 := by simp [gotN]
    rw [hg]
    match j, hj with
    | 0, _ => exact (cell_of h2 0).trans rfl
    | 1, _ => exact (cell_of h1 1).trans rfl
    | 2, _ => exact (cell_of h1 0).trans rfl
    | 3, _ => exact (cell_of h3 0).trans rfl
    | 4, _ => exact (cell_of h1 3).trans rfl
    | 5, _ => exact (cell_of h1 4).trans rfl
    | 6, _ => exact (cell_of h1 8).trans rfl
    | 7, _ => exact (cell_of h1 9).trans rfl
    | 8, _ => exact (cell_of h1 7).trans rfl
    | 9, _ => exact (cell_of h1 5).trans rfl
    | j + 10, hj => omega
  · rcases h with rfl | rfl | rfl
    · exact frozen_of h1 o
    · exact frozen_of h2 o
    · exact frozen_of h3 o
theorem cell_set_same {w : World} {p : Addr} {u v : Value} (h : w.cell? p = some u) : (w.setCell p v).cell? p = some v := by simp [go_sem, h]
theorem cell_set_other {w : World} {p q : Addr} {v : Value} (h : p ≠ q) : (w.setCell p v).cell? q = w.cell? q := by simp [go_sem, h]
theorem got_set {H : Nat} {L : List T} {w2 wr : World} {k : Nat} (h : Got H L w2 wr k) (hk : k < 10) (hlt : H + 1 + 1 + 1 < wr.heap.size) (W : World) (hW : Below wr.heap.size wr W) (v : Int) (hv : v = i64 (nm (L.getD k .nil))) : Got H L w2 (W.setCell ⟨H + bo k, to9 k, none⟩ (.int .i64 v)) (k + 1) := by
  have hb := spot_bo k hk
  have hS : H + bo k = H + 1 ∨ H + bo k = H + 1 + 1 ∨ H + bo k = H + 1 + 1 + 1 := by omega
  have hne : ∀ o, (o = 2 ∨ o = 6 ∨ o = 10) → (⟨H + bo k, to9 k, none⟩ : Addr) ≠ ⟨H + 1, o, none⟩ := by
    intro o ho e
    simp only [Addr.mk.injEq, and_true] at e
    have : ∀ k, k < 10 → bo k = 1 → to9 k ≠ 2 ∧ to9 k ≠ 6 ∧ to9 k ≠ 10 := by decide
    have := this k hk (by omega)
    omega
  refine ⟨(h.off.trans (Off.of_below (S := fun q => q = H + 1 ∨ q = H + 1 + 1 ∨ q = H + 1 + 1 + 1) hW) (fun _ _ t => t)).setCell (.inr hS) _, fun j hj => ?_, fun q o hq => ?_, ?_, ?_, ?_⟩
  · by_cases e : j = k
    · subst e
      rw [cell_set_same (cell_later hW (h.at_ j hj)), hv]
      simp [gotN]
    · have hg : gotN L (k + 1) j = gotN L k j := by
        unfold gotN
        by_cases h1 : j < k
        · rw [if_pos h1, if_pos (by omega)]
        · rw [if_neg h1, if_neg (by omega)]
      rw [hg, cell_set_other (fun he => e ?_)]
      · exact cell_later hW (h.at_ j hj)
      · simp only [Addr.mk.injEq, and_true] at he
        exact (spots k hk j hj (by omega) he.2).symm
  · have h1 := h.frz q o hq
    rw [← hW.frozen (p := ⟨q, o, none⟩) (by show q < _; omega)] at h1
    simp [go_sem, h1]
  · rw [cell_set_other (hne 2 (.inl rfl))]; exact cell_later hW h.c2
  · rw [cell_set_other (hne 6 (.inr (.inl rfl)))]; exact cell_later hW h.c6
  · rw [cell_set_other (hne 10 (.inr (.inr rfl)))]; exact cell_later hW h.c10
theorem got_later {H : Nat} {L : List T} {w2 wr W : World} {k : Nat} (h : Got H L w2 wr k) (hlt : H + 1 + 1 + 1 < wr.heap.size) (hW : Below wr.heap.size wr W) : Got H L w2 W k := by
  refine ⟨h.off.trans (Off.of_below (S := fun q => q = H + 1 ∨ q = H + 1 + 1 ∨ q = H + 1 + 1 + 1) hW) (fun _ _ t => t), fun j hj => cell_later hW (h.at_ j hj), fun q o hq => ?_, cell_later hW h.c2, cell_later hW h.c6, cell_later hW h.c10⟩
  rw [hW.frozen (p := ⟨q, o, none⟩) (by show q < _; omega)]
  exact h.frz q o hq
theorem into_at {W : World} {H G : Nat} (h : W.heap[G]? = some (.cells #[.pointer (some ⟨H + 1 + 1, 0, none⟩), .pointer (some ⟨H + 1, 1, none⟩), .pointer (some ⟨H + 1, 0, none⟩), .pointer (some ⟨H + 1 + 1 + 1, 0, none⟩), .pointer (some ⟨H + 1, 3, none⟩), .pointer (some ⟨H + 1, 4, none⟩), .pointer (some ⟨H + 1, 8, none⟩), .pointer (some ⟨H + 1, 9, none⟩), .pointer (some ⟨H + 1, 7, none⟩), .pointer (some ⟨H + 1, 5, none⟩)] 85)) (k : Nat) (hk : k < 10) : W.cell? ⟨G, k, none⟩ = some (.pointer (some ⟨H + bo k, to9 k, none⟩)) := by
  rw [cell_of h]
  match k, hk with
  | 0, _ => rfl
  | 1, _ => rfl
  | 2, _ => rfl
  | 3, _ => rfl
  | 4, _ => rfl
  | 5, _ => rfl
  | 6, _ => rfl
  | 7, _ => rfl
  | 8, _ => rfl
  | 9, _ => rfl
  | k + 10, hk => omega
theorem wrap_i64n (n : Nat) (h : n < 18446744073709551616) : IntKind.i64.wrap (n : Int) = i64 n := by
  rw [IntKind.wrap_i64]
  unfold i64
  split <;> omega
theorem wrap_u32n (n : Nat) (h : n < 18446744073709551616) : IntKind.u32.wrap (i64 n) = ((u32 n : Nat) : Int) := by
  rw [IntKind.wrap_u32]
  unfold i64 u32
  split <;> omega
end Go.Proofs.YtjfmgokpnpmdpaaDoor
