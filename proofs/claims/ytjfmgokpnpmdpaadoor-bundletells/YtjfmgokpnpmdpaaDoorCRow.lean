/- Rows of items that a call owns. -/
import Derived.Test.YtjfmgokpnpmdpaaDoorCMem
namespace Go.Proofs.YtjfmgokpnpmdpaaDoor
open Go.RowKit
set_option linter.unusedVariables false

/-- An item, and where its bytes and its Items lie. -/
structure IX where
  x : T
  a1 : Option Addr
  c1 : Nat
  a2 : Option Addr
  c2 : Nat
def IX.cs (y : IX) : List Value := [.int .i64 (kd y.x), .int .u64 (nm y.x), .slice y.a1 (bs y.x).length y.c1, .slice y.a2 (its y.x).length y.c2]
def icells : List IX → List Value
  | [] => []
  | y :: r => .int .i64 (kd y.x) :: .int .u64 (nm y.x) :: .slice y.a1 (bs y.x).length y.c1 :: .slice y.a2 (its y.x).length y.c2 :: icells r
theorem icells_length : ∀ X : List IX, (icells X).length = X.length * 4
  | [] => rfl
  | x :: r => by simp [icells, icells_length r]; omega
theorem icells_append : ∀ X Y : List IX, icells (X ++ Y) = icells X ++ icells Y
  | [], _ => rfl
  | x :: r, Y => by simp [icells, icells_append r Y]
theorem icells_one : ∀ (X : List IX), ∀ u ∈ icells X, u.oneCell' = true
  | [] => by simp [icells]
  | x :: r => by
    intro u hu
    simp only [icells, List.mem_cons] at hu
    rcases hu with rfl | rfl | rfl | rfl | hu
    · rfl
    · rfl
    · rfl
    · rfl
    · exact icells_one r u hu
theorem icells_at : ∀ (X : List IX) (i : Nat) (h : i < X.length), (icells X)[i * 4]? = some (.int .i64 (kd X[i].x)) ∧ (icells X)[i * 4 + 1]? = some (.int .u64 (nm X[i].x)) ∧ (icells X)[i * 4 + 2]? = some (.slice X[i].a1 (bs X[i].x).length X[i].c1) ∧ (icells X)[i * 4 + 3]? = some (.slice X[i].a2 (its X[i].x).length X[i].c2)
  | [], _, h => by simp at h
  | x :: r, 0, _ => ⟨rfl, rfl, rfl, rfl⟩
  | x :: r, i + 1, h => by
    have := icells_at r i (by simpa using h)
    rw [show (i + 1) * 4 = i * 4 + 1 + 1 + 1 + 1 by omega]
    simp only [icells, List.getElem?_cons_succ, List.getElem_cons_succ]
    exact ⟨this.1, this.2.1, this.2.2.1, this.2.2.2⟩

theorem Tryd.info52 : (Tryd.prog.info? 52).map (fun i => (i.zero, i.size, i.bytes)) = some (some (.agg #[.int .i64 0, .int .u64 0, .slice none 0 0, .slice none 0 0]), 4, 64) := by kernel_rfl

/-- Items of a row that the call owns. -/
theorem own_items {A : Nat → Prop} {w : World} {base n m : Nat} {X : List IX} {a : Option Addr} {c : Nat} (h : w.ownsRow base 52 4 (.slice a n c) X.length (icells X)) (hX : ∀ y ∈ X, Lie A w m y.a1 y.x y.a2 ∧ (bs y.x).length ≤ y.c1) (hm : X.length ≤ 1000000000000) (hA : ∀ g, (Value.slice a n c).ownBlock = some g → ¬ A g) : LieL A w m a (X.map IX.x) ∧ n = X.length := by
  obtain ⟨a', c', hv, _, _⟩ := own_form h
  cases hv
  refine ⟨⟨by simpa using hm, fun h0 => ?_⟩, rfl⟩
  have hn : 0 < X.length := by simpa using h0
  obtain ⟨g, rfl⟩ : ∃ g, a = some ⟨g, 0, none⟩ := by
    rcases h.2 with ⟨_, e0⟩ | ⟨g, cap, cur, hv, _⟩
    · omega
    · cases hv; exact ⟨g, rfl⟩
  refine ⟨g, 0, rfl, hA g rfl, fun i hi => ?_⟩
  have hi' : i < X.length := by simpa using hi
  have hg := hX _ (List.getElem_mem hi')
  simp only [List.getElem_map, Nat.zero_add]
  obtain ⟨e0, e1, e2, e3⟩ := icells_at X i hi'
  exact ⟨X[i].a1, X[i].c1, X[i].a2, X[i].c2, ⟨by rw [h.cellAt (i * 4) (by omega), e0], by rw [h.cellAt (i * 4 + 1) (by omega), e1], by rw [h.cellAt (i * 4 + 2) (by omega), e2], by rw [h.cellAt (i * 4 + 3) (by omega), e3]⟩, hg⟩

/-- an item in a new block of its own reads as its four cells. -/
theorem item_src {w : World} (y : IX) : ∀ j u, (icells [y])[j]? = some u → (w.alloc (ic y.x y.a1 y.c1 y.a2 y.c2)).cell? ((⟨w.heap.size, 0, none⟩ : Addr).add j) = some u := by
  intro j u hu
  rw [Go.WideShapes.add_plain, Nat.zero_add, cell_of (heap_alloc_new w _)]
  match j, hu with
  | 0, hu => simpa [icells] using hu
  | 1, hu => simpa [icells] using hu
  | 2, hu => simpa [icells] using hu
  | 3, hu => simpa [icells] using hu
  | j + 4, hu => simp [icells] at hu

/-- append of an item onto items that the call owns. -/
theorem wpList_append_item {ops : Array Oper} {rest : List Oper} {o : Oper} {a : Act} {w : World} {Q : Exit → Act → World → Prop} (hgd : o.guard = none) (s x : Operand)
    (ho : o.op = .call { callee := .builtin .append, args := #[s, x], argTypes := #[50, 50] }) (base : Nat) (v : Value) (X : List IX) (hs : a.eval s = v) (hown : w.ownsRow base 52 4 v X.length (icells X))
    (ad : Addr) (c : Nat) (y : IX) (hx : a.eval x = .slice (some ad) 1 c) (hr : ∀ j u, (icells [y])[j]? = some u → w.cell? (ad.add j) = some u) (hz : X.length ≤ 1000000) (hbase : base ≤ w.heap.size)
    (h : ∀ v' w', w'.ownsRow base 52 4 v' (X ++ [y]).length (icells (X ++ [y])) → Grew w w' v v' → (∃ g c, v' = .slice (some ⟨g, 0, none⟩) (X.length + 1) c) → wpList Tryd.prog ops Q rest (a.put o.dst v') w') : wpList Tryd.prog ops Q (o :: rest) a w := by
  obtain ⟨i0, hi, hz0, hz1, hz2⟩ := info_parts Tryd.info52
  refine wpList_append_lies _ hgd s x 50 ho base 52 i0 _ 4 64 Tryd.underlying50 hi hz0 hz1 hz2 rfl (by decide) v X.length (icells X) hs hown ad 1 c (icells [y]) hx rfl hr (icells_one _) (by decide) (by unfold maxLen; omega) (by omega) hbase w.heap.size rfl ?_
  intro g cap w' h1 h2 h3 _
  exact h _ w' (by rw [icells_append, List.length_append]; exact h1) (grew_lies (Below.refl _ w) h2 h3 rfl) ⟨g, cap, rfl⟩
end Go.Proofs.YtjfmgokpnpmdpaaDoor
