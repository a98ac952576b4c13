/- What stands in a round of the laws' built. -/
import Derived.Test.YthjemjclpjmomaaDoorCPush
namespace Go.Proofs.YthjemjclpjmomaaDoor
open Go.RowKit
set_option linter.unusedVariables false

/-- A Flat: the item's Kind, Num and Bytes; Open; Close. -/
structure FT where
  k : Int
  n : Nat
  b : List Nat
  o : Bool
  c : Bool
def FlatsAt (w : World) (a : Option Addr) (L : List FT) : Prop :=
  L.length ≤ 2000000000000 ∧ (0 < L.length → ∃ fb fo, a = some ⟨fb, fo, none⟩ ∧ ∀ i (h : i < L.length), ∃ a1 c1 a2 n2 c2,
    (w.cell? ⟨fb, fo + i * 6, none⟩ = some (.int .i64 L[i].k) ∧ w.cell? ⟨fb, fo + i * 6 + 1, none⟩ = some (.int .u64 L[i].n) ∧ w.cell? ⟨fb, fo + i * 6 + 2, none⟩ = some (.slice a1 L[i].b.length c1) ∧ w.cell? ⟨fb, fo + i * 6 + 3, none⟩ = some (.slice a2 n2 c2) ∧ w.cell? ⟨fb, fo + i * 6 + 4, none⟩ = some (.bool L[i].o) ∧ w.cell? ⟨fb, fo + i * 6 + 5, none⟩ = some (.bool L[i].c)) ∧
    (L[i].n < 18446744073709551616 ∧ -9223372036854775808 ≤ L[i].k ∧ L[i].k ≤ 9223372036854775807 ∧ L[i].b.length ≤ 140737488351232) ∧ Row w a1 L[i].b ∧ L[i].b.length ≤ c1)

/-- the lists of a stack, the last one first. -/
def stk (Xs : Nat → List IX) : Nat → List (List T)
  | 0 => []
  | n + 1 => (Xs n).map IX.x :: stk Xs n
theorem stk_upd (Xs : Nat → List IX) (j : Nat) (X : List IX) : ∀ n, n ≤ j → stk (upd Xs j X) n = stk Xs n
  | 0, _ => rfl
  | n + 1, h => by rw [stk, stk, stk_upd Xs j X n (by omega), upd, if_neg (by omega)]
theorem stk_length (Xs : Nat → List IX) : ∀ n, (stk Xs n).length = n
  | 0 => rfl
  | n + 1 => by rw [stk, List.length_cons, stk_length Xs n]
/-- what a Flat does to the lists that are being built. -/
def stepB (f : FT) : List (List T) → List (List T)
  | [] => []
  | t :: r => if f.c = true ∧ 1 < r.length + 1 then (match r with | u :: r' => (u ++ [mkI 4 0 [] t]) :: r' | [] => []) else if f.o = true ∧ r.length + 1 < 7 then [] :: t :: r else (t ++ [mkI f.k f.n f.b []]) :: r
/-- the lists closed, one by one. -/
def colB (t : List T) : List (List T) → T
  | [] => if t.length = 1 then t.headD .nil else mkI 4 0 [] t
  | u :: r => colB (u ++ [mkI 4 0 [] t]) r
def colS : List (List T) → T
  | [] => .nil
  | t :: r => colB t r
def stF (l : List FT) : List (List T) := l.foldl (fun s f => stepB f s) [[]]
/-- the item of a row of Flats. -/
def bltS (L : List FT) : T := colS (stF (L.take 100))
theorem stF_more (L : List FT) (k : Nat) (h : k < L.length) : stF (L.take (k + 1)) = stepB L[k] (stF (L.take k)) := by
  unfold stF
  rw [List.take_succ_eq_append_getElem h, List.foldl_append]
  rfl
abbrev Z0 (w : World) : World := w.alloc (.cells #[.int .i64 0, .int .u64 0, .slice none 0 0, .slice none 0 0] 28)
theorem z0_size (w : World) : (Z0 w).heap.size = w.heap.size + 1 := by simp
/-- what stands in a round of built's loops. -/
structure Bd (w wr : World) (s : Value) (k : Nat) (S : List (List T)) : Prop where
  ex : ∃ (sg cap : Nat) (Es : List IX) (Xs : Nat → List IX), s = .slice (some ⟨sg, 0, none⟩) Es.length cap ∧ Stk (Z0 w) wr w.heap.size sg cap Es Xs ∧ 1 ≤ Es.length ∧ Es.length ≤ 7 ∧ (∀ j, (Xs j).length ≤ k) ∧ S = stk Xs Es.length
theorem stk_more (Xs : Nat → List IX) (n : Nat) (y : IX) : stk (upd Xs n (Xs n ++ [y])) (n + 1) = ((Xs n).map IX.x ++ [y.x]) :: stk Xs n := by
  rw [stk, stk_upd _ _ _ _ (Nat.le_refl _), upd, if_pos rfl, List.map_append]
  rfl

theorem upd_le {Xs : Nat → List IX} {k n : Nat} (hX : ∀ j, (Xs j).length ≤ k) (y : IX) : ∀ j, (upd Xs n (Xs n ++ [y]) j).length ≤ k + 1 := by
  intro j
  unfold upd
  by_cases h : j = n
  · rw [if_pos h]; have := hX n; simp; omega
  · rw [if_neg h]; have := hX j; omega

theorem item_lies {w W0 : World} {sg cap n : Nat} {Es : List IX} {Xs : Nat → List IX} (h : Stk (Z0 w) W0 w.heap.size sg cap Es Xs) (hn : n ≤ 7) (f : FT) (b1 : Option Addr) (d1 : Nat) (hB : f.n < 18446744073709551616 ∧ -9223372036854775808 ≤ f.k ∧ f.k ≤ 9223372036854775807 ∧ f.b.length ≤ 140737488351232) (hr : Row w b1 f.b) (hd : f.b.length ≤ d1) (hb : Below w.heap.size w W0) :
    Lie (Gs w.heap.size sg Es) W0 (8 - n) b1 (mkI f.k f.n f.b []) none ∧ (bs (mkI f.k f.n f.b [])).length ≤ d1 := by
  refine ⟨?_, hd⟩
  rw [show 8 - n = 7 - n + 1 by omega]
  refine Lie.flat f.k f.n f.b (7 - n) none hB.1 ⟨hB.2.1, hB.2.2.1⟩ hB.2.2.2 (hr.later hb) (fun h0 c hc e => ?_)
  have hlt := hr.lt h0 c hc
  have hz := z0_size w
  rcases e with e | e | ⟨E, hE, e⟩
  · omega
  · have := h.sg.1; omega
  · obtain ⟨i, hi, rfl⟩ := List.getElem_of_mem hE
    have := (h.obs i hi _ e).1
    omega

theorem Bd.item {w W0 W W2 : World} {sg cap n m k g2 c2 : Nat} {Es : List IX} {Xs : Nat → List IX} (h : Stk (Z0 w) W0 w.heap.size sg cap Es Xs) (hn : Es.length = n + 1) (h7 : n + 1 ≤ 7) (hX : ∀ j, (Xs j).length ≤ k) (hj : n < Es.length) (hm : (Xs n).length = m) (y : IX) (hb : Below W0.heap.size W0 W) (hg : W.grownBy W2 (Value.slice Es[n].a2 m Es[n].c2).ownBlock)
    (hown : W2.ownsRow (w.heap.size + 1) 28 4 (.slice (some ⟨g2, 0, none⟩) (m + 1) c2) (m + 1) (icells (Xs n) ++ icells [y])) (hat : (Value.slice Es[n].a2 m Es[n].c2).ownBlock = some g2 ∨ g2 = W.heap.size)
    (hy : Lie (Gs w.heap.size sg Es) W0 (8 - n) y.a1 y.x y.a2 ∧ (bs y.x).length ≤ y.c1) :
    Bd w (W2.setCell ⟨sg, n * 4 + 3, none⟩ (.slice (some ⟨g2, 0, none⟩) (m + 1) c2)) (.slice (some ⟨sg, 0, none⟩) (n + 1) cap) (k + 1) (((Xs n).map IX.x ++ [y.x]) :: stk Xs n) :=
  ⟨sg, cap, _, _, by rw [List.length_set, hn], h.pushed hj hm y hb hg (by rw [z0_size]; exact hown) hat hy, by rw [List.length_set]; omega, by rw [List.length_set]; omega, upd_le hX y, by rw [List.length_set, hn, stk_more]⟩

theorem Bd.item4 {w W0 W W2 : World} {sg cap n m k g2 c2 : Nat} {Es : List IX} {Xs : Nat → List IX} (h : Stk (Z0 w) W0 w.heap.size sg cap Es Xs) (hn : Es.length = n + 1) (h7 : n + 1 ≤ 7) (hX : ∀ j, (Xs j).length ≤ k) (hj : n < Es.length) (hm : (Xs n).length = m) (z y : IX) (hb : Below W0.heap.size W0 W) (hg : W.grownBy W2 (Value.slice Es[n].a2 m Es[n].c2).ownBlock)
    (hown : W2.ownsRow (w.heap.size + 1) 28 4 (.slice (some ⟨g2, 0, none⟩) (m + 1) c2) (m + 1) (icells (Xs n) ++ icells [z])) (hat : (Value.slice Es[n].a2 m Es[n].c2).ownBlock = some g2 ∨ g2 = W.heap.size)
    (hy : Lie (Gs w.heap.size sg Es) W0 (8 - n) y.a1 y.x y.a2 ∧ (bs y.x).length ≤ y.c1) :
    Bd w (((((W2.setCell ⟨sg, n * 4 + 3, none⟩ (.slice (some ⟨g2, 0, none⟩) (m + 1) c2)).setCell ⟨g2, m * 4, none⟩ (.int .i64 (kd y.x))).setCell ⟨g2, m * 4 + 1, none⟩ (.int .u64 (nm y.x))).setCell ⟨g2, m * 4 + 2, none⟩ (.slice y.a1 (bs y.x).length y.c1)).setCell ⟨g2, m * 4 + 3, none⟩ (.slice y.a2 (its y.x).length y.c2)) (.slice (some ⟨sg, 0, none⟩) (n + 1) cap) (k + 1) (((Xs n).map IX.x ++ [y.x]) :: stk Xs n) :=
  ⟨sg, cap, _, _, by rw [List.length_set, hn], h.pushed4 hj hm z y hb hg (by rw [z0_size]; exact hown) hat hy, by rw [List.length_set]; omega, by rw [List.length_set]; omega, upd_le hX y, by rw [List.length_set, hn, stk_more]⟩

/-- the last list closed: it is an item of the one below. -/
theorem Bd.close {w W0 W W2 : World} {sg cap n m k g2 c2 : Nat} {Es : List IX} {Xs : Nat → List IX} (h : Stk (Z0 w) W0 w.heap.size sg cap Es Xs) (hn : Es.length = n + 2) (h7 : n + 2 ≤ 7) (hk : k ≤ 1000) (hX : ∀ j, (Xs j).length ≤ k) (hj : n < Es.length) (hj1 : n + 1 < Es.length) (hm : (Xs n).length = m) (hb : Below W0.heap.size W0 W) (hg : W.grownBy W2 (Value.slice Es[n].a2 m Es[n].c2).ownBlock)
    (hown : W2.ownsRow (w.heap.size + 1) 28 4 (.slice (some ⟨g2, 0, none⟩) (m + 1) c2) (m + 1) (icells (Xs n) ++ icells [Es[n + 1]])) (hat : (Value.slice Es[n].a2 m Es[n].c2).ownBlock = some g2 ∨ g2 = W.heap.size) :
    Bd w (W2.setCell ⟨sg, n * 4 + 3, none⟩ (.slice (some ⟨g2, 0, none⟩) (m + 1) c2)) (.slice (some ⟨sg, 0, none⟩) (n + 1) cap) (k + 1) (((Xs n).map IX.x ++ [mkI 4 0 [] ((Xs (n + 1)).map IX.x)]) :: stk Xs n) := by
  have hl : (Es.take (n + 1)).length = n + 1 := by rw [List.length_take]; omega
  have he : (Es.take (n + 1))[n]'(by omega) = Es[n] := by rw [List.getElem_take]
  have ht := h.top (n := n + 1) hn (by omega) (by have := hX (n + 1); omega)
  rw [show 8 - (n + 1) + 1 = 8 - n by omega] at ht
  have hp : Stk (Z0 w) W0 w.heap.size sg cap (Es.take (n + 1)) Xs := h.pop (by omega)
  rw [← (h.ent (n + 1) hj1).1]
  exact Bd.item hp hl (by omega) hX (by omega) hm Es[n + 1] hb (by rw [he]; exact hg) hown (by rw [he]; exact hat) ht

theorem Bd.close4 {w W0 W W2 : World} {sg cap n m k g2 c2 : Nat} {Es : List IX} {Xs : Nat → List IX} (h : Stk (Z0 w) W0 w.heap.size sg cap Es Xs) (hn : Es.length = n + 2) (h7 : n + 2 ≤ 7) (hk : k ≤ 1000) (hX : ∀ j, (Xs j).length ≤ k) (hj : n < Es.length) (hj1 : n + 1 < Es.length) (hm : (Xs n).length = m) (z : IX) (hb : Below W0.heap.size W0 W) (hg : W.grownBy W2 (Value.slice Es[n].a2 m Es[n].c2).ownBlock)
    (hown : W2.ownsRow (w.heap.size + 1) 28 4 (.slice (some ⟨g2, 0, none⟩) (m + 1) c2) (m + 1) (icells (Xs n) ++ icells [z])) (hat : (Value.slice Es[n].a2 m Es[n].c2).ownBlock = some g2 ∨ g2 = W.heap.size) :
    Bd w (((((W2.setCell ⟨sg, n * 4 + 3, none⟩ (.slice (some ⟨g2, 0, none⟩) (m + 1) c2)).setCell ⟨g2, m * 4, none⟩ (.int .i64 4)).setCell ⟨g2, m * 4 + 1, none⟩ (.int .u64 0)).setCell ⟨g2, m * 4 + 2, none⟩ (.slice none 0 0)).setCell ⟨g2, m * 4 + 3, none⟩ (.slice Es[n + 1].a2 (Xs (n + 1)).length Es[n + 1].c2)) (.slice (some ⟨sg, 0, none⟩) (n + 1) cap) (k + 1) (((Xs n).map IX.x ++ [mkI 4 0 [] ((Xs (n + 1)).map IX.x)]) :: stk Xs n) := by
  have hl : (Es.take (n + 1)).length = n + 1 := by rw [List.length_take]; omega
  have he : (Es.take (n + 1))[n]'(by omega) = Es[n] := by rw [List.getElem_take]
  have ht := h.top (n := n + 1) hn (by omega) (by have := hX (n + 1); omega)
  rw [show 8 - (n + 1) + 1 = 8 - n by omega] at ht
  have hp : Stk (Z0 w) W0 w.heap.size sg cap (Es.take (n + 1)) Xs := h.pop (by omega)
  obtain ⟨e1, e2, e3⟩ := h.ent (n + 1) hj1
  have := Bd.item4 hp hl (by omega) hX (by omega) hm z Es[n + 1] hb (by rw [he]; exact hg) hown (by rw [he]; exact hat) ht
  simpa [e1, e2, e3, kd_mk, nm_mk, bs_mk, its_mk] using this

theorem Stk.cells4 {w W0 W W2 : World} {rb sg cap j m g2 c2 : Nat} {Es : List IX} {Xs : Nat → List IX} (h : Stk w W0 rb sg cap Es Xs) (hj : j < Es.length) (hm : (Xs j).length = m) (hb : Below W0.heap.size W0 W) {base : Nat}
    (hown : W2.ownsRow base 28 4 (.slice (some ⟨g2, 0, none⟩) (m + 1) c2) (m + 1) (icells (Xs j) ++ icells [IX.mk (mkI 0 0 [] []) none 0 none 0])) (hat : (Value.slice Es[j].a2 m Es[j].c2).ownBlock = some g2 ∨ g2 = W.heap.size) (u : Value) :
    (W2.setCell ⟨sg, j * 4 + 3, none⟩ u).cell? ⟨g2, m * 4, none⟩ = some (.int .i64 0) ∧ (W2.setCell ⟨sg, j * 4 + 3, none⟩ u).cell? ⟨g2, m * 4 + 1, none⟩ = some (.int .u64 0) ∧ (W2.setCell ⟨sg, j * 4 + 3, none⟩ u).cell? ⟨g2, m * 4 + 2, none⟩ = some (.slice none 0 0) ∧ (W2.setCell ⟨sg, j * 4 + 3, none⟩ u).cell? ⟨g2, m * 4 + 3, none⟩ = some (.slice none 0 0) ∧ ∀ i, (W2.setCell ⟨sg, j * 4 + 3, none⟩ u).frozen? ⟨g2, i, none⟩ = false := by
  have hsg := h.sg
  have hw := hb.size
  rw [ob_own] at hat
  have hne : g2 ≠ sg := by
    rintro rfl
    rcases hat with e | e
    · exact h.nsg j hj e
    · omega
  have hr := (off_setG W2 sg (j * 4 + 3) u).owns hown (fun k hk e => by cases hk; exact hne e)
  have hl : (icells (Xs j)).length = m * 4 := by rw [icells_length, hm]
  refine ⟨?_, ?_, ?_, ?_, fun i => hr.frozenAt i⟩
  · rw [hr.cellAt (m * 4) (by omega), List.getElem?_append_right (by omega), hl]; simp [icells, kd_mk]
  · rw [hr.cellAt (m * 4 + 1) (by omega), List.getElem?_append_right (by omega), hl]; simp [icells, nm_mk]
  · rw [hr.cellAt (m * 4 + 2) (by omega), List.getElem?_append_right (by omega), hl]; simp [icells, bs_mk]
  · rw [hr.cellAt (m * 4 + 3) (by omega), List.getElem?_append_right (by omega), hl]; simp [icells, its_mk]
end Go.Proofs.YthjemjclpjmomaaDoor
