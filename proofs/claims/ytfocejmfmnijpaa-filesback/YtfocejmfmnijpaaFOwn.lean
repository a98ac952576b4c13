/- Memory that a call owns: what leaves all other memory as it was; rows of files. -/
import Derived.Test.YtfocejmfmnijpaaFPlace
import Derived.Lib.SliceRun
import Derived.Deep.MidRow
import Derived.Deep.AppendLies
import Derived.Deep.AppendSrc
import Derived.Deep.RegionHeld3
namespace Go.Proofs.Ytfocejmfmnijpaa
open Go.RowKit

/-- All old blocks but those of S are as they were; no block has gone. -/
structure Off (S : Nat → Prop) (w w' : World) : Prop where
  os : w'.os = w.os
  tape : w'.tape = w.tape
  output : w'.output = w.output
  size : w.heap.size ≤ w'.heap.size
  block : ∀ k, k < w.heap.size → ¬ S k → w'.heap[k]? = w.heap[k]?

theorem Off.refl (S : Nat → Prop) (w : World) : Off S w w := ⟨rfl, rfl, rfl, Nat.le_refl _, fun _ _ _ => rfl⟩
theorem Off.trans {S T : Nat → Prop} {a b c : World} (h : Off S a b) (k : Off T b c) (hT : ∀ i, i < a.heap.size → T i → S i) : Off S a c :=
  ⟨k.os.trans h.os, k.tape.trans h.tape, k.output.trans h.output, Nat.le_trans h.size k.size, fun i hi hn => (k.block i (Nat.lt_of_lt_of_le hi h.size) (fun t => hn (hT i hi t))).trans (h.block i hi hn)⟩
theorem Off.mono {S T : Nat → Prop} {a b : World} (h : Off S a b) (hT : ∀ i, i < a.heap.size → S i → T i) : Off T a b :=
  ⟨h.os, h.tape, h.output, h.size, fun i hi hn => h.block i hi (fun s => hn (hT i hi s))⟩
theorem Off.drew {S : Nat → Prop} {a w : World} (h : Off S a w) : Off S a w.drew := ⟨h.os, h.tape, h.output, h.size, h.block⟩
theorem Off.alloc {S : Nat → Prop} {a w : World} (h : Off S a w) (o : Obj) : Off S a (w.alloc o) :=
  ⟨h.os, h.tape, h.output, by simp; have := h.size; omega, fun k hk hn => by rw [Below.heap_alloc _ _ _ (by have := h.size; omega)]; exact h.block k hk hn⟩
theorem Off.setCell {S : Nat → Prop} {a w : World} (h : Off S a w) {p : Addr} (hp : a.heap.size ≤ p.block ∨ S p.block) (u : Value) : Off S a (w.setCell p u) :=
  ⟨h.os, h.tape, h.output, by simp [World.setCell]; exact h.size, fun k hk hn => by
    rw [Below.heap_setCell _ _ _ _ (fun e => by subst e; exact hp.elim (fun hp => by omega) hn)]; exact h.block k hk hn⟩
theorem Off.grown {S : Nat → Prop} {a w w' : World} {row : Option Nat} (h : Off S a w) (hg : w.grownBy w' row) (hr : ∀ k, row = some k → a.heap.size ≤ k ∨ S k) : Off S a w' :=
  ⟨hg.os.trans h.os, hg.tape.trans h.tape, hg.output.trans h.output, Nat.le_trans h.size hg.size, fun k hk hn => by
    rw [hg.block k (by have := h.size; omega) (fun e => (hr k e.symm).elim (fun hp => by omega) hn)]; exact h.block k hk hn⟩
theorem Off.setCells {S : Nat → Prop} {a : World} {b : Nat} (hb : a.heap.size ≤ b ∨ S b) : ∀ (vs : List Value) (o : Nat) (w : World), Off S a w → Off S a (w.setCells b o vs)
  | [], _, _, h => h
  | v :: r, o, w, h => by rw [World.setCells]; exact Off.setCells hb r (o + 1) _ (h.setCell (p := ⟨b, o, none⟩) hb v)
theorem Off.below {S : Nat → Prop} {a b : World} {B : Nat} (h : Off S a b) (hB : B ≤ a.heap.size) (hS : ∀ i, S i → B ≤ i) : Below B a b :=
  ⟨h.os, h.tape, h.output, h.size, fun k hk => h.block k (by omega) (fun s => by have := hS k s; omega)⟩
theorem Off.of_below {S : Nat → Prop} {a b : World} (h : Below a.heap.size a b) : Off S a b :=
  ⟨h.os, h.tape, h.output, h.size, fun k hk _ => h.block k hk⟩
theorem Off.at {S : Nat → Prop} {a b : World} (h : Off S a b) {k : Nat} {o : Obj} (hk : a.heap[k]? = some o) (hn : ¬ S k) : b.heap[k]? = some o := by
  rw [h.block k (Array.getElem?_eq_some_iff.1 hk).1 hn]; exact hk
theorem Off.cell {S : Nat → Prop} {a b : World} (h : Off S a b) {p : Addr} {u : Value} (hk : a.cell? p = some u) (hn : ¬ S p.block) : b.cell? p = some u := by
  have hlt : p.block < a.heap.size := by
    rcases Nat.lt_or_ge p.block a.heap.size with hlt | hge
    · exact hlt
    · rw [World.cell?, Array.getElem?_eq_none hge] at hk; cases hk
  unfold World.cell? at hk ⊢
  rw [h.block _ hlt hn]; exact hk
theorem Off.owns {S : Nat → Prop} {a b : World} (h : Off S a b) {base : Nat} {e : TypeId} {size : Nat} {v : Value} {n : Nat} {xs : List Value} (ho : a.ownsRow base e size v n xs) (hn : ∀ g, v.ownBlock = some g → ¬ S g) : b.ownsRow base e size v n xs := by
  obtain ⟨h1, h2⟩ := ho
  refine ⟨h1, ?_⟩
  rcases h2 with h2 | ⟨g, cap, cur, rfl, a2, a3, a4⟩
  · exact .inl h2
  · exact .inr ⟨g, cap, cur, rfl, a2, h.at a3 (hn g rfl), a4⟩

theorem row_cells {w : World} {a : Option Addr} {l : List Nat} (h : Row w a l) : ∀ b, a = some b → ∀ j u, (cells l)[j]? = some u → w.cell? (b.add j) = some u := by
  intro b hb j u hu
  obtain ⟨_, _, h3⟩ := h
  have hj : j < l.length := by
    rw [← cells_length l]
    exact (List.getElem?_eq_some_iff.1 hu).1
  obtain ⟨b', off, h4, hc⟩ := h3 (by omega)
  rw [hb] at h4
  cases h4
  rw [Go.WideShapes.add_plain, hc j hj]
  unfold cells at hu
  rw [List.getElem?_map, List.getElem?_eq_getElem hj] at hu
  simp only [Option.map_some, Option.some.injEq] at hu
  rw [← hu, List.getD_eq_getElem?_getD, List.getElem?_eq_getElem hj]
  rfl

/-- a row of the call's own reads as bytes. -/
theorem own_row {w : World} {base n : Nat} {v : Value} {l : List Nat} (h : w.ownsRow base 5 1 v n (cells l)) (hb : ∀ x ∈ l, x < 256) (hm : l.length ≤ maxLen) :
    ∃ a cap, v = .slice a l.length cap ∧ l.length ≤ cap ∧ cap ≤ maxLen ∧ Row w a l := by
  obtain ⟨hl, h⟩ := h
  rw [cells_length, Nat.mul_one] at hl
  subst hl
  rcases h with ⟨rfl, h0⟩ | ⟨g, cap, cur, rfl, _, hg, hnc, hcm, hcs, ht⟩
  · rw [h0]
    exact ⟨none, 0, rfl, Nat.le_refl _, by simp, hb, hm, fun h => absurd h (by omega)⟩
  · refine ⟨_, cap, rfl, hnc, hcm, hb, hm, fun h0 => ⟨g, 0, rfl, fun i hi => ?_⟩⟩
    have hcur : cur[i]? = some (Value.int .u8 ((l.getD i 0 : Nat) : Int)) := by
      have h1 : (cur.toList.take (l.length * 1))[i]? = cur.toList[i]? := List.getElem?_take_of_lt (by omega)
      rw [ht] at h1
      rw [← Array.getElem?_toList, ← h1]
      unfold cells
      rw [List.getElem?_map, List.getD_eq_getElem?_getD, List.getElem?_eq_getElem hi]
      rfl
    rw [Nat.zero_add]
    simp [World.cell?, hg, hcur]

theorem own_base {w : World} {b b' : Nat} {e : TypeId} {size : Nat} {v : Value} {n : Nat} {xs : List Value} (h : w.ownsRow b e size v n xs) (hb : b' ≤ b) : w.ownsRow b' e size v n xs := by
  obtain ⟨h1, h2⟩ := h
  refine ⟨h1, ?_⟩
  rcases h2 with h2 | ⟨g, cap, cur, a1, a2, a3⟩
  · exact .inl h2
  · exact .inr ⟨g, cap, cur, a1, Nat.le_trans hb a2, a3⟩

theorem own_ge {w : World} {b : Nat} {e : TypeId} {size : Nat} {v : Value} {n : Nat} {xs : List Value} (h : w.ownsRow b e size v n xs) : ∀ k, v.ownBlock = some k → b ≤ k := by
  intro k hk
  rcases h.2 with ⟨rfl, _⟩ | ⟨g, cap, cur, rfl, a2, _⟩
  · cases hk
  · cases hk; exact a2


theorem cell_of {w : World} {p : Nat} {C : Array Value} {t : TypeId} (h : w.heap[p]? = some (.cells C t (0, 0))) (j : Nat) : w.cell? ⟨p, j, none⟩ = C[j]? := by simp [World.cell?, h]
theorem frozen_of {w : World} {p : Nat} {C : Array Value} {t : TypeId} (h : w.heap[p]? = some (.cells C t (0, 0))) (j : Nat) : w.frozen? ⟨p, j, none⟩ = false := by simp [World.frozen?, h]

theorem Row.off {w w' : World} {S : Nat → Prop} {a : Option Addr} {l : List Nat} (h : Row w a l) (ho : Off S w w') (hS : 0 < l.length → ∀ b, a = some b → ¬ S b.block) : Row w' a l := by
  obtain ⟨h1, h2, h3⟩ := h
  refine ⟨h1, h2, fun h0 => ?_⟩
  obtain ⟨b, off, rfl, hc⟩ := h3 h0
  exact ⟨b, off, rfl, fun i hi => ho.cell (hc i hi) (hS h0 ⟨b, off, none⟩ rfl)⟩
/-- the block of bytes that are there is one that there is. -/
theorem Row.lt {w : World} {a : Option Addr} {l : List Nat} (h : Row w a l) (h0 : 0 < l.length) : ∀ b, a = some b → b.block < w.heap.size := by
  intro b hb
  obtain ⟨b', off, rfl, hc⟩ := h.2.2 h0
  cases hb
  have := hc 0 h0
  rcases Nat.lt_or_ge b' w.heap.size with hlt | hge
  · exact hlt
  · rw [World.cell?, Array.getElem?_eq_none hge] at this; cases this

/-- A file, and where its bytes lie. -/
structure FX where
  name : ByteArray
  ad : Option Addr
  cap : Nat
  bytes : List Nat
def FX.fil (x : FX) : Fil := ⟨x.name, x.bytes⟩
def FX.val (x : FX) : Value := .slice x.ad x.bytes.length x.cap
def fcells : List FX → List Value
  | [] => []
  | x :: r => .string x.name :: x.val :: fcells r
theorem fcells_length : ∀ X : List FX, (fcells X).length = X.length * 2
  | [] => rfl
  | x :: r => by simp [fcells, fcells_length r]; omega
theorem fcells_append : ∀ X Y : List FX, fcells (X ++ Y) = fcells X ++ fcells Y
  | [], _ => rfl
  | x :: r, Y => by simp [fcells, fcells_append r Y]
theorem fcells_one : ∀ (X : List FX), ∀ u ∈ fcells X, u.oneCell' = true
  | [] => by simp [fcells]
  | x :: r => by
    intro u hu
    simp only [fcells, List.mem_cons] at hu
    rcases hu with rfl | rfl | hu
    · rfl
    · rfl
    · exact fcells_one r u hu
theorem fcells_name : ∀ (X : List FX) (i : Nat) (h : i < X.length), (fcells X)[i * 2]? = some (.string X[i].name)
  | [], _, h => by simp at h
  | x :: r, 0, _ => rfl
  | x :: r, i + 1, h => by
    rw [show (i + 1) * 2 = i * 2 + 1 + 1 by omega]
    simp only [fcells, List.getElem?_cons_succ, List.getElem_cons_succ]
    exact fcells_name r i (by simpa using h)
theorem fcells_val : ∀ (X : List FX) (i : Nat) (h : i < X.length), (fcells X)[i * 2 + 1]? = some X[i].val
  | [], _, h => by simp at h
  | x :: r, 0, _ => rfl
  | x :: r, i + 1, h => by
    rw [show (i + 1) * 2 + 1 = i * 2 + 1 + 1 + 1 by omega]
    simp only [fcells, List.getElem?_cons_succ, List.getElem_cons_succ]
    exact fcells_val r i (by simpa using h)
theorem fcells_take : ∀ (X : List FX) (i : Nat), (fcells X).take (i * 2) = fcells (X.take i)
  | [], _ => by simp [fcells]
  | x :: r, 0 => by simp [fcells]
  | x :: r, i + 1 => by
    rw [show (i + 1) * 2 = i * 2 + 1 + 1 by omega]
    simp [fcells, fcells_take r i]
theorem fcells_drop : ∀ (X : List FX) (i : Nat), (fcells X).drop (i * 2) = fcells (X.drop i)
  | [], _ => by simp [fcells]
  | x :: r, 0 => by simp [fcells]
  | x :: r, i + 1 => by
    rw [show (i + 1) * 2 = i * 2 + 1 + 1 by omega]
    simp [fcells, fcells_drop r i]
theorem fcells_set : ∀ (X : List FX) (i : Nat) (h : i < X.length) (y : FX), y.name = X[i].name → (fcells X).set (i * 2 + 1) y.val = fcells (X.set i y)
  | [], _, h, _, _ => by simp at h
  | x :: r, 0, _, y, hy => by simp at hy; simp [fcells, hy]
  | x :: r, i + 1, h, y, hy => by
    rw [show (i + 1) * 2 + 1 = i * 2 + 1 + 1 + 1 by omega]
    simp only [fcells, List.set_cons_succ]
    rw [fcells_set r i (by simpa using h) y (by simpa using hy)]

/-- A file whose bytes lie outside S. -/
def Good (w : World) (S : Nat → Prop) (x : FX) : Prop :=
  x.name.size ≤ 140737488351232 ∧ x.bytes.length ≤ x.cap ∧ x.cap ≤ maxLen ∧ Row w x.ad x.bytes ∧ (0 < x.bytes.length → ∀ b, x.ad = some b → ¬ S b.block)
theorem Good.off {w w' : World} {S T : Nat → Prop} {x : FX} (h : Good w S x) (ho : Off T w w') (hT : ∀ k, T k → S k) : Good w' S x :=
  ⟨h.1, h.2.1, h.2.2.1, h.2.2.2.1.off ho (fun h0 b hb t => h.2.2.2.2 h0 b hb (hT _ t)), h.2.2.2.2⟩
theorem Good.mono {w : World} {S T : Nat → Prop} {x : FX} (h : Good w S x) (hT : ∀ k, k < w.heap.size → T k → S k) : Good w T x :=
  ⟨h.1, h.2.1, h.2.2.1, h.2.2.2.1, fun h0 b hb t => h.2.2.2.2 h0 b hb (hT _ (h.2.2.2.1.lt h0 b hb) t)⟩

/-- Files that lie in memory: where their bytes lie. -/
theorem ListAt.rows {w : World} {a : Option Addr} {L : List Fil} (h : ListAt w a L) : ∃ X : List FX, X.map FX.fil = L ∧ (∀ x ∈ X, Good w (fun _ => False) x) ∧ (0 < L.length → ∃ b o, a = some ⟨b, o, none⟩ ∧ ∀ j u, (fcells X)[j]? = some u → w.cell? ⟨b, o + j, none⟩ = some u) := by
  obtain ⟨h1, h2, h3⟩ := h
  by_cases h0 : 0 < L.length
  · obtain ⟨b, o, rfl, hc⟩ := h3 h0
    suffices hs : ∀ (M : List Fil) (s : Nat), (∀ x ∈ M, x.name.size ≤ 140737488351232) → (∀ i (h : i < M.length), FileAt w b (s + i * 2) M[i]) → ∃ X : List FX, X.map FX.fil = M ∧ (∀ x ∈ X, Good w (fun _ => False) x) ∧ ∀ j u, (fcells X)[j]? = some u → w.cell? ⟨b, s + j, none⟩ = some u by
      obtain ⟨X, e1, e2, e3⟩ := hs L o h1 hc
      exact ⟨X, e1, e2, fun _ => ⟨b, o, rfl, e3⟩⟩
    intro M
    induction M with
    | nil => intro s _ _; exact ⟨[], rfl, by simp, by simp [fcells]⟩
    | cons x r ih =>
      intro s hn hx
      obtain ⟨X, e1, e2, e3⟩ := ih (s + 2) (fun y hy => hn y (List.mem_cons_of_mem _ hy)) (fun i hi => by
        have := hx (i + 1) (by simpa using hi)
        rw [show s + (i + 1) * 2 = s + 2 + i * 2 by omega] at this
        exact this)
      obtain ⟨f1, ad, c, f2, f3, f4, f5⟩ := hx 0 (by simp)
      simp only [Nat.zero_mul, Nat.add_zero, List.getElem_cons_zero] at f1 f2 f3 f5
      refine ⟨⟨x.name, ad, c, x.bytes⟩ :: X, by simp [FX.fil, e1], ?_, ?_⟩
      · intro y hy
        rcases List.mem_cons.1 hy with rfl | hy
        · exact ⟨hn x List.mem_cons_self, f3, f4, f5, fun _ _ _ => id⟩
        · exact e2 y hy
      · intro j u hu
        match j with
        | 0 => simp only [fcells, List.getElem?_cons_zero, Option.some.injEq] at hu; rw [← hu]; exact f1
        | 1 => simp only [fcells, List.getElem?_cons_succ, List.getElem?_cons_zero, Option.some.injEq] at hu; rw [← hu]; exact f2
        | j + 2 =>
          simp only [fcells, List.getElem?_cons_succ] at hu
          have := e3 j u hu
          rw [show s + 2 + j = s + (j + 2) by omega] at this
          exact this
  · obtain rfl : L = [] := List.eq_nil_of_length_eq_zero (by omega)
    exact ⟨[], rfl, by simp, fun h => absurd h (by simp)⟩

theorem own_form {w : World} {base n : Nat} {e : TypeId} {size : Nat} {v : Value} {xs : List Value} (h : w.ownsRow base e size v n xs) : ∃ a c, v = .slice a n c ∧ n ≤ c ∧ c ≤ maxLen := by
  rcases h.2 with ⟨rfl, rfl⟩ | ⟨g, cap, cur, rfl, _, _, a4, a5, _⟩
  · exact ⟨none, 0, rfl, Nat.le_refl _, Nat.zero_le _⟩
  · exact ⟨_, _, rfl, a4, a5⟩

/-- Files of a row that the call owns. -/
theorem own_list {w : World} {base n : Nat} {X : List FX} {a : Option Addr} {c : Nat} {S : Nat → Prop} (h : w.ownsRow base 53 2 (.slice a n c) X.length (fcells X)) (hX : ∀ x ∈ X, Good w S x) (hm : X.length ≤ 140737488351232) : ListAt w a (X.map FX.fil) ∧ n = X.length := by
  obtain ⟨a', c', hv, _, _⟩ := own_form h
  cases hv
  refine ⟨⟨?_, by simpa using hm, fun h0 => ?_⟩, rfl⟩
  · intro y hy
    obtain ⟨x, hx, rfl⟩ := List.mem_map.1 hy
    exact (hX x hx).1
  · have hn : 0 < X.length := by simpa using h0
    obtain ⟨g, rfl⟩ : ∃ g, a = some ⟨g, 0, none⟩ := by
      rcases h.2 with ⟨_, e0⟩ | ⟨g, cap, cur, hv, _⟩
      · omega
      · cases hv; exact ⟨g, rfl⟩
    refine ⟨g, 0, rfl, fun i hi => ?_⟩
    have hi' : i < X.length := by simpa using hi
    have hg := hX _ (List.getElem_mem hi')
    simp only [List.getElem_map, Nat.zero_add]
    refine ⟨?_, X[i].ad, X[i].cap, ?_, hg.2.1, hg.2.2.1, hg.2.2.2.1⟩
    · rw [h.cellAt (i * 2) (by omega), fcells_name X i hi']; rfl
    · rw [h.cellAt (i * 2 + 1) (by omega), fcells_val X i hi']; rfl

end Go.Proofs.Ytfocejmfmnijpaa
