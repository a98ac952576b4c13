/- Memory: what stays, what a call owns; contacts and numbers in memory. -/
import Derived.Test.YtmmcdnniconalaaRows
import Derived.WalkKit
import Derived.WalkSpells
import Derived.WalkLawsBesides
import Derived.OpenShut
import Derived.Laws.Rows
import Derived.Deep.QuietTactic
import Derived.BigQuiet
import Derived.Lib.SliceRun
import Derived.Deep.MidRow
import Derived.Deep.AppendLies
import Derived.Deep.AppendSrc
import Derived.Deep.RegionHeld3
import Derived.Laws.CopyOwn
namespace Go.Proofs.Ytmmcdnniconalaa
open Go.RowKit
set_option linter.unusedVariables false
theorem ret_int {k : IntKind} {a b : Int} (h : a = b) : Ending.returned (.int k a) = .returned (.int k b) := by rw [h]
theorem ret_bool {a b : Bool} (h : a = b) : Ending.returned (.bool a) = .returned (.bool b) := by rw [h]
theorem below_of {w w1 w2 : World} (h : Below w.heap.size w w1) (k : Below w1.heap.size w1 w2) : Below w.heap.size w w2 := h.trans (k.mono h.size)
/-- All old blocks but those of S are as they were; no block has gone. -/
structure Off (S : Nat → Prop) (w w' : World) : Prop where
  os : w'.os = w.os
  tape : w'.tape = w.tape
  output : w'.output = w.output
  size : w.heap.size ≤ w'.heap.size
  block : ∀ k, k < w.heap.size → ¬ S k → w'.heap[k]? = w.heap[k]?
theorem Off.refl (S : Nat → Prop) (w : World) : Off S w w := ⟨rfl, rfl, rfl, Nat.le_refl _, fun _ _ _ => rfl⟩
theorem Off.trans {S T : Nat → Prop} {a b c : World} (h : Off S a b) (k : Off T b c) (hT : ∀ i, i < a.heap.size → T i → S i) : Off S a c :=
  ⟨k.os.trans h.os, k.tape.trans h.tape, k.output.trans h.output, Nat.le_trans h.size k.size, fun i hi hn => (k.block i (Nat.lt_of_lt_of_le hi h.size) (fun t => hn (hT i hi t))).trans (h.block i hi hn)⟩
theorem Off.mono {S T : Nat → Prop} {a b : World} (h : Off S a b) (hT : ∀ i, i < a.heap.size → S i → T i) : Off T a b :=
  ⟨h.os, h.tape, h.output, h.size, fun i hi hn => h.block i hi (fun s => hn (hT i hi s))⟩
theorem Off.drew {S : Nat → Prop} {a w : World} (h : Off S a w) : Off S a w.drew := ⟨h.os, h.tape, h.output, h.size, h.block⟩
theorem Off.alloc {S : Nat → Prop} {a w : World} (h : Off S a w) (o : Obj) : Off S a (w.alloc o) :=
  ⟨h.os, h.tape, h.output, by simp; have := h.size; omega, fun k hk hn => by rw [Below.heap_alloc _ _ _ (by have := h.size; omega)]; exact h.block k hk hn⟩
theorem Off.setCell {S : Nat → Prop} {a w : World} (h : Off S a w) {p : Addr} (hp : a.heap.size ≤ p.block ∨ S p.block) (u : Value) : Off S a (w.setCell p u) :=
  ⟨h.os, h.tape, h.output, by simp [World.setCell]; exact h.size, fun k hk hn => by
    rw [Below.heap_setCell _ _ _ _ (fun e => by subst e; exact hp.elim (fun hp => by omega) hn)]; exact h.block k hk hn⟩
theorem Off.grown {S : Nat → Prop} {a w w' : World} {row : Option Nat} (h : Off S a w) (hg : w.grownBy w' row) (hr : ∀ k, row = some k → a.heap.size ≤ k ∨ S k) : Off S a w' :=
  ⟨hg.os.trans h.os, hg.tape.trans h.tape, hg.output.trans h.output, Nat.le_trans h.size hg.size, fun k hk hn => by
    rw [hg.block k (by have := h.size; omega) (fun e => (hr k e.symm).elim (fun hp => by omega) hn)]; exact h.block k hk hn⟩
theorem Off.setCells {S : Nat → Prop} {a : World} {b : Nat} (hb : a.heap.size ≤ b ∨ S b) : ∀ (vs : List Value) (o : Nat) (w : World), Off S a w → Off S a (w.setCells b o vs)
  | [], _, _, h => h
  | v :: r, o, w, h => by rw [World.setCells]; exact Off.setCells hb r (o + 1) _ (h.setCell (p := ⟨b, o, none⟩) hb v)
theorem Off.below {S : Nat → Prop} {a b : World} {B : Nat} (h : Off S a b) (hB : B ≤ a.heap.size) (hS : ∀ i, S i → B ≤ i) : Below B a b :=
  ⟨h.os, h.tape, h.output, h.size, fun k hk => h.block k (by omega) (fun s => by have := hS k s; omega)⟩
theorem Off.of_below {S : Nat → Prop} {a b : World} (h : Below a.heap.size a b) : Off S a b :=
  ⟨h.os, h.tape, h.output, h.size, fun k hk _ => h.block k hk⟩
theorem Off.at {S : Nat → Prop} {a b : World} (h : Off S a b) {k : Nat} {o : Obj} (hk : a.heap[k]? = some o) (hn : ¬ S k) : b.heap[k]? = some o := by
  rw [h.block k (Array.getElem?_eq_some_iff.1 hk).1 hn]; exact hk
theorem Off.cell {S : Nat → Prop} {a b : World} (h : Off S a b) {p : Addr} {u : Value} (hk : a.cell? p = some u) (hn : ¬ S p.block) : b.cell? p = some u := by
  have hlt : p.block < a.heap.size := by
    rcases Nat.lt_or_ge p.block a.heap.size with hlt | hge
    · exact hlt
    · rw [World.cell?, Array.getElem?_eq_none hge] at hk; cases hk
  unfold World.cell? at hk ⊢
  rw [h.block _ hlt hn]; exact hk
theorem Off.owns {S : Nat → Prop} {a b : World} (h : Off S a b) {base : Nat} {e : TypeId} {size : Nat} {v : Value} {n : Nat} {xs : List Value} (ho : a.ownsRow base e size v n xs) (hn : ∀ g, v.ownBlock = some g → ¬ S g) : b.ownsRow base e size v n xs := by
  obtain ⟨h1, h2⟩ := ho
  refine ⟨h1, ?_⟩
  rcases h2 with h2 | ⟨g, cap, cur, rfl, a2, a3, a4⟩
  · exact .inl h2
  · exact .inr ⟨g, cap, cur, rfl, a2, h.at a3 (hn g rfl), a4⟩
theorem own_base {w : World} {b b' : Nat} {e : TypeId} {size : Nat} {v : Value} {n : Nat} {xs : List Value} (h : w.ownsRow b e size v n xs) (hb : b' ≤ b) : w.ownsRow b' e size v n xs := by
  obtain ⟨h1, h2⟩ := h
  refine ⟨h1, ?_⟩
  rcases h2 with h2 | ⟨g, cap, cur, a1, a2, a3⟩
  · exact .inl h2
  · exact .inr ⟨g, cap, cur, a1, Nat.le_trans hb a2, a3⟩
theorem own_ge {w : World} {b : Nat} {e : TypeId} {size : Nat} {v : Value} {n : Nat} {xs : List Value} (h : w.ownsRow b e size v n xs) : ∀ k, v.ownBlock = some k → b ≤ k := by
  intro k hk
  rcases h.2 with ⟨rfl, _⟩ | ⟨g, cap, cur, rfl, a2, _⟩
  · cases hk
  · cases hk; exact a2
theorem cell_of {w : World} {p : Nat} {C : Array Value} {t : TypeId} (h : w.heap[p]? = some (.cells C t (0, 0))) (j : Nat) : w.cell? ⟨p, j, none⟩ = C[j]? := by simp [World.cell?, h]
theorem frozen_of {w : World} {p : Nat} {C : Array Value} {t : TypeId} (h : w.heap[p]? = some (.cells C t (0, 0))) (j : Nat) : w.frozen? ⟨p, j, none⟩ = false := by simp [World.frozen?, h]
theorem own_form {w : World} {base n : Nat} {e : TypeId} {size : Nat} {v : Value} {xs : List Value} (h : w.ownsRow base e size v n xs) : ∃ a c, v = .slice a n c ∧ n ≤ c ∧ c ≤ maxLen := by
  rcases h.2 with ⟨rfl, rfl⟩ | ⟨g, cap, cur, rfl, _, _, a4, a5, _⟩
  · exact ⟨none, 0, rfl, Nat.le_refl _, Nat.zero_le _⟩
  · exact ⟨_, _, rfl, a4, a5⟩
theorem old_block {a b : World} {k : Nat} {o : Obj} (h : Below a.heap.size a b) (hk : a.heap[k]? = some o) : b.heap[k]? = some o := by
  rw [h.block k (Array.getElem?_eq_some_iff.1 hk).1]; exact hk
theorem cell_is {w : World} {a : Addr} {u : Value} (h : w.cell? a = some u) : ∃ C t fr, w.heap[a.block]? = some (.cells C t fr) := by
  unfold World.cell? at h
  split at h
  · rename_i c t fr he; exact ⟨c, t, fr, he⟩
  · cases h
def In64 (a : Int) : Prop := -9223372036854775808 ≤ a ∧ a ≤ 9223372036854775807
theorem wf_in {a : Int} (h : In64 a) : (Lit.int .i64 a).wf = true := by
  obtain ⟨h1, h2⟩ := h
  exact WalkArith.wf_i64 (by omega)
set_option linter.unusedVariables false

theorem own_pos {w : World} {base n : Nat} {e : TypeId} {size : Nat} {v : Value} {xs : List Value} (h : w.ownsRow base e size v n xs) (h0 : 0 < n) : ∃ g c cur, v = .slice (some ⟨g, 0, none⟩) n c ∧ base ≤ g ∧ n ≤ c ∧ c ≤ maxLen ∧ w.heap[g]? = some (.cells cur e (0, 0)) := by
  rcases h.2 with ⟨_, h1⟩ | ⟨g, cap, cur, rfl, a2, a3, a4, a5, _⟩
  · omega
  · exact ⟨g, cap, cur, rfl, a2, a4, a5, a3⟩
theorem own_cells {W : World} {base n size : Nat} {e : TypeId} {v : Value} {xs : List Value} (h : W.ownsRow base e size v n xs) : ∀ k, v.ownBlock = some k → base ≤ k ∧ ∃ C, W.heap[k]? = some (.cells C e (0, 0)) := by
  intro k hk
  rcases h.2 with ⟨rfl, _⟩ | ⟨g, cap, cur, rfl, hb, hg, _⟩
  · cases hk
  · cases hk; exact ⟨hb, cur, hg⟩
theorem alloc6w (w : World) (a b c d e f : Obj) : ∃ W0, W0 = ((((((w.alloc a).alloc b).alloc c).alloc d).alloc e).alloc f) ∧ W0.heap.size = w.heap.size + 6 ∧ Below w.heap.size w W0 ∧ W0.heap[w.heap.size]? = some a ∧ W0.heap[w.heap.size + 1]? = some b ∧ W0.heap[w.heap.size + 2]? = some c ∧ W0.heap[w.heap.size + 3]? = some d ∧ W0.heap[w.heap.size + 4]? = some e ∧ W0.heap[w.heap.size + 5]? = some f := by
  refine ⟨_, rfl, by simp, ?_, ?_, ?_, ?_, ?_, ?_, ?_⟩
  · exact ((((((Below.refl _ w).alloc (Nat.le_refl _) _).alloc (by simp) _).alloc (by simp; omega) _).alloc (by simp; omega) _).alloc (by simp; omega) _).alloc (by simp; omega) _
  all_goals (show ((((((w.heap.push a).push b).push c).push d).push e).push f)[_]? = _; simp only [Array.getElem?_push, Array.size_push]; repeat (first | (rw [if_neg (by omega)]) | (rw [if_pos trivial]) | (rw [if_pos rfl])))
theorem alloc4w (w : World) (a b c d : Obj) : ∃ W0, W0 = ((((w.alloc a).alloc b).alloc c).alloc d) ∧ W0.heap.size = w.heap.size + 4 ∧ Below w.heap.size w W0 ∧ W0.heap[w.heap.size]? = some a ∧ W0.heap[w.heap.size + 1]? = some b ∧ W0.heap[w.heap.size + 2]? = some c ∧ W0.heap[w.heap.size + 3]? = some d := by
  refine ⟨_, rfl, by simp, ?_, ?_, ?_, ?_, ?_⟩
  · exact ((((Below.refl _ w).alloc (Nat.le_refl _) _).alloc (by simp) _).alloc (by simp; omega) _).alloc (by simp; omega) _
  all_goals (show ((((w.heap.push a).push b).push c).push d)[_]? = _; simp only [Array.getElem?_push, Array.size_push]; repeat (first | (rw [if_neg (by omega)]) | (rw [if_pos trivial]) | (rw [if_pos rfl])))
/-- A contact. -/
structure Ct where
  frm : Int
  to : Int
  st : Int
  en : Int
  rt : Int
  dl : Int
/-- its value. -/
def cv (c : Ct) : Value := .agg #[.int .i64 c.frm, .int .i64 c.to, .int .i64 c.st, .int .i64 c.en, .int .i64 c.rt, .int .i64 c.dl]
def cc (c : Ct) : Array Value := #[.int .i64 c.frm, .int .i64 c.to, .int .i64 c.st, .int .i64 c.en, .int .i64 c.rt, .int .i64 c.dl]
def ccells : List Ct → List Value
  | [] => []
  | c :: r => .int .i64 c.frm :: .int .i64 c.to :: .int .i64 c.st :: .int .i64 c.en :: .int .i64 c.rt :: .int .i64 c.dl :: ccells r
theorem ccells_length : ∀ X : List Ct, (ccells X).length = X.length * 6
  | [] => rfl
  | x :: r => by simp [ccells, ccells_length r]; omega
theorem ccells_append : ∀ X Y : List Ct, ccells (X ++ Y) = ccells X ++ ccells Y
  | [], _ => rfl
  | x :: r, Y => by simp [ccells, ccells_append r Y]
theorem ccells_one : ∀ (X : List Ct), ∀ u ∈ ccells X, u.oneCell' = true
  | [] => by simp [ccells]
  | x :: r => by
    intro u hu
    simp only [ccells, List.mem_cons] at hu
    rcases hu with rfl | rfl | rfl | rfl | rfl | rfl | hu
    · rfl
    · rfl
    · rfl
    · rfl
    · rfl
    · rfl
    · exact ccells_one r u hu
theorem ccells_at : ∀ (X : List Ct) (i : Nat) (c : Ct), X[i]? = some c → (ccells X)[i * 6]? = some (.int .i64 c.frm) ∧ (ccells X)[i * 6 + 1]? = some (.int .i64 c.to) ∧ (ccells X)[i * 6 + 2]? = some (.int .i64 c.st) ∧ (ccells X)[i * 6 + 3]? = some (.int .i64 c.en) ∧ (ccells X)[i * 6 + 4]? = some (.int .i64 c.rt) ∧ (ccells X)[i * 6 + 5]? = some (.int .i64 c.dl)
  | [], _, _, h => by simp at h
  | x :: r, 0, c, h => by simp at h; subst h; exact ⟨rfl, rfl, rfl, rfl, rfl, rfl⟩
  | x :: r, i + 1, c, h => by
    have := ccells_at r i c (by simpa using h)
    rw [show (i + 1) * 6 = i * 6 + 1 + 1 + 1 + 1 + 1 + 1 by omega]
    simp only [ccells, List.getElem?_cons_succ]
    exact this
/-- The contacts X lie in memory from a on, outside N. -/
def CtAt (N : Nat → Prop) (w : World) (a : Option Addr) (X : List Ct) : Prop :=
  0 < X.length → ∃ b o, a = some ⟨b, o, none⟩ ∧ ¬ N b ∧ ∀ j u, (ccells X)[j]? = some u → w.cell? ⟨b, o + j, none⟩ = some u
theorem CtAt.off {N S : Nat → Prop} {w w' : World} {a : Option Addr} {X : List Ct} (h : CtAt N w a X) (ho : Off S w w') (hS : ∀ k, S k → N k) : CtAt N w' a X := by
  intro h0
  obtain ⟨b, o, rfl, hn, hc⟩ := h h0
  exact ⟨b, o, rfl, hn, fun j u hu => ho.cell (hc j u hu) (fun hs => hn (hS _ hs))⟩
theorem CtAt.later {N : Nat → Prop} {w w' : World} {a : Option Addr} {X : List Ct} (h : CtAt N w a X) (hb : Below w.heap.size w w') : CtAt N w' a X := h.off (S := fun _ => False) (Off.of_below hb) (fun _ hf => hf.elim)
theorem CtAt.nil (N : Nat → Prop) (w : World) (a : Option Addr) : CtAt N w a [] := fun h => absurd h (by simp)
theorem CtAt.lt {N : Nat → Prop} {w : World} {a : Option Addr} {X : List Ct} (h : CtAt N w a X) (h0 : 0 < X.length) : ∀ b, a = some b → b.block < w.heap.size := by
  intro b hb
  obtain ⟨b', o, rfl, hn, hc⟩ := h h0
  cases hb
  have h4 : 0 < (ccells X).length := by rw [ccells_length]; omega
  obtain ⟨C, t, fr, he⟩ := cell_is (hc 0 (ccells X)[0] (List.getElem?_eq_getElem h4))
  exact (Array.getElem?_eq_some_iff.1 he).1
theorem CtAt.sub {N M : Nat → Prop} {w : World} {a : Option Addr} {X : List Ct} (h : CtAt N w a X) (hM : ∀ k, k < w.heap.size → M k → N k) : CtAt M w a X := by
  intro h0
  have hlt := h.lt h0
  obtain ⟨b, o, rfl, hn, hc⟩ := h h0
  exact ⟨b, o, rfl, fun hm => hn (hM _ (hlt _ rfl) hm), hc⟩
theorem CtAt.take {N : Nat → Prop} {w : World} {a : Option Addr} {X : List Ct} (h : CtAt N w a X) (n : Nat) : CtAt N w a (X.take n) := by
  intro h0
  rw [List.length_take] at h0
  obtain ⟨b, o, rfl, hn, hc⟩ := h (by omega)
  refine ⟨b, o, rfl, hn, fun j u hu => hc j u ?_⟩
  have hl : j < (ccells (X.take n)).length := (List.getElem?_eq_some_iff.1 hu).1
  have e : ccells X = ccells (X.take n) ++ ccells (X.drop n) := by rw [← ccells_append, List.take_append_drop]
  rw [e, List.getElem?_append_left hl]
  exact hu
/-- the i-th contact. -/
theorem CtAt.cells6 {N : Nat → Prop} {w : World} {a : Option Addr} {X : List Ct} (h : CtAt N w a X) {i : Nat} {c : Ct} (hi : X[i]? = some c) : ∃ b o, a = some ⟨b, o, none⟩ ∧ w.cell? ⟨b, o + i * 6, none⟩ = some (.int .i64 c.frm) ∧ w.cell? ⟨b, o + i * 6 + 1, none⟩ = some (.int .i64 c.to) ∧ w.cell? ⟨b, o + i * 6 + 2, none⟩ = some (.int .i64 c.st) ∧ w.cell? ⟨b, o + i * 6 + 3, none⟩ = some (.int .i64 c.en) ∧ w.cell? ⟨b, o + i * 6 + 4, none⟩ = some (.int .i64 c.rt) ∧ w.cell? ⟨b, o + i * 6 + 5, none⟩ = some (.int .i64 c.dl) := by
  obtain ⟨b, o, rfl, hn, hc⟩ := h (Nat.lt_of_le_of_lt (Nat.zero_le _) (List.getElem?_eq_some_iff.1 hi).1)
  obtain ⟨e0, e1, e2, e3, e4, e5⟩ := ccells_at X i c hi
  exact ⟨b, o, rfl, hc _ _ e0, hc _ _ e1, hc _ _ e2, hc _ _ e3, hc _ _ e4, hc _ _ e5⟩
/-- The numbers l lie in memory from a on, outside N. -/
def RowI (N : Nat → Prop) (w : World) (a : Option Addr) (l : List Int) : Prop :=
  0 < l.length → ∃ b o, a = some ⟨b, o, none⟩ ∧ ¬ N b ∧ ∀ i, i < l.length → w.cell? ⟨b, o + i, none⟩ = some (.int .i64 (l.getD i 0))
theorem RowI.off {N S : Nat → Prop} {w w' : World} {a : Option Addr} {l : List Int} (h : RowI N w a l) (ho : Off S w w') (hS : ∀ k, S k → N k) : RowI N w' a l := by
  intro h0
  obtain ⟨b, o, rfl, hn, hc⟩ := h h0
  exact ⟨b, o, rfl, hn, fun i hi => ho.cell (hc i hi) (fun hs => hn (hS _ hs))⟩
theorem RowI.later {N : Nat → Prop} {w w' : World} {a : Option Addr} {l : List Int} (h : RowI N w a l) (hb : Below w.heap.size w w') : RowI N w' a l := h.off (S := fun _ => False) (Off.of_below hb) (fun _ hf => hf.elim)
theorem RowI.at {N : Nat → Prop} {w : World} {a : Option Addr} {l : List Int} (h : RowI N w a l) {i : Nat} {n : Int} (hi : l[i]? = some n) : ∃ b o, a = some ⟨b, o, none⟩ ∧ w.cell? ⟨b, o + i, none⟩ = some (.int .i64 n) := by
  obtain ⟨hl, hn⟩ := List.getElem?_eq_some_iff.1 hi
  obtain ⟨b, o, rfl, _, hc⟩ := h (by omega)
  refine ⟨b, o, rfl, ?_⟩
  rw [hc i hl, List.getD_eq_getElem?_getD, hi]
  rfl
theorem RowI.lt {N : Nat → Prop} {w : World} {a : Option Addr} {l : List Int} (h : RowI N w a l) (h0 : 0 < l.length) : ∀ b, a = some b → b.block < w.heap.size := by
  intro b hb
  obtain ⟨b', o, rfl, hn, hc⟩ := h h0
  cases hb
  obtain ⟨C, t, fr, he⟩ := cell_is (hc 0 h0)
  exact (Array.getElem?_eq_some_iff.1 he).1
theorem RowI.sub {N M : Nat → Prop} {w : World} {a : Option Addr} {l : List Int} (h : RowI N w a l) (hM : ∀ k, k < w.heap.size → M k → N k) : RowI M w a l := by
  intro h0
  have hlt := h.lt h0
  obtain ⟨b, o, rfl, hn, hc⟩ := h h0
  exact ⟨b, o, rfl, fun hm => hn (hM _ (hlt _ rfl) hm), hc⟩
/-- a contact in a box. -/
theorem box6 {w : World} {b : Nat} {c : Ct} {t : TypeId} (h : w.heap[b]? = some (.cells (cc c) t (0, 0))) : w.cell? ⟨b, 0, none⟩ = some (.int .i64 c.frm) ∧ w.cell? ⟨b, 1, none⟩ = some (.int .i64 c.to) ∧ w.cell? ⟨b, 2, none⟩ = some (.int .i64 c.st) ∧ w.cell? ⟨b, 3, none⟩ = some (.int .i64 c.en) ∧ w.cell? ⟨b, 4, none⟩ = some (.int .i64 c.rt) ∧ w.cell? ⟨b, 5, none⟩ = some (.int .i64 c.dl) := by
  refine ⟨?_, ?_, ?_, ?_, ?_, ?_⟩ <;> (rw [cell_of h]; rfl)
end Go.Proofs.Ytmmcdnniconalaa
