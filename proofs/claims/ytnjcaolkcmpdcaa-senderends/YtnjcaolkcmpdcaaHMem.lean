/- How bytes lie in memory; memory that a call owns; bytes.Equal. -/
import Derived.Test.YtnjcaolkcmpdcaaRows
import Derived.WalkKit
import Derived.WalkSpells
import Derived.WalkLawsBesides
import Derived.OpenShut
import Derived.Laws.Rows
import Derived.Deep.QuietTactic
import Derived.BigQuiet
import Derived.Lib.SliceRun
import Derived.Deep.MidRow
import Derived.Deep.AppendLies
import Derived.Deep.AppendSrc
import Derived.Deep.RegionHeld3
import Derived.Laws.CopyOwn
import Derived.Laws.BytesArg
namespace Go.Proofs.Ytnjcaolkcmpdcaa
open Go.RowKit

theorem ret_int {k : IntKind} {a b : Int} (h : a = b) : Ending.returned (.int k a) = .returned (.int k b) := by rw [h]
theorem ret_bool {a b : Bool} (h : a = b) : Ending.returned (.bool a) = .returned (.bool b) := by rw [h]
/-- The bytes l lie in memory from a on. -/
def Row (w : World) (a : Option Addr) (l : List Nat) : Prop :=
  (∀ x ∈ l, x < 256) ∧ l.length ≤ maxLen ∧ (0 < l.length → ∃ b off, a = some ⟨b, off, none⟩ ∧ ∀ i, i < l.length → w.cell? ⟨b, off + i, none⟩ = some (.int .u8 ((l.getD i 0 : Nat) : Int)))
theorem Row.later {w w' : World} {a : Option Addr} {l : List Nat} (h : Row w a l) (hb : Below w.heap.size w w') : Row w' a l := by
  obtain ⟨h1, h2, h3⟩ := h
  refine ⟨h1, h2, fun h0 => ?_⟩
  obtain ⟨b, off, rfl, hc⟩ := h3 h0
  exact ⟨b, off, rfl, fun i hi => cell_later hb (hc i hi)⟩
theorem below_of {w w1 w2 : World} (h : Below w.heap.size w w1) (k : Below w1.heap.size w1 w2) : Below w.heap.size w w2 := h.trans (k.mono h.size)
def cells (l : List Nat) : List Value := l.map fun x => Value.int .u8 (x : Nat)
theorem cells_length (l : List Nat) : (cells l).length = l.length := by simp [cells]
theorem cells_append (l m : List Nat) : cells (l ++ m) = cells l ++ cells m := by simp [cells]
theorem cells_one (x : Nat) : cells [x] = [Value.int .u8 (x : Nat)] := rfl
theorem one_cell (l : List Nat) : ∀ u ∈ cells l, u.oneCell' = true := by
  intro u hu
  obtain ⟨x, _, rfl⟩ := List.mem_map.1 hu
  rfl

/-- All old blocks but those of S are as they were; no block has gone. -/
structure Off (S : Nat → Prop) (w w' : World) : Prop where
  os : w'.os = w.os
  tape : w'.tape = w.tape
  output : w'.output = w.output
  size : w.heap.size ≤ w'.heap.size
  block : ∀ k, k < w.heap.size → ¬ S k → w'.heap[k]? = w.heap[k]?
theorem Off.refl (S : Nat → Prop) (w : World) : Off S w w := ⟨rfl, rfl, rfl, Nat.le_refl _, fun _ _ _ => rfl⟩
theorem Off.trans {S T : Nat → Prop} {a b c : World} (h : Off S a b) (k : Off T b c) (hT : ∀ i, i < a.heap.size → T i → S i) : Off S a c :=
  ⟨k.os.trans h.os, k.tape.trans h.tape, k.output.trans h.output, Nat.le_trans h.size k.size, fun i hi hn => (k.block i (Nat.lt_of_lt_of_le hi h.size) (fun t => hn (hT i hi t))).trans (h.block i hi hn)⟩
theorem Off.mono {S T : Nat → Prop} {a b : World} (h : Off S a b) (hT : ∀ i, i < a.heap.size → S i → T i) : Off T a b :=
  ⟨h.os, h.tape, h.output, h.size, fun i hi hn => h.block i hi (fun s => hn (hT i hi s))⟩
theorem Off.drew {S : Nat → Prop} {a w : World} (h : Off S a w) : Off S a w.drew := ⟨h.os, h.tape, h.output, h.size, h.block⟩
theorem Off.alloc {S : Nat → Prop} {a w : World} (h : Off S a w) (o : Obj) : Off S a (w.alloc o) :=
  ⟨h.os, h.tape, h.output, by simp; have := h.size; omega, fun k hk hn => by rw [Below.heap_alloc _ _ _ (by have := h.size; omega)]; exact h.block k hk hn⟩
theorem Off.setCell {S : Nat → Prop} {a w : World} (h : Off S a w) {p : Addr} (hp : a.heap.size ≤ p.block ∨ S p.block) (u : Value) : Off S a (w.setCell p u) :=
  ⟨h.os, h.tape, h.output, by simp [World.setCell]; exact h.size, fun k hk hn => by
    rw [Below.heap_setCell _ _ _ _ (fun e => by subst e; exact hp.elim (fun hp => by omega) hn)]; exact h.block k hk hn⟩
theorem Off.grown {S : Nat → Prop} {a w w' : World} {row : Option Nat} (h : Off S a w) (hg : w.grownBy w' row) (hr : ∀ k, row = some k → a.heap.size ≤ k ∨ S k) : Off S a w' :=
  ⟨hg.os.trans h.os, hg.tape.trans h.tape, hg.output.trans h.output, Nat.le_trans h.size hg.size, fun k hk hn => by
    rw [hg.block k (by have := h.size; omega) (fun e => (hr k e.symm).elim (fun hp => by omega) hn)]; exact h.block k hk hn⟩
theorem Off.setCells {S : Nat → Prop} {a : World} {b : Nat} (hb : a.heap.size ≤ b ∨ S b) : ∀ (vs : List Value) (o : Nat) (w : World), Off S a w → Off S a (w.setCells b o vs)
  | [], _, _, h => h
  | v :: r, o, w, h => by rw [World.setCells]; exact Off.setCells hb r (o + 1) _ (h.setCell (p := ⟨b, o, none⟩) hb v)
theorem Off.below {S : Nat → Prop} {a b : World} {B : Nat} (h : Off S a b) (hB : B ≤ a.heap.size) (hS : ∀ i, S i → B ≤ i) : Below B a b :=
  ⟨h.os, h.tape, h.output, h.size, fun k hk => h.block k (by omega) (fun s => by have := hS k s; omega)⟩
theorem Off.of_below {S : Nat → Prop} {a b : World} (h : Below a.heap.size a b) : Off S a b :=
  ⟨h.os, h.tape, h.output, h.size, fun k hk _ => h.block k hk⟩
theorem Off.at {S : Nat → Prop} {a b : World} (h : Off S a b) {k : Nat} {o : Obj} (hk : a.heap[k]? = some o) (hn : ¬ S k) : b.heap[k]? = some o := by
  rw [h.block k (Array.getElem?_eq_some_iff.1 hk).1 hn]; exact hk
theorem Off.cell {S : Nat → Prop} {a b : World} (h : Off S a b) {p : Addr} {u : Value} (hk : a.cell? p = some u) (hn : ¬ S p.block) : b.cell? p = some u := by
  have hlt : p.block < a.heap.size := by
    rcases Nat.lt_or_ge p.block a.heap.size with hlt | hge
    · exact hlt
    · rw [World.cell?, Array.getElem?_eq_none hge] at hk; cases hk
  unfold World.cell? at hk ⊢
  rw [h.block _ hlt hn]; exact hk
theorem Off.owns {S : Nat → Prop} {a b : World} (h : Off S a b) {base : Nat} {e : TypeId} {size : Nat} {v : Value} {n : Nat} {xs : List Value} (ho : a.ownsRow base e size v n xs) (hn : ∀ g, v.ownBlock = some g → ¬ S g) : b.ownsRow base e size v n xs := by
  obtain ⟨h1, h2⟩ := ho
  refine ⟨h1, ?_⟩
  rcases h2 with h2 | ⟨g, cap, cur, rfl, a2, a3, a4⟩
  · exact .inl h2
  · exact .inr ⟨g, cap, cur, rfl, a2, h.at a3 (hn g rfl), a4⟩
theorem row_cells {w : World} {a : Option Addr} {l : List Nat} (h : Row w a l) : ∀ b, a = some b → ∀ j u, (cells l)[j]? = some u → w.cell? (b.add j) = some u := by
  intro b hb j u hu
  obtain ⟨_, _, h3⟩ := h
  have hj : j < l.length := by
    rw [← cells_length l]
    exact (List.getElem?_eq_some_iff.1 hu).1
  obtain ⟨b', off, h4, hc⟩ := h3 (by omega)
  rw [hb] at h4
  cases h4
  rw [Go.WideShapes.add_plain, hc j hj]
  unfold cells at hu
  rw [List.getElem?_map, List.getElem?_eq_getElem hj] at hu
  simp only [Option.map_some, Option.some.injEq] at hu
  rw [← hu, List.getD_eq_getElem?_getD, List.getElem?_eq_getElem hj]
  rfl
/-- a row of the call's own reads as bytes. -/
theorem own_row {w : World} {base n : Nat} {v : Value} {l : List Nat} (h : w.ownsRow base 5 1 v n (cells l)) (hb : ∀ x ∈ l, x < 256) (hm : l.length ≤ maxLen) :
    ∃ a cap, v = .slice a l.length cap ∧ l.length ≤ cap ∧ cap ≤ maxLen ∧ Row w a l := by
  obtain ⟨hl, h⟩ := h
  rw [cells_length, Nat.mul_one] at hl
  subst hl
  rcases h with ⟨rfl, h0⟩ | ⟨g, cap, cur, rfl, _, hg, hnc, hcm, hcs, ht⟩
  · rw [h0]
    exact ⟨none, 0, rfl, Nat.le_refl _, by simp, hb, hm, fun h => absurd h (by omega)⟩
  · refine ⟨_, cap, rfl, hnc, hcm, hb, hm, fun h0 => ⟨g, 0, rfl, fun i hi => ?_⟩⟩
    have hcur : cur[i]? = some (Value.int .u8 ((l.getD i 0 : Nat) : Int)) := by
      have h1 : (cur.toList.take (l.length * 1))[i]? = cur.toList[i]? := List.getElem?_take_of_lt (by omega)
      rw [ht] at h1
      rw [← Array.getElem?_toList, ← h1]
      unfold cells
      rw [List.getElem?_map, List.getD_eq_getElem?_getD, List.getElem?_eq_getElem hi]
      rfl
    rw [Nat.zero_add]
    simp [World.cell?, hg, hcur]
theorem own_base {w : World} {b b' : Nat} {e : TypeId} {size : Nat} {v : Value} {n : Nat} {xs : List Value} (h : w.ownsRow b e size v n xs) (hb : b' ≤ b) : w.ownsRow b' e size v n xs := by
  obtain ⟨h1, h2⟩ := h
  refine ⟨h1, ?_⟩
  rcases h2 with h2 | ⟨g, cap, cur, a1, a2, a3⟩
  · exact .inl h2
  · exact .inr ⟨g, cap, cur, a1, Nat.le_trans hb a2, a3⟩
theorem own_ge {w : World} {b : Nat} {e : TypeId} {size : Nat} {v : Value} {n : Nat} {xs : List Value} (h : w.ownsRow b e size v n xs) : ∀ k, v.ownBlock = some k → b ≤ k := by
  intro k hk
  rcases h.2 with ⟨rfl, _⟩ | ⟨g, cap, cur, rfl, a2, _⟩
  · cases hk
  · cases hk; exact a2
theorem cell_of {w : World} {p : Nat} {C : Array Value} {t : TypeId} (h : w.heap[p]? = some (.cells C t (0, 0))) (j : Nat) : w.cell? ⟨p, j, none⟩ = C[j]? := by simp [World.cell?, h]
theorem frozen_of {w : World} {p : Nat} {C : Array Value} {t : TypeId} (h : w.heap[p]? = some (.cells C t (0, 0))) (j : Nat) : w.frozen? ⟨p, j, none⟩ = false := by simp [World.frozen?, h]
theorem Row.off {w w' : World} {S : Nat → Prop} {a : Option Addr} {l : List Nat} (h : Row w a l) (ho : Off S w w') (hS : 0 < l.length → ∀ b, a = some b → ¬ S b.block) : Row w' a l := by
  obtain ⟨h1, h2, h3⟩ := h
  refine ⟨h1, h2, fun h0 => ?_⟩
  obtain ⟨b, off, rfl, hc⟩ := h3 h0
  exact ⟨b, off, rfl, fun i hi => ho.cell (hc i hi) (hS h0 ⟨b, off, none⟩ rfl)⟩
/-- the block of bytes that are there is one that there is. -/
theorem Row.lt {w : World} {a : Option Addr} {l : List Nat} (h : Row w a l) (h0 : 0 < l.length) : ∀ b, a = some b → b.block < w.heap.size := by
  intro b hb
  obtain ⟨b', off, rfl, hc⟩ := h.2.2 h0
  cases hb
  have := hc 0 h0
  rcases Nat.lt_or_ge b' w.heap.size with hlt | hge
  · exact hlt
  · rw [World.cell?, Array.getElem?_eq_none hge] at this; cases this
theorem own_form {w : World} {base n : Nat} {e : TypeId} {size : Nat} {v : Value} {xs : List Value} (h : w.ownsRow base e size v n xs) : ∃ a c, v = .slice a n c ∧ n ≤ c ∧ c ≤ maxLen := by
  rcases h.2 with ⟨rfl, rfl⟩ | ⟨g, cap, cur, rfl, _, _, a4, a5, _⟩
  · exact ⟨none, 0, rfl, Nat.le_refl _, Nat.zero_le _⟩
  · exact ⟨_, _, rfl, a4, a5⟩

theorem Try.info5 : (Try.prog.info? 5).map (fun i => (i.zero, i.size, i.bytes)) = some (some (.int .u8 0), 1, 1) := by kernel_rfl
theorem eqlBytes (w : World) (a : Option Addr) (n c n' c' : Nat) : (binOp .eql 23 (.slice a n c) (.slice none n' c')).run Try.prog w = .ok (.bool a.isNone) w := Lib.run_eql_slice_nil w _ _ a n c n' c' Try.underlying23
theorem row_none {w : World} {l : List Nat} (h : Row w none l) : l = [] := by
  rcases Nat.eq_zero_or_pos l.length with h0 | h0
  · exact List.eq_nil_of_length_eq_zero h0
  · obtain ⟨_, _, h1, _⟩ := h.2.2 h0
    cases h1
/-- Bytes of the call's own. -/
structure Fresh (w0 w : World) (a : Option Addr) (c : Nat) (l : List Nat) : Prop where
  row : Row w a l
  le : l.length ≤ c
  cap : c ≤ maxLen
  new : ∀ b, a = some b → w0.heap.size ≤ b.block
theorem fresh_of {w0 w : World} {v : Value} {n : Nat} {l : List Nat} (h : w.ownsRow w0.heap.size 5 1 v n (cells l)) (hb : ∀ x ∈ l, x < 256) (hm : l.length ≤ maxLen) : ∃ a c, v = .slice a l.length c ∧ Fresh w0 w a c l := by
  obtain ⟨a, c, rfl, h1, h2, h3⟩ := own_row h hb hm
  exact ⟨a, c, rfl, h3, h1, h2, fun b hb => own_ge h b.block (by rw [hb]; rfl)⟩
/-- the bytes of a number, the lowest first. -/
def leN (s : Nat) : Nat → List Nat
  | 0 => []
  | k + 1 => leN s k ++ [s / 256 ^ k % 256]
theorem le_length (s k : Nat) : (leN s k).length = k := by
  induction k with
  | zero => rfl
  | succ k ih => simp [leN, ih]
theorem le_byte (s k : Nat) : ∀ x ∈ leN s k, x < 256 := by
  induction k with
  | zero => intro x hx; simp [leN] at hx
  | succ k ih =>
    intro x hx
    rw [leN] at hx
    rcases List.mem_append.1 hx with hx | hx
    · exact ih x hx
    · rw [List.mem_singleton.1 hx]; exact Nat.mod_lt _ (by omega)
theorem le_succ (s k : Nat) : leN s (k + 1) = leN s k ++ [s / 256 ^ k % 256] := rfl
theorem div_succ (s k : Nat) : s / 256 ^ (k + 1) = s / 256 ^ k / 256 := by rw [Nat.pow_succ, Nat.div_div_eq_div_mul]
/-- the bytes l fill a block of their own. -/
structure Bs (w : World) (g : Nat) (l : List Nat) : Prop where
  here : w.heap[g]? = some (.cells (cells l).toArray 5 (0, 0))
  byte : ∀ x ∈ l, x < 256
  len : l.length ≤ maxLen
theorem Bs.row {w : World} {g : Nat} {l : List Nat} (h : Bs w g l) : Row w (some ⟨g, 0, none⟩) l :=
  ⟨h.byte, h.len, fun _ => ⟨g, 0, rfl, fun i hi => by
    rw [cell_of h.here, Nat.zero_add]
    simp only [List.getElem?_toArray]
    unfold cells
    rw [List.getElem?_map, List.getD_eq_getElem?_getD, List.getElem?_eq_getElem hi]
    rfl⟩⟩
theorem Bs.off {w w' : World} {g : Nat} {l : List Nat} {S : Nat → Prop} (h : Bs w g l) (ho : Off S w w') (hn : ¬ S g) : Bs w' g l := ⟨ho.at h.here hn, h.byte, h.len⟩
theorem Bs.later {w w' : World} {g : Nat} {l : List Nat} (h : Bs w g l) (ho : Below w.heap.size w w') : Bs w' g l := h.off (S := fun _ => False) (Off.of_below ho) id
/-- the bytes of a number, the highest first. -/
def be (x k : Nat) : List Nat := (leN x k).reverse
theorem be_length (x k : Nat) : (be x k).length = k := by simp [be, le_length]
theorem be_byte (x k : Nat) : ∀ y ∈ be x k, y < 256 := fun y hy => le_byte x k y (List.mem_reverse.1 hy)
theorem be_succ (x k : Nat) : be x (k + 1) = x / 256 ^ k % 256 :: be x k := by simp [be, le_succ]
theorem Try.size5 : (Try.prog.info? 5).map (·.size) = some 1 := by kernel_rfl
theorem made_bytes {w w1 : World} {n : Nat} (hown : w1.ownsRow w.heap.size 5 1 (.slice (some ⟨w.heap.size, 0, none⟩) n n) n (madeCells (Value.int .u8 0).cells (n * 1)).toList) (hg : w.grownBy w1 none) :
    w1.heap[w.heap.size]? = some (.cells (cells (List.replicate n 0)).toArray 5 (0, 0)) ∧ Below w.heap.size w w1 := by
  obtain ⟨_, ⟨h, _⟩ | ⟨g, cap, cur, hv, _, hcur, _, _, hsz, ht⟩⟩ := hown
  · cases h
  · simp only [Value.slice.injEq, Option.some.injEq, Addr.mk.injEq, and_true, true_and] at hv
    obtain ⟨rfl, rfl⟩ := hv
    refine ⟨?_, (Below.refl _ w).grown hg (Nat.le_refl _) (fun _ e => by cases e)⟩
    rw [hcur]
    have h3 : cur.toList.take (n * 1) = cur.toList := List.take_of_length_le (by simp [hsz])
    rw [h3] at ht
    have h4 : cur.toList = cells (List.replicate n 0) := by
      rw [ht]
      unfold cells madeCells
      rw [List.map_replicate, List.eq_replicate_iff]
      refine ⟨by simp, ?_⟩
      intro x hx
      simp only [Array.toList_map, List.mem_map, Value.cells] at hx
      obtain ⟨i, _, rfl⟩ := hx
      simp [Nat.mod_one]
    rw [← h4]
theorem row_src {w : World} {a : Option Addr} {l : List Nat} (h : Row w a l) : 0 < (cells l).length → ∃ ad, a = some ad ∧ ∀ j v, (cells l)[j]? = some v → w.cell? (ad.add j) = some v := by
  intro h0
  rw [cells_length] at h0
  obtain ⟨b, off, rfl, hc⟩ := h.2.2 h0
  refine ⟨_, rfl, fun j u hu => ?_⟩
  have hj : j < l.length := by rw [← cells_length l]; exact (List.getElem?_eq_some_iff.1 hu).1
  rw [Go.WideShapes.add_plain, hc j hj]
  unfold cells at hu
  rw [List.getElem?_map, List.getElem?_eq_getElem hj] at hu
  simp only [Option.map_some, Option.some.injEq] at hu
  rw [← hu, List.getD_eq_getElem?_getD, List.getElem?_eq_getElem hj]
  rfl
theorem own_more {w : World} {base n k : Nat} {v : Value} {l m : List Nat} (h : w.ownsRow base 5 1 v (n + k) (cells l ++ cells m)) (hn : n + k = (l ++ m).length) : w.ownsRow base 5 1 v (l ++ m).length (cells (l ++ m)) := by
  rw [cells_append, ← hn]; exact h
/-- bytes that the call owns become more: nothing else has turned. -/
structure Grew (w w' : World) (v v' : Value) : Prop where
  off : Off (fun k => v.ownBlock = some k) w w'
  new : ∀ k, v'.ownBlock = some k → v.ownBlock = some k ∨ w.heap.size ≤ k
theorem Grew.trans {a b c : World} {u v x : Value} (h : Grew a b u v) (k : Grew b c v x) : Grew a c u x :=
  ⟨h.off.trans k.off (fun i hi t => (h.new i t).elim id (fun hge => by omega)), fun i t => (k.new i t).elim (h.new i) (fun hge => .inr (Nat.le_trans h.off.size hge))⟩
theorem Grew.ahead {a b c : World} {u v : Value} (h : Below a.heap.size a b) (k : Grew b c u v) : Grew a c u v :=
  ⟨(Off.of_below (S := fun i => u.ownBlock = some i) h).trans k.off (fun _ _ t => t), fun i t => (k.new i t).elim .inl (fun hge => .inr (Nat.le_trans h.size hge))⟩
theorem Grew.refl (w : World) (v : Value) : Grew w w v v := ⟨Off.refl _ w, fun _ t => .inl t⟩
theorem Grew.below {w w' : World} {v v' : Value} {base n : Nat} {xs : List Value} (h : Grew w w' v v') (hown : w.ownsRow base 5 1 v n xs) (hb : base ≤ w.heap.size) : Below base w w' := h.off.below hb (own_ge hown)
theorem grew_lies {w w1 w' : World} {v : Value} {g n cap H : Nat} (hb : Below w.heap.size w w1) (hg : w1.grownBy w' v.ownBlock) (hat : v.ownBlock = some g ∨ g = H) (hH : w1.heap.size = H) : Grew w w' v (.slice (some ⟨g, 0, none⟩) n cap) :=
  ⟨(Off.of_below (S := fun i => v.ownBlock = some i) hb).trans ((Off.refl (fun i => v.ownBlock = some i) w1).grown hg (fun _ e => .inr e)) (fun _ _ t => t), fun k e => by
    cases e
    rcases hat with h | h
    · exact .inl h
    · exact .inr (by show _ ≤ g; have := hb.size; omega)⟩

theorem old_block {a b : World} {k : Nat} {o : Obj} (h : Below a.heap.size a b) (hk : a.heap[k]? = some o) : b.heap[k]? = some o := by
  rw [h.block k (Array.getElem?_eq_some_iff.1 hk).1]; exact hk
/-- bytes as a string. -/
def strOf (l : List Nat) : ByteArray := ⟨(l.map fun n => UInt8.ofNat n).toArray⟩
theorem strOf_nums (l : List Nat) : strOfNums (l.map fun n : Nat => (n : Int)) = strOf l := by
  unfold strOfNums strOf
  rw [List.map_map]
  rfl
theorem row_convert {w : World} {a : Option Addr} {l : List Nat} (h : Row w a l) (c : Nat) : (convert 23 9 (.slice a l.length c)).run Try.prog w = .ok (.string (strOf l)) w := by
  rcases Nat.eq_zero_or_pos l.length with h0 | h0
  · obtain rfl : l = [] := List.eq_nil_of_length_eq_zero h0
    rw [run_convert_bytes_string w 23 9 5 _ _ c Try.underlying23 Try.underlying5 Try.underlying9]
    cases a <;> simp [Conv.bytesToString, loadCells]
    all_goals rfl
  · obtain ⟨b, off, rfl, hc⟩ := h.2.2 h0
    rw [← strOf_nums]
    refine run_convert_bytes_arg w 23 5 Try.underlying23 Try.underlying5 b off l.length c (l.map fun n : Nat => (n : Int)) (by simp) (fun i hi => ?_) 9 Try.underlying9
    rw [hc i hi, List.getD_eq_getElem?_getD, List.getD_eq_getElem?_getD, List.getElem?_map, List.getElem?_eq_getElem hi]
    rfl
theorem byte_inj {x y : Nat} (hx : x < 256) (hy : y < 256) (h : UInt8.ofNat x = UInt8.ofNat y) : x = y := by
  have := congrArg UInt8.toNat h
  simp only [UInt8.toNat_ofNat'] at this
  omega
theorem map_inj {l m : List Nat} (hl : ∀ x ∈ l, x < 256) (hm : ∀ x ∈ m, x < 256) (h : (l.map fun n => UInt8.ofNat n) = (m.map fun n => UInt8.ofNat n)) : l = m := by
  induction l generalizing m with
  | nil => cases m with
    | nil => rfl
    | cons y r => simp at h
  | cons x r ih => cases m with
    | nil => simp at h
    | cons y t =>
      simp only [List.map_cons, List.cons.injEq] at h
      rw [byte_inj (hl x List.mem_cons_self) (hm y List.mem_cons_self) h.1, ih (fun z hz => hl z (List.mem_cons_of_mem _ hz)) (fun z hz => hm z (List.mem_cons_of_mem _ hz)) h.2]
theorem str_eq {l m : List Nat} (hl : ∀ x ∈ l, x < 256) (hm : ∀ x ∈ m, x < 256) : ((strOf l).toList == (strOf m).toList) = decide (l = m) := by
  have e : ∀ l : List Nat, (strOf l).toList = l.map fun n => UInt8.ofNat n := fun l => by
    simp [strOf, ByteArray.toList_eq]
  rw [e, e]
  by_cases h : l = m
  · subst h; simp
  · rw [decide_eq_false h]
    exact beq_eq_false_iff_ne.2 (fun h1 => h (map_inj hl hm h1))
set_option maxHeartbeats 400000 in
theorem bytesEqual_any (a b : Option Addr) (c d : Nat) (l m : List Nat) (w : World) (hr : Row w a l) (hs : Row w b m) :
    Calls Try.prog 82 #[.slice a l.length c, .slice b m.length d] w fun e w' => e = .returned (.bool (decide (l = m))) ∧ w' = w := by
  have h1 := row_convert hr c
  have h2 := row_convert hs d
  have HE : Hid (((strOf l).toList == (strOf m).toList) = decide (l = m)) := str_eq hr.1 hs.1
  clear hr hs
  generalize strOf l = s at h1 HE
  generalize strOf m = t at h2 HE
  go_enter Try.func82, Try.ntmps82
  go_wp2
  go_ret
  exact ⟨ret_bool HE.out, rfl⟩
theorem row_take {w : World} {a : Option Addr} {l : List Nat} (h : Row w a l) (n : Nat) : Row w a (l.take n) := by
  refine ⟨fun x hx => h.1 x (List.mem_of_mem_take hx), by have := h.2.1; rw [List.length_take]; omega, fun h0 => ?_⟩
  rw [List.length_take] at h0
  obtain ⟨b, o, rfl, hc⟩ := h.2.2 (by omega)
  refine ⟨b, o, rfl, fun i hi => ?_⟩
  rw [List.length_take] at hi
  rw [hc i (by omega), List.getD_eq_getElem?_getD, List.getD_eq_getElem?_getD, List.getElem?_take_of_lt (by omega)]
theorem row_nil (w : World) (a : Option Addr) : Row w a [] := ⟨by simp, by simp, fun h => absurd h (by simp)⟩
end Go.Proofs.Ytnjcaolkcmpdcaa
