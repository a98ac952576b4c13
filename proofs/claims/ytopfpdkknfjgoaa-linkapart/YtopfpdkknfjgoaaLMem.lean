/- Flights and links in memory: how flights lie in rows, how links lie in a map of rows. -/
import Derived.Test.YtopfpdkknfjgoaaHAppend
import Derived.Maps.OwnSet
import Derived.Maps.RangeWalk
import Derived.WideKeyPair
namespace Go.Proofs.Ytopfpdkknfjgoaa
open Go.RowKit
set_option linter.unusedVariables false

/-- A flight. -/
structure Fl where
  frm : Int
  to : Int
  at_ : Int
  bytes : List Nat
/-- A flight, and where its bytes lie. -/
structure FX where
  x : Fl
  a : Option Addr
  c : Nat
/-- its value. -/
def fv (y : FX) : Value := .agg #[.int .i64 y.x.frm, .int .i64 y.x.to, .int .i64 y.x.at_, .slice y.a y.x.bytes.length y.c]
def fcells : List FX → List Value
  | [] => []
  | y :: r => .int .i64 y.x.frm :: .int .i64 y.x.to :: .int .i64 y.x.at_ :: .slice y.a y.x.bytes.length y.c :: fcells r
theorem fcells_length : ∀ X : List FX, (fcells X).length = X.length * 4
  | [] => rfl
  | x :: r => by simp [fcells, fcells_length r]; omega
theorem fcells_append : ∀ X Y : List FX, fcells (X ++ Y) = fcells X ++ fcells Y
  | [], _ => rfl
  | x :: r, Y => by simp [fcells, fcells_append r Y]
theorem fcells_one : ∀ (X : List FX), ∀ u ∈ fcells X, u.oneCell' = true
  | [] => by simp [fcells]
  | x :: r => by
    intro u hu
    simp only [fcells, List.mem_cons] at hu
    rcases hu with rfl | rfl | rfl | rfl | hu
    · rfl
    · rfl
    · rfl
    · rfl
    · exact fcells_one r u hu
theorem fcells_at : ∀ (X : List FX) (i : Nat) (h : i < X.length), (fcells X)[i * 4]? = some (.int .i64 X[i].x.frm) ∧ (fcells X)[i * 4 + 1]? = some (.int .i64 X[i].x.to) ∧ (fcells X)[i * 4 + 2]? = some (.int .i64 X[i].x.at_) ∧ (fcells X)[i * 4 + 3]? = some (.slice X[i].a X[i].x.bytes.length X[i].c)
  | [], _, h => by simp at h
  | x :: r, 0, _ => ⟨rfl, rfl, rfl, rfl⟩
  | x :: r, i + 1, h => by
    have := fcells_at r i (by simpa using h)
    rw [show (i + 1) * 4 = i * 4 + 1 + 1 + 1 + 1 by omega]
    simp only [fcells, List.getElem?_cons_succ, List.getElem_cons_succ]
    exact ⟨this.1, this.2.1, this.2.2.1, this.2.2.2⟩
theorem fcells_take : ∀ (X : List FX) (n : Nat), fcells (X.take n) = (fcells X).take (n * 4)
  | [], n => by simp [fcells]
  | x :: r, 0 => by simp [fcells]
  | x :: r, n + 1 => by
    rw [show (n + 1) * 4 = n * 4 + 1 + 1 + 1 + 1 by omega]
    simp [fcells, fcells_take r n]
theorem fcells_drop : ∀ (X : List FX) (n : Nat), fcells (X.drop n) = (fcells X).drop (n * 4)
  | [], n => by simp [fcells]
  | x :: r, 0 => by simp [fcells]
  | x :: r, n + 1 => by
    rw [show (n + 1) * 4 = n * 4 + 1 + 1 + 1 + 1 by omega]
    simp [fcells, fcells_drop r n]
theorem Try.info32 : (Try.prog.info? 32).map (fun i => (i.zero, i.size, i.bytes)) = some (some (.agg #[.int .i64 0, .int .i64 0, .int .i64 0, .slice none 0 0]), 4, 48) := by kernel_rfl

/-- The flights X lie in memory from a on, outside N. -/
structure FxAt (N : Nat → Prop) (w : World) (a : Option Addr) (X : List FX) : Prop where
  rows : ∀ y ∈ X, Row w y.a y.x.bytes ∧ (0 < y.x.bytes.length → ∀ b, y.a = some b → ¬ N b.block)
  here : 0 < X.length → ∃ b o, a = some ⟨b, o, none⟩ ∧ ¬ N b ∧ ∀ j u, (fcells X)[j]? = some u → w.cell? ⟨b, o + j, none⟩ = some u
theorem cell_is {w : World} {a : Addr} {u : Value} (h : w.cell? a = some u) : ∃ C t fr, w.heap[a.block]? = some (.cells C t fr) := by
  unfold World.cell? at h
  split at h
  · rename_i c t fr he; exact ⟨c, t, fr, he⟩
  · cases h
theorem Row.is {w : World} {a : Option Addr} {l : List Nat} (h : Row w a l) (h0 : 0 < l.length) : ∀ b, a = some b → ∃ C t fr, w.heap[b.block]? = some (.cells C t fr) := by
  intro b hb
  obtain ⟨b', off, rfl, hc⟩ := h.2.2 h0
  cases hb
  exact cell_is (hc 0 h0)
theorem FxAt.off {N S : Nat → Prop} {w w' : World} {a : Option Addr} {X : List FX} (h : FxAt N w a X) (ho : Off S w w') (hS : ∀ k C t fr, w.heap[k]? = some (.cells C t fr) → S k → N k) : FxAt N w' a X := by
  refine ⟨fun y hy => ?_, fun h0 => ?_⟩
  · obtain ⟨h1, h2⟩ := h.rows y hy
    exact ⟨h1.off ho (fun hp b hb hs => by obtain ⟨C, t, fr, he⟩ := h1.is hp b hb; exact h2 hp b hb (hS _ C t fr he hs)), h2⟩
  · obtain ⟨b, o, rfl, hn, hc⟩ := h.here h0
    exact ⟨b, o, rfl, hn, fun j u hu => ho.cell (hc j u hu) (fun hs => by obtain ⟨C, t, fr, he⟩ := cell_is (hc j u hu); exact hn (hS _ C t fr he hs))⟩
theorem FxAt.later {N : Nat → Prop} {w w' : World} {a : Option Addr} {X : List FX} (h : FxAt N w a X) (hb : Below w.heap.size w w') : FxAt N w' a X := h.off (S := fun _ => False) (Off.of_below hb) (fun _ _ _ _ _ hf => hf.elim)
theorem FxAt.nil (N : Nat → Prop) (w : World) (a : Option Addr) : FxAt N w a [] := ⟨by simp, fun h => absurd h (by simp)⟩
theorem FxAt.sub {N M : Nat → Prop} {w : World} {a : Option Addr} {X : List FX} (h : FxAt N w a X) (hM : ∀ k, k < w.heap.size → M k → N k) : FxAt M w a X := by
  refine ⟨fun y hy => ⟨(h.rows y hy).1, fun hp b hb hm => ?_⟩, fun h0 => ?_⟩
  · exact (h.rows y hy).2 hp b hb (hM _ ((h.rows y hy).1.lt hp b hb) hm)
  · obtain ⟨b, o, rfl, hn, hc⟩ := h.here h0
    refine ⟨b, o, rfl, fun hm => hn (hM _ ?_ hm), hc⟩
    have h4 : 0 < (fcells X).length := by rw [fcells_length]; omega
    obtain ⟨C, t, fr, he⟩ := cell_is (hc 0 (fcells X)[0] (List.getElem?_eq_getElem h4))
    exact (Array.getElem?_eq_some_iff.1 he).1
/-- the k-th flight. -/
theorem FxAt.cells4 {N : Nat → Prop} {w : World} {a : Option Addr} {X : List FX} (h : FxAt N w a X) (i : Nat) (hi : i < X.length) : ∃ b o, a = some ⟨b, o, none⟩ ∧ w.cell? ⟨b, o + i * 4, none⟩ = some (.int .i64 X[i].x.frm) ∧ w.cell? ⟨b, o + i * 4 + 1, none⟩ = some (.int .i64 X[i].x.to) ∧ w.cell? ⟨b, o + i * 4 + 2, none⟩ = some (.int .i64 X[i].x.at_) ∧ w.cell? ⟨b, o + i * 4 + 3, none⟩ = some (.slice X[i].a X[i].x.bytes.length X[i].c) := by
  obtain ⟨b, o, rfl, hn, hc⟩ := h.here (by omega)
  obtain ⟨e0, e1, e2, e3⟩ := fcells_at X i hi
  exact ⟨b, o, rfl, hc _ _ e0, hc _ _ e1, hc _ _ e2, hc _ _ e3⟩

/-- how an element of the map reads: as itself. -/
def slR (v : Value) : Option (DataW Value × List MemPlace) :=
  match v with
  | .slice a n c => some (.held (.slice a n c), [])
  | _ => none
theorem slR_mk (a : Option Addr) (n c : Nat) : slR (.slice a n c) = some (.held (.slice a n c), []) := rfl
theorem slR_inv (v : Value) (y : DataW Value × List MemPlace) (h : slR v = some y) : ∃ z : Option Addr × Nat × Nat, v = .slice z.1 z.2.1 z.2.2 := by
  unfold slR at h
  split at h
  · exact ⟨(_, _, _), rfl⟩
  · cases h
theorem Try.arrP : WideMaps.ArrKey Try.prog 74 3 2 := ⟨Try.underlying74, by kernel_rfl, by kernel_rfl, by kernel_rfl⟩
theorem Try.typesP : ∃ m, Try.prog.types.size = m + 1 := ⟨Try.prog.types.size - 1, by have h : 0 < Try.prog.types.size := of_decide_eq_true (by kernel_rfl); omega⟩
theorem lawP : Maps.Keyed Try.prog 74 := Maps.Keyed.of_law Try.arrP.law
/-- a pair as a key. -/
def kP (a b : Int) : Lit := .string (keyBytes [.int .i64 a, .int .i64 b])
def pv (a b : Int) : Value := .agg #[.int .i64 a, .int .i64 b]
def In64 (a : Int) : Prop := -9223372036854775808 ≤ a ∧ a ≤ 9223372036854775807
theorem wf_in {a : Int} (h : In64 a) : (Lit.int .i64 a).wf = true := by
  obtain ⟨h1, h2⟩ := h
  exact WalkArith.wf_i64 (by omega)
theorem keyP {a b : Int} (ha : In64 a) (hb : In64 b) : keyOf Try.prog 74 (pv a b) = some (kP a b) := WideMaps.keyOf_pair Try.arrP Try.underlying3 Try.typesP (wf_in ha) (wf_in hb)
theorem kP_inj {a b c d : Int} (ha : In64 a) (hb : In64 b) (hc : In64 c) (hd : In64 d) (h : kP a b = kP c d) : a = c ∧ b = d := by
  have h1 := keyP ha hb
  have h2 := keyP hc hd
  rw [h] at h1
  have := lawP.inj h1 h2
  unfold pv at this
  simpa using this
theorem kP_key (a b : Int) : WideAt.IsKeyLit (kP a b) := trivial
theorem kP_same {a b c d : Int} (ha : In64 a) (hb : In64 b) (hc : In64 c) (hd : In64 d) : (kP a b).sameKey (kP c d) = (a == c && b == d) := by
  cases hs : (kP a b).sameKey (kP c d)
  · symm
    rw [Bool.and_eq_false_iff]
    by_cases h1 : a = c
    · by_cases h2 : b = d
      · subst h1 h2
        rw [WideAt.sameKey_self (kP_key a b)] at hs
        cases hs
      · exact .inr (by simpa using h2)
    · exact .inl (by simpa using h1)
  · obtain ⟨rfl, rfl⟩ := kP_inj ha hb hc hd (WideAt.sameKey_eq hs)
    simp
/-- a flight that may be. -/
structure OkF (x : Fl) : Prop where
  f1 : 1 ≤ x.frm
  f2 : x.frm ≤ 6
  t1 : 1 ≤ x.to
  t2 : x.to ≤ 6
  ne : x.frm ≠ x.to
  a1 : 0 ≤ x.at_
  a2 : x.at_ ≤ 1048576
  b1 : 1 ≤ x.bytes.length
  b2 : x.bytes.length ≤ 400
def kF (x : Fl) : Lit := kP x.frm x.to
/-- is it a flight of the pair? -/
def pf (a b : Int) (x : Fl) : Bool := x.frm == a && x.to == b
theorem OkF.in1 {x : Fl} (h : OkF x) : In64 x.frm := ⟨by have := h.f1; omega, by have := h.f2; omega⟩
theorem OkF.in2 {x : Fl} (h : OkF x) : In64 x.to := ⟨by have := h.t1; omega, by have := h.t2; omega⟩
theorem filter_pf {S : List Fl} (h : ∀ x ∈ S, OkF x) {a b : Int} (ha : In64 a) (hb : In64 b) : S.filter (fun x => (kF x).sameKey (kP a b)) = S.filter (pf a b) :=
  List.filter_congr (fun x hx => kP_same (h x hx).in1 (h x hx).in2 ha hb)
/-- Links: a struct at lb, its map at mb, of at most n entries; their flights S in the order in which they were sent; all of it outside N. -/
structure Lk (N : Nat → Prop) (w : World) (lb mb n : Nat) (S : List Fl) : Prop where
  here : w.heap[lb]? = some (.cells #[.map (some mb)] 64 (0, 0))
  notl : ¬ N lb
  notm : ¬ N mb
  map : ∃ D, w.ownsMap Try.prog 74 slR mb n D ∧ ∀ v kk, keyOf Try.prog 74 v = some kk → ∃ ad X, D.atKey kk (.held (.slice none 0 0)) = .held (.slice ad X.length X.length) ∧ Maps.has D kk = decide (0 < X.length) ∧ FxAt N w ad X ∧ X.map FX.x = S.filter (fun x => (kF x).sameKey kk)
  ok : ∀ x ∈ S, OkF x
  len : S.length ≤ 512
theorem Lk.mb {N : Nat → Prop} {w : World} {lb mb n : Nat} {S : List Fl} (h : Lk N w lb mb n S) : ∃ es c, w.heap[mb]? = some (.map es c) := by
  obtain ⟨D, ⟨es, c, h1, _⟩, _⟩ := h.map
  exact ⟨es, c, h1⟩
theorem Lk.off {N S : Nat → Prop} {w w' : World} {lb mb n : Nat} {L : List Fl} (h : Lk N w lb mb n L) (ho : Off S w w') (hm : ¬ S mb) (hS : ∀ k C t fr, w.heap[k]? = some (.cells C t fr) → S k → N k) : Lk N w' lb mb n L := by
  obtain ⟨D, hD, hX⟩ := h.map
  refine ⟨ho.at h.here (fun hs => h.notl (hS _ _ _ _ h.here hs)), h.notl, h.notm, ⟨D, ?_, fun v kk hk => ?_⟩, h.ok, h.len⟩
  · obtain ⟨es, clock, hb, F, hs, hD⟩ := hD
    exact ⟨es, clock, ho.at hb hm, F, hs, hD⟩
  · obtain ⟨ad, X, h1, h2, h3, h4⟩ := hX v kk hk
    exact ⟨ad, X, h1, h2, h3.off ho hS, h4⟩
theorem Lk.later {N : Nat → Prop} {w w' : World} {lb mb n : Nat} {L : List Fl} (h : Lk N w lb mb n L) (hb : Below w.heap.size w w') : Lk N w' lb mb n L := h.off (S := fun _ => False) (Off.of_below hb) id (fun _ _ _ _ _ hf => hf.elim)
theorem Lk.lb_lt {N : Nat → Prop} {w : World} {lb mb n : Nat} {L : List Fl} (h : Lk N w lb mb n L) : lb < w.heap.size := (Array.getElem?_eq_some_iff.1 h.here).1
theorem Lk.mb_lt {N : Nat → Prop} {w : World} {lb mb n : Nat} {L : List Fl} (h : Lk N w lb mb n L) : mb < w.heap.size := by
  obtain ⟨_, _, h1⟩ := h.mb
  exact (Array.getElem?_eq_some_iff.1 h1).1
theorem Lk.sub {N M : Nat → Prop} {w : World} {lb mb n : Nat} {L : List Fl} (h : Lk N w lb mb n L) (hM : ∀ k, k < w.heap.size → M k → N k) : Lk M w lb mb n L := by
  obtain ⟨D, hD, hX⟩ := h.map
  refine ⟨h.here, fun hm => h.notl (hM _ h.lb_lt hm), fun hm => h.notm (hM _ h.mb_lt hm), ⟨D, hD, fun v kk hk => ?_⟩, h.ok, h.len⟩
  obtain ⟨ad, X, h1, h2, h3, h4⟩ := hX v kk hk
  exact ⟨ad, X, h1, h2, h3.sub hM, h4⟩
/-- the pair's flights. -/
theorem Lk.at {N : Nat → Prop} {w : World} {lb mb n : Nat} {L : List Fl} (h : Lk N w lb mb n L) {a b : Int} (ha : In64 a) (hb : In64 b) : ∃ D ad X, w.ownsMap Try.prog 74 slR mb n D ∧ D.atKey (kP a b) (.held (.slice none 0 0)) = .held (.slice ad X.length X.length) ∧ FxAt N w ad X ∧ X.map FX.x = L.filter (pf a b) := by
  obtain ⟨D, hD, hX⟩ := h.map
  obtain ⟨ad, X, h1, h2, h3, h4⟩ := hX _ _ (keyP ha hb)
  exact ⟨D, ad, X, hD, h1, h3, by rw [h4, filter_pf h.ok ha hb]⟩
end Go.Proofs.Ytopfpdkknfjgoaa
