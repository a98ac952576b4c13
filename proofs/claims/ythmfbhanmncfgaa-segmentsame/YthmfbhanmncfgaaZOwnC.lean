/- Claims of the call's own, as rows. -/
import Derived.Test.YthmfbhanmncfgaaZSeg
namespace Go.Proofs.Ythmfbhanmncfgaa
open Go.RowKit
set_option linter.unusedVariables false
/-- the cells of claims. -/
def ccells : List (Int × Int) → List Value
  | [] => []
  | c :: r => Value.int .i64 c.1 :: Value.int .i64 c.2 :: ccells r
theorem ccells_append (l m : List (Int × Int)) : ccells (l ++ m) = ccells l ++ ccells m := by
  induction l with
  | nil => rfl
  | cons x r ih => simp [ccells, ih]
theorem ccells_length (l : List (Int × Int)) : (ccells l).length = l.length * 2 := by
  induction l with
  | nil => rfl
  | cons x r ih => simp only [ccells, List.length_cons, ih]; omega
theorem ccells_get (l : List (Int × Int)) : ∀ i (h : i < l.length), (ccells l)[i * 2]? = some (.int .i64 l[i].1) ∧ (ccells l)[i * 2 + 1]? = some (.int .i64 l[i].2) := by
  induction l with
  | nil => intro i h; simp at h
  | cons x r ih =>
    intro i h
    cases i with
    | zero => exact ⟨rfl, rfl⟩
    | succ i =>
      have := ih i (by simpa using h)
      rw [show (i + 1) * 2 = i * 2 + 2 by omega]
      exact this
/-- Claims of the call's own. -/
structure FreshC (w0 w : World) (a : Option Addr) (c : Nat) (l : List (Int × Int)) : Prop where
  row : RowC w a l
  le : l.length ≤ c
  cap : c ≤ maxLen
  new : ∀ b, a = some b → w0.heap.size ≤ b.block
theorem ownC_row {w : World} {base n : Nat} {v : Value} {l : List (Int × Int)} (h : w.ownsRow base 38 2 v n (ccells l)) :
    ∃ a cap, v = .slice a l.length cap ∧ n = l.length ∧ l.length ≤ cap ∧ cap ≤ maxLen ∧ RowC w a l ∧ (∀ b, a = some b → base ≤ b.block) := by
  obtain ⟨hl, h⟩ := h
  rw [ccells_length] at hl
  obtain rfl : n = l.length := by omega
  rcases h with ⟨rfl, h0⟩ | ⟨g, cap, cur, rfl, hb, hg, hnc, hcm, hcs, ht⟩
  · refine ⟨none, 0, by rw [h0], rfl, by omega, by simp, ⟨by omega, fun h => absurd h (by omega)⟩, fun b hb => by cases hb⟩
  · refine ⟨_, cap, rfl, rfl, hnc, hcm, ⟨by omega, fun h0 => ⟨g, 0, rfl, fun i hi => ?_⟩⟩, fun b h => by cases h; exact hb⟩
    have key : ∀ j, j < l.length * 2 → cur[j]? = (ccells l)[j]? := fun j hj => by
      have h1 : (cur.toList.take (l.length * 2))[j]? = cur.toList[j]? := List.getElem?_take_of_lt (by omega)
      rw [ht] at h1
      rw [← Array.getElem?_toList, ← h1]
    obtain ⟨k1, k2⟩ := ccells_get l i hi
    rw [Nat.zero_add]
    refine ⟨?_, ?_⟩
    · rw [← k1, ← key (i * 2) (by omega)]
      simp [World.cell?, hg]
    · rw [← k2, ← key (i * 2 + 1) (by omega)]
      simp [World.cell?, hg]
theorem ownC_form {w : World} {base n : Nat} {v : Value} {l : List (Int × Int)} (h : w.ownsRow base 38 2 v n (ccells l)) : ∃ a cap, v = .slice a n cap := by
  obtain ⟨a, cap, h1, h2, _⟩ := ownC_row h
  exact ⟨a, cap, by rw [h2]; exact h1⟩
theorem Try.info38 : (Try.prog.info? 38).map (fun i => (i.zero, i.size, i.bytes)) = some (some (.agg #[.int .i64 0, .int .i64 0]), 2, 16) := by kernel_rfl
theorem ccells_one (l : List (Int × Int)) : ∀ u ∈ ccells l, u.oneCell' = true := by
  induction l with
  | nil => simp [ccells]
  | cons x r ih =>
    intro u hu
    rcases List.mem_cons.1 hu with rfl | hu
    · rfl
    · rcases List.mem_cons.1 hu with rfl | hu
      · rfl
      · exact ih u hu
theorem Seg.off {w w' : World} {p B q : Nat} {st : List Nat × Bool} {s : Sg} {a : Option Addr} {c : Nat} {a2 : Option Addr} {c2 : Nat} {S : Nat → Prop} (h : Seg w p B q st s a c a2 c2) (ho : Off S w w') (hp : ¬ S p) (hB : ¬ S B) (hq : ¬ S q) : Seg w' p B q st s a c a2 c2 :=
  ⟨ho.at h.seg hq, h.rdr.off ho hp hB, h.qp, h.qB⟩
theorem clsR_len (k : Nat) (st : List Nat × Bool) : (clsR k st).1.length = k := by
  induction k with
  | zero => rfl
  | succ k ih => rw [clsR]; simp [ih]
/-- a segment that is being read, its claims so far the call's own. -/
structure SegC (w0 w : World) (p B q : Nat) (st : List Nat × Bool) (s : Sg) (a : Option Addr) (c : Nat) (a2 : Option Addr) (c2 : Nat) : Prop where
  seg : Seg w p B q st s a c a2 c2
  off : OffS p q w0 w
  own : w.ownsRow w0.heap.size 38 2 (.slice a2 s.cls.length c2) s.cls.length (ccells s.cls)
theorem SegC.cell {w0 w : World} {p B q : Nat} {st : List Nat × Bool} {s : Sg} {a : Option Addr} {c : Nat} {a2 : Option Addr} {c2 : Nat} (h : SegC w0 w p B q st s a c a2 c2) : w.cell? ⟨q, 12, none⟩ = some (.slice a2 s.cls.length c2) ∧ w.frozen? ⟨q, 12, none⟩ = false :=
  ⟨(scells h.seg.seg).2.2.2.2.2.2.2.2.2.2.2.2, frozen_of h.seg.seg 12⟩
theorem SegC.read {w0 w w' : World} {p B q : Nat} {st st2 : List Nat × Bool} {s : Sg} {a : Option Addr} {c : Nat} {a2 : Option Addr} {c2 : Nat} (h : SegC w0 w p B q st s a c a2 c2) (hp : p < w0.heap.size) (hr : Rd1 w.drew p B st2 w') : SegC w0 w' p B q st2 s a c a2 c2 := by
  have hr' : Rd1 w p B st2 w' := ⟨hr.1, (Off.of_below (S := fun k => k = p) ((Below.refl _ w).drew)).trans hr.2 (fun _ _ t => t)⟩
  exact ⟨h.seg.read hr', h.off.read hr', hr'.2.owns h.own (fun g e hgp => by have := own_ge h.own g e; have h2 : g = p := hgp; omega)⟩
theorem SegC.read' {w0 w w' : World} {p B q : Nat} {st st2 : List Nat × Bool} {s : Sg} {a : Option Addr} {c : Nat} {a2 : Option Addr} {c2 : Nat} (h : SegC w0 w p B q st s a c a2 c2) (hp : p < w0.heap.size) (hr : Rd1 w p B st2 w') : SegC w0 w' p B q st2 s a c a2 c2 :=
  ⟨h.seg.read hr, h.off.read hr, hr.2.owns h.own (fun g e hgp => by have := own_ge h.own g e; have h2 : g = p := hgp; omega)⟩
theorem SegC.alloc {w0 w : World} {p B q : Nat} {st : List Nat × Bool} {s : Sg} {a : Option Addr} {c : Nat} {a2 : Option Addr} {c2 : Nat} (h : SegC w0 w p B q st s a c a2 c2) (X : Obj) : SegC w0 (w.alloc X) p B q st s a c a2 c2 :=
  ⟨h.seg.later ((Below.refl _ w).alloc (Nat.le_refl _) X), h.off.alloc X, (Off.of_below (S := fun _ => False) ((Below.refl _ w).alloc (Nat.le_refl _) X)).owns h.own (fun _ _ => id)⟩
theorem claim_src (w : World) (x y : Nat) : ∀ j u, (ccells [((x : Int), (y : Int))])[j]? = some u → (w.alloc (.cells #[.int .i64 (x : Nat), .int .i64 (y : Nat)] 38)).cell? ((⟨w.heap.size, 0, none⟩ : Addr).add j) = some u := by
  intro j u hu
  rw [Go.WideShapes.add_plain, cell_of (heap_alloc_new w _), Nat.zero_add]
  match j, hu with
  | 0, hu => simpa [ccells] using hu
  | 1, hu => simpa [ccells] using hu
  | j + 2, hu => simp [ccells] at hu
/-- one claim more. -/
theorem SegC.grow {w0 w w' : World} {p B q : Nat} {st : List Nat × Bool} {s : Sg} {a : Option Addr} {c : Nat} {a2 : Option Addr} {c2 : Nat} (h : SegC w0 w p B q st s a c a2 c2) (hp : p < w0.heap.size) (hB : B < w0.heap.size) (hq : q < w0.heap.size) (hg : w.grownBy w' (Value.slice a2 s.cls.length c2).ownBlock) : Seg w' p B q st s a c a2 c2 ∧ OffS p q w0 w' := by
  have ho : Off (fun k => (Value.slice a2 s.cls.length c2).ownBlock = some k) w w' := (Off.refl _ w).grown hg (fun k e => .inr e)
  have hne : ∀ i, i < w0.heap.size → ¬ ((Value.slice a2 s.cls.length c2).ownBlock = some i) := fun i hi e => by have := own_ge h.own i e; omega
  exact ⟨h.seg.off ho (hne p hp) (hne B hB) (hne q hq), h.off.trans ho (fun i hi e => absurd e (hne i hi))⟩
end Go.Proofs.Ythmfbhanmncfgaa
