/- Names held against each other, and the place of a name among files whose names rise. -/
import Derived.Test.YtfocejmfmnijpaaFCost
import Derived.Lib.Strings
import Derived.Lib.Slices
import Derived.Lib.Walk
import Derived.Lib.Bytealg
namespace Go.Proofs.Ytfocejmfmnijpaa
open Go.RowKit

/-- What strings.Compare says of two texts. -/
def cmpI (a b : ByteArray) : Int := Lib.compareBytes a.data.toList b.data.toList

theorem less_cmpL : ∀ (a b : List UInt8), Lib.compareBytes a b < 0 ↔ Op.bytesLess a b = true
  | [], [] => by simp [Lib.compareBytes, Op.bytesLess]
  | [], _ :: _ => by simp [Lib.compareBytes, Op.bytesLess]
  | _ :: _, [] => by simp [Lib.compareBytes, Op.bytesLess]
  | x :: a, y :: b => by
    have ih := less_cmpL a b
    unfold Lib.compareBytes Op.bytesLess
    by_cases h : x < y
    · simp [h]
    · by_cases h2 : y < x
      · have hne : x ≠ y := fun e => by subst e; exact h h2
        simp [h, h2, hne]
      · have e : x = y := UInt8.le_antisymm (UInt8.not_lt.1 h2) (UInt8.not_lt.1 h)
        subst e
        simp [h, ih]
theorem zero_cmpL : ∀ (a b : List UInt8), Lib.compareBytes a b = 0 ↔ a = b
  | [], [] => by simp [Lib.compareBytes]
  | [], _ :: _ => by simp [Lib.compareBytes]
  | _ :: _, [] => by simp [Lib.compareBytes]
  | x :: a, y :: b => by
    have ih := zero_cmpL a b
    unfold Lib.compareBytes
    by_cases h : x < y
    · have hne : x ≠ y := fun e => by subst e; exact UInt8.lt_irrefl x h
      simp [h, hne]
    · by_cases h2 : y < x
      · have hne : x ≠ y := fun e => by subst e; exact h h2
        simp [h, h2, hne]
      · have e : x = y := UInt8.le_antisymm (UInt8.not_lt.1 h2) (UInt8.not_lt.1 h)
        subst e
        simp [h, ih]
theorem less_transL : ∀ (a b c : List UInt8), Op.bytesLess a b = true → Op.bytesLess b c = true → Op.bytesLess a c = true
  | _, [], _ => by intro h; cases ‹List UInt8› <;> simp [Op.bytesLess] at h
  | [], _ :: _, [] => by intro _ h; simp [Op.bytesLess] at h
  | [], _ :: _, _ :: _ => by intro _ _; simp [Op.bytesLess]
  | _ :: _, _ :: _, [] => by intro _ h; simp [Op.bytesLess] at h
  | x :: a, y :: b, z :: c => by
    have ih := less_transL a b c
    simp only [Op.bytesLess, Bool.or_eq_true, Bool.and_eq_true, decide_eq_true_eq, beq_iff_eq]
    rintro (h | ⟨rfl, h⟩) (k | ⟨rfl, k⟩)
    · exact .inl (UInt8.lt_trans h k)
    · exact .inl h
    · exact .inl k
    · exact .inr ⟨rfl, ih h k⟩
theorem less_irreflL : ∀ (a : List UInt8), Op.bytesLess a a = false
  | [] => rfl
  | x :: a => by simp [Op.bytesLess, less_irreflL a, UInt8.lt_irrefl]
theorem less_totalL : ∀ (a b : List UInt8), Op.bytesLess a b = false → Op.bytesLess b a = false → a = b
  | [], [] => fun _ _ => rfl
  | [], _ :: _ => by intro h; simp [Op.bytesLess] at h
  | _ :: _, [] => by intro _ h; simp [Op.bytesLess] at h
  | x :: a, y :: b => by
    have ih := less_totalL a b
    intro h k
    simp only [Op.bytesLess, Bool.or_eq_false_iff, decide_eq_false_iff_not] at h k
    have e : x = y := UInt8.le_antisymm (UInt8.not_lt.1 k.1) (UInt8.not_lt.1 h.1)
    subst e
    simp at h k
    rw [ih h k]

theorem toList_inj {a b : ByteArray} (h : a.toList = b.toList) : a = b := by
  rw [ByteArray.toList_eq, ByteArray.toList_eq] at h
  exact ByteArray.ext (Array.ext' h)
theorem cmp_less (a b : ByteArray) : cmpI a b < 0 ↔ lessB a b = true := by
  unfold cmpI lessB
  rw [less_cmpL, ByteArray.toList_eq, ByteArray.toList_eq]
theorem cmp_zero (a b : ByteArray) : cmpI a b = 0 ↔ a = b := by
  unfold cmpI
  rw [zero_cmpL]
  exact ⟨fun h => ByteArray.ext (Array.ext' h), fun h => by rw [h]⟩
theorem less_trans {a b c : ByteArray} (h : lessB a b = true) (k : lessB b c = true) : lessB a c = true := less_transL _ _ _ h k
theorem less_irrefl (a : ByteArray) : lessB a a = false := less_irreflL _
theorem less_total {a b : ByteArray} (h : lessB a b = false) (k : lessB b a = false) : a = b := toList_inj (less_totalL _ _ h k)
theorem less_asymm {a b : ByteArray} (h : lessB a b = true) : lessB b a = false := by
  cases k : lessB b a with
  | false => rfl
  | true => have := less_trans h k; rw [less_irrefl] at this; cases this

/-- The place of a name, or where it would stand. -/
def atS : List Fil → ByteArray → Nat
  | [], _ => 0
  | x :: r, n => if lessB x.name n then atS r n + 1 else 0
/-- Is there a file of the name? -/
def thereB (L : List Fil) (n : ByteArray) : Bool := match L[atS L n]? with
  | some x => decide (x.name = n)
  | none => false

theorem atS_le : ∀ (L : List Fil) (n : ByteArray), atS L n ≤ L.length
  | [], _ => Nat.le_refl _
  | x :: r, n => by
    unfold atS
    have := atS_le r n
    split
    · simp; omega
    · simp
theorem atS_below : ∀ (L : List Fil) (n : ByteArray) (i : Nat) (h : i < L.length), i < atS L n → lessB L[i].name n = true
  | [], _, i, h => by simp at h
  | x :: r, n, i, h => by
    unfold atS
    split
    · rename_i hx
      intro hi
      cases i with
      | zero => exact hx
      | succ i => exact atS_below r n i (by simpa using h) (by omega)
    · intro hi; omega
theorem atS_at : ∀ (L : List Fil) (n : ByteArray) (h : atS L n < L.length), lessB L[atS L n].name n = false
  | [], _, h => by simp [atS] at h
  | x :: r, n, h => by
    by_cases hx : lessB x.name n = true
    · have e : atS (x :: r) n = atS r n + 1 := by rw [atS, if_pos hx]
      have h' : atS r n < r.length := by rw [e] at h; simpa using h
      have := atS_at r n h'
      simp only [e, List.getElem_cons_succ]
      exact this
    · have e : atS (x :: r) n = 0 := by rw [atS, if_neg hx]
      simp only [e, List.getElem_cons_zero]
      simpa using hx
theorem rising_lt {L : List Fil} (h : risingB L = true) : ∀ (j i : Nat) (hj : j < L.length) (hi : i < j), lessB L[i].name L[j].name = true
  | 0, _, _, hi => by omega
  | j + 1, i, hj, hi => by
    have hs := (rising_iff L).1 h j hj
    rcases Nat.lt_or_ge i j with hlt | hge
    · exact less_trans (rising_lt h j i (by omega) hlt) hs
    · obtain rfl : i = j := by omega
      exact hs
theorem atS_above {L : List Fil} (h : risingB L = true) (n : ByteArray) (i : Nat) (hi : i < L.length) (hge : atS L n ≤ i) : lessB L[i].name n = false := by
  have h0 := atS_at L n (by omega)
  rcases Nat.lt_or_ge (atS L n) i with hlt | hge'
  · cases k : lessB L[i].name n with
    | false => rfl
    | true => have := less_trans (rising_lt h i (atS L n) hi hlt) k; rw [h0] at this; cases this
  · have e : atS L n = i := by omega
    simp only [e] at h0
    exact h0

end Go.Proofs.Ytfocejmfmnijpaa
