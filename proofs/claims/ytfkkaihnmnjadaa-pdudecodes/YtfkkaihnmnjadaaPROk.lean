/- heliographref11.Right: which messages may be, Kind by Kind. -/
import Derived.Test.YtfkkaihnmnjadaaPRHas
import Derived.Test.YtfkkaihnmnjadaaPPureB
namespace Go.Proofs.Ytfkkaihnmnjadaa
open Go.RowKit
set_option linter.unusedVariables false
def hasI (s : ByteArray) (c : Int) : Bool := hasB s c.toNat
theorem hasI_any (s : ByteArray) (c : Int) (W : World) (h : 0 ≤ c) (hz : s.size ≤ 1000) : Calls Try.prog 25 #[.string s, .int .u8 c] W fun e w' => e = .returned (.bool (hasI s c)) ∧ W = w' := by
  have := hasR s c.toNat W hz
  rw [Int.toNat_of_nonneg h] at this
  exact this
theorem nam_zero (nam : ByteArray) : nam = ⟨#[]⟩ ↔ nam.size = 0 := by
  constructor
  · rintro rfl; rfl
  · intro h
    apply ByteArray.ext
    exact Array.eq_empty_of_size_eq_zero h
theorem nam_none (nam : ByteArray) : nam.toList.isEmpty = decide (nam.size = 0) := by
  rw [ByteArray.toList_eq, Bool.eq_iff_iff, List.isEmpty_iff_length_eq_zero, decide_eq_true_eq]
  simp
theorem list_zero (l : List Nat) : l = [] ↔ l.length = 0 := List.length_eq_zero_iff.symm
theorem ok_1 (num : Nat) (nam : ByteArray) (siz off : Int) (sum : Nat) (cod : Int) (bts : List Nat) : okM (⟨1, num, nam, siz, off, sum, cod, bts⟩ : Ms) = true ↔ (num ≠ 0 ∧ (1 ≤ nam.size ∧ nam.size ≤ 24) ∧ (0 ≤ siz ∧ siz ≤ 4096) ∧ sum = 0 ∧ cod = 0 ∧ bts.length = 0 ∧ off = 0) := by
  simp only [okM, sameM, cntM, rightM, inB, lst, show fld 1 = 3 from rfl, show hs 3 1 = true from rfl, show hs 3 2 = true from rfl, show hs 3 4 = false from rfl, show hs 3 8 = false from rfl, show hs 3 16 = false from rfl, show hs 3 32 = false from rfl, Bool.and_eq_true, decide_eq_true_eq, if_true, if_false, Bool.false_eq_true, true_and, list_zero]
  omega
theorem ok_2 (num : Nat) (nam : ByteArray) (siz off : Int) (sum : Nat) (cod : Int) (bts : List Nat) : okM (⟨2, num, nam, siz, off, sum, cod, bts⟩ : Ms) = true ↔ (num ≠ 0 ∧ nam.size = 0 ∧ siz = 0 ∧ sum = 0 ∧ cod = 0 ∧ bts.length ≤ 256 ∧ (0 ≤ off ∧ off ≤ 4096 - (bts.length : Int) ∧ 1 ≤ bts.length)) := by
  have hn := nam_zero nam
  simp only [okM, sameM, cntM, rightM, inB, lst, show fld 2 = 36 from rfl, show hs 36 1 = false from rfl, show hs 36 2 = false from rfl, show hs 36 4 = true from rfl, show hs 36 8 = false from rfl, show hs 36 16 = false from rfl, show hs 36 32 = true from rfl, Bool.and_eq_true, decide_eq_true_eq, if_true, if_false, Bool.false_eq_true, true_and, and_true, hn]
  omega
theorem ok_3 (num : Nat) (nam : ByteArray) (siz off : Int) (sum : Nat) (cod : Int) (bts : List Nat) : okM (⟨3, num, nam, siz, off, sum, cod, bts⟩ : Ms) = true ↔ (num ≠ 0 ∧ nam.size = 0 ∧ (0 ≤ siz ∧ siz ≤ 4096) ∧ cod = 0 ∧ bts.length = 0 ∧ off = 0) := by
  have hn := nam_zero nam
  simp only [okM, sameM, cntM, rightM, inB, lst, show fld 3 = 10 from rfl, show hs 10 1 = false from rfl, show hs 10 2 = true from rfl, show hs 10 4 = false from rfl, show hs 10 8 = true from rfl, show hs 10 16 = false from rfl, show hs 10 32 = false from rfl, Bool.and_eq_true, decide_eq_true_eq, if_true, if_false, Bool.false_eq_true, true_and, hn, list_zero]
  omega
theorem ok_4 (num : Nat) (nam : ByteArray) (siz off : Int) (sum : Nat) (cod : Int) (bts : List Nat) : okM (⟨4, num, nam, siz, off, sum, cod, bts⟩ : Ms) = true ↔ (num ≠ 0 ∧ nam.size = 0 ∧ siz = 0 ∧ sum = 0 ∧ (0 ≤ cod ∧ cod ≤ 255) ∧ bts.length = 0 ∧ off = 0) := by
  have hn := nam_zero nam
  simp only [okM, sameM, cntM, rightM, inB, lst, show fld 4 = 16 from rfl, show hs 16 1 = false from rfl, show hs 16 2 = false from rfl, show hs 16 4 = false from rfl, show hs 16 8 = false from rfl, show hs 16 16 = true from rfl, show hs 16 32 = false from rfl, Bool.and_eq_true, decide_eq_true_eq, if_true, if_false, Bool.false_eq_true, true_and, hn, list_zero]
  omega
theorem ok_5 (num : Nat) (nam : ByteArray) (siz off : Int) (sum : Nat) (cod : Int) (bts : List Nat) : okM (⟨5, num, nam, siz, off, sum, cod, bts⟩ : Ms) = true ↔ (num ≠ 0 ∧ (1 ≤ nam.size ∧ nam.size ≤ 24) ∧ siz = 0 ∧ sum = 0 ∧ cod = 0 ∧ bts.length ≤ 256 ∧ off = 0) := by
  simp only [okM, sameM, cntM, rightM, inB, lst, show fld 5 = 33 from rfl, show hs 33 1 = true from rfl, show hs 33 2 = false from rfl, show hs 33 4 = false from rfl, show hs 33 8 = false from rfl, show hs 33 16 = false from rfl, show hs 33 32 = true from rfl, Bool.and_eq_true, decide_eq_true_eq, if_true, if_false, Bool.false_eq_true, true_and, and_true]
  omega
theorem ok_6 (num : Nat) (nam : ByteArray) (siz off : Int) (sum : Nat) (cod : Int) (bts : List Nat) : okM (⟨6, num, nam, siz, off, sum, cod, bts⟩ : Ms) = true ↔ (num ≠ 0 ∧ (1 ≤ nam.size ∧ nam.size ≤ 24) ∧ siz = 0 ∧ sum = 0 ∧ cod = 0 ∧ bts.length = 0 ∧ off = 0) := by
  simp only [okM, sameM, cntM, rightM, inB, lst, show fld 6 = 1 from rfl, show hs 1 1 = true from rfl, show hs 1 2 = false from rfl, show hs 1 4 = false from rfl, show hs 1 8 = false from rfl, show hs 1 16 = false from rfl, show hs 1 32 = false from rfl, Bool.and_eq_true, decide_eq_true_eq, if_true, if_false, Bool.false_eq_true, true_and, list_zero]
  omega
theorem ok_7 (num : Nat) (nam : ByteArray) (siz off : Int) (sum : Nat) (cod : Int) (bts : List Nat) : okM (⟨7, num, nam, siz, off, sum, cod, bts⟩ : Ms) = true ↔ (num ≠ 0 ∧ nam.size = 0 ∧ siz = 0 ∧ sum = 0 ∧ cod = 0 ∧ bts.length ≤ 256 ∧ off = 0) := by
  have hn := nam_zero nam
  simp only [okM, sameM, cntM, rightM, inB, lst, show fld 7 = 32 from rfl, show hs 32 1 = false from rfl, show hs 32 2 = false from rfl, show hs 32 4 = false from rfl, show hs 32 8 = false from rfl, show hs 32 16 = false from rfl, show hs 32 32 = true from rfl, Bool.and_eq_true, decide_eq_true_eq, if_true, if_false, Bool.false_eq_true, true_and, and_true, hn]
  omega
theorem ok_8 (num : Nat) (nam : ByteArray) (siz off : Int) (sum : Nat) (cod : Int) (bts : List Nat) : okM (⟨8, num, nam, siz, off, sum, cod, bts⟩ : Ms) = true ↔ (num ≠ 0 ∧ nam.size = 0 ∧ siz = 0 ∧ sum = 0 ∧ (0 ≤ cod ∧ cod ≤ 255) ∧ bts.length ≤ 256 ∧ off = 0) := by
  have hn := nam_zero nam
  simp only [okM, sameM, cntM, rightM, inB, lst, show fld 8 = 48 from rfl, show hs 48 1 = false from rfl, show hs 48 2 = false from rfl, show hs 48 4 = false from rfl, show hs 48 8 = false from rfl, show hs 48 16 = true from rfl, show hs 48 32 = true from rfl, Bool.and_eq_true, decide_eq_true_eq, if_true, if_false, Bool.false_eq_true, true_and, and_true, hn]
  omega
end Go.Proofs.Ytfkkaihnmnjadaa
