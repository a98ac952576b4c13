/- Bytes put in, byte by byte: pure. -/
import Derived.Test.YthmolodkaboakaaVRuns
import Derived.Test.YthmolodkaboakaaVPut
import Derived.Test.YthmolodkaboakaaVDif
namespace Go.Proofs.Ythmolodkaboakaa
open Go.RowKit
set_option linter.unusedVariables false
def ownJ (O : Nat) (d : List Nat) (j : Nat) : Bool := decide (O ≤ j) && decide (j < O + d.length)
def mixB (b : List Nat) (O : Nat) (d : List Nat) (k : Nat) : List Nat := (List.range b.length).map fun j => if (ownJ O d j && decide (j < k)) = true then d.getD (j - O) 0 else b.getD j 0
theorem mix_len (b : List Nat) (O : Nat) (d : List Nat) (k : Nat) : (mixB b O d k).length = b.length := by simp [mixB]
theorem mix_at (b : List Nat) (O : Nat) (d : List Nat) (k j : Nat) (h : j < b.length) : (mixB b O d k).getD j 0 = if (ownJ O d j && decide (j < k)) = true then d.getD (j - O) 0 else b.getD j 0 := by
  unfold mixB
  rw [List.getD_eq_getElem?_getD, List.getElem?_map, List.getElem?_range h]
  rfl
theorem getD_ext {l m : List Nat} (h1 : l.length = m.length) (h2 : ∀ j, j < l.length → l.getD j 0 = m.getD j 0) : l = m := by
  apply List.ext_getElem h1
  intro j hj hj2
  have := h2 j hj
  rw [List.getD_eq_getElem?_getD, List.getD_eq_getElem?_getD, List.getElem?_eq_getElem hj, List.getElem?_eq_getElem hj2] at this
  exact this
theorem mix_zero (b : List Nat) (O : Nat) (d : List Nat) : mixB b O d 0 = b := by
  refine getD_ext (mix_len _ _ _ _) (fun j hj => ?_)
  rw [mix_len] at hj
  rw [mix_at _ _ _ _ _ hj, if_neg (by simp)]
theorem mix_get {b : List Nat} {O : Nat} {d : List Nat} {k : Nat} (h : k < b.length) : (mixB b O d k).getD k 0 = b.getD k 0 := by
  rw [mix_at _ _ _ _ _ h, if_neg (by simp)]
theorem set_getD {l : List Nat} {k v j : Nat} (h : j < l.length) : (l.set k v).getD j 0 = if j = k then v else l.getD j 0 := by
  rw [List.getD_eq_getElem?_getD, List.getElem?_set]
  by_cases e : j = k
  · subst e
    rw [if_pos rfl, if_pos rfl, if_pos h]
    rfl
  · rw [if_neg (fun c => e c.symm), if_neg e, List.getD_eq_getElem?_getD]
theorem mix_own {b : List Nat} {O : Nat} {d : List Nat} {k : Nat} (h : k < b.length) (ho : ownJ O d k = true) : mixB b O d (k + 1) = (mixB b O d k).set k (d.getD (k - O) 0) := by
  refine getD_ext (by rw [List.length_set, mix_len, mix_len]) (fun j hj => ?_)
  rw [mix_len] at hj
  rw [mix_at _ _ _ _ _ hj]
  by_cases e : j = k
  · subst e
    rw [if_pos (by rw [ho]; simp), set_getD (by rw [mix_len]; exact hj), if_pos rfl]
  · rw [set_getD (by rw [mix_len]; exact hj), if_neg e, mix_at _ _ _ _ _ hj]
    have : decide (j < k + 1) = decide (j < k) := decide_eq_decide.2 (by omega)
    rw [this]
theorem mix_not {b : List Nat} {O : Nat} {d : List Nat} {k : Nat} (ho : ownJ O d k = false) : mixB b O d (k + 1) = mixB b O d k := by
  refine getD_ext (by rw [mix_len, mix_len]) (fun j hj => ?_)
  rw [mix_len] at hj
  rw [mix_at _ _ _ _ _ hj, mix_at _ _ _ _ _ hj]
  by_cases e : j = k
  · subst e
    rw [ho]; simp
  · have : decide (j < k + 1) = decide (j < k) := decide_eq_decide.2 (by omega)
    rw [this]
theorem mix_all {b : List Nat} {O : Nat} {d : List Nat} (h : O + d.length ≤ b.length) : mixB b O d b.length = putB b O d := by
  refine getD_ext (by rw [mix_len, putB_len h]) (fun j hj => ?_)
  rw [mix_len] at hj
  rw [mix_at _ _ _ _ _ hj, decide_eq_true hj, Bool.and_true]
  unfold putB ownJ
  have e1 : (b.take O ++ d).length = O + d.length := by simp; omega
  have e0 : (b.take O).length = O := by simp; omega
  by_cases c1 : j < O
  · rw [decide_eq_false (show ¬ O ≤ j by omega), if_neg (by simp)]
    rw [List.getD_eq_getElem?_getD, List.getD_eq_getElem?_getD, List.getElem?_append_left (by omega), List.getElem?_append_left (by omega), List.getElem?_take_of_lt c1]
  · rw [decide_eq_true (show O ≤ j by omega)]
    by_cases c2 : j < O + d.length
    · rw [decide_eq_true c2, if_pos (show (true && true) = true from rfl)]
      rw [List.getD_eq_getElem?_getD, List.getD_eq_getElem?_getD, List.getElem?_append_left (by omega), List.getElem?_append_right (by omega), e0]
    · rw [decide_eq_false c2, if_neg (by simp)]
      rw [List.getD_eq_getElem?_getD, List.getD_eq_getElem?_getD, List.getElem?_append_right (by omega), e1, List.getElem?_drop]
      rw [show O + d.length + (j - (O + d.length)) = j by omega]
theorem inC_cov (l : List (Int × Int)) (i : Int) : inC l i = cov l i := by
  induction l with
  | nil => rfl
  | cons r rs ih => rw [cov, ← ih]; simp [inC]
theorem getD_opt {l m : List Nat} {i j : Nat} (hi : i < l.length) (hj : j < m.length) : l[i]? = m[j]? ↔ l.getD i 0 = m.getD j 0 := by
  rw [List.getD_eq_getElem?_getD, List.getD_eq_getElem?_getD, List.getElem?_eq_getElem hi, List.getElem?_eq_getElem hj]
  simp
theorem dif_no {s : Tk} {x : Sg} {O : Nat} (hO : x.off = O) (hle : O + x.dat.length ≤ s.byt.length) (h : ∀ j, j < s.byt.length → cov s.got (j : Int) = true → ownJ O x.dat j = true → s.byt.getD j 0 = x.dat.getD (j - O) 0) : difK s x = false := by
  unfold difK
  rw [Bool.eq_false_iff]
  intro e
  obtain ⟨j, hj, e2⟩ := List.any_eq_true.1 e
  have hj2 : j < x.dat.length := by simpa using hj
  rw [hO, inC_cov] at e2
  simp only [Bool.and_eq_true, Bool.not_eq_true', decide_eq_false_iff_not, Int.toNat_natCast] at e2
  refine e2.2 ((getD_opt (by omega) hj2).2 ?_)
  have := h (O + j) (by omega) (by push_cast; exact e2.1) (by unfold ownJ; simp; omega)
  rw [show O + j - O = j by omega] at this
  exact this
theorem dif_yes {s : Tk} {x : Sg} {O k : Nat} (hO : x.off = O) (hk : k < s.byt.length) (h1 : cov s.got (k : Int) = true) (h2 : ownJ O x.dat k = true) (h3 : ¬ s.byt.getD k 0 = x.dat.getD (k - O) 0) : difK s x = true := by
  unfold ownJ at h2
  simp only [Bool.and_eq_true, decide_eq_true_eq] at h2
  unfold difK
  rw [List.any_eq_true]
  refine ⟨k - O, by simp; omega, ?_⟩
  rw [hO, inC_cov]
  simp only [Bool.and_eq_true, Bool.not_eq_true', decide_eq_false_iff_not, Int.toNat_natCast]
  refine ⟨by rw [show (O : Int) + ((k - O : Nat) : Int) = (k : Int) by omega]; exact h1, fun e => h3 ?_⟩
  rw [show O + (k - O) = k by omega] at e
  exact (getD_opt hk (by omega)).1 e
end Go.Proofs.Ythmolodkaboakaa
