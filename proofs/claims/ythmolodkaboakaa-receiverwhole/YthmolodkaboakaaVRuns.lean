/- Rows put together, and rows gathered byte by byte, are the same: pure. -/
import Derived.Test.YthmolodkaboakaaVCov
namespace Go.Proofs.Ythmolodkaboakaa
open Go.RowKit
set_option linter.unusedVariables false
def togP : List (Int × Int) → Int → Int → List (Int × Int)
  | [], x, y => [(x, y)]
  | r :: rs, x, y => if r.1 + r.2 < x then r :: togP rs x y else if x + y < r.1 then (x, y) :: togP rs r.1 r.2 else togP rs (min r.1 x) (max (r.1 + r.2) (x + y) - min r.1 x)
theorem tog_cls {u : Int} : ∀ (l : List (Int × Int)) (x y least : Int), clsOk u least l = true → least ≤ x → 1 ≤ y → x + y ≤ u → clsOk u least (togP l x y) = true
  | [], x, y, least, _, h1, h2, h3 => cls_mk h1 h2 h3 rfl
  | r :: rs, x, y, least, h, h1, h2, h3 => by
    obtain ⟨r1, r2, r3, r4⟩ := cls_parts h
    rw [togP]
    split
    · exact cls_mk r1 r2 r3 (tog_cls rs x y _ r4 (by omega) h2 h3)
    · split
      · refine cls_mk h1 h2 h3 (tog_cls rs r.1 r.2 _ (cls_low ?_ r4) (by show x + y + 1 ≤ r.1; omega) r2 r3)
        show x + y + 1 ≤ _
        omega
      · exact tog_cls rs _ _ _ (cls_low (by omega) r4) (by omega) (by omega) (by omega)
theorem tog_cov {u : Int} : ∀ (l : List (Int × Int)) (x y least i : Int), clsOk u least l = true → 1 ≤ y → cov (togP l x y) i = (cov l i || (decide (x ≤ i) && decide (i < x + y)))
  | [], x, y, least, i, _, _ => by simp [togP, cov]
  | r :: rs, x, y, least, i, h, h2 => by
    obtain ⟨r1, r2, r3, r4⟩ := cls_parts h
    rw [togP]
    split
    · rw [cov, tog_cov rs x y _ i r4 h2, cov, Bool.or_assoc]
    · split
      · rw [cov, tog_cov rs r.1 r.2 _ i r4 r2, cov]
        cases decide (x ≤ i) && decide (i < x + y) <;> cases cov rs i <;> simp
      · rename_i c1 c2
        rw [tog_cov rs _ _ _ i r4 (by omega), cov]
        have e : (decide (min r.1 x ≤ i) && decide (i < min r.1 x + (max (r.1 + r.2) (x + y) - min r.1 x))) = ((decide (r.1 ≤ i) && decide (i < r.1 + r.2)) || (decide (x ≤ i) && decide (i < x + y))) := by
          rw [Bool.eq_iff_iff]
          simp only [Bool.and_eq_true, Bool.or_eq_true, decide_eq_true_eq]
          omega
        rw [e]
        cases cov rs i <;> cases decide (r.1 ≤ i) && decide (i < r.1 + r.2) <;> simp
/-- rows gathered byte by byte. -/
def snoc (l : List (Int × Int)) (k : Int) : List (Int × Int) :=
  match l.getLast? with
  | none => [(k, 1)]
  | some r => if r.1 + r.2 = k then l.dropLast ++ [(r.1, r.2 + 1)] else l ++ [(k, 1)]
def runs (C : Nat → Bool) : Nat → List (Int × Int)
  | 0 => []
  | k + 1 => if C k then snoc (runs C k) k else runs C k
theorem last_split {l : List (Int × Int)} {r : Int × Int} (h : l.getLast? = some r) : l = l.dropLast ++ [r] := by
  obtain ⟨h0, h1⟩ := List.getLast?_eq_some_iff.1 h
  rw [h1]
  simp
theorem runs_is {u : Nat} (C : Nat → Bool) : ∀ k, k ≤ u → clsOk (u : Int) 0 (runs C k) = true ∧ nxt 0 (runs C k) ≤ (k : Int) + 1 ∧ (∀ i : Int, cov (runs C k) i = (decide (0 ≤ i) && (decide (i < (k : Int)) && C i.toNat)))
  | 0, _ => by
    refine ⟨rfl, by simp [runs, nxt], fun i => ?_⟩
    simp only [runs, cov]
    by_cases h : 0 ≤ i
    · rw [decide_eq_false (show ¬ i < ((0 : Nat) : Int) by omega)]; simp
    · rw [decide_eq_false h]; rfl
  | k + 1, hk => by
    obtain ⟨h1, h2, h3⟩ := runs_is (u := u) C k (by omega)
    rw [runs]
    have hc : ∀ i : Int, ((k : Int) = i ∧ C k = true ∨ (i ≠ (k : Int))) ∨ (i = (k : Int) ∧ C k = false) := fun i => by
      by_cases e : i = (k : Int)
      · cases hC : C k with
        | true => exact .inl (.inl ⟨e.symm, rfl⟩)
        | false => exact .inr ⟨e, rfl⟩
      · exact .inl (.inr e)
    have step : ∀ i : Int, (decide (0 ≤ i) && (decide (i < ((k + 1 : Nat) : Int)) && C i.toNat)) = ((decide (0 ≤ i) && (decide (i < (k : Int)) && C i.toNat)) || (decide (i = (k : Int)) && C k)) := fun i => by
      by_cases e : i = (k : Int)
      · subst e
        rw [decide_eq_true (show (0 : Int) ≤ (k : Int) by omega), decide_eq_true (show (k : Int) < ((k + 1 : Nat) : Int) by omega), decide_eq_false (show ¬ (k : Int) < (k : Int) by omega), Int.toNat_natCast]
        simp
      · rw [decide_eq_false e]
        have : decide (i < ((k + 1 : Nat) : Int)) = decide (i < (k : Int)) := decide_eq_decide.2 (by omega)
        rw [this]
        simp
    cases hC : C k with
    | false =>
      rw [if_neg (by simp)]
      refine ⟨h1, by push_cast; omega, fun i => ?_⟩
      rw [h3, step, hC]
      simp
    | true =>
      rw [if_pos rfl]
      have hS : ∀ i, cov (runs C k) i = true → i < (k : Int) := fun i hi => by
        rw [h3] at hi
        simp only [Bool.and_eq_true, decide_eq_true_eq] at hi
        exact hi.2.1
      unfold snoc
      cases hl : (runs C k).getLast? with
      | none =>
        have e0 : runs C k = [] := List.getLast?_eq_none_iff.1 hl
        refine ⟨cls_mk (by show (0 : Int) ≤ (k : Int); omega) (by show (1 : Int) ≤ 1; omega) (by show (k : Int) + 1 ≤ u; omega) rfl, by simp [nxt], fun i => ?_⟩
        rw [step, ← h3, e0, hC]
        simp only [cov, Bool.or_false, Bool.false_or, Bool.and_true]
        rw [Bool.eq_iff_iff]
        simp only [Bool.and_eq_true, decide_eq_true_eq]
        omega
      | some r =>
        have e0 := last_split hl
        generalize hL : (runs C k).dropLast = L at *
        have h1' := h1
        rw [e0, cls_append, Bool.and_eq_true] at h1'
        obtain ⟨p1, p2⟩ := h1'
        obtain ⟨q1, q2, q3, _⟩ := cls_parts p2
        have hend : r.1 + r.2 ≤ (k : Int) := by
          have := hS (r.1 + r.2 - 1) (by rw [e0, cov_append, cov_in (r := r) (by omega) (by omega)]; simp)
          omega
        by_cases c : r.1 + r.2 = (k : Int)
        · simp only [if_pos c]
          refine ⟨?_, ?_, fun i => ?_⟩
          · rw [cls_append, p1, cls_mk (r := (r.1, r.2 + 1)) q1 (by show 1 ≤ r.2 + 1; omega) (by show r.1 + (r.2 + 1) ≤ u; omega) rfl]
            rfl
          · rw [nxt_append]
            show r.1 + (r.2 + 1) + 1 ≤ _
            push_cast
            omega
          · rw [step, ← h3, hC, cov_append]
            conv => rhs; rw [e0, cov_append]
            rw [Bool.or_assoc]
            congr 1
            simp only [cov, Bool.or_false, Bool.and_true]
            rw [Bool.eq_iff_iff]
            simp only [Bool.and_eq_true, Bool.or_eq_true, decide_eq_true_eq]
            omega
        · simp only [if_neg c]
          have hn : nxt 0 (runs C k) ≤ (k : Int) := by
            rw [e0, nxt_append]
            show r.1 + r.2 + 1 ≤ _
            omega
          refine ⟨?_, ?_, fun i => ?_⟩
          · rw [cls_append, h1, cls_mk (r := ((k : Int), 1)) (by show nxt 0 (runs C k) ≤ (k : Int); exact hn) (by show (1 : Int) ≤ 1; omega) (by show (k : Int) + 1 ≤ u; omega) rfl]
            rfl
          · rw [nxt_append]
            show (k : Int) + 1 + 1 ≤ _
            push_cast
            omega
          · rw [step, ← h3, hC, cov_append]
            congr 1
            simp only [cov, Bool.or_false, Bool.and_true]
            rw [Bool.eq_iff_iff]
            simp only [Bool.and_eq_true, decide_eq_true_eq]
            omega
/-- what together makes is what is gathered byte by byte. -/
theorem tog_runs {u : Nat} {l : List (Int × Int)} {x y : Int} (h : clsOk (u : Int) 0 l = true) (hx : 0 ≤ x) (hy : 1 ≤ y) (hu : x + y ≤ u) (C : Nat → Bool) (hC : ∀ i : Nat, i < u → C i = (cov l i || (decide (x ≤ (i : Int)) && decide ((i : Int) < x + y)))) : runs C u = togP l x y := by
  obtain ⟨h1, _, h3⟩ := runs_is (u := u) C u (Nat.le_refl _)
  have hT := tog_cls l x y 0 h hx hy hu
  refine cov_uniq h1 hT (fun i => ?_)
  rw [h3, tog_cov l x y 0 i h hy]
  by_cases i0 : 0 ≤ i
  · by_cases i1 : i < (u : Int)
    · rw [decide_eq_true i0, decide_eq_true i1, hC i.toNat (by omega)]
      rw [show ((i.toNat : Nat) : Int) = i by omega]
      rfl
    · rw [decide_eq_false i1, cov_above h (by omega), decide_eq_false (show ¬ i < x + y by omega)]
      simp
  · rw [decide_eq_false i0, cov_below h (by omega), decide_eq_false (show ¬ x ≤ i by omega)]
    rfl
end Go.Proofs.Ythmolodkaboakaa
