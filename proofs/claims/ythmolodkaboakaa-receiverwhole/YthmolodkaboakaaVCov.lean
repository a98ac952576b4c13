/- Rows of bytes that have come in, as sets: pure. -/
import Derived.Test.YthmolodkaboakaaTPure
namespace Go.Proofs.Ythmolodkaboakaa
open Go.RowKit
set_option linter.unusedVariables false
/-- has the byte come in? -/
def cov : List (Int × Int) → Int → Bool
  | [], _ => false
  | r :: rs, i => (decide (r.1 ≤ i) && decide (i < r.1 + r.2)) || cov rs i
theorem cov_cons (r : Int × Int) (rs : List (Int × Int)) (i : Int) : cov (r :: rs) i = ((decide (r.1 ≤ i) && decide (i < r.1 + r.2)) || cov rs i) := rfl
theorem cov_append : ∀ (l m : List (Int × Int)) (i : Int), cov (l ++ m) i = (cov l i || cov m i)
  | [], m, i => by simp [cov]
  | r :: rs, m, i => by simp [cov, cov_append rs m i, Bool.or_assoc]
theorem cls_parts {u least : Int} {r : Int × Int} {rs : List (Int × Int)} (h : clsOk u least (r :: rs) = true) : least ≤ r.1 ∧ 1 ≤ r.2 ∧ r.1 + r.2 ≤ u ∧ clsOk u (r.1 + r.2 + 1) rs = true := by
  rw [clsOk] at h
  simp only [Bool.and_eq_true, Bool.not_eq_true', decide_eq_false_iff_not] at h
  obtain ⟨h1, h2, h3⟩ := h
  obtain ⟨h4, h5⟩ := inB_of h2
  exact ⟨by omega, by omega, by omega, h3⟩
theorem cls_mk {u least : Int} {r : Int × Int} {rs : List (Int × Int)} (h1 : least ≤ r.1) (h2 : 1 ≤ r.2) (h3 : r.1 + r.2 ≤ u) (h4 : clsOk u (r.1 + r.2 + 1) rs = true) : clsOk u least (r :: rs) = true := by
  rw [clsOk, h4]
  have : inB r.2 1 (u - r.1) = true := by unfold inB; simp; omega
  rw [this, decide_eq_false (show ¬ r.1 < least by omega)]
  rfl
theorem cls_low {u : Int} : ∀ {l : List (Int × Int)} {a b : Int}, b ≤ a → clsOk u a l = true → clsOk u b l = true
  | [], _, _, _, _ => rfl
  | r :: rs, a, b, hb, h => by
    obtain ⟨h1, h2, h3, h4⟩ := cls_parts h
    exact cls_mk (by omega) h2 h3 h4
theorem cov_below {u : Int} : ∀ {l : List (Int × Int)} {least : Int} {i : Int}, clsOk u least l = true → i < least → cov l i = false
  | [], _, _, _, _ => rfl
  | r :: rs, least, i, h, hi => by
    obtain ⟨h1, h2, h3, h4⟩ := cls_parts h
    rw [cov, cov_below h4 (by omega), decide_eq_false (show ¬ r.1 ≤ i by omega)]
    rfl
theorem cov_above {u : Int} : ∀ {l : List (Int × Int)} {least : Int} {i : Int}, clsOk u least l = true → u ≤ i → cov l i = false
  | [], _, _, _, _ => rfl
  | r :: rs, least, i, h, hi => by
    obtain ⟨h1, h2, h3, h4⟩ := cls_parts h
    rw [cov, cov_above h4 hi, decide_eq_false (show ¬ i < r.1 + r.2 by omega)]
    simp
theorem cov_tail {u : Int} {r : Int × Int} {rs : List (Int × Int)} {least i : Int} (h : clsOk u least (r :: rs) = true) (hi : r.1 + r.2 < i) : cov (r :: rs) i = cov rs i := by
  rw [cov, decide_eq_false (show ¬ i < r.1 + r.2 by omega)]
  simp
theorem cov_end {u : Int} {r : Int × Int} {rs : List (Int × Int)} {least : Int} (h : clsOk u least (r :: rs) = true) : cov (r :: rs) (r.1 + r.2) = false := by
  obtain ⟨h1, h2, h3, h4⟩ := cls_parts h
  rw [cov, cov_below h4 (by omega), decide_eq_false (show ¬ r.1 + r.2 < r.1 + r.2 by omega)]
  simp
theorem cov_in {r : Int × Int} {rs : List (Int × Int)} {i : Int} (h1 : r.1 ≤ i) (h2 : i < r.1 + r.2) : cov (r :: rs) i = true := by
  rw [cov, decide_eq_true h1, decide_eq_true h2]
  rfl
theorem cov_out {r : Int × Int} {rs : List (Int × Int)} {i : Int} {u least : Int} (h : clsOk u least (r :: rs) = true) (h1 : i < r.1) : cov (r :: rs) i = false := by
  obtain ⟨_, h2, h3, h4⟩ := cls_parts h
  rw [cov, cov_below h4 (by omega), decide_eq_false (show ¬ r.1 ≤ i by omega)]
  rfl
/-- rows that say the same are the same. -/
theorem cov_uniq {u : Int} : ∀ {l m : List (Int × Int)} {a b : Int}, clsOk u a l = true → clsOk u b m = true → (∀ i, cov l i = cov m i) → l = m
  | [], [], _, _, _, _, _ => rfl
  | [], q :: qs, _, _, _, hm, h => by
    obtain ⟨_, h2, _, _⟩ := cls_parts hm
    have := h q.1
    rw [cov_in (Int.le_refl _) (by omega)] at this
    cases this
  | r :: rs, [], _, _, hl, _, h => by
    obtain ⟨_, h2, _, _⟩ := cls_parts hl
    have := h r.1
    rw [cov_in (Int.le_refl _) (by omega)] at this
    cases this
  | r :: rs, q :: qs, a, b, hl, hm, h => by
    obtain ⟨_, r2, r3, r4⟩ := cls_parts hl
    obtain ⟨_, q2, q3, q4⟩ := cls_parts hm
    have e1 : r.1 = q.1 := by
      rcases Int.lt_trichotomy r.1 q.1 with c | c | c
      · have := h r.1
        rw [cov_in (Int.le_refl _) (by omega), cov_out hm c] at this
        cases this
      · exact c
      · have := h q.1
        rw [cov_in (r := q) (Int.le_refl _) (by omega), cov_out hl c] at this
        cases this
    have e2 : r.2 = q.2 := by
      rcases Int.lt_trichotomy r.2 q.2 with c | c | c
      · have := h (r.1 + r.2)
        rw [cov_end hl, cov_in (r := q) (by omega) (by omega)] at this
        cases this
      · exact c
      · have := h (q.1 + q.2)
        rw [cov_end hm, cov_in (r := r) (by omega) (by omega)] at this
        cases this
    have e : r = q := Prod.ext e1 e2
    subst e
    rw [cov_uniq r4 q4 (fun i => ?_)]
    by_cases c : r.1 + r.2 < i
    · rw [← cov_tail hl c, ← cov_tail hm c, h]
    · rw [cov_below r4 (by omega), cov_below q4 (by omega)]
/-- where the next row may begin. -/
def nxt : Int → List (Int × Int) → Int
  | least, [] => least
  | _, r :: rs => nxt (r.1 + r.2 + 1) rs
theorem cls_append (u : Int) : ∀ (l m : List (Int × Int)) (least : Int), clsOk u least (l ++ m) = (clsOk u least l && clsOk u (nxt least l) m)
  | [], m, least => by simp [clsOk, nxt]
  | r :: rs, m, least => by simp [clsOk, nxt, cls_append u rs m, Bool.and_assoc]
theorem nxt_append : ∀ (l m : List (Int × Int)) (least : Int), nxt least (l ++ m) = nxt (nxt least l) m
  | [], m, least => rfl
  | r :: rs, m, least => by simp [nxt, nxt_append rs m]
/-- how many bytes the rows have. -/
def sumN : List (Int × Int) → Int
  | [] => 0
  | r :: rs => r.2 + sumN rs
theorem sumN_append : ∀ (l m : List (Int × Int)), sumN (l ++ m) = sumN l + sumN m
  | [], m => by simp [sumN]
  | r :: rs, m => by simp [sumN, sumN_append rs m]; omega
theorem sumN_take {l : List (Int × Int)} {k : Nat} (h : k < l.length) : sumN (l.take (k + 1)) = sumN (l.take k) + l[k].2 := by
  rw [List.take_succ_eq_append_getElem h, sumN_append]; simp [sumN]
theorem sumN_le {u : Int} : ∀ {l : List (Int × Int)} {least : Int}, clsOk u least l = true → 0 ≤ sumN l ∧ (l = [] ∨ sumN l ≤ u - least - ((l.length : Int) - 1))
  | [], _, _ => by simp [sumN]
  | r :: rs, least, h => by
    obtain ⟨h1, h2, h3, h4⟩ := cls_parts h
    obtain ⟨p, q⟩ := sumN_le h4
    simp only [sumN]
    refine ⟨by omega, .inr ?_⟩
    rcases q with q | q
    · subst q
      show r.2 + 0 ≤ u - least - (((0 + 1 : Nat) : Int) - 1)
      omega
    · simp only [List.length_cons]; push_cast; omega
theorem cls_take {u : Int} {l : List (Int × Int)} {least : Int} (h : clsOk u least l = true) (k : Nat) : clsOk u least (l.take k) = true := by
  have := cls_append u (l.take k) (l.drop k) least
  rw [List.take_append_drop, h] at this
  exact (Bool.and_eq_true .. ▸ this.symm).1
/-- all bytes: one row. -/
theorem sum_whole {u : Int} {l : List (Int × Int)} (hu : 1 ≤ u) (h : clsOk u 0 l = true) : sumN l = u ↔ l = [(0, u)] := by
  constructor
  · intro e
    obtain ⟨_, q⟩ := sumN_le h
    rcases q with rfl | q
    · simp [sumN] at e; omega
    · have h1 : l.length ≤ 1 := by omega
      match l, h1 with
      | [], _ => simp [sumN] at e; omega
      | [r], _ =>
        obtain ⟨a1, a2, a3, _⟩ := cls_parts h
        simp only [sumN] at e
        have e1 : r.1 = 0 := by omega
        have e2 : r.2 = u := by omega
        rw [← e1, ← e2]
  · rintro rfl
    simp [sumN]
/-- how many of the first k bytes have come in. -/
def cnt (l : List (Int × Int)) : Nat → Int
  | 0 => 0
  | k + 1 => cnt l k + (if cov l k then 1 else 0)
theorem cnt_nil : ∀ k, cnt [] k = 0
  | 0 => rfl
  | k + 1 => by simp [cnt, cnt_nil k, cov]
theorem cnt_one (x y : Int) (hx : 0 ≤ x) (hy : 0 ≤ y) : ∀ k : Nat, cnt [(x, y)] k = max 0 (min (k : Int) (x + y) - x)
  | 0 => by simp [cnt]; omega
  | k + 1 => by
    rw [cnt, cnt_one x y hx hy k]
    simp only [cov, Bool.or_false]
    by_cases h1 : x ≤ (k : Int) <;> by_cases h2 : (k : Int) < x + y <;> simp only [h1, h2, decide_true, decide_false, Bool.and_true, Bool.and_false, Bool.false_eq_true, if_true, if_false] <;> omega
theorem cnt_cons {u : Int} {r : Int × Int} {rs : List (Int × Int)} {least : Int} (h : clsOk u least (r :: rs) = true) : ∀ k, cnt (r :: rs) k = cnt [r] k + cnt rs k
  | 0 => rfl
  | k + 1 => by
    rw [cnt, cnt, cnt, cnt_cons h k]
    obtain ⟨h1, h2, h3, h4⟩ := cls_parts h
    have e : cov (r :: rs) k = (cov [r] k || cov rs k) := cov_append [r] rs k
    rw [e]
    cases h5 : cov rs k with
    | false => cases cov [r] k <;> simp <;> omega
    | true =>
      have h6 : cov [r] k = false := by
        simp only [cov, Bool.or_false]
        rw [Bool.and_eq_false_iff]
        refine .inr (decide_eq_false (fun c => ?_))
        rw [cov_below h4 (by omega)] at h5
        cases h5
      rw [h6]
      simp
      omega
theorem cnt_all {u : Nat} : ∀ {l : List (Int × Int)} {least : Int}, 0 ≤ least → clsOk u least l = true → cnt l u = sumN l
  | [], _, _, _ => cnt_nil _
  | r :: rs, least, h0, h => by
    obtain ⟨h1, h2, h3, h4⟩ := cls_parts h
    rw [cnt_cons h, cnt_all (by omega) h4, sumN, cnt_one r.1 r.2 (by omega) (by omega)]
    omega
theorem cnt_le (l : List (Int × Int)) : ∀ k : Nat, 0 ≤ cnt l k ∧ cnt l k ≤ k
  | 0 => by simp [cnt]
  | k + 1 => by
    have := cnt_le l k
    rw [cnt]
    split <;> push_cast <;> omega
end Go.Proofs.Ythmolodkaboakaa
