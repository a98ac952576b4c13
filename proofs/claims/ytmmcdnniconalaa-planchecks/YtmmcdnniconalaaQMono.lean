/- With more that is left, less need, or earlier, one arrives no later: pure. -/
import Derived.Test.YtmmcdnniconalaaQRoute
namespace Go.Proofs.Ytmmcdnniconalaa
open Go.RowKit
set_option linter.unusedVariables false
section
variable {n : Int} {X : List Ct} {L L' : List Int} {need need' : Int}
theorem rlx_val {A : List Int} {c : Ct} {l : Int} (hA : A.length = 7) (hc : c.to.toNat < 7) (v : Nat) : gt (rlx need A c l) v = if v = c.to.toNat ∧ ¬ (c.en ≤ gt A c.frm.toNat ∨ l < need) then min (gt A v) (max (gt A c.frm.toNat) c.st + c.dl + 1) else gt A v := by
  unfold rlx
  by_cases h : c.en ≤ gt A c.frm.toNat ∨ l < need
  · rw [if_pos h, if_neg (fun q => q.2 h)]
  · rw [if_neg h]
    by_cases hv : v = c.to.toNat
    · subst hv
      have hR : (if c.to.toNat = c.to.toNat ∧ ¬ (c.en ≤ gt A c.frm.toNat ∨ l < need) then min (gt A c.to.toNat) (max (gt A c.frm.toNat) c.st + c.dl + 1) else gt A c.to.toNat) = min (gt A c.to.toNat) (max (gt A c.frm.toNat) c.st + c.dl + 1) := if_pos ⟨rfl, h⟩
      rw [hR]
      by_cases q : max (gt A c.frm.toNat) c.st + c.dl + 1 < gt A c.to.toNat
      · rw [if_pos q, gt_set (by omega), if_pos rfl]; omega
      · rw [if_neg q]; omega
    · have hR : (if v = c.to.toNat ∧ ¬ (c.en ≤ gt A c.frm.toNat ∨ l < need) then min (gt A v) (max (gt A c.frm.toNat) c.st + c.dl + 1) else gt A v) = gt A v := if_neg (fun q => hv q.1)
      rw [hR]
      by_cases q : max (gt A c.frm.toNat) c.st + c.dl + 1 < gt A c.to.toNat
      · rw [if_pos q, gt_set (by omega), if_neg hv]
      · rw [if_neg q]
theorem rlx_less {A A' : List Int} {c : Ct} {l l' : Int} (hc : OkC n c) (h6 : n ≤ 6) (hA : A.length = 7) (hA' : A'.length = 7) (hle : ∀ v, v < 7 → gt A' v ≤ gt A v) (hl : l ≤ l') (hn : need' ≤ need) : ∀ v, v < 7 → gt (rlx need' A' c l') v ≤ gt (rlx need A c l) v := by
  intro v hv
  have hfi := hc.fi h6
  have hf := hle c.frm.toNat hfi.1
  have hvv := hle v hv
  rw [rlx_val hA hfi.2.1, rlx_val hA' hfi.2.1]
  by_cases h : v = c.to.toNat ∧ ¬ (c.en ≤ gt A c.frm.toNat ∨ l < need)
  · rw [if_pos h, if_pos ⟨h.1, by omega⟩]; omega
  · rw [if_neg h]
    split <;> omega
theorem rndK_less (hX : OkX n X) (hL : L.length = L'.length) (hLL : ∀ (i : Nat) (l l' : Int), L[i]? = some l → L'[i]? = some l' → l ≤ l') (hn : need' ≤ need) {A A' : List Int} (hA : A.length = 7) (hA' : A'.length = 7) (hle : ∀ v, v < 7 → gt A' v ≤ gt A v) : ∀ k v, v < 7 → gt (rndK need' X L' A' k) v ≤ gt (rndK need X L A k) v := by
  intro k
  induction k with
  | zero => exact hle
  | succ k ih =>
    rw [rndK, rndK]
    cases hc : X[k]? with
    | none => exact ih
    | some c =>
      cases hl : L[k]? with
      | none =>
        have : L'[k]? = none := by rw [List.getElem?_eq_none_iff] at hl ⊢; omega
        rw [this]
        exact ih
      | some l =>
        obtain ⟨l', hl'⟩ : ∃ l', L'[k]? = some l' := ⟨_, List.getElem?_eq_getElem (by rw [← hL]; exact (List.getElem?_eq_some_iff.1 hl).1)⟩
        rw [hl']
        exact rlx_less (hX.each _ _ hc) hX.n6 (by rw [rndK_len, hA]) (by rw [rndK_len, hA']) ih (hLL k l l' hl hl') hn
theorem arrs_less (hX : OkX n X) (hL : L.length = L'.length) (hLL : ∀ (i : Nat) (l l' : Int), L[i]? = some l → L'[i]? = some l' → l ≤ l') (hn : need' ≤ need) {src : Nat} {t t' : Int} (hs : src < 7) (ht : t' ≤ t) (v : Nat) (hv : v < 7) : gt (arrs X L' src t' need') v ≤ gt (arrs X L src t need) v := by
  have key : ∀ k v, v < 7 → gt (rnds need' X L' (ini src t') k) v ≤ gt (rnds need X L (ini src t) k) v := by
    intro k
    induction k with
    | zero =>
      intro v hv
      rw [rnds, rnds, gt_ini hs hv, gt_ini hs hv]
      split
      · exact ht
      · exact Int.le_refl _
    | succ k ih =>
      rw [rnds, rnds, rnd, rnd]
      exact rndK_less hX hL hLL hn (by rw [rnds_len, ini_len]) (by rw [rnds_len, ini_len]) ih _
  exact key 8 v hv
theorem getD_le (hL : L.length = L'.length) (hLL : ∀ (i : Nat) (l l' : Int), L[i]? = some l → L'[i]? = some l' → l ≤ l') (k : Nat) : L.getD k 0 ≤ L'.getD k 0 := by
  rw [List.getD_eq_getElem?_getD, List.getD_eq_getElem?_getD]
  cases hl : L[k]? with
  | none =>
    have : L'[k]? = none := by rw [List.getElem?_eq_none_iff] at hl ⊢; omega
    rw [this]
    exact Int.le_refl _
  | some l =>
    obtain ⟨l', hl'⟩ : ∃ l', L'[k]? = some l' := ⟨_, List.getElem?_eq_getElem (by rw [← hL]; exact (List.getElem?_eq_some_iff.1 hl).1)⟩
    rw [hl']
    exact hLL k l l' hl hl'
theorem rte_less (hX : OkX n X) (hL : L.length = L'.length) (hLL : ∀ (i : Nat) (l l' : Int), L[i]? = some l → L'[i]? = some l' → l ≤ l') (hn : need' ≤ need) {frm to now now' : Int} (hto : to.toNat < 7) (hw : now' ≤ now) : ∀ k, (rteK X L' frm to now' need' k).2 ≤ (rteK X L frm to now need k).2
  | 0 => Int.le_refl _
  | k + 1 => by
    have ih := rte_less hX hL hLL hn (frm := frm) hto hw k
    rw [rteK, rteK]
    cases hc : X[k]? with
    | none => exact ih
    | some c =>
      simp only
      have hok := hX.each _ _ hc
      have hle := getD_le hL hLL k
      have ha := arrs_less hX hL hLL hn (src := c.to.toNat) (t := max now c.st + c.dl + 1) (t' := max now' c.st + c.dl + 1) (hok.fi hX.n6).2.1 (by omega) to.toNat hto
      by_cases h : c.frm ≠ frm ∨ c.en ≤ now ∨ L.getD k 0 < need
      · rw [if_pos h]
        split
        · exact ih
        · split
          · simp only; omega
          · exact ih
      · rw [if_neg h, if_neg (by omega)]
        split
        · split
          · simp only; omega
          · simp only; omega
        · split
          · simp only; omega
          · omega
/-- Route, with more left, less need, earlier. -/
theorem rt_less {nn : Int} {frm to now now' i t : Int} (hL : L.length = L'.length) (hLL : ∀ (i : Nat) (l l' : Int), L[i]? = some l → L'[i]? = some l' → l ≤ l') (h0 : ∀ l ∈ L', 0 ≤ l) (hn : need' ≤ need) (hn0 : 0 ≤ need → 0 ≤ need') (hw : now' ≤ now) (hw0 : 0 ≤ now → 0 ≤ now') (h : rtR nn X L frm to now need = (i, t, 0)) : ∃ i' u, rtR nn X L' frm to now' need' = (i', u, 0) ∧ u ≤ t := by
  by_cases h1 : okP nn X = true
  · have hX := okP_of h1
    by_cases h2 : okA X.length L nn frm to now need = true
    · obtain ⟨a1, a2, a3, a4, a5, a6, a7, a8, a9⟩ := okA_of h2
      have hto : to.toNat < 7 := by have := hX.n6; omega
      have hb := bgn_rte (L := L) (frm := frm) (to := to) (now := now) (need := need) hX X.length
      have hb' := bgn_rte (L := L') (frm := frm) (to := to) (now := now') (need := need') hX X.length
      by_cases h3 : (bgnK X L frm to now need X.length).2 = nvr
      · rw [rt_none h1 h2 h3] at h
        simp at h
      · rw [rt_yes h1 h2 h3] at h
        simp only [Prod.mk.injEq] at h
        obtain ⟨_, h5, _⟩ := h
        have hlt : (rteK X L frm to now need X.length).2 < far := by
          rcases Int.lt_or_le (rteK X L frm to now need X.length).2 far with q | q
          · exact q
          · have := hb.eq
            rw [if_neg (by omega)] at this
            rw [this] at h3
            exact absurd rfl h3
        have heq : bgnK X L frm to now need X.length = rteK X L frm to now need X.length := by rw [hb.eq, if_pos hlt]
        have hle := rte_less hX hL hLL hn (frm := frm) hto hw X.length
        have heq' : bgnK X L' frm to now' need' X.length = rteK X L' frm to now' need' X.length := by rw [hb'.eq, if_pos (by omega)]
        have h2' : okA X.length L' nn frm to now' need' = true := by
          simp only [okA, wi, Bool.and_eq_true, decide_eq_true_eq]
          refine ⟨by omega, hn0 a2, ?_, a3, ⟨a4, a5⟩, ⟨a6, a7⟩, hw0 a8, by omega⟩
          rw [List.all_eq_true]
          intro x hx
          simp [nng, h0 x hx]
        refine ⟨_, _, rt_yes h1 h2' ?_, ?_⟩
        · rw [heq']; have : far < nvr := by decide
          omega
        · rw [heq', ← h5, heq]; exact hle
    · rw [rt_arg h1 (by simpa using h2)] at h
      simp at h
  · rw [rt_no (by simpa using h1)] at h
    simp at h
theorem rt_zero {nn : Int} {frm to now i t e : Int} (h : rtR nn X L frm to now need = (i, t, e)) (he : e ≠ 0) : i = 0 ∧ t = 0 := by
  unfold rtR at h
  split at h
  · split at h
    · split at h
      · simp only [Prod.mk.injEq] at h; omega
      · simp only [Prod.mk.injEq] at h; omega
    · simp only [Prod.mk.injEq] at h; omega
  · simp only [Prod.mk.injEq] at h; omega
end
end Go.Proofs.Ytmmcdnniconalaa
