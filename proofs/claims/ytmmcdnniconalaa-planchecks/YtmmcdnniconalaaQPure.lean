/- The way that arrives earliest: what the reference reckons, what the program reckons, and that both are the same: pure. -/
import Derived.Test.YtmmcdnniconalaaQCheck
namespace Go.Proofs.Ytmmcdnniconalaa
open Go.RowKit
set_option linter.unusedVariables false

def gt (A : List Int) (v : Nat) : Int := A.getD v 0
def gb (S : List Bool) (v : Nat) : Bool := S.getD v false
theorem gt_set {A : List Int} {u v : Nat} {x : Int} (hu : u < A.length) : gt (A.set u x) v = if v = u then x else gt A v := by
  unfold gt
  rw [List.getD_eq_getElem?_getD, List.getD_eq_getElem?_getD]
  by_cases h : v = u
  · subst h; rw [List.getElem?_set_self hu, if_pos rfl]; rfl
  · rw [List.getElem?_set_ne (Ne.symm h), if_neg h]
theorem gb_set {S : List Bool} {u v : Nat} {x : Bool} (hu : u < S.length) : gb (S.set u x) v = if v = u then x else gb S v := by
  unfold gb
  rw [List.getD_eq_getElem?_getD, List.getD_eq_getElem?_getD]
  by_cases h : v = u
  · subst h; rw [List.getElem?_set_self hu, if_pos rfl]; rfl
  · rw [List.getElem?_set_ne (Ne.symm h), if_neg h]

def far : Int := 1099511627776
/-- a contact by which one goes, in the reference's way. -/
def rlx (need : Int) (A : List Int) (c : Ct) (l : Int) : List Int :=
  if c.en ≤ gt A c.frm.toNat ∨ l < need then A else if max (gt A c.frm.toNat) c.st + c.dl + 1 < gt A c.to.toNat then A.set c.to.toNat (max (gt A c.frm.toNat) c.st + c.dl + 1) else A
/-- what is left of the first k. -/
def rndK (need : Int) (X : List Ct) (L : List Int) (A : List Int) : Nat → List Int
  | 0 => A
  | k + 1 => match X[k]?, L[k]? with
    | some c, some l => rlx need (rndK need X L A k) c l
    | _, _ => rndK need X L A k
def rnd (need : Int) (X : List Ct) (L : List Int) (A : List Int) : List Int := rndK need X L A X.length
def rnds (need : Int) (X : List Ct) (L : List Int) (A : List Int) : Nat → List Int
  | 0 => A
  | k + 1 => rnd need X L (rnds need X L A k)
def ini (src : Nat) (t : Int) : List Int := (List.replicate 7 far).set src t
def arrs (X : List Ct) (L : List Int) (src : Nat) (t need : Int) : List Int := rnds need X L (ini src t) 8

/-- a contact of a plan that may be. -/
structure OkC (n : Int) (c : Ct) : Prop where
  f1 : 1 ≤ c.frm
  f2 : c.frm ≤ n
  t1 : 1 ≤ c.to
  t2 : c.to ≤ n
  ne : c.frm ≠ c.to
  s0 : 0 ≤ c.st
  se : c.st < c.en
  e2 : c.en ≤ 1048576
  r1 : 1 ≤ c.rt
  r2 : c.rt ≤ 4096
  d0 : 0 ≤ c.dl
  d2 : c.dl ≤ 4096
theorem okC_of {c : Ct} {n : Int} (h : okC c n = true) : OkC n c := by
  simp only [okC, wi, Bool.and_eq_true, decide_eq_true_eq] at h
  obtain ⟨⟨a1, a2⟩, ⟨a3, a4⟩, a5, a6, a7, a8, ⟨a9, b1⟩, b2, b3⟩ := h
  exact ⟨a1, a2, a3, a4, a5, a6, a7, a8, a9, b1, b2, b3⟩
/-- a plan that may be. -/
structure OkX (n : Int) (X : List Ct) : Prop where
  n2 : 2 ≤ n
  n6 : n ≤ 6
  len : X.length ≤ 24
  each : ∀ (k : Nat) (c : Ct), X[k]? = some c → OkC n c
theorem okP_of {n : Int} {X : List Ct} (h : okP n X = true) : OkX n X := by
  simp only [okP, wi, Bool.and_eq_true, decide_eq_true_eq] at h
  obtain ⟨⟨h1, h2⟩, h3, h4⟩ := h
  refine ⟨h1, h2, h3, fun k c hc => ?_⟩
  have hl := (List.getElem?_eq_some_iff.1 hc).1
  have := okK_le (k := k + 1) (by omega) h4
  rw [okK_succ hc] at this
  simp only [Bool.and_eq_true] at this
  exact okC_of this.2.1

section
variable {n : Int} {X : List Ct} {L : List Int} {need : Int}
theorem OkC.fi {c : Ct} (h : OkC n c) (h6 : n ≤ 6) : c.frm.toNat < 7 ∧ c.to.toNat < 7 ∧ c.frm.toNat ≠ c.to.toNat ∧ 0 < c.frm.toNat ∧ 0 < c.to.toNat := by
  have := h.f1; have := h.f2; have := h.t1; have := h.t2; have := h.ne
  omega
theorem rlx_len {A : List Int} {c : Ct} {l : Int} : (rlx need A c l).length = A.length := by
  unfold rlx
  split
  · rfl
  · split
    · simp
    · rfl
theorem rndK_len {A : List Int} (k : Nat) : (rndK need X L A k).length = A.length := by
  induction k with
  | zero => rfl
  | succ k ih =>
    rw [rndK]
    split
    · rw [rlx_len, ih]
    · exact ih
theorem rnds_len {A : List Int} (k : Nat) : (rnds need X L A k).length = A.length := by
  induction k with
  | zero => rfl
  | succ k ih => rw [rnds, rnd, rndK_len, ih]
theorem ini_len (src : Nat) (t : Int) : (ini src t).length = 7 := by simp [ini]
theorem gt_ini {src v : Nat} {t : Int} (hs : src < 7) (hv : v < 7) : gt (ini src t) v = if v = src then t else far := by
  unfold ini
  rw [gt_set (by simpa using hs)]
  by_cases h : v = src
  · rw [if_pos h, if_pos h]
  · rw [if_neg h, if_neg h]
    unfold gt
    rw [List.getD_eq_getElem?_getD, List.getElem?_replicate, if_pos hv]
    rfl
theorem rlx_le {A : List Int} {c : Ct} {l : Int} (hA : A.length = 7) (hc : c.to.toNat < 7) (v : Nat) : gt (rlx need A c l) v ≤ gt A v := by
  unfold rlx
  split
  · exact Int.le_refl _
  · split
    · rw [gt_set (by omega)]
      split
      · subst v; omega
      · exact Int.le_refl _
    · exact Int.le_refl _
theorem rndK_le (hX : OkX n X) {A : List Int} (hA : A.length = 7) (k : Nat) (v : Nat) : gt (rndK need X L A k) v ≤ gt A v := by
  induction k with
  | zero => exact Int.le_refl _
  | succ k ih =>
    rw [rndK]
    split
    · rename_i c l hc hl
      exact Int.le_trans (rlx_le (by rw [rndK_len, hA]) ((hX.each _ _ hc).fi hX.n6).2.1 v) ih
    · exact ih
theorem rndK_mono (hX : OkX n X) {A : List Int} (hA : A.length = 7) {k m : Nat} (h : k ≤ m) (v : Nat) : gt (rndK need X L A m) v ≤ gt (rndK need X L A k) v := by
  obtain ⟨d, rfl⟩ : ∃ d, m = k + d := ⟨m - k, by omega⟩
  clear h
  induction d with
  | zero => exact Int.le_refl _
  | succ d ih =>
    rw [← Nat.add_assoc, rndK]
    split
    · rename_i c l hc hl
      exact Int.le_trans (rlx_le (by rw [rndK_len, hA]) ((hX.each _ _ hc).fi hX.n6).2.1 v) ih
    · exact ih
theorem rnds_mono (hX : OkX n X) {A : List Int} (hA : A.length = 7) {k m : Nat} (h : k ≤ m) (v : Nat) : gt (rnds need X L A m) v ≤ gt (rnds need X L A k) v := by
  obtain ⟨d, rfl⟩ : ∃ d, m = k + d := ⟨m - k, by omega⟩
  clear h
  induction d with
  | zero => exact Int.le_refl _
  | succ d ih =>
    rw [← Nat.add_assoc, rnds, rnd]
    exact Int.le_trans (rndK_le hX (by rw [rnds_len, hA]) _ v) ih
/-- a round goes by every contact. -/
theorem rnd_goes (hX : OkX n X) {A : List Int} (hA : A.length = 7) {i : Nat} {c : Ct} {l : Int} (hc : X[i]? = some c) (hl : L[i]? = some l) (hn : need ≤ l) (he : gt A c.frm.toNat < c.en) : gt (rnd need X L A) c.to.toNat ≤ max (gt A c.frm.toNat) c.st + c.dl + 1 := by
  have hi := (List.getElem?_eq_some_iff.1 hc).1
  have hf := (hX.each _ _ hc).fi hX.n6
  refine Int.le_trans (rndK_mono hX hA (k := i + 1) (by omega) _) ?_
  rw [rndK, hc, hl]
  simp only
  have h1 := rndK_le (need := need) (L := L) hX hA i c.frm.toNat
  unfold rlx
  rw [if_neg (by omega)]
  split
  · rw [gt_set (by rw [rndK_len]; omega), if_pos rfl]; omega
  · omega

/-- what the program's rounds keep. -/
structure Inv (X : List Ct) (L : List Int) (need : Int) (src : Nat) (t : Int) (k : Nat) (W : List Int) (S : List Bool) : Prop where
  wl : W.length = 7
  sl : S.length = 7
  cnt : S.count true = k
  s0 : gb S 0 = false
  w0 : gt W 0 = nvr
  bnd : ∀ v, v < 7 → gt W v = nvr ∨ (0 ≤ gt W v ∧ gt W v ≤ 2097152)
  beg : gt W src ≤ t
  all : t = nvr → ∀ v, v < 7 → gt W v = nvr
  low : t ≠ nvr → ∀ v, v < 7 → gt (rnds need X L (ini src t) k) v ≤ gt W v
  rel : ∀ u, u < 7 → gb S u = true → ∀ (i : Nat) (c : Ct) (l : Int), X[i]? = some c → L[i]? = some l → c.frm.toNat = u → need ≤ l → gt W c.to.toNat ≤ arr c (gt W u)
  ord : ∀ u v, u < 7 → v < 7 → gb S u = true → gb S v = false → gt W u ≤ gt W v
/-- the nearest one among the first i. -/
structure Near (W : List Int) (S : List Bool) (i near : Nat) : Prop where
  lt : near < 7
  nz : near ≠ 0 → gb S near = false ∧ gt W near < nvr
  min : ∀ v, v < i → gb S v = false → gt W near ≤ gt W v

theorem Near.zero {W : List Int} {S : List Bool} : Near W S 0 0 := ⟨by omega, fun h => absurd rfl h, fun v hv => by omega⟩
theorem le_nvr {W : List Int} (h : ∀ v, v < 7 → gt W v = nvr ∨ (0 ≤ gt W v ∧ gt W v ≤ 2097152)) {v : Nat} (hv : v < 7) : gt W v ≤ nvr := by
  rcases h v hv with h | h
  · omega
  · unfold nvr; omega
theorem Near.yes {W : List Int} {S : List Bool} {i near : Nat} (h : Near W S i near) (hb : ∀ v, v < 7 → gt W v = nvr ∨ (0 ≤ gt W v ∧ gt W v ≤ 2097152)) (hi : i < 7) (h1 : gb S i = false) (h2 : gt W i < gt W near) : Near W S (i + 1) i :=
  ⟨hi, fun _ => ⟨h1, Int.lt_of_lt_of_le h2 (le_nvr hb h.lt)⟩, fun v hv hs => by
    by_cases e : v = i
    · subst e; exact Int.le_refl _
    · have := h.min v (by omega) hs; omega⟩
theorem Near.no {W : List Int} {S : List Bool} {i near : Nat} (h : Near W S i near) (h2 : ¬ (gb S i = false ∧ gt W i < gt W near)) : Near W S (i + 1) near :=
  ⟨h.lt, h.nz, fun v hv hs => by
    by_cases e : v = i
    · subst e
      rcases Int.lt_or_le (gt W v) (gt W near) with hlt | hle
      · exact absurd ⟨hs, hlt⟩ h2
      · exact hle
    · exact h.min v (by omega) hs⟩
theorem rnds_far (hX : OkX n X) {src : Nat} {t : Int} (hs : src < 7) (ht : t ≤ 2097152) (k : Nat) {v : Nat} (hv : v < 7) : gt (rnds need X L (ini src t) k) v ≤ far := by
  refine Int.le_trans (rnds_mono hX (ini_len _ _) (Nat.zero_le k) v) ?_
  rw [rnds, gt_ini hs hv]
  split
  · unfold far; omega
  · exact Int.le_refl _
theorem count_6 {S : List Bool} (h : S.length = 7) (h0 : gb S 0 = false) : S.count true ≤ 6 := by
  match S, h with
  | [a, b, c, d, e, f, g], _ =>
    have : a = false := h0
    subst this
    cases b <;> cases c <;> cases d <;> cases e <;> cases f <;> cases g <;> decide
theorem count_set {S : List Bool} (h : S.length = 7) {u : Nat} (hu : u < 7) (h0 : gb S u = false) : (S.set u true).count true = S.count true + 1 := by
  rw [List.count_set (by omega)]
  have : S[u]'(by omega) = false := by
    unfold gb at h0
    rw [List.getD_eq_getElem?_getD, List.getElem?_eq_getElem (by omega)] at h0
    exact h0
  rw [this]
  simp
/-- where the rounds begin. -/
theorem Inv.start {src : Nat} {t : Int} (hs : src < 7) (h0 : src ≠ 0) (ht : t = nvr ∨ (0 ≤ t ∧ t ≤ 2097152)) : Inv X L need src t 0 ((List.replicate 7 nvr).set src t) (List.replicate 7 false) := by
  have hg : ∀ v, v < 7 → gt ((List.replicate 7 nvr).set src t) v = if v = src then t else nvr := fun v hv => by
    rw [gt_set (by simpa using hs)]
    by_cases h : v = src
    · rw [if_pos h, if_pos h]
    · rw [if_neg h, if_neg h]
      unfold gt
      rw [List.getD_eq_getElem?_getD, List.getElem?_replicate, if_pos hv]
      rfl
  have hb : ∀ v, gb (List.replicate 7 false) v = false := fun v => by
    unfold gb
    rw [List.getD_eq_getElem?_getD, List.getElem?_replicate]
    split <;> rfl
  refine ⟨by simp, by simp, by decide, hb 0, ?_, fun v hv => ?_, ?_, fun e v hv => ?_, fun e v hv => ?_, fun u _ hu => ?_, fun u v _ _ hu => ?_⟩
  · rw [hg 0 (by omega), if_neg (Ne.symm h0)]
  · rw [hg v hv]
    split
    · exact ht
    · exact .inl rfl
  · rw [hg src hs, if_pos rfl]; exact Int.le_refl _
  · rw [hg v hv, e]; split <;> rfl
  · rw [hg v hv, rnds, gt_ini hs hv]
    split
    · exact Int.le_refl _
    · unfold far nvr; omega
  · rw [hb u] at hu; cases hu
  · rw [hb u] at hu; cases hu
theorem arr_mono {c : Ct} (h : OkC n c) {s t : Int} (hst : s ≤ t) : arr c s ≤ arr c t := by
  have := h.s0; have := h.se; have := h.e2; have := h.d2
  unfold arr nvr
  split
  · rw [if_pos (by omega)]; exact Int.le_refl _
  · split
    · omega
    · omega
theorem arr_gt {c : Ct} (h : OkC n c) {s : Int} (hs : s < nvr) : s < arr c s := by
  have := h.s0; have := h.se; have := h.e2; have := h.d0
  unfold arr
  split
  · exact hs
  · omega
theorem arr_bnd {c : Ct} (h : OkC n c) {s : Int} : arr c s = nvr ∨ (0 ≤ arr c s ∧ arr c s ≤ 2097152) := by
  have := h.s0; have := h.se; have := h.e2; have := h.d0; have := h.d2
  unfold arr
  split
  · exact .inl rfl
  · right; omega

/-- where the rounds end: the program has what the reference has. -/
theorem Inv.ends (hX : OkX n X) {src to : Nat} {t : Int} (hs : src < 7) (hto : to < 7) (ht : t = nvr ∨ (0 ≤ t ∧ t ≤ 2097152)) {k near : Nat} {W : List Int} {S : List Bool} (h : Inv X L need src t k W S) (hn : Near W S 7 near) (he : near = 0 ∨ near = to) :
    gt W to = if t = nvr then nvr else if gt (arrs X L src t need) to < far then gt (arrs X L src t need) to else nvr := by
  by_cases e : t = nvr
  · rw [if_pos e]; exact h.all e to hto
  · rw [if_neg e]
    have ht' : 0 ≤ t ∧ t ≤ 2097152 := ht.resolve_left e
    have hk : k ≤ 6 := by rw [← h.cnt]; exact count_6 h.sl h.s0
    have hle : gt (arrs X L src t need) to ≤ gt W to := Int.le_trans (rnds_mono hX (ini_len _ _) (show k ≤ 8 by omega) to) (h.low e to hto)
    have hfar : gt (arrs X L src t need) to ≤ far := rnds_far hX hs ht'.2 8 hto
    -- what the reference reckons is never earlier than what the program has
    have key : ∀ A : List Int, A.length = 7 → (∀ v, v < 7 → gt A v = far ∨ gt W v ≤ gt A v ∨ gt W near ≤ gt A v) → ∀ (i : Nat) (c : Ct) (l : Int), X[i]? = some c → L[i]? = some l → ∀ v, v < 7 → gt (rlx need A c l) v = far ∨ gt W v ≤ gt (rlx need A c l) v ∨ gt W near ≤ gt (rlx need A c l) v := by
      intro A hA hP i c l hc hl v hv
      have hok := hX.each _ _ hc
      have hf := hok.fi hX.n6
      unfold rlx
      split
      · exact hP v hv
      · rename_i hg
        split
        · rw [gt_set (by omega)]
          split
          · rename_i hvt
            right
            have h1 : gt A c.frm.toNat < c.en := by omega
            have h2 : need ≤ l := by omega
            have := hok.e2; have := hok.d0; have := hok.s0
            rcases hP c.frm.toNat hf.1 with q | q | q
            · unfold far at q; omega
            · by_cases hS : gb S c.frm.toNat = true
              · left
                have hr := h.rel _ hf.1 hS i c l hc hl rfl h2
                have : arr c (gt W c.frm.toNat) = max (gt W c.frm.toNat) c.st + c.dl + 1 := by unfold arr; rw [if_neg (by omega)]
                rw [hvt]
                omega
              · right
                have := hn.min _ hf.1 (by simpa using hS)
                omega
            · right; omega
          · exact hP v hv
        · exact hP v hv
    have keyK : ∀ A : List Int, A.length = 7 → (∀ v, v < 7 → gt A v = far ∨ gt W v ≤ gt A v ∨ gt W near ≤ gt A v) → ∀ j v, v < 7 → gt (rndK need X L A j) v = far ∨ gt W v ≤ gt (rndK need X L A j) v ∨ gt W near ≤ gt (rndK need X L A j) v := by
      intro A hA hP j
      induction j with
      | zero => exact hP
      | succ j ih =>
        rw [rndK]
        split
        · rename_i c l hc hl
          exact key _ (by rw [rndK_len, hA]) ih j c l hc hl
        · exact ih
    have keyR : ∀ j v, v < 7 → gt (rnds need X L (ini src t) j) v = far ∨ gt W v ≤ gt (rnds need X L (ini src t) j) v ∨ gt W near ≤ gt (rnds need X L (ini src t) j) v := by
      intro j
      induction j with
      | zero =>
        intro v hv
        rw [rnds, gt_ini hs hv]
        split
        · subst v; exact .inr (.inl h.beg)
        · exact .inl rfl
      | succ j ih =>
        rw [rnds, rnd]
        exact keyK _ (by rw [rnds_len, ini_len]) ih _
    have hfin := keyR 8 to hto
    change gt (arrs X L src t need) to = far ∨ gt W to ≤ gt (arrs X L src t need) to ∨ gt W near ≤ gt (arrs X L src t need) to at hfin
    have hW : gt (arrs X L src t need) to = far ∨ gt W to ≤ gt (arrs X L src t need) to := by
      rcases hfin with q | q | q
      · exact .inl q
      · exact .inr q
      · rcases he with rfl | rfl
        · rw [h.w0] at q
          unfold nvr at q; unfold far at hfar; omega
        · exact .inr q
    rcases hW with q | q
    · rw [if_neg (by omega)]
      rcases h.bnd to hto with b | b
      · exact b
      · unfold far at q; omega
    · rcases Int.lt_or_le (gt (arrs X L src t need) to) far with hlt | hge
      · rw [if_pos hlt]; omega
      · rw [if_neg (by omega)]
        rcases h.bnd to hto with b | b
        · exact b
        · unfold far at hge; omega
end
end Go.Proofs.Ytmmcdnniconalaa
