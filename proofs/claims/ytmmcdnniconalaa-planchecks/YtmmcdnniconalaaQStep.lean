/- A node is settled: what its contacts do to the arrivals; the way that begins: pure. -/
import Derived.Test.YtmmcdnniconalaaQPure
namespace Go.Proofs.Ytmmcdnniconalaa
open Go.RowKit
set_option linter.unusedVariables false

/-- the contacts among the first k that p lets by, with their places. -/
def ysK (p : Nat → Ct → Bool) (X : List Ct) : Nat → List (Nat × Ct)
  | 0 => []
  | k + 1 => ysK p X k ++ (match X[k]? with | some c => if p k c = true then [(k, c)] else [] | none => [])
def lvP (node : Int) : Nat → Ct → Bool := fun _ c => decide (c.frm = node)
def usP (L : List Int) (need node : Int) : Nat → Ct → Bool := fun i c => decide (c.frm = node) && decide (need ≤ L.getD i 0)
theorem ysK_succ {p : Nat → Ct → Bool} {X : List Ct} {k : Nat} {c : Ct} (h : X[k]? = some c) : ysK p X (k + 1) = ysK p X k ++ if p k c = true then [(k, c)] else [] := by rw [ysK, h]
theorem ysK_pre (p : Nat → Ct → Bool) (X : List Ct) {k m : Nat} (h : k ≤ m) : ysK p X k <+: ysK p X m := by
  obtain ⟨d, rfl⟩ : ∃ d, m = k + d := ⟨m - k, by omega⟩
  clear h
  induction d with
  | zero => exact List.prefix_refl _
  | succ d ih => exact ih.trans (by rw [← Nat.add_assoc, ysK]; exact List.prefix_append _ _)
theorem ysK_len (p : Nat → Ct → Bool) (X : List Ct) : ∀ k, (ysK p X k).length ≤ k
  | 0 => Nat.le_refl _
  | k + 1 => by
    have := ysK_len p X k
    rw [ysK, List.length_append]
    split
    · split
      · simp; omega
      · simp; omega
    · simp; omega
theorem ysK_mem {p : Nat → Ct → Bool} {X : List Ct} {y : Nat × Ct} : ∀ {m : Nat}, y ∈ ysK p X m → y.1 < m ∧ X[y.1]? = some y.2 ∧ p y.1 y.2 = true
  | 0, h => by simp [ysK] at h
  | m + 1, h => by
    rw [ysK] at h
    rcases List.mem_append.1 h with h | h
    · obtain ⟨a, b, c⟩ := ysK_mem h
      exact ⟨by omega, b, c⟩
    · split at h
      · rename_i c hc
        split at h
        · rename_i hp
          rw [List.mem_singleton] at h
          subst h
          exact ⟨by simp, hc, hp⟩
        · simp at h
      · simp at h
theorem ysK_in {p : Nat → Ct → Bool} {X : List Ct} {i m : Nat} {c : Ct} (hi : i < m) (hc : X[i]? = some c) (hp : p i c = true) : (i, c) ∈ ysK p X m := by
  have h1 : (i, c) ∈ ysK p X (i + 1) := by rw [ysK_succ hc, if_pos hp]; simp
  exact (ysK_pre p X (show i + 1 ≤ m by omega)).subset h1

section
variable {n : Int} {X : List Ct} {L : List Int} {need : Int}
/-- while the contacts of the nearest one are gone by. -/
structure Stp (X : List Ct) (L : List Int) (need : Int) (W : List Int) (near : Nat) (pre : List (Nat × Ct)) (V : List Int) : Prop where
  vl : V.length = 7
  nr : gt V near = gt W near
  bnd : ∀ v, v < 7 → gt V v = nvr ∨ (0 ≤ gt V v ∧ gt V v ≤ 2097152)
  le : ∀ v, v < 7 → gt V v ≤ gt W v
  got : ∀ y ∈ pre, gt V y.2.to.toNat ≤ arr y.2 (gt W near)
  val : ∀ v, v < 7 → gt V v = gt W v ∨ ∃ (i : Nat) (c : Ct) (l : Int), X[i]? = some c ∧ L[i]? = some l ∧ need ≤ l ∧ c.frm.toNat = near ∧ c.to.toNat = v ∧ gt V v = arr c (gt W near)
theorem Stp.start {W : List Int} {near : Nat} (hl : W.length = 7) (hb : ∀ v, v < 7 → gt W v = nvr ∨ (0 ≤ gt W v ∧ gt W v ≤ 2097152)) : Stp X L need W near [] W :=
  ⟨hl, rfl, hb, fun _ _ => Int.le_refl _, fun y hy => by simp at hy, fun v _ => .inl rfl⟩
theorem Stp.next (hX : OkX n X) {W V : List Int} {near : Nat} {pre : List (Nat × Ct)} (h : Stp X L need W near pre V) {i : Nat} {c : Ct} {l : Int} (hc : X[i]? = some c) (hl : L[i]? = some l) (hn : need ≤ l) (hf : c.frm.toNat = near) :
    Stp X L need W near (pre ++ [(i, c)]) (V.set c.to.toNat (min (gt V c.to.toNat) (arr c (gt V near)))) := by
  have hok := hX.each _ _ hc
  have hfi := hok.fi hX.n6
  have hlt : c.to.toNat < V.length := by rw [h.vl]; exact hfi.2.1
  have hb := arr_bnd hok (s := gt V near)
  have hle : ∀ v, v < 7 → gt (V.set c.to.toNat (min (gt V c.to.toNat) (arr c (gt V near)))) v ≤ gt V v := fun v hv => by
    rw [gt_set hlt]
    split
    · subst v; omega
    · exact Int.le_refl _
  refine ⟨by simp [h.vl], ?_, fun v hv => ?_, fun v hv => Int.le_trans (hle v hv) (h.le v hv), fun y hy => ?_, fun v hv => ?_⟩
  · rw [gt_set hlt, if_neg (by omega)]; exact h.nr
  · rw [gt_set hlt]
    split
    · subst v
      have := h.bnd _ hv
      rcases Int.le_total (gt V c.to.toNat) (arr c (gt V near)) with q | q
      · rw [Int.min_eq_left q]; exact this
      · rw [Int.min_eq_right q]; exact hb
    · exact h.bnd v hv
  · rcases List.mem_append.1 hy with hy | hy
    · by_cases e : y.2.to.toNat = c.to.toNat
      · rw [e, gt_set hlt, if_pos rfl]
        have := h.got y hy
        rw [e] at this
        omega
      · rw [gt_set hlt, if_neg e]; exact h.got y hy
    · rw [List.mem_singleton] at hy
      subst hy
      show gt _ c.to.toNat ≤ arr c (gt W near)
      rw [gt_set hlt, if_pos rfl, h.nr]
      omega
  · rw [gt_set hlt]
    split
    · rename_i e
      subst e
      rcases Int.le_total (gt V c.to.toNat) (arr c (gt V near)) with q | q
      · rw [Int.min_eq_left q]; exact h.val _ hv
      · rw [Int.min_eq_right q, h.nr]
        exact .inr ⟨i, c, l, hc, hl, hn, hf, rfl, rfl⟩
    · exact h.val v hv
/-- one more is settled. -/
theorem Stp.ends (hX : OkX n X) (hL : L.length = X.length) {src : Nat} {t : Int} (hs : src < 7) (ht : t = nvr ∨ (0 ≤ t ∧ t ≤ 2097152)) {k near : Nat} {W V : List Int} {S : List Bool} (hI : Inv X L need src t k W S) (hn : Near W S 7 near) (h0 : near ≠ 0)
    (h : Stp X L need W near (ysK (usP L need (near : Nat)) X X.length) V) : Inv X L need src t (k + 1) V (S.set near true) := by
  obtain ⟨hu, hlt⟩ := hn.nz h0
  have hsl : near < S.length := by rw [hI.sl]; exact hn.lt
  have hmin : ∀ v, v < 7 → gb S v = false → gt W near ≤ gt V v := fun v hv hv0 => by
    rcases h.val v hv with e | ⟨i, c, l, hc, _, _, _, _, e⟩
    · rw [e]; exact hn.min v hv hv0
    · rw [e]; exact Int.le_of_lt (arr_gt (hX.each _ _ hc) hlt)
  have hset : ∀ u, u < 7 → gb S u = true → gt V u = gt W u := fun u hu7 hSu => by
    rcases h.val u hu7 with e | ⟨i, c, l, hc, _, _, _, _, e⟩
    · exact e
    · have h1 := arr_gt (hX.each _ _ hc) hlt
      have h2 := hI.ord u near hu7 hn.lt hSu hu
      have h3 := h.le u hu7
      omega
  refine ⟨h.vl, by simp [hI.sl], by rw [count_set hI.sl hn.lt hu, hI.cnt], by rw [gb_set hsl, if_neg (Ne.symm h0)]; exact hI.s0, ?_, h.bnd, ?_, fun e v hv => ?_, fun e v hv => ?_, fun u hu7 hSu i c l hc hl hf hnl => ?_, fun u v hu7 hv7 hSu hSv => ?_⟩
  · rcases h.val 0 (by omega) with e | ⟨i, c, l, hc, _, _, _, e, _⟩
    · rw [e]; exact hI.w0
    · have := ((hX.each _ _ hc).fi hX.n6).2.2.2.2; omega
  · exact Int.le_trans (h.le _ hs) hI.beg
  · have := hI.all e near hn.lt; omega
  · have ht' : 0 ≤ t ∧ t ≤ 2097152 := ht.resolve_left e
    rcases h.val v hv with q | ⟨i, c, l, hc, hl, hnl, hf, hto, q⟩
    · rw [q]; exact Int.le_trans (rnds_mono hX (ini_len _ _) (Nat.le_succ k) v) (hI.low e v hv)
    · have hok := hX.each _ _ hc
      have hlow := hI.low e near hn.lt
      rw [q]
      by_cases hen : c.en ≤ gt W near
      · have : arr c (gt W near) = nvr := by unfold arr; rw [if_pos hen]
        rw [this]
        have := rnds_far (need := need) (L := L) hX hs ht'.2 (k + 1) hv
        unfold far at this; unfold nvr; omega
      · have ha : arr c (gt W near) = max (gt W near) c.st + c.dl + 1 := by unfold arr; rw [if_neg hen]
        have hg := rnd_goes (need := need) hX (A := rnds need X L (ini src t) k) (by rw [rnds_len, ini_len]) hc hl hnl (by rw [hf]; omega)
        rw [hto, hf] at hg
        rw [ha]
        change gt (rnd need X L (rnds need X L (ini src t) k)) v ≤ _
        omega
  · rw [gb_set hsl] at hSu
    have hi := (List.getElem?_eq_some_iff.1 hc).1
    by_cases e : u = near
    · subst e
      rw [h.nr]
      refine h.got (i, c) (ysK_in hi hc ?_)
      have hf1 := (hX.each _ _ hc).f1
      simp only [usP, Bool.and_eq_true, decide_eq_true_eq]
      refine ⟨by omega, ?_⟩
      rw [List.getD_eq_getElem?_getD, hl]
      exact hnl
    · rw [if_neg e] at hSu
      rw [hset u hu7 hSu]
      exact Int.le_trans (h.le _ ((hX.each _ _ hc).fi hX.n6).2.1) (hI.rel u hu7 hSu i c l hc hl hf hnl)
  · rw [gb_set hsl] at hSu hSv
    have hvn : v ≠ near := fun e => by rw [if_pos e] at hSv; cases hSv
    rw [if_neg hvn] at hSv
    by_cases e : u = near
    · rw [e, h.nr]; exact hmin v hv7 hSv
    · rw [if_neg e] at hSu
      rw [hset u hu7 hSu]
      exact Int.le_trans (hI.ord u near hu7 hn.lt hSu hu) (hmin v hv7 hSv)
end

/-- when the program arrives. -/
def ern (X : List Ct) (L : List Int) (to : Nat) (need : Int) (src : Nat) (t : Int) : Int := if t = nvr then nvr else if gt (arrs X L src t need) to < far then gt (arrs X L src t need) to else nvr
/-- the first contact and the arrival, among the first k: the program's. -/
def bgnK (X : List Ct) (L : List Int) (frm to now need : Int) : Nat → Int × Int
  | 0 => (0, nvr)
  | k + 1 => match X[k]? with
    | some c => if usP L need frm k c = true then (if ern X L to.toNat need c.to.toNat (arr c now) < (bgnK X L frm to now need k).2 then ((k : Int), ern X L to.toNat need c.to.toNat (arr c now)) else bgnK X L frm to now need k) else bgnK X L frm to now need k
    | none => bgnK X L frm to now need k
/-- the reference's. -/
def rteK (X : List Ct) (L : List Int) (frm to now need : Int) : Nat → Int × Int
  | 0 => (-1, far)
  | k + 1 => match X[k]? with
    | some c => if c.frm ≠ frm ∨ c.en ≤ now ∨ L.getD k 0 < need then rteK X L frm to now need k else (if gt (arrs X L c.to.toNat (max now c.st + c.dl + 1) need) to.toNat < (rteK X L frm to now need k).2 then ((k : Int), gt (arrs X L c.to.toNat (max now c.st + c.dl + 1) need) to.toNat) else rteK X L frm to now need k)
    | none => rteK X L frm to now need k
theorem arr_ne {n : Int} {c : Ct} (h : OkC n c) {t : Int} (ht : ¬ c.en ≤ t) : arr c t = max t c.st + c.dl + 1 ∧ arr c t ≠ nvr := by
  have := h.s0; have := h.se; have := h.e2; have := h.d2
  unfold arr
  rw [if_neg ht]
  refine ⟨rfl, ?_⟩
  unfold nvr
  omega
/-- how both are told of one another. -/
structure Alike (b r : Int × Int) : Prop where
  eq : b = if r.2 < far then r else (0, nvr)
  le : r.2 ≤ far
  neg : r.1 < 0 ↔ r.2 = far
theorem Alike.next {b r : Int × Int} (h : Alike b r) (k : Nat) (a : Int) : Alike (if (if a < far then a else nvr) < b.2 then ((k : Int), if a < far then a else nvr) else b) (if a < r.2 then ((k : Int), a) else r) := by
  have hfn : far < nvr := by decide
  have hle := h.le
  by_cases hr : r.2 < far
  · have e : b = r := by rw [h.eq, if_pos hr]
    subst e
    by_cases ha : a < b.2
    · rw [if_pos ha, if_pos (show a < far by omega), if_pos ha]
      exact ⟨by rw [if_pos (show a < far by omega)], by show a ≤ far; omega, by show (k : Int) < 0 ↔ a = far; omega⟩
    · rw [if_neg ha]
      by_cases hf : a < far
      · rw [if_pos hf, if_neg ha]; exact h
      · rw [if_neg hf, if_neg (by omega)]; exact h
  · have e : b = (0, nvr) := by rw [h.eq, if_neg hr]
    subst e
    by_cases hf : a < far
    · rw [if_pos hf, if_pos (show a < nvr by omega), if_pos (by omega)]
      exact ⟨by rw [if_pos (show a < far by omega)], by show a ≤ far; omega, by show (k : Int) < 0 ↔ a = far; omega⟩
    · rw [if_neg hf, if_neg (show ¬ nvr < nvr by omega), if_neg (by omega)]; exact h
/-- both begin alike. -/
theorem bgn_rte {n : Int} {X : List Ct} {L : List Int} {frm to now need : Int} (hX : OkX n X) : ∀ k, Alike (bgnK X L frm to now need k) (rteK X L frm to now need k)
  | 0 => ⟨by rw [rteK, if_neg (by simp)]; rfl, Int.le_refl _, by simp [rteK]⟩
  | k + 1 => by
    have h := bgn_rte (frm := frm) (to := to) (now := now) (need := need) (L := L) hX k
    rw [bgnK, rteK]
    cases hc : X[k]? with
    | none => exact h
    | some c =>
      have hok := hX.each _ _ hc
      simp only
      by_cases hu : usP L need frm k c = true
      · rw [if_pos hu]
        simp only [usP, Bool.and_eq_true, decide_eq_true_eq] at hu
        by_cases he : c.en ≤ now
        · rw [if_pos (Or.inr (Or.inl he))]
          have ha : arr c now = nvr := by unfold arr; rw [if_pos he]
          have hb : (bgnK X L frm to now need k).2 ≤ nvr := by
            rw [h.eq]
            have hfn : far < nvr := by decide
            split
            · omega
            · exact Int.le_refl _
          have hee : ern X L to.toNat need c.to.toNat (arr c now) = nvr := by unfold ern; rw [if_pos ha]
          rw [hee, if_neg (by omega)]
          exact h
        · obtain ⟨ha, hb⟩ := arr_ne hok he
          have hr : ¬ (c.frm ≠ frm ∨ c.en ≤ now ∨ L.getD k 0 < need) := by omega
          rw [if_neg hr, ← ha]
          have hee : ern X L to.toNat need c.to.toNat (arr c now) = if gt (arrs X L c.to.toNat (arr c now) need) to.toNat < far then gt (arrs X L c.to.toNat (arr c now) need) to.toNat else nvr := by unfold ern; rw [if_neg hb]
          rw [hee]
          exact h.next k _
      · rw [if_neg hu, if_pos]
        · exact h
        · simp only [usP, Bool.and_eq_true, decide_eq_true_eq] at hu
          omega
end Go.Proofs.Ytmmcdnniconalaa
