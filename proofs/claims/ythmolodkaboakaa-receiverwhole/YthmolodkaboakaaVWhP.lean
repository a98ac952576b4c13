/- The pieces of a block come in: pure. -/
import Derived.Test.YthmolodkaboakaaVNew2
import Derived.Test.YthmolodkaboakaaVBlock
import Derived.Test.YthmolodkaboakaaVMiss
import Derived.Test.YthmolodkaboakaaVPutX
namespace Go.Proofs.Ythmolodkaboakaa
open Go.RowKit
set_option linter.unusedVariables false
/-- a piece of a block. -/
def pieceS (B : List Nat) (o n ser : Nat) : Sg := ⟨1, 3, 9, ser, 0, (o : Int), (B.length : Int), 0, 0, 0, decide (0 < ser), (B.drop o).take n, []⟩
theorem dataS_mk {s : Sg} (h1 : 1 ≤ s.tot ∧ s.tot ≤ 512) (h2 : 1 ≤ (s.dat.length : Int) ∧ (s.dat.length : Int) ≤ 100) (h3 : 0 ≤ s.off ∧ s.off ≤ s.tot - (s.dat.length : Int)) (h4 : s.chk = decide (0 < s.ser)) : dataS s = true := by
  unfold dataS inB
  rw [decide_eq_true h1.1, decide_eq_true h1.2, decide_eq_true h2.1, decide_eq_true h2.2, decide_eq_true h3.1, decide_eq_true h3.2, h4]
  simp
theorem repS_mk {s : Sg} (h1 : 0 < s.ser) (h2 : 0 < s.cks) (h3 : 0 ≤ s.low) (h4 : s.low < s.upp) (h5 : s.upp ≤ 512) (h6 : (s.cls.length : Int) ≤ 20) (h7 : clsOk s.upp s.low s.cls = true) : repS s = true := by
  unfold repS
  rw [decide_eq_true h1, decide_eq_true h2, decide_eq_true h3, decide_eq_true h4, decide_eq_true h5, decide_eq_true h6, h7]
  rfl
structure Pc (B : List Nat) (o n ser : Nat) : Prop where
  n1 : 1 ≤ n
  n2 : n ≤ 100
  fit : o + n ≤ B.length
  sm : ser < 4294967296
theorem piece_len {B : List Nat} {o n ser : Nat} (h : Pc B o n ser) : (pieceS B o n ser).dat.length = n := by
  have := h.fit
  simp [pieceS]
  omega
theorem piece_data {B : List Nat} {o n ser : Nat} (h : Pc B o n ser) (hB : B.length ≤ 512) : dataS (pieceS B o n ser) = true := by
  have h1 := h.n1
  have h2 := h.n2
  have h3 := h.fit
  exact dataS_mk (by show (1 : Int) ≤ (B.length : Int) ∧ (B.length : Int) ≤ 512; omega) (by rw [piece_len h]; omega) (by rw [piece_len h]; show (0 : Int) ≤ (o : Int) ∧ (o : Int) ≤ (B.length : Int) - (n : Int); omega) rfl
theorem piece_ok {B : List Nat} {o n ser : Nat} (h : Pc B o n ser) (hB : B.length ≤ 512) : okS (pieceS B o n ser) = true := by
  unfold okS
  have h1 : sessS (pieceS B o n ser) = true := by rfl
  have h2 : fieldsS (pieceS B o n ser) = true := by
    unfold fieldsS
    rw [if_pos (show (pieceS B o n ser).knd = 1 from rfl)]
    exact piece_data h hB
  have h3 : sameS (pieceS B o n ser) (cntS (pieceS B o n ser)) = true := by
    rw [show cntS (pieceS B o n ser) = pieceS B o n ser from rfl]
    exact same_self _
  rw [h1, h2, h3]
  rfl
theorem cov_mem : ∀ {l : List (Int × Int)} {r : Int × Int} {i : Int}, r ∈ l → r.1 ≤ i → i < r.1 + r.2 → cov l i = true
  | q :: qs, r, i, hm, h1, h2 => by
    rw [cov_cons]
    rcases List.mem_cons.1 hm with rfl | hm
    · simp [h1, h2]
    · rw [cov_mem hm h1 h2]; simp
theorem whole_cov {s : Tk} (ht : 1 ≤ s.tot) (h : clsOk s.tot 0 s.got = true) : wholeK s = true ↔ ∀ i : Nat, (i : Int) < s.tot → cov s.got i = true := by
  unfold wholeK
  rw [decide_eq_true_eq]
  have hm : clsOk s.tot 0 [(0, s.tot)] = true := cls_mk (Int.le_refl 0) ht (by show (0 : Int) + s.tot ≤ s.tot; omega) rfl
  constructor
  · intro e i hi
    rw [e]
    exact cov_in (by show (0 : Int) ≤ i; omega) (by show (i : Int) < 0 + s.tot; omega)
  · intro hc
    refine cov_uniq h hm (fun i => ?_)
    by_cases h0 : i < 0
    · rw [cov_below h h0, cov_below hm h0]
    · by_cases h1 : s.tot ≤ i
      · rw [cov_above h h1, cov_above hm h1]
      · obtain ⟨k, rfl⟩ : ∃ k : Nat, i = k := ⟨i.toNat, by omega⟩
        rw [hc k (by omega), cov_in (by show (0 : Int) ≤ k; omega) (by show (k : Int) < 0 + s.tot; omega)]
/-- a session of which the bytes of C have come in. -/
structure WhK (B : List Nat) (C : Nat → Bool) (s : Tk) : Prop where
  ok : okK s = true
  src : s.src = 3
  ses : s.ses = 9
  tot : s.tot = B.length
  lif : s.lif = 50
  sta : s.sta ≠ 4
  cv : ∀ i : Nat, i < B.length → cov s.got i = C i
  byt : ∀ i : Nat, i < B.length → C i = true → s.byt.getD i 0 = B.getD i 0
  ser : s.ser < 4294967296
/-- the bytes that have come in behind a piece. -/
def orC (C : Nat → Bool) (o n : Nat) (i : Nat) : Bool := C i || (decide (o ≤ i) && decide (i < o + n))
theorem piece_get {B : List Nat} {o n ser j : Nat} (h : Pc B o n ser) (hj : j < n) : (pieceS B o n ser).dat.getD j 0 = B.getD (o + j) 0 := by
  have := h.fit
  show ((B.drop o).take n).getD j 0 = _
  rw [List.getD_eq_getElem?_getD, List.getD_eq_getElem?_getD, List.getElem?_take_of_lt hj, List.getElem?_drop]
theorem wh_goes {B : List Nat} {C : Nat → Bool} {s : Tk} {o n ser : Nat} (h : WhK B C s) (hp : Pc B o n ser) (hB : B.length ≤ 512) : goesK s (pieceS B o n ser) = true := by
  unfold goesK
  rw [piece_ok hp hB, show (pieceS B o n ser).src = s.src from h.src.symm, show (pieceS B o n ser).ses = s.ses from h.ses.symm, show fwdS (pieceS B o n ser) = true from rfl]
  simp
theorem wh_dif {B : List Nat} {C : Nat → Bool} {s : Tk} {o n ser : Nat} (h : WhK B C s) (hp : Pc B o n ser) (q : Int) : difK { s with due := q } (pieceS B o n ser) = false := by
  have hl : (s.byt.length : Int) = s.tot := (smallK h.ok).2.1
  have ht := h.tot
  have hf := hp.fit
  refine dif_no (O := o) rfl ?_ (fun j hj hc ho => ?_)
  · show o + (pieceS B o n ser).dat.length ≤ s.byt.length
    rw [piece_len hp]
    omega
  · have hj2 : j < B.length := by have : j < s.byt.length := hj; omega
    have hC : C j = true := by rw [← h.cv j hj2]; exact hc
    unfold ownJ at ho
    rw [piece_len hp] at ho
    simp only [Bool.and_eq_true, decide_eq_true_eq] at ho
    rw [piece_get hp (by omega)]
    show s.byt.getD j 0 = _
    rw [h.byt j hj2 hC, show o + (j - o) = j by omega]
theorem wh_put {B : List Nat} {C : Nat → Bool} {s : Tk} {o n ser : Nat} {q : Int} (h : WhK B C s) (hp : Pc B o n ser) (hB : B.length ≤ 512) (hq : 0 ≤ q ∧ q ≤ 1114112) : WhK B (orC C o n) (putK { s with due := q } (pieceS B o n ser)) := by
  obtain ⟨⟨ht1, ht2⟩, hbl, hgl, hlf, hcl, hst⟩ := smallK h.ok
  have ht := h.tot
  have hf := hp.fit
  have hn1 := hp.n1
  have hnum : numsK s = true := by
    have := h.ok
    unfold okK at this
    simp only [Bool.and_eq_true] at this
    exact this.1
  have e1 : (putG { s with due := q } (pieceS B o n ser)).got = togP s.got o n := by
    show tog s.got _ _ = _
    rw [← togP_is, piece_len hp]
    rfl
  have e2 : (putG { s with due := q } (pieceS B o n ser)).byt = putB s.byt o (pieceS B o n ser).dat := rfl
  have hlen : (putB s.byt o (pieceS B o n ser).dat).length = s.byt.length := putB_len (by rw [piece_len hp]; omega)
  have hcl2 : clsOk s.tot 0 (togP s.got o n) = true := tog_cls _ _ _ _ hcl (by omega) (by omega) (by omega)
  have hcv : ∀ i : Nat, i < B.length → cov (togP s.got o n) i = orC C o n i := fun i hi => by
    rw [tog_cov _ _ _ _ _ hcl (by omega), h.cv i hi]
    unfold orC
    rw [show decide ((o : Int) ≤ (i : Int)) = decide (o ≤ i) from decide_eq_decide.2 (by omega), show decide ((i : Int) < (o : Int) + (n : Int)) = decide (i < o + n) from decide_eq_decide.2 (by omega)]
  have hby : ∀ i : Nat, i < B.length → orC C o n i = true → (putB s.byt o (pieceS B o n ser).dat).getD i 0 = B.getD i 0 := fun i hi hc => by
    rw [← mix_all (by rw [piece_len hp]; omega), mix_at _ _ _ _ _ (by omega)]
    unfold orC at hc
    by_cases ho : o ≤ i ∧ i < o + n
    · rw [if_pos (by unfold ownJ; rw [piece_len hp]; simp; omega), piece_get hp (by omega), show o + (i - o) = i by omega]
    · rw [if_neg (by unfold ownJ; rw [piece_len hp]; simp; omega)]
      have : C i = true := by
        simp only [Bool.or_eq_true, Bool.and_eq_true, decide_eq_true_eq] at hc
        rcases hc with hc | hc
        · exact hc
        · exact absurd hc ho
      exact h.byt i hi this
  have hG : numsK (putG { s with due := q } (pieceS B o n ser)) = true := by
    unfold numsK at hnum ⊢
    simp only [Bool.and_eq_true] at hnum ⊢
    refine ⟨hnum.1, hnum.2.1, hnum.2.2.1, ?_, hnum.2.2.2.2.1, ?_⟩
    · rw [e2, hlen]
      exact hnum.2.2.2.1
    · show inB q 0 1114112 = true
      unfold inB; simp; omega
  have hW : ∀ t : Tk, t.got = togP s.got o n → t.tot = s.tot → (wholeK t = true ↔ ∀ i : Nat, (i : Int) < s.tot → orC C o n i = true) := fun t h1 h2 => by
    rw [whole_cov (by omega) (by rw [h1, h2]; exact hcl2), h1, h2]
    exact ⟨fun hh i hi => by rw [← hcv i (by omega)]; exact hh i hi, fun hh i hi => by rw [hcv i (by omega)]; exact hh i hi⟩
  unfold putK
  by_cases hw : wholeK (putG { s with due := q } (pieceS B o n ser)) = true
  · rw [if_pos hw]
    refine ⟨?_, h.src, h.ses, h.tot, h.lif, by show (2 : Int) ≠ 4; omega, fun i hi => ?_, fun i hi hc => ?_, h.ser⟩
    · unfold okK
      have h1 : numsK { putG { s with due := q } (pieceS B o n ser) with sta := 2 } = true := hG
      have h2 : clsOk s.tot 0 (putG { s with due := q } (pieceS B o n ser)).got = true := by rw [e1]; exact hcl2
      have h3 : stateK { putG { s with due := q } (pieceS B o n ser) with sta := 2 } = true := by
        unfold stateK
        rw [if_neg (by show ¬ (2 : Int) = 1; omega), if_pos rfl]
        exact hw
      show (numsK { putG { s with due := q } (pieceS B o n ser) with sta := 2 } && (clsOk s.tot 0 (putG { s with due := q } (pieceS B o n ser)).got && stateK { putG { s with due := q } (pieceS B o n ser) with sta := 2 })) = true
      rw [h1, h2, h3]; rfl
    · show cov (putG { s with due := q } (pieceS B o n ser)).got i = _
      rw [e1]; exact hcv i hi
    · exact hby i hi hc
  · rw [if_neg hw]
    have hs1 : s.sta = 1 := by
      unfold stateK at hst
      split at hst
      · assumption
      · split at hst
        · rename_i h2
          exfalso
          refine hw ((hW _ e1 rfl).2 (fun i hi => ?_))
          have := (whole_cov ht1 hcl).1 hst i hi
          rw [h.cv i (by omega)] at this
          unfold orC; rw [this]; rfl
        · exact absurd (by simpa using hst) h.sta
    refine ⟨?_, h.src, h.ses, h.tot, h.lif, h.sta, fun i hi => ?_, fun i hi hc => ?_, h.ser⟩
    · unfold okK
      have h2 : clsOk s.tot 0 (putG { s with due := q } (pieceS B o n ser)).got = true := by rw [e1]; exact hcl2
      have h3 : stateK (putG { s with due := q } (pieceS B o n ser)) = true := by
        unfold stateK
        rw [if_pos (show (putG { s with due := q } (pieceS B o n ser)).sta = 1 from hs1)]
        simpa using hw
      show (numsK (putG { s with due := q } (pieceS B o n ser)) && (clsOk s.tot 0 (putG { s with due := q } (pieceS B o n ser)).got && stateK (putG { s with due := q } (pieceS B o n ser)))) = true
      rw [hG, h2, h3]; rfl
    · show cov (putG { s with due := q } (pieceS B o n ser)).got i = _
      rw [e1]; exact hcv i hi
    · exact hby i hi hc
theorem next_pos (n : Nat) (h : n < 4294967296) : 0 < nextN n ∧ nextN n < 4294967296 := by
  unfold nextN
  split <;> omega
theorem wh_ser {B : List Nat} {C : Nat → Bool} {s : Tk} (h : WhK B C s) : WhK B C (serK s) := by
  refine ⟨?_, h.src, h.ses, h.tot, h.lif, h.sta, h.cv, h.byt, (next_pos _ h.ser).2⟩
  have := h.ok
  exact this
/-- what is sent behind a piece. -/
def sentW (s : Tk) (ser : Nat) : List Sg := if 0 < ser then [repK s ser] else []
theorem wh_take {B : List Nat} {C : Nat → Bool} {s : Tk} {o n ser : Nat} {now : Int} (h : WhK B C s) (hp : Pc B o n ser) (hB : B.length ≤ 512) (hn : 0 ≤ now ∧ now ≤ 1048576) :
    ∃ t l, takeK s (pieceS B o n ser) now = (t, l, 0) ∧ WhK B (orC C o n) t ∧ (if 0 < ser then ∃ u, WhK B (orC C o n) u ∧ u.got = t.got ∧ l = [repK u ser] else l = []) := by
  have hlf := (smallK h.ok).2.2.2.1
  have hw := wh_put (q := now + s.lif) h hp hB (by have := h.lif; omega)
  unfold takeK
  rw [if_pos h.ok, if_pos (by unfold inB; simp; omega), if_pos (wh_goes h hp hB), tkK_1 rfl]
  unfold datK
  rw [if_neg (show ¬ ({ s with due := now + s.lif } : Tk).sta = 4 from h.sta), if_neg (by show ¬ ((B.length : Int) ≠ s.tot); rw [h.tot]; simp), wh_dif h hp, if_neg (by simp)]
  by_cases hs : 0 < ser
  · rw [if_pos (by show decide (0 < ser) = true; simp [hs])]
    refine ⟨_, _, rfl, wh_ser hw, ?_⟩
    rw [if_pos hs]
    exact ⟨_, hw, rfl, rfl⟩
  · rw [if_neg (by show ¬ decide (0 < ser) = true; simp; omega)]
    refine ⟨_, _, rfl, hw, ?_⟩
    rw [if_neg hs]
theorem rep_ok {B : List Nat} {C : Nat → Bool} {s : Tk} {ser : Nat} (h : WhK B C s) (hs : 0 < ser) : okS (repK s ser) = true := by
  obtain ⟨⟨ht1, ht2⟩, hbl, hgl, hlf, hcl, hst⟩ := smallK h.ok
  have hnx := (next_pos _ h.ser).1
  unfold okS
  have h1 : sessS (repK s ser) = true := by
    unfold sessS inB
    simp only [repK, h.src, h.ses]
    rfl
  have h2 : fieldsS (repK s ser) = true := by
    unfold fieldsS
    rw [if_neg (show ¬ (repK s ser).knd = 1 by show ¬ (2 : Int) = 1; omega), if_pos (show (repK s ser).knd = 2 from rfl)]
    refine repS_mk (s := repK s ser) hnx hs (Int.le_refl 0) (by show (0 : Int) < s.tot; omega) ht2 ?_ (cls_take hcl 20)
    show (((s.got.take 20).length : Nat) : Int) ≤ 20
    rw [List.length_take]
    omega
  have h3 : sameS (repK s ser) (cntS (repK s ser)) = true := by
    rw [show cntS (repK s ser) = repK s ser from rfl]
    exact same_self _
  rw [h1, h2, h3]
  rfl
theorem rep_claims {B : List Nat} {C : Nat → Bool} {s : Tk} {ser : Nat} (h : WhK B C s) : ∀ c ∈ (repK s ser).cls, (0 ≤ c.1 ∧ 1 ≤ c.2 ∧ c.1 + c.2 ≤ B.length) ∧ ∀ k : Nat, (k : Int) < c.2 → C (c.1.toNat + k) = true := by
  obtain ⟨⟨ht1, ht2⟩, hbl, hgl, hlf, hcl, hst⟩ := smallK h.ok
  have ht := h.tot
  intro c hc
  have hm : c ∈ s.got := List.mem_of_mem_take hc
  have hb : ∀ (l : List (Int × Int)) (least : Int), 0 ≤ least → clsOk s.tot least l = true → c ∈ l → 0 ≤ c.1 ∧ 1 ≤ c.2 ∧ c.1 + c.2 ≤ s.tot := by
    intro l
    induction l with
    | nil => intro _ _ _ hm; simp at hm
    | cons r rs ih =>
      intro least h0 hk hm
      obtain ⟨p1, p2, p3, p4⟩ := cls_parts hk
      rcases List.mem_cons.1 hm with rfl | hm
      · omega
      · exact ih _ (by omega) p4 hm
  obtain ⟨b1, b2, b3⟩ := hb _ 0 (Int.le_refl 0) hcl hm
  refine ⟨⟨b1, b2, by omega⟩, fun k hk => ?_⟩
  have := cov_mem (i := ((c.1.toNat + k : Nat) : Int)) hm (by omega) (by omega)
  rw [h.cv _ (by omega)] at this
  exact this
/-- how many have come in. -/
def cntC (C : Nat → Bool) : Nat → Nat
  | 0 => 0
  | k + 1 => cntC C k + (if C k = true then 1 else 0)
theorem cntC_le (C : Nat → Bool) : ∀ k, cntC C k ≤ k
  | 0 => Nat.le_refl 0
  | k + 1 => by
    have := cntC_le C k
    rw [cntC]
    split <;> omega
theorem cnt_C {l : List (Int × Int)} {C : Nat → Bool} : ∀ k : Nat, (∀ i : Nat, i < k → cov l i = C i) → cnt l k = (cntC C k : Int)
  | 0, _ => rfl
  | k + 1, h => by
    rw [cnt, cntC, cnt_C k (fun i hi => h i (by omega)), h k (by omega)]
    split <;> simp
theorem cntC_all {C : Nat → Bool} : ∀ k, cntC C k = k ↔ ∀ i, i < k → C i = true
  | 0 => by simp [cntC]
  | k + 1 => by
    rw [cntC]
    have := cntC_le C k
    constructor
    · intro h i hi
      split at h
      · rename_i hc
        have h2 := (cntC_all (C := C) k).1 (by omega)
        by_cases e : i = k
        · rw [e]; exact hc
        · exact h2 i (by omega)
      · omega
    · intro h
      rw [if_pos (h k (by omega)), (cntC_all (C := C) k).2 (fun i hi => h i (by omega))]
theorem wh_miss {B : List Nat} {C : Nat → Bool} {s : Tk} (h : WhK B C s) : missK s = ((B.length - cntC C B.length : Nat) : Int) := by
  obtain ⟨⟨ht1, ht2⟩, hbl, hgl, hlf, hcl, hst⟩ := smallK h.ok
  have ht := h.tot
  have h1 := cntC_le C B.length
  unfold missK
  rw [if_pos h.ok, ← cnt_all (u := B.length) (l := s.got) (Int.le_refl 0) (by rw [← ht]; exact hcl), cnt_C _ h.cv]
  omega
theorem wh_whole {B : List Nat} {C : Nat → Bool} {s : Tk} (h : WhK B C s) : wholeK s = true ↔ cntC C B.length = B.length := by
  obtain ⟨⟨ht1, ht2⟩, hbl, hgl, hlf, hcl, hst⟩ := smallK h.ok
  have ht := h.tot
  rw [whole_cov ht1 hcl, cntC_all]
  exact ⟨fun hh i hi => by rw [← h.cv i hi]; exact hh i (by omega), fun hh i hi => by rw [h.cv i (by omega)]; exact hh i (by omega)⟩
theorem wh_block_yes {B : List Nat} {C : Nat → Bool} {s : Tk} (h : WhK B C s) (hc : cntC C B.length = B.length) : blockK s = (B, 0) := by
  obtain ⟨⟨ht1, ht2⟩, hbl, hgl, hlf, hcl, hst⟩ := smallK h.ok
  have ht := h.tot
  unfold blockK
  rw [if_pos h.ok, if_pos ((wh_whole h).2 hc)]
  have : s.byt = B := getD_ext (by omega) (fun j hj => h.byt j (by omega) ((cntC_all _).1 hc j (by omega)))
  rw [this]
theorem wh_block_no {B : List Nat} {C : Nat → Bool} {s : Tk} (h : WhK B C s) (hc : cntC C B.length ≠ B.length) : blockK s = ([], 4) := by
  unfold blockK
  rw [if_pos h.ok, if_neg (fun e => hc ((wh_whole h).1 e))]
theorem wh_done {B : List Nat} {C : Nat → Bool} {s : Tk} (h : WhK B C s) (hc : cntC C B.length = B.length) : s.sta = 2 := by
  have hst := (smallK h.ok).2.2.2.2.2
  unfold stateK at hst
  split at hst
  · rw [(wh_whole h).2 hc] at hst; simp at hst
  · split at hst
    · assumption
    · exact absurd (by simpa using hst) h.sta
theorem numsK_mk {s : Tk} (h1 : 1 ≤ s.src ∧ s.src ≤ 6) (h2 : 0 < s.ses) (h3 : 1 ≤ s.tot ∧ s.tot ≤ 512) (h4 : (s.byt.length : Int) = s.tot) (h5 : 1 ≤ s.lif ∧ s.lif ≤ 65536) (h6 : 0 ≤ s.due ∧ s.due ≤ 1114112) : numsK s = true := by
  unfold numsK inB
  rw [decide_eq_true h1.1, decide_eq_true h1.2, decide_eq_true h2, decide_eq_true h3.1, decide_eq_true h3.2, decide_eq_true h4, decide_eq_true h5.1, decide_eq_true h5.2, decide_eq_true h6.1, decide_eq_true h6.2]
  rfl
theorem stateK_one {s : Tk} (h1 : s.sta = 1) (h2 : wholeK s = false) : stateK s = true := by
  unfold stateK
  rw [if_pos h1, h2]
  rfl
theorem wh_fresh {B : List Nat} {o n ser : Nat} (hB1 : 1 ≤ B.length) (hB : B.length ≤ 512) : WhK B (fun _ => false) (freshK (pieceS B o n ser) 50) := by
  refine ⟨?_, rfl, rfl, rfl, rfl, by show (1 : Int) ≠ 4; omega, fun i hi => rfl, fun i hi hc => by simp at hc, by show 0 < 4294967296; omega⟩
  unfold okK
  rw [numsK_mk (s := freshK (pieceS B o n ser) 50) (by show (1 : Int) ≤ 3 ∧ (3 : Int) ≤ 6; omega) (by show 0 < 9; omega) (by show (1 : Int) ≤ (B.length : Int) ∧ (B.length : Int) ≤ 512; omega) (by show (((List.replicate (B.length : Int).toNat 0).length : Nat) : Int) = (B.length : Int); simp) (by show (1 : Int) ≤ 50 ∧ (50 : Int) ≤ 65536; omega) (by show (0 : Int) ≤ 0 ∧ (0 : Int) ≤ 1114112; omega), stateK_one (s := freshK (pieceS B o n ser) 50) rfl rfl]
  rfl
end Go.Proofs.Ythmolodkaboakaa
