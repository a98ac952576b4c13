/- Segments as data: which may be, their bytes, and what bytes say: pure. -/
import Derived.Test.YthmfbhanmncfgaaZSdnv
import Derived.Test.YthmfbhanmncfgaaWCrc
namespace Go.Proofs.Ythmfbhanmncfgaa
open Go.RowKit
set_option linter.unusedVariables false

/-- A segment. -/
structure Sg where
  knd : Int
  src : Int
  ses : Nat
  ser : Nat
  cks : Nat
  off : Int
  tot : Int
  low : Int
  upp : Int
  rea : Int
  chk : Bool
  dat : List Nat
  cls : List (Int × Int)
def zeroS : Sg := ⟨0, 0, 0, 0, 0, 0, 0, 0, 0, 0, false, [], []⟩
def inB (x a b : Int) : Bool := decide (a ≤ x) && decide (x ≤ b)
theorem inB_of {x a b : Int} (h : inB x a b = true) : a ≤ x ∧ x ≤ b := by simpa [inB] using h
def sessS (s : Sg) : Bool := inB s.src 1 6 && decide (0 < s.ses)
def dataS (s : Sg) : Bool := inB s.tot 1 512 && (inB s.dat.length 1 100 && (inB s.off 0 (s.tot - (s.dat.length : Int)) && (s.chk == decide (0 < s.ser))))
/-- claims that rise, from least on, up to u. -/
def clsOk (u : Int) : Int → List (Int × Int) → Bool
  | _, [] => true
  | least, c :: r => !decide (c.1 < least) && (inB c.2 1 (u - c.1) && clsOk u (c.1 + c.2 + 1) r)
def repS (s : Sg) : Bool := decide (0 < s.ser) && (decide (0 < s.cks) && (decide (0 ≤ s.low) && (decide (s.low < s.upp) && (decide (s.upp ≤ 512) && (decide ((s.cls.length : Int) ≤ 20) && clsOk s.upp s.low s.cls)))))
def fieldsS (s : Sg) : Bool :=
  if s.knd = 1 then dataS s else if s.knd = 2 then repS s else if s.knd = 3 then decide (0 < s.ser)
  else if s.knd = 4 ∨ s.knd = 6 then inB s.rea 0 255 else if s.knd = 5 ∨ s.knd = 7 then true else false
/-- the segment with the fields alone that count. -/
def cntS (s : Sg) : Sg :=
  if s.knd = 1 then { zeroS with knd := s.knd, src := s.src, ses := s.ses, off := s.off, tot := s.tot, dat := s.dat, chk := s.chk, ser := s.ser }
  else if s.knd = 2 then { zeroS with knd := s.knd, src := s.src, ses := s.ses, ser := s.ser, cks := s.cks, low := s.low, upp := s.upp, cls := s.cls }
  else if s.knd = 3 then { zeroS with knd := s.knd, src := s.src, ses := s.ses, ser := s.ser }
  else if s.knd = 4 ∨ s.knd = 6 then { zeroS with knd := s.knd, src := s.src, ses := s.ses, rea := s.rea }
  else { zeroS with knd := s.knd, src := s.src, ses := s.ses }
def sameS (a b : Sg) : Bool :=
  decide (a.knd = b.knd) && (decide (a.src = b.src) && (decide (a.ses = b.ses) && (decide (a.ser = b.ser) && (decide (a.cks = b.cks) && (decide (a.off = b.off) && (decide (a.tot = b.tot) && (decide (a.low = b.low) && (decide (a.upp = b.upp) && (decide (a.rea = b.rea) && (decide (a.chk = b.chk) && (decide (a.dat = b.dat) && decide (a.cls = b.cls))))))))))))
theorem same_of {a b : Sg} (h : sameS a b = true) : a = b := by
  cases a; cases b
  simp only [sameS, Bool.and_eq_true, decide_eq_true_eq] at h
  simp only [Sg.mk.injEq]
  exact h
theorem same_self (a : Sg) : sameS a a = true := by simp [sameS]
/-- may the segment be? -/
def okS (s : Sg) : Bool := sessS s && (fieldsS s && sameS s (cntS s))

/-- the bytes of claims. -/
def clsL : List (Int × Int) → List Nat
  | [] => []
  | c :: r => rowL [c.1.toNat, c.2.toNat] ++ clsL r
theorem clsL_append (l m : List (Int × Int)) : clsL (l ++ m) = clsL l ++ clsL m := by
  induction l with
  | nil => rfl
  | cons x r ih => simp [clsL, ih]
def tailS (s : Sg) : List Nat :=
  if s.knd = 1 then (if s.chk = true then rowL [1, s.ser] else rowL [0]) ++ (rowL [s.off.toNat, s.tot.toNat, s.dat.length] ++ s.dat)
  else if s.knd = 2 then rowL [s.ser, s.cks, s.low.toNat, s.upp.toNat, s.cls.length] ++ clsL s.cls
  else if s.knd = 3 then rowL [s.ser] else if s.knd = 4 ∨ s.knd = 6 then rowL [s.rea.toNat] else []
/-- the bytes of a segment, without the sum, and with it. -/
def bodyS (s : Sg) : List Nat := s.knd.toNat :: (rowL [s.src.toNat, s.ses] ++ tailS s)
def encS (s : Sg) : List Nat := bodyS s ++ be (Crc.sum32 (bodyS s)) 4

/-! reading -/
def numR (most : Nat) (st : List Nat × Bool) : Nat × (List Nat × Bool) :=
  if (getS st.1).2.2 ≠ 0 ∨ most < (getS st.1).1 then (0, ([], true)) else ((getS st.1).1, (st.1.drop (getS st.1).2.1, st.2))
def rawR (n : Nat) (st : List Nat × Bool) : List Nat × (List Nat × Bool) :=
  if st.1.length < n then ([], ([], true)) else (st.1.take n, (st.1.drop n, st.2))
def clsR : Nat → List Nat × Bool → List (Int × Int) × (List Nat × Bool)
  | 0, st => ([], st)
  | k + 1, st => ((clsR k st).1 ++ [(((numR 512 (clsR k st).2).1 : Int), ((numR 512 (numR 512 (clsR k st).2).2).1 : Int))], (numR 512 (numR 512 (clsR k st).2).2).2)
def serR (c : Nat) (st : List Nat × Bool) : Nat × (List Nat × Bool) := if c = 1 then numR 4294967295 st else (0, st)
def dataR (s : Sg) (st : List Nat × Bool) : Sg × (List Nat × Bool) :=
  let c := numR 1 st
  let q := serR c.1 c.2
  let o := numR 512 q.2
  let t := numR 512 o.2
  let n := numR 100 t.2
  let d := rawR n.1 n.2
  ({ s with chk := decide (c.1 = 1), ser := q.1, off := (o.1 : Int), tot := (t.1 : Int), dat := d.1 }, d.2)
def repR (s : Sg) (st : List Nat × Bool) : Sg × (List Nat × Bool) :=
  let a := numR 4294967295 st
  let b := numR 4294967295 a.2
  let c := numR 512 b.2
  let d := numR 512 c.2
  let k := numR 20 d.2
  let r := clsR k.1 k.2
  ({ s with ser := a.1, cks := b.1, low := (c.1 : Int), upp := (d.1 : Int), cls := r.1 }, r.2)
/-- what bytes say behind the Kind x, be it a segment that may be or not. -/
def readS (x : Nat) (l : List Nat) : Sg × (List Nat × Bool) :=
  let a := numR 6 (l, false)
  let b := numR 4294967295 a.2
  let s : Sg := { zeroS with knd := (x : Int), src := (a.1 : Int), ses := b.1 }
  if x = 1 then dataR s b.2 else if x = 2 then repR s b.2
  else if x = 3 then ({ s with ser := (numR 4294967295 b.2).1 }, (numR 4294967295 b.2).2)
  else if x = 4 ∨ x = 6 then ({ s with rea := ((numR 255 b.2).1 : Int) }, (numR 255 b.2).2) else (s, b.2)
def decS (b : List Nat) : Int × Sg :=
  if b.length < 7 then (7, zeroS)
  else if be (Crc.sum32 (b.take (b.length - 4))) 4 ≠ b.drop (b.length - 4) then (130, zeroS)
  else
    let r := readS ((b.take (b.length - 4)).headD 0) (b.take (b.length - 4)).tail
    if (!r.2.2 && decide (r.2.1.length = 0)) && okS r.1 then (0, r.1) else (200, zeroS)

theorem numR_put (most n : Nat) (t : List Nat) (f : Bool) (h : n ≤ most) (hn : n < 18446744073709551616) : numR most (sd n ++ t, f) = (n, (t, f)) := by
  unfold numR
  simp only [get_sd n hn t]
  rw [if_neg (by omega)]
  have : (sd n ++ t).drop (sz n) = t := by unfold sz; simp
  rw [this]
theorem numR_sound (most : Nat) (st : List Nat × Bool) (hb : ∀ x ∈ st.1, x < 256) (h : (numR most st).2.2 = false) :
    st.1 = sd (numR most st).1 ++ (numR most st).2.1 ∧ st.2 = false ∧ (numR most st).1 ≤ most ∧ (∀ x ∈ (numR most st).2.1, x < 256) := by
  unfold numR at h ⊢
  by_cases hc : (getS st.1).2.2 ≠ 0 ∨ most < (getS st.1).1
  · rw [if_pos hc] at h; cases h
  · rw [if_neg hc] at h ⊢
    have h0 : (getS st.1).2.2 = 0 := by omega
    have h1 := get_sound st.1 (getS st.1).1 (getS st.1).2.1 hb (by rw [← h0])
    refine ⟨?_, h, by omega, fun x hx => hb x (List.mem_of_mem_drop hx)⟩
    show st.1 = sd (getS st.1).1 ++ st.1.drop (getS st.1).2.1
    rw [← h1.2.2.1, List.take_append_drop]
theorem numR_le (most : Nat) (st : List Nat × Bool) : (numR most st).1 ≤ most := by
  unfold numR
  split
  · exact Nat.zero_le _
  · simp only; omega
theorem numR_byte (most : Nat) (st : List Nat × Bool) (hb : ∀ x ∈ st.1, x < 256) : ∀ x ∈ (numR most st).2.1, x < 256 := by
  unfold numR
  split
  · simp
  · exact fun x hx => hb x (List.mem_of_mem_drop hx)
theorem numR_len (most : Nat) (st : List Nat × Bool) : (numR most st).2.1.length ≤ st.1.length := by
  unfold numR
  split
  · simp
  · simp
theorem rawR_sound (n : Nat) (st : List Nat × Bool) (h : (rawR n st).2.2 = false) : st.1 = (rawR n st).1 ++ (rawR n st).2.1 ∧ st.2 = false ∧ (rawR n st).1.length = n := by
  unfold rawR at h ⊢
  by_cases hc : st.1.length < n
  · rw [if_pos hc] at h; cases h
  · rw [if_neg hc] at h ⊢
    exact ⟨(List.take_append_drop _ _).symm, h, by simp; omega⟩
theorem rawR_put (d t : List Nat) (f : Bool) : rawR d.length (d ++ t, f) = (d, (t, f)) := by
  unfold rawR
  rw [if_neg (by simp)]
  simp

theorem clsR_put : ∀ (l : List (Int × Int)) (t : List Nat) (f : Bool), (∀ c ∈ l, (0 ≤ c.1 ∧ c.1 ≤ 512) ∧ (0 ≤ c.2 ∧ c.2 ≤ 512)) → ∀ k, k ≤ l.length → clsR k (clsL l ++ t, f) = (l.take k, (clsL (l.drop k) ++ t, f)) := by
  intro l t f h k
  induction k with
  | zero => intro _; simp [clsR]
  | succ k ih =>
    intro hk
    rw [clsR, ih (by omega)]
    have hlt : k < l.length := by omega
    have hc := h l[k] (List.getElem_mem hlt)
    have e : clsL (l.drop k) ++ t = sd l[k].1.toNat ++ (sd l[k].2.toNat ++ (clsL (l.drop (k + 1)) ++ t)) := by
      rw [List.drop_eq_getElem_cons hlt, clsL]
      simp [rowL]
    simp only [e]
    rw [numR_put 512 _ _ _ (by omega) (by omega)]
    simp only
    rw [numR_put 512 _ _ _ (by omega) (by omega)]
    simp only
    rw [List.take_succ_eq_append_getElem hlt, Int.toNat_of_nonneg hc.1.1, Int.toNat_of_nonneg hc.2.1]
theorem clsR_sound : ∀ (k : Nat) (st : List Nat × Bool), (∀ x ∈ st.1, x < 256) → (clsR k st).2.2 = false →
    st.1 = clsL (clsR k st).1 ++ (clsR k st).2.1 ∧ st.2 = false ∧ (clsR k st).1.length = k ∧ (∀ x ∈ (clsR k st).2.1, x < 256) := by
  intro k
  induction k with
  | zero => intro st hb h; exact ⟨rfl, h, rfl, hb⟩
  | succ k ih =>
    intro st hb h
    rw [clsR] at h ⊢
    simp only at h ⊢
    have hb2 : ∀ x ∈ (clsR k st).2.1, x < 256 := by
      clear h ih
      induction k with
      | zero => exact hb
      | succ k ih => rw [clsR]; exact numR_byte _ _ (numR_byte _ _ ih)
    have h1 := numR_sound 512 _ (numR_byte 512 _ hb2) h
    have h2 := numR_sound 512 _ hb2 h1.2.1
    have h3 := ih st hb h2.2.1
    refine ⟨?_, h3.2.1, by simp [h3.2.2.1], h1.2.2.2⟩
    rw [clsL_append, clsL, clsL]
    refine h3.1.trans ?_
    rw [List.append_assoc]
    congr 1
    refine h2.1.trans ?_
    rw [h1.1]
    simp [rowL]
theorem clsOk_all (u : Int) : ∀ (l : List (Int × Int)) (least : Int), 0 ≤ least → u ≤ 512 → clsOk u least l = true → ∀ c ∈ l, (0 ≤ c.1 ∧ c.1 ≤ 512) ∧ (0 ≤ c.2 ∧ c.2 ≤ 512)
  | [], _, _, _, _ => by simp
  | x :: r, least, h0, hu, h => by
    simp only [clsOk, Bool.and_eq_true, Bool.not_eq_true', decide_eq_false_iff_not] at h
    obtain ⟨h1, h2, h3⟩ := h
    have h4 := inB_of h2
    intro c hc
    rcases List.mem_cons.1 hc with rfl | hc
    · omega
    · exact clsOk_all u r _ (by omega) hu h3 c hc

/-! what may be -/
theorem okS_parts {s : Sg} (h : okS s = true) : (1 ≤ s.src ∧ s.src ≤ 6) ∧ 0 < s.ses ∧ fieldsS s = true ∧ s = cntS s := by
  simp only [okS, sessS, Bool.and_eq_true, decide_eq_true_eq] at h
  exact ⟨inB_of h.1.1, h.1.2, h.2.1, same_of h.2.2⟩
theorem dataS_of {s : Sg} (h : dataS s = true) : (1 ≤ s.tot ∧ s.tot ≤ 512) ∧ (1 ≤ (s.dat.length : Int) ∧ (s.dat.length : Int) ≤ 100) ∧ (0 ≤ s.off ∧ s.off ≤ s.tot - (s.dat.length : Int)) ∧ s.chk = decide (0 < s.ser) := by
  simp only [dataS, Bool.and_eq_true, beq_iff_eq] at h
  exact ⟨inB_of h.1, inB_of h.2.1, inB_of h.2.2.1, h.2.2.2⟩
theorem repS_of {s : Sg} (h : repS s = true) : 0 < s.ser ∧ 0 < s.cks ∧ 0 ≤ s.low ∧ s.low < s.upp ∧ s.upp ≤ 512 ∧ s.cls.length ≤ 20 ∧ clsOk s.upp s.low s.cls = true := by
  simp only [repS, Bool.and_eq_true, decide_eq_true_eq] at h
  exact ⟨h.1, h.2.1, h.2.2.1, h.2.2.2.1, h.2.2.2.2.1, by omega, h.2.2.2.2.2.2⟩
theorem kinds {s : Sg} (h : fieldsS s = true) : (s.knd = 1 ∧ dataS s = true) ∨ (s.knd = 2 ∧ repS s = true) ∨ (s.knd = 3 ∧ 0 < s.ser) ∨ ((s.knd = 4 ∨ s.knd = 6) ∧ 0 ≤ s.rea ∧ s.rea ≤ 255) ∨ (s.knd = 5 ∨ s.knd = 7) := by
  unfold fieldsS at h
  split at h
  · exact .inl ⟨by assumption, h⟩
  · split at h
    · exact .inr (.inl ⟨by assumption, h⟩)
    · split at h
      · exact .inr (.inr (.inl ⟨by assumption, by simpa using h⟩))
      · split at h
        · exact .inr (.inr (.inr (.inl ⟨by assumption, inB_of h⟩)))
        · split at h
          · exact .inr (.inr (.inr (.inr (by assumption))))
          · cases h
/-- its numbers are of their kinds. -/
structure Szd (s : Sg) : Prop where
  ses : s.ses < 4294967296
  ser : s.ser < 4294967296
  cks : s.cks < 4294967296
theorem read_body (s : Sg) (h : okS s = true) (hz : Szd s) : readS s.knd.toNat (rowL [s.src.toNat, s.ses] ++ tailS s) = (s, ([], false)) := by
  obtain ⟨h1, h2, h3, h4⟩ := okS_parts h
  have z1 := hz.ses
  have z2 := hz.ser
  have z3 := hz.cks
  have e : rowL [s.src.toNat, s.ses] ++ tailS s = sd s.src.toNat ++ (sd s.ses ++ tailS s) := by simp [rowL]
  unfold readS
  simp only [e]
  rw [numR_put 6 _ _ _ (by omega) (by omega)]
  simp only
  rw [numR_put 4294967295 _ _ _ (by omega) (by omega)]
  simp only
  rw [Int.toNat_of_nonneg (show 0 ≤ s.src by omega)]
  rcases kinds h3 with ⟨k, hd⟩ | ⟨k, hd⟩ | ⟨k, hd⟩ | ⟨k, hd⟩ | k
  · obtain ⟨d1, d2, d3, d4⟩ := dataS_of hd
    rw [cntS, if_pos k] at h4
    have hk : s.knd.toNat = 1 := by omega
    rw [hk, if_pos rfl, tailS, if_pos k]
    have e3 : rowL [s.off.toNat, s.tot.toNat, s.dat.length] ++ s.dat = sd s.off.toNat ++ (sd s.tot.toNat ++ (sd s.dat.length ++ (s.dat ++ []))) := by simp [rowL]
    rw [e3]
    unfold dataR
    cases hc : s.chk with
    | true =>
      have e2 : ∀ t, rowL [1, s.ser] ++ t = sd 1 ++ (sd s.ser ++ t) := by simp [rowL]
      rw [if_pos rfl, e2]
      simp only [numR_put 1 1 _ false (by omega) (by omega), serR, if_pos]
      simp only [numR_put 4294967295 s.ser _ false (by omega) (by omega), numR_put 512 s.off.toNat _ false (by omega) (by omega), numR_put 512 s.tot.toNat _ false (by omega) (by omega), numR_put 100 s.dat.length _ false (by omega) (by omega), rawR_put]
      rw [Int.toNat_of_nonneg (by omega), Int.toNat_of_nonneg (by omega)]
      rw [hc] at h4
      exact Prod.ext (by rw [h4]; simp [k, zeroS]) rfl
    | false =>
      rw [hc] at d4
      have s0 : s.ser = 0 := by have := of_decide_eq_false d4.symm; omega
      have e2 : ∀ t, rowL [0] ++ t = sd 0 ++ t := by simp [rowL]
      rw [if_neg (by simp), e2]
      simp only [numR_put 1 0 _ false (by omega) (by omega), serR]
      rw [if_neg (by omega)]
      simp only [numR_put 512 s.off.toNat _ false (by omega) (by omega), numR_put 512 s.tot.toNat _ false (by omega) (by omega), numR_put 100 s.dat.length _ false (by omega) (by omega), rawR_put]
      rw [Int.toNat_of_nonneg (by omega), Int.toNat_of_nonneg (by omega)]
      rw [hc, s0] at h4
      exact Prod.ext (by rw [h4]; simp [k, zeroS]) rfl
  · obtain ⟨d1, d2, d3, d4, d5, d6, d7⟩ := repS_of hd
    rw [cntS, if_neg (by omega), if_pos k] at h4
    have hk : s.knd.toNat = 2 := by omega
    rw [hk, if_neg (by omega), if_pos rfl, tailS, if_neg (by omega), if_pos k]
    have e3 : rowL [s.ser, s.cks, s.low.toNat, s.upp.toNat, s.cls.length] ++ clsL s.cls = sd s.ser ++ (sd s.cks ++ (sd s.low.toNat ++ (sd s.upp.toNat ++ (sd s.cls.length ++ (clsL s.cls ++ []))))) := by simp [rowL]
    rw [e3]
    unfold repR
    simp only [numR_put 4294967295 s.ser _ false (by omega) (by omega), numR_put 4294967295 s.cks _ false (by omega) (by omega), numR_put 512 s.low.toNat _ false (by omega) (by omega), numR_put 512 s.upp.toNat _ false (by omega) (by omega), numR_put 20 s.cls.length _ false (by omega) (by omega), clsR_put s.cls [] false (clsOk_all _ _ _ d3 d5 d7) s.cls.length (Nat.le_refl _)]
    rw [Int.toNat_of_nonneg (by omega), Int.toNat_of_nonneg (by omega), List.take_length, List.drop_of_length_le (Nat.le_refl _)]
    exact Prod.ext (by rw [h4]; simp [k, zeroS]) rfl
  · rw [cntS, if_neg (by omega), if_neg (by omega), if_pos k] at h4
    have hk : s.knd.toNat = 3 := by omega
    have e3 : rowL [s.ser] = sd s.ser ++ [] := by simp [rowL]
    rw [hk, if_neg (by omega), if_neg (by omega), if_pos rfl, tailS, if_neg (by omega), if_neg (by omega), if_pos k, e3]
    simp only [numR_put 4294967295 s.ser _ false (by omega) (by omega)]
    exact Prod.ext (by rw [h4]; simp [k, zeroS]) rfl
  · rw [cntS, if_neg (by omega), if_neg (by omega), if_neg (by omega), if_pos k] at h4
    have e3 : rowL [s.rea.toNat] = sd s.rea.toNat ++ [] := by simp [rowL]
    rw [if_neg (by omega), if_neg (by omega), if_neg (by omega), if_pos (by omega), tailS, if_neg (by omega), if_neg (by omega), if_neg (by omega), if_pos k, e3]
    simp only [numR_put 255 s.rea.toNat _ false (by omega) (by omega)]
    rw [Int.toNat_of_nonneg (by omega), Int.toNat_of_nonneg (by omega)]
    exact Prod.ext (by rw [h4]) rfl
  · rw [cntS, if_neg (by omega), if_neg (by omega), if_neg (by omega), if_neg (by omega)] at h4
    rw [if_neg (by omega), if_neg (by omega), if_neg (by omega), if_neg (by omega), tailS, if_neg (by omega), if_neg (by omega), if_neg (by omega), if_neg (by omega)]
    rw [Int.toNat_of_nonneg (by omega)]
    exact Prod.ext (by rw [h4]) rfl
end Go.Proofs.Ythmfbhanmncfgaa
