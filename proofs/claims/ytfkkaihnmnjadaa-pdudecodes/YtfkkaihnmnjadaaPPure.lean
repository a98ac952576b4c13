/- Messages as data: which may be, their bytes, and what bytes say: pure. -/
import Derived.Test.YtfkkaihnmnjadaaPOct
namespace Go.Proofs.Ytfkkaihnmnjadaa
open Go.RowKit
set_option linter.unusedVariables false

/-- A message. -/
structure Ms where
  knd : Int
  num : Nat
  nam : ByteArray
  siz : Int
  off : Int
  sum : Nat
  cod : Int
  bts : List Nat
def zeroM : Ms := ⟨0, 0, ⟨#[]⟩, 0, 0, 0, 0, []⟩
def inB (x a b : Int) : Bool := decide (a ≤ x) && decide (x ≤ b)
theorem inB_of {x a b : Int} (h : inB x a b = true) : a ≤ x ∧ x ≤ b := by simpa [inB] using h
/-- the fields that count for a Kind, a bit each. -/
def fld (k : Int) : Nat :=
  if k = 1 then 3 else if k = 2 then 36 else if k = 3 then 10 else if k = 4 then 16 else if k = 5 then 33 else if k = 6 then 1 else if k = 7 then 32 else if k = 8 then 48 else 0
def hs (f b : Nat) : Bool := (f &&& b) != 0
def lst (f b : Nat) : Int := if hs f b then 1 else 0
theorem fld_cases (k : Int) : k = 1 ∨ k = 2 ∨ k = 3 ∨ k = 4 ∨ k = 5 ∨ k = 6 ∨ k = 7 ∨ k = 8 ∨ fld k = 0 := by
  by_cases h : k = 1 ∨ k = 2 ∨ k = 3 ∨ k = 4 ∨ k = 5 ∨ k = 6 ∨ k = 7 ∨ k = 8
  · omega
  · have h2 : fld k = 0 := by
      unfold fld
      rw [if_neg (by omega), if_neg (by omega), if_neg (by omega), if_neg (by omega), if_neg (by omega), if_neg (by omega), if_neg (by omega), if_neg (by omega)]
    omega
/-- the message with the fields alone that count. -/
def cntM (m : Ms) : Ms := ⟨m.knd, m.num, if hs (fld m.knd) 1 then m.nam else ⟨#[]⟩, if hs (fld m.knd) 2 then m.siz else 0, if hs (fld m.knd) 4 then m.off else 0, if hs (fld m.knd) 8 then m.sum else 0, if hs (fld m.knd) 16 then m.cod else 0, if hs (fld m.knd) 32 then m.bts else []⟩
def sameM (a b : Ms) : Bool := decide (a.knd = b.knd) && (decide (a.num = b.num) && (decide (a.nam = b.nam) && (decide (a.siz = b.siz) && (decide (a.off = b.off) && (decide (a.sum = b.sum) && (decide (a.cod = b.cod) && decide (a.bts = b.bts)))))))
theorem sameM_iff {a b : Ms} : sameM a b = true ↔ a = b := by
  obtain ⟨a1, a2, a3, a4, a5, a6, a7, a8⟩ := a
  obtain ⟨b1, b2, b3, b4, b5, b6, b7, b8⟩ := b
  simp [sameM]
theorem sameM_self (a : Ms) : sameM a a = true := sameM_iff.2 rfl
theorem sameM_comm (a b : Ms) : sameM a b = sameM b a := by
  rw [Bool.eq_iff_iff, sameM_iff, sameM_iff]
  exact eq_comm
def rightM (m : Ms) : Bool := inB (m.nam.size : Nat) (lst (fld m.knd) 1) 24 && (inB m.siz 0 4096 && (inB m.cod 0 255 && (inB (m.bts.length : Nat) (lst (fld m.knd) 4) 256 && inB m.off 0 (4096 - (m.bts.length : Int)))))
/-- may it be? -/
def okM (m : Ms) : Bool := decide (fld m.knd ≠ 0) && (decide (m.num ≠ 0) && (sameM m (cntM m) && rightM m))
def chkM (m : Ms) : Int := if okM m = true then 0 else 210
theorem chk_ok {m : Ms} (h : okM m = true) : chkM m = 0 := if_pos h
theorem chk_no {m : Ms} (h : okM m = false) : chkM m = 210 := if_neg (by rw [h]; simp)
def opt (c : Bool) (l : List Nat) : List Nat := if c then l else []
/-- its bytes. -/
def encM (m : Ms) : List Nat :=
  (m.knd.toNat :: be m.num 4) ++ (opt (hs (fld m.knd) 1) (encName m.nam) ++ (opt (hs (fld m.knd) 2) (be m.siz.toNat 2) ++ (opt (hs (fld m.knd) 4) (be m.off.toNat 2) ++ (opt (hs (fld m.knd) 8) (be m.sum 4) ++ (opt (hs (fld m.knd) 16) [m.cod.toNat] ++ opt (hs (fld m.knd) 32) (encBytes m.bts))))))
/-- a field's bytes, if it counts. -/
def optT (c : Bool) (t : List Nat × Nat × Int) (s : Nat × Int) : List Nat × Nat × Int := if c then t else ([], s.1, s.2)
/-- what is read: the fields' bytes, one behind the other. -/
def rd1 (l : List Nat) : List Nat × Nat × Int := takes l 0 0 1
def rdk (l : List Nat) : Int := (numN (rd1 l).1 : Nat)
def rd2 (l : List Nat) : List Nat × Nat × Int := takes l (rd1 l).2.1 (rd1 l).2.2 4
def rd3 (l : List Nat) : List Nat × Nat × Int := optT (hs (fld (rdk l)) 1) (counts l 1 (rd2 l).2.1 (rd2 l).2.2) (rd2 l).2
def rd4 (l : List Nat) : List Nat × Nat × Int := optT (hs (fld (rdk l)) 2) (takes l (rd3 l).2.1 (rd3 l).2.2 2) (rd3 l).2
def rd5 (l : List Nat) : List Nat × Nat × Int := optT (hs (fld (rdk l)) 4) (takes l (rd4 l).2.1 (rd4 l).2.2 2) (rd4 l).2
def rd6 (l : List Nat) : List Nat × Nat × Int := optT (hs (fld (rdk l)) 8) (takes l (rd5 l).2.1 (rd5 l).2.2 4) (rd5 l).2
def rd7 (l : List Nat) : List Nat × Nat × Int := optT (hs (fld (rdk l)) 16) (takes l (rd6 l).2.1 (rd6 l).2.2 1) (rd6 l).2
def rd8 (l : List Nat) : List Nat × Nat × Int := optT (hs (fld (rdk l)) 32) (counts l 2 (rd7 l).2.1 (rd7 l).2.2) (rd7 l).2
def rdM (l : List Nat) : Ms := ⟨rdk l, numN (rd2 l).1, nameOf (rd3 l).1, (numN (rd4 l).1 : Nat), (numN (rd5 l).1 : Nat), numN (rd6 l).1, (numN (rd7 l).1 : Nat), (rd8 l).1⟩
/-- what bytes say: a message and 0, or none and the error. -/
def decM (l : List Nat) : Ms × Int :=
  if 0 < l.length ∧ fld (l.getD 0 0 : Nat) = 0 then (zeroM, 210) else if (rd8 l).2.2 ≠ 0 then (zeroM, (rd8 l).2.2) else if 0 < l.length - (rd8 l).2.1 ∨ okM (rdM l) = false then (zeroM, 210) else (rdM l, 0)

/- numbers there and back. -/
theorem num_le (x : Nat) : ∀ k, x < 256 ^ k → numN (be x k) = x := by
  intro k
  induction k generalizing x with
  | zero => intro h; obtain rfl : x = 0 := by simpa using h
            rfl
  | succ k ih =>
    intro h
    have e : be x (k + 1) = be (x / 256) k ++ [x % 256] := by
      have : ∀ n, be x (n + 1) = be (x / 256) n ++ [x % 256] := by
        intro n
        induction n with
        | zero => simp [be, leN]
        | succ n ih => rw [be_succ x (n + 1), ih, be_succ (x / 256) n, Nat.div_div_eq_div_mul, Nat.pow_succ, Nat.mul_comm (256 ^ n) 256]; rfl
      exact this k
    rw [e, numN_snoc, ih _ (by rw [Nat.pow_succ] at h; omega)]
    omega
theorem be_of {t : List Nat} (hb : ∀ x ∈ t, x < 256) : be (numN t) t.length = t := by
  have h : ∀ n (t : List Nat), t.length = n → (∀ x ∈ t, x < 256) → be (numN t) t.length = t := by
    intro n
    induction n with
    | zero => intro t ht _; obtain rfl := List.eq_nil_of_length_eq_zero ht; rfl
    | succ n ih =>
      intro t ht hb
      obtain ⟨s, x, rfl⟩ : ∃ s x, t = s ++ [x] := ⟨t.dropLast, t.getLast (by intro h; subst h; simp at ht), (List.dropLast_concat_getLast _).symm⟩
      have hs : s.length = n := by simpa using ht
      have hx := hb x (by simp)
      have e : ∀ y k, be y (k + 1) = be (y / 256) k ++ [y % 256] := by
        intro y k
        induction k with
        | zero => simp [be, leN]
        | succ k ih => rw [be_succ y (k + 1), ih, be_succ (y / 256) k, Nat.div_div_eq_div_mul, Nat.pow_succ, Nat.mul_comm (256 ^ k) 256]; rfl
      rw [numN_snoc, List.length_append, List.length_singleton, e, show (numN s * 256 + x) / 256 = numN s by omega, show (numN s * 256 + x) % 256 = x by omega, ih s hs (fun y hy => hb y (by simp [hy]))]
  exact h _ t rfl hb
theorem num_one (x : Nat) : numN [x] = x := by show 0 * 256 + x = x; omega
theorem num_be2 {n : Nat} (h : n < 65536) : numN (be n 2) = n := num_le n 2 (by omega)
theorem num_be4 {n : Nat} (h : n < 4294967296) : numN (be n 4) = n := num_le n 4 (by omega)
theorem be_of2 {t : List Nat} (hl : t.length = 2) (hb : ∀ x ∈ t, x < 256) : be (numN t) 2 = t := by have := be_of hb; rw [hl] at this; exact this
theorem be_of4 {t : List Nat} (hl : t.length = 4) (hb : ∀ x ∈ t, x < 256) : be (numN t) 4 = t := by have := be_of hb; rw [hl] at this; exact this
/-- what is taken is the front of what is left. -/
theorem takes_split {l : List Nat} {at_ n : Nat} {er : Int} (h : (takes l at_ er n).2.2 = 0) : er = 0 ∧ l.drop at_ = (takes l at_ er n).1 ++ l.drop (takes l at_ er n).2.1 ∧ (takes l at_ er n).1.length = n := by
  by_cases he : (er != 0) = true
  · rw [takes_err he] at h
    simp only at h
    simp [h] at he
  · obtain rfl : er = 0 := by simpa using he
    by_cases hn : at_ + n ≤ l.length
    · rw [takes_ok hn]
      refine ⟨rfl, ?_, by rw [List.length_take, List.length_drop]; omega⟩
      rw [← List.drop_drop, List.take_append_drop]
    · rw [takes_short hn] at h
      simp at h
theorem counts_split {l : List Nat} {k at_ : Nat} {er : Int} (hb : ∀ x ∈ l, x < 256) (h : (counts l k at_ er).2.2 = 0) : er = 0 ∧ ∃ t, t.length = k ∧ (counts l k at_ er).1.length = numN t ∧ (∀ x ∈ t, x < 256) ∧ (∀ x ∈ (counts l k at_ er).1, x < 256) ∧ l.drop at_ = t ++ ((counts l k at_ er).1 ++ l.drop (counts l k at_ er).2.1) := by
  obtain ⟨h1, h2, h3⟩ := takes_split (l := l) h
  obtain ⟨h4, h5, h6⟩ := takes_split h1
  refine ⟨h4, (takes l at_ er k).1, h6, h3, takes_byte hb, takes_byte hb, ?_⟩
  rw [h5, h2]
  rfl
theorem counts_name {l : List Nat} {at_ : Nat} {er : Int} (hb : ∀ x ∈ l, x < 256) (h : (counts l 1 at_ er).2.2 = 0) : er = 0 ∧ l.drop at_ = encName (nameOf (counts l 1 at_ er).1) ++ l.drop (counts l 1 at_ er).2.1 := by
  obtain ⟨h1, t, h2, h3, _, h4, h5⟩ := counts_split hb h
  refine ⟨h1, ?_⟩
  unfold encName
  rw [nbytes_nameOf _ h4, nameOf_size, h3, h5]
  match t, h2 with
  | [x], _ =>
    have : numN [x] = x := by show 0 * 256 + x = x; omega
    rw [this]
    rfl
theorem counts_bytes {l : List Nat} {at_ : Nat} {er : Int} (hb : ∀ x ∈ l, x < 256) (h : (counts l 2 at_ er).2.2 = 0) : er = 0 ∧ l.drop at_ = encBytes (counts l 2 at_ er).1 ++ l.drop (counts l 2 at_ er).2.1 := by
  obtain ⟨h1, t, h2, h3, ht, h4, h5⟩ := counts_split hb h
  refine ⟨h1, ?_⟩
  unfold encBytes
  rw [h3, be_of2 h2 ht, h5, List.append_assoc]
theorem takes_two {l : List Nat} {at_ : Nat} {er : Int} (hb : ∀ x ∈ l, x < 256) (h : (takes l at_ er 2).2.2 = 0) : er = 0 ∧ l.drop at_ = be (numN (takes l at_ er 2).1) 2 ++ l.drop (takes l at_ er 2).2.1 := by
  obtain ⟨h1, h2, h3⟩ := takes_split h
  rw [be_of2 h3 (takes_byte hb)]
  exact ⟨h1, h2⟩
theorem takes_one {l : List Nat} {at_ : Nat} {er : Int} (h : (takes l at_ er 1).2.2 = 0) : er = 0 ∧ l.drop at_ = numN (takes l at_ er 1).1 :: l.drop (takes l at_ er 1).2.1 := by
  obtain ⟨h1, h2, h3⟩ := takes_split h
  refine ⟨h1, ?_⟩
  rw [h2]
  generalize (takes l at_ er 1).1 = t at *
  match t, h3 with
  | [x], _ =>
    have : numN [x] = x := by show 0 * 256 + x = x; omega
    rw [this]
    rfl
/-- a front that is there is taken. -/
theorem takes_pre {l : List Nat} {at_ : Nat} {m r : List Nat} (h : l.drop at_ = m ++ r) (ha : at_ ≤ l.length) : takes l at_ 0 m.length = (m, at_ + m.length, 0) ∧ l.drop (at_ + m.length) = r ∧ at_ + m.length ≤ l.length := by
  have hl := congrArg List.length h
  rw [List.length_drop, List.length_append] at hl
  refine ⟨?_, ?_, by omega⟩
  · rw [takes_ok (by omega), h, List.take_left]
  · rw [← List.drop_drop, h, List.drop_left]
theorem counts_pre {l : List Nat} {at_ k : Nat} {t m r : List Nat} (h : l.drop at_ = t ++ (m ++ r)) (ha : at_ ≤ l.length) (hk : t.length = k) (hn : numN t = m.length) : counts l k at_ 0 = (m, at_ + k + m.length, 0) ∧ l.drop (at_ + k + m.length) = r ∧ at_ + k + m.length ≤ l.length := by
  subst hk
  obtain ⟨h1, h2, h3⟩ := takes_pre h ha
  obtain ⟨h4, h5, h6⟩ := takes_pre h2 h3
  unfold counts
  rw [h1]
  simp only
  rw [hn, h4]
  exact ⟨rfl, h5, h6⟩
theorem name_pre {l : List Nat} {at_ : Nat} {s : ByteArray} {r : List Nat} (h : l.drop at_ = encName s ++ r) (ha : at_ ≤ l.length) : counts l 1 at_ 0 = (nbytes s, at_ + 1 + (nbytes s).length, 0) ∧ l.drop (at_ + 1 + (nbytes s).length) = r ∧ at_ + 1 + (nbytes s).length ≤ l.length :=
  counts_pre (t := [s.size]) (by rw [h]; rfl) ha rfl (by rw [nbytes_length]; show 0 * 256 + s.size = s.size; omega)
theorem bytes_pre {l : List Nat} {at_ : Nat} {b r : List Nat} (h : l.drop at_ = encBytes b ++ r) (ha : at_ ≤ l.length) (hb : b.length < 65536) : counts l 2 at_ 0 = (b, at_ + 2 + b.length, 0) ∧ l.drop (at_ + 2 + b.length) = r ∧ at_ + 2 + b.length ≤ l.length :=
  counts_pre (t := be b.length 2) (by rw [h, encBytes, List.append_assoc]) ha (be_length _ _) (num_be2 hb)
theorem takes_four {l : List Nat} {at_ : Nat} {er : Int} (hb : ∀ x ∈ l, x < 256) (h : (takes l at_ er 4).2.2 = 0) : er = 0 ∧ l.drop at_ = be (numN (takes l at_ er 4).1) 4 ++ l.drop (takes l at_ er 4).2.1 := by
  obtain ⟨h1, h2, h3⟩ := takes_split h
  rw [be_of4 h3 (takes_byte hb)]
  exact ⟨h1, h2⟩

/- the other way round: what is decoded encodes to the same bytes. -/
theorem opt_back {c : Bool} {l : List Nat} {t : List Nat × Nat × Int} {s : Nat × Int} {f : List Nat} (h : (optT c t s).2.2 = 0) (ht : c = true → t.2.2 = 0 → s.2 = 0 ∧ l.drop s.1 = f ++ l.drop t.2.1) : s.2 = 0 ∧ l.drop s.1 = opt c f ++ l.drop (optT c t s).2.1 := by
  cases c with
  | false => exact ⟨h, rfl⟩
  | true => exact ht rfl h
theorem opt_eq {c : Bool} {l m : List Nat} (h : c = true → l = m) : opt c l = opt c m := by
  cases c with
  | false => rfl
  | true => exact h rfl
theorem rdM_enc {l : List Nat} (hb : ∀ x ∈ l, x < 256) (h : (rd8 l).2.2 = 0) : l = encM (rdM l) ++ l.drop (rd8 l).2.1 := by
  obtain ⟨e8, d8⟩ := opt_back (l := l) (f := encBytes (counts l 2 (rd7 l).2.1 (rd7 l).2.2).1) h (fun _ h => counts_bytes hb h)
  obtain ⟨e7, d7⟩ := opt_back (l := l) (f := [numN (takes l (rd6 l).2.1 (rd6 l).2.2 1).1]) e8 (fun _ h => takes_one h)
  obtain ⟨e6, d6⟩ := opt_back (l := l) (f := be (numN (takes l (rd5 l).2.1 (rd5 l).2.2 4).1) 4) e7 (fun _ h => takes_four hb h)
  obtain ⟨e5, d5⟩ := opt_back (l := l) (f := be (numN (takes l (rd4 l).2.1 (rd4 l).2.2 2).1) 2) e6 (fun _ h => takes_two hb h)
  obtain ⟨e4, d4⟩ := opt_back (l := l) (f := be (numN (takes l (rd3 l).2.1 (rd3 l).2.2 2).1) 2) e5 (fun _ h => takes_two hb h)
  obtain ⟨e3, d3⟩ := opt_back (l := l) (f := encName (nameOf (counts l 1 (rd2 l).2.1 (rd2 l).2.2).1)) e4 (fun _ h => counts_name hb h)
  obtain ⟨e2, d2⟩ := takes_four hb e3
  obtain ⟨_, d1⟩ := takes_one e2
  rw [List.drop_zero] at d1
  have k8 : opt (hs (fld (rdk l)) 32) (encBytes (rdM l).bts) = opt (hs (fld (rdk l)) 32) (encBytes (counts l 2 (rd7 l).2.1 (rd7 l).2.2).1) := opt_eq (fun e => by show encBytes (rd8 l).1 = _; rw [rd8, e]; rfl)
  have k7 : opt (hs (fld (rdk l)) 16) [(rdM l).cod.toNat] = opt (hs (fld (rdk l)) 16) [numN (takes l (rd6 l).2.1 (rd6 l).2.2 1).1] := opt_eq (fun e => by show [Int.toNat (numN (rd7 l).1 : Nat)] = _; rw [rd7, e, Int.toNat_natCast]; rfl)
  have k6 : opt (hs (fld (rdk l)) 8) (be (rdM l).sum 4) = opt (hs (fld (rdk l)) 8) (be (numN (takes l (rd5 l).2.1 (rd5 l).2.2 4).1) 4) := opt_eq (fun e => by show be (numN (rd6 l).1) 4 = _; rw [rd6, e]; rfl)
  have k5 : opt (hs (fld (rdk l)) 4) (be (rdM l).off.toNat 2) = opt (hs (fld (rdk l)) 4) (be (numN (takes l (rd4 l).2.1 (rd4 l).2.2 2).1) 2) := opt_eq (fun e => by show be (Int.toNat (numN (rd5 l).1 : Nat)) 2 = _; rw [rd5, e, Int.toNat_natCast]; rfl)
  have k4 : opt (hs (fld (rdk l)) 2) (be (rdM l).siz.toNat 2) = opt (hs (fld (rdk l)) 2) (be (numN (takes l (rd3 l).2.1 (rd3 l).2.2 2).1) 2) := opt_eq (fun e => by show be (Int.toNat (numN (rd4 l).1 : Nat)) 2 = _; rw [rd4, e, Int.toNat_natCast]; rfl)
  have k3 : opt (hs (fld (rdk l)) 1) (encName (rdM l).nam) = opt (hs (fld (rdk l)) 1) (encName (nameOf (counts l 1 (rd2 l).2.1 (rd2 l).2.2).1)) := opt_eq (fun e => by show encName (nameOf (rd3 l).1) = _; rw [rd3, e]; rfl)
  have k : encM (rdM l) = (numN (rd1 l).1 :: be (numN (rd2 l).1) 4) ++ (opt (hs (fld (rdk l)) 1) (encName (rdM l).nam) ++ (opt (hs (fld (rdk l)) 2) (be (rdM l).siz.toNat 2) ++ (opt (hs (fld (rdk l)) 4) (be (rdM l).off.toNat 2) ++ (opt (hs (fld (rdk l)) 8) (be (rdM l).sum 4) ++ (opt (hs (fld (rdk l)) 16) [(rdM l).cod.toNat] ++ opt (hs (fld (rdk l)) 32) (encBytes (rdM l).bts)))))) := rfl
  rw [k, k3, k4, k5, k6, k7, k8]
  simp only [List.append_assoc, List.cons_append]
  refine d1.trans ?_
  congr 1
  refine d2.trans ?_
  congr 1
  refine d3.trans ?_
  congr 1
  refine d4.trans ?_
  congr 1
  refine d5.trans ?_
  congr 1
  refine d6.trans ?_
  congr 1
  refine d7.trans ?_
  congr 1
theorem takes_le {l : List Nat} {at_ n : Nat} {er : Int} (h : at_ ≤ l.length) : (takes l at_ er n).2.1 ≤ l.length := by
  unfold takes
  split
  · exact h
  · split
    · assumption
    · exact h
/-- what is decoded may be, and encodes to the same bytes. -/
theorem dec_enc {l : List Nat} (hb : ∀ x ∈ l, x < 256) (h : (decM l).2 = 0) : okM (decM l).1 = true ∧ encM (decM l).1 = l := by
  unfold decM at h ⊢
  split at h
  · simp at h
  · rename_i h1
    rw [if_neg h1]
    split at h
    · rename_i h2; exact absurd h h2
    · rename_i h2
      rw [if_neg h2]
      split at h
      · simp at h
      · rename_i h3
        rw [if_neg h3]
        have h4 : (rd8 l).2.2 = 0 := by omega
        have h5 := rdM_enc hb h4
        have h6 : l.drop (rd8 l).2.1 = [] := List.drop_eq_nil_of_le (by omega)
        rw [h6, List.append_nil] at h5
        refine ⟨?_, h5.symm⟩
        cases h7 : okM (rdM l) with
        | true => rfl
        | false => exact absurd (Or.inr h7) h3
theorem dec_zero {l : List Nat} (h : (decM l).2 ≠ 0) : (decM l).1 = zeroM := by
  unfold decM at h ⊢
  split
  · rfl
  · rename_i h1
    rw [if_neg h1] at h
    split
    · rfl
    · rename_i h2
      rw [if_neg h2] at h
      split
      · rfl
      · rename_i h3; rw [if_neg h3] at h; simp at h
end Go.Proofs.Ytfkkaihnmnjadaa
