/- Items as data; their bytes; what bytes say: there and back. -/
import Derived.Test.YtjfmgokpnpmdpaaDoorGReader
namespace Go.Proofs.YtjfmgokpnpmdpaaDoor
open Go.RowKit

/-- An item: Kind, Num and Bytes ahead, its Items behind. -/
abbrev T := DataW (Int × Nat × List Nat)
def mkI (k : Int) (n : Nat) (b : List Nat) (l : List T) : T := .agg (.held (k, n, b) :: l)
def kd : T → Int
  | .agg (.held h :: _) => h.1
  | _ => 0
def nm : T → Nat
  | .agg (.held h :: _) => h.2.1
  | _ => 0
def bs : T → List Nat
  | .agg (.held h :: _) => h.2.2
  | _ => []
def its : T → List T
  | .agg (_ :: l) => l
  | _ => []
theorem kd_mk (k : Int) (n : Nat) (b : List Nat) (l : List T) : kd (mkI k n b l) = k := rfl
theorem nm_mk (k : Int) (n : Nat) (b : List Nat) (l : List T) : nm (mkI k n b l) = n := rfl
theorem bs_mk (k : Int) (n : Nat) (b : List Nat) (l : List T) : bs (mkI k n b l) = b := rfl
theorem its_mk (k : Int) (n : Nat) (b : List Nat) (l : List T) : its (mkI k n b l) = l := rfl
theorem mk_inj {k k' : Int} {n n' : Nat} {b b' : List Nat} {l l' : List T} (h : mkI k n b l = mkI k' n' b' l') : k = k' ∧ n = n' ∧ b = b' ∧ l = l' :=
  ⟨by simpa [kd_mk] using congrArg kd h, by simpa [nm_mk] using congrArg nm h, by simpa [bs_mk] using congrArg bs h, by simpa [its_mk] using congrArg its h⟩

/-- the item, laid anew so many levels deep. -/
def cn : Nat → T → T
  | 0, _ => .nil
  | m + 1, x => mkI (kd x) (nm x) (bs x) ((its x).map (cn m))

def all2 (f : T → T → Bool) : List T → List T → Bool
  | [], [] => true
  | x :: a, y :: b => f x y && all2 f a b
  | [], _ :: _ => false
  | _ :: _, [] => false
/-- are both the same, so many levels deep? -/
def sameT : Nat → T → T → Bool
  | 0, _, _ => true
  | m + 1, x, y => decide (kd x = kd y) && (decide (nm x = nm y) && (decide (bs x = bs y) && all2 (sameT m) (its x) (its y)))
theorem all2_iff {f : T → T → Bool} {g : T → T} (h : ∀ x y, f x y = true ↔ g x = g y) : ∀ a b, all2 f a b = true ↔ a.map g = b.map g
  | [], [] => by simp [all2]
  | x :: a, y :: b => by rw [all2, Bool.and_eq_true, h, all2_iff h a b]; simp
  | [], _ :: _ => by simp [all2]
  | _ :: _, [] => by simp [all2]
theorem same_iff : ∀ (m : Nat) (x y : T), sameT m x y = true ↔ cn m x = cn m y
  | 0, _, _ => by simp [sameT, cn]
  | m + 1, x, y => by
    rw [sameT, cn, cn]
    simp only [Bool.and_eq_true, decide_eq_true_eq, all2_iff (same_iff m)]
    constructor
    · rintro ⟨a, b, c, d⟩; rw [a, b, c, d]
    · intro h; exact mk_inj h

/-- the bytes of a head. -/
def hd (t n : Nat) : List Nat :=
  if n < 24 then [32 * t + n] else if n < 256 then (32 * t + 24) :: be n 1 else if n < 65536 then (32 * t + 25) :: be n 2 else if n < 4294967296 then (32 * t + 26) :: be n 4 else (32 * t + 27) :: be n 8
/-- the bytes of an item. -/
def enc : Nat → T → List Nat
  | 0, _ => []
  | m + 1, x =>
    if kd x = 1 then hd 0 (nm x) else if kd x = 2 then hd 2 (bs x).length ++ bs x else if kd x = 3 then hd 3 (bs x).length ++ bs x
    else if kd x = 4 then hd 4 (its x).length ++ ((its x).map (enc m)).flatten else []
theorem enc_cn : ∀ (m : Nat) (x : T), enc m (cn m x) = enc m x
  | 0, _ => rfl
  | m + 1, x => by
    simp only [enc, cn, kd_mk, nm_mk, bs_mk, its_mk, List.length_map, List.map_map]
    have : (enc m ∘ cn m) = enc m := by funext y; exact enc_cn m y
    rw [this]

/-- may the item be? (V: are the bytes a text?) -/
def okT (V : List Nat → Bool) : Nat → T → Bool
  | 0, _ => false
  | m + 1, x =>
    if kd x = 1 then decide ((bs x).length = 0) && decide ((its x).length = 0)
    else if kd x = 2 then decide (nm x = 0) && (decide ((its x).length = 0) && decide ((bs x).length ≤ 512))
    else if kd x = 3 then decide (nm x = 0) && (decide ((its x).length = 0) && (decide ((bs x).length ≤ 512) && V (bs x)))
    else if kd x = 4 then decide (nm x = 0) && (decide ((bs x).length = 0) && (decide ((its x).length ≤ 64) && (its x).all (okT V m)))
    else false

/-- the least number that wants so many bytes. -/
def least (size : Nat) : Nat := if size = 1 then 24 else 256 ^ (size / 2)
/-- the rest of a head's number: 0 and the number and what is left; 7: too short; 170: wrong. -/
def rnL (size g : Nat) : Nat → Nat → List Nat → Int × Nat × List Nat
  | 0, n, r => (0, n, r)
  | _ + 1, _, [] => (7, 0, [])
  | k + 1, n, b :: r => if n + b * 256 ^ k + (256 ^ k - 1) < least size ∨ g < n + b * 256 ^ k then (170, 0, []) else rnL size g k (n + b * 256 ^ k) r
def sizeE (e : Nat) : Nat := 2 ^ (e - 24)
def rn (e g : Nat) (r : List Nat) : Int × Nat × List Nat :=
  if e < 24 then (0, e, r) else if 27 < e then (170, 0, []) else rnL (sizeE e) g (sizeE e) 0 r
def kindN (t : Nat) : Nat := if t = 0 then 1 else if t = 2 then 2 else if t = 3 then 3 else if t = 4 then 4 else 0
def limN (k : Nat) : Nat := if k = 2 then 512 else if k = 3 then 512 else if k = 4 then 64 else 18446744073709551615

def decL (f : List Nat → Int × T × List Nat) : Nat → List Nat → Int × List T × List Nat
  | 0, r => (0, [], r)
  | n + 1, r =>
    if (f r).1 = 0 then
      if (decL f n (f r).2.2).1 = 0 then (0, (f r).2.1 :: (decL f n (f r).2.2).2.1, (decL f n (f r).2.2).2.2) else ((decL f n (f r).2.2).1, [], [])
    else ((f r).1, [], [])
/-- what stands behind the head of a kind with its number. -/
def decB (V : List Nat → Bool) (f : List Nat → Int × T × List Nat) (k n : Nat) (r : List Nat) : Int × T × List Nat :=
  if k = 1 then (0, mkI 1 n [] [], r)
  else if k = 4 then (if (decL f n r).1 = 0 then (0, mkI 4 0 [] (decL f n r).2.1, (decL f n r).2.2) else ((decL f n r).1, .nil, []))
  else if r.length < n then (7, .nil, [])
  else if k = 3 ∧ V (r.take n) = false then (170, .nil, [])
  else (0, mkI k 0 (r.take n) [], r.drop n)
/-- the item that bytes begin with, so many levels being left: 0, it and what is left; 7: too short; 170: wrong. -/
def dec (V : List Nat → Bool) : Nat → List Nat → Int × T × List Nat
  | _, [] => (7, .nil, [])
  | 0, _ :: _ => (170, .nil, [])
  | m + 1, b :: r =>
    if kindN (b / 32) = 0 then (170, .nil, [])
    else if (rn (b % 32) (limN (kindN (b / 32))) r).1 = 0 then decB V (dec V m) (kindN (b / 32)) (rn (b % 32) (limN (kindN (b / 32))) r).2.1 (rn (b % 32) (limN (kindN (b / 32))) r).2.2
    else ((rn (b % 32) (limN (kindN (b / 32))) r).1, .nil, [])

/-! a head, there and back -/
theorem pow_pos' (k : Nat) : 0 < 256 ^ k := Nat.pow_pos (by omega)
theorem div_up (N k : Nat) : N / 256 ^ (k + 1) * 256 ^ (k + 1) + N / 256 ^ k % 256 * 256 ^ k = N / 256 ^ k * 256 ^ k := by
  have h1 : N / 256 ^ (k + 1) = N / 256 ^ k / 256 := div_succ N k
  have h2 := Nat.div_add_mod (N / 256 ^ k) 256
  rw [h1, Nat.pow_succ]
  generalize N / 256 ^ k = q at h2 ⊢
  generalize 256 ^ k = p
  rw [Nat.mul_comm p 256, ← Nat.mul_assoc, ← Nat.add_mul]
  congr 1
  omega
theorem div_le (N k : Nat) : N / 256 ^ k * 256 ^ k ≤ N ∧ N ≤ N / 256 ^ k * 256 ^ k + (256 ^ k - 1) := by
  have h1 := Nat.div_add_mod N (256 ^ k)
  have h2 := Nat.mod_lt N (pow_pos' k)
  rw [Nat.mul_comm] at h1
  omega
theorem rnL_be (size g N : Nat) (h1 : least size ≤ N) (h2 : N ≤ g) (r : List Nat) : ∀ k, rnL size g k (N / 256 ^ k * 256 ^ k) (be N k ++ r) = (0, N, r)
  | 0 => by simp [rnL, be, leN]
  | k + 1 => by
    rw [be_succ, List.cons_append, rnL, div_up]
    have h3 := div_le N k
    rw [if_neg (by omega)]
    exact rnL_be size g N h1 h2 r k
theorem rnL_be0 (size g N : Nat) (h0 : N < 256 ^ size) (h1 : least size ≤ N) (h2 : N ≤ g) (r : List Nat) : rnL size g size 0 (be N size ++ r) = (0, N, r) := by
  have := rnL_be size g N h1 h2 r size
  rw [Nat.div_eq_of_lt h0, Nat.zero_mul] at this
  exact this
theorem rnL_of (size g : Nat) : ∀ (k n : Nat) (r : List Nat) (N : Nat) (r2 : List Nat), (∀ x ∈ r, x < 256) → n % 256 ^ k = 0 → rnL size g k n r = (0, N, r2) → r = be N k ++ r2 ∧ n = N / 256 ^ k * 256 ^ k ∧ (0 < k → least size ≤ N ∧ N ≤ g)
  | 0, n, r, N, r2, _, _, h => by
    simp only [rnL, Prod.mk.injEq, true_and] at h
    obtain ⟨rfl, rfl⟩ := h
    exact ⟨by simp [be, leN], by simp, fun h => by omega⟩
  | k + 1, n, [], N, r2, _, _, h => by simp [rnL] at h
  | k + 1, n, b :: r, N, r2, hb, hn, h => by
    rw [rnL] at h
    split at h
    · simp at h
    · rename_i hc
      have hb0 := hb b List.mem_cons_self
      have hp := pow_pos' k
      have hmod : (n + b * 256 ^ k) % 256 ^ k = 0 := by
        rw [Nat.add_mul_mod_self_right]
        exact Nat.mod_eq_zero_of_dvd (Nat.dvd_trans ⟨256, by rw [Nat.pow_succ]⟩ (Nat.dvd_of_mod_eq_zero hn))
      obtain ⟨e1, e2, e3⟩ := rnL_of size g k (n + b * 256 ^ k) r N r2 (fun x hx => hb x (List.mem_cons_of_mem _ hx)) hmod h
      obtain ⟨q, hq⟩ := Nat.dvd_of_mod_eq_zero hn
      have hN : N / 256 ^ k = q * 256 + b := by
        have h1 : n + b * 256 ^ k = (q * 256 + b) * 256 ^ k := by
          rw [hq, Nat.add_mul, Nat.pow_succ, Nat.mul_comm (256 ^ k * 256) q, Nat.mul_assoc q 256, Nat.mul_comm (256 ^ k) 256]
        rw [h1] at e2
        exact (Nat.eq_of_mul_eq_mul_right hp e2).symm
      have hm : N / 256 ^ k % 256 = b := by rw [hN]; omega
      refine ⟨?_, ?_, fun _ => ?_⟩
      · rw [be_succ, hm, e1, List.cons_append]
      · rw [div_succ, hN, hq, Nat.mul_comm]
        congr 1
        omega
      · rcases Nat.eq_zero_or_pos k with h0 | h0
        · subst h0
          simp only [Nat.pow_zero, Nat.mul_one, Nat.div_one] at hc e2
          omega
        · exact e3 h0
theorem rnL_more (size g : Nat) (s : List Nat) : ∀ (k n : Nat) (r : List Nat), (rnL size g k n r).1 ≠ 7 → rnL size g k n (r ++ s) = if (rnL size g k n r).1 = 0 then (0, (rnL size g k n r).2.1, (rnL size g k n r).2.2 ++ s) else rnL size g k n r
  | 0, n, r, _ => by simp [rnL]
  | k + 1, n, [], h => by simp [rnL] at h
  | k + 1, n, b :: r, h => by
    simp only [rnL, List.cons_append] at h ⊢
    split
    · simp
    · rename_i hc
      rw [if_neg hc] at h
      exact rnL_more size g s k _ r h
theorem rnL_code (size g : Nat) : ∀ (k n : Nat) (r : List Nat), (rnL size g k n r).1 = 0 ∨ (rnL size g k n r).1 = 7 ∨ (rnL size g k n r).1 = 170
  | 0, n, r => by simp [rnL]
  | k + 1, n, [] => by simp [rnL]
  | k + 1, n, b :: r => by
    simp only [rnL]
    split
    · simp
    · exact rnL_code size g k _ r

theorem rn_more (e g : Nat) (r s : List Nat) (h : (rn e g r).1 ≠ 7) : rn e g (r ++ s) = if (rn e g r).1 = 0 then (0, (rn e g r).2.1, (rn e g r).2.2 ++ s) else rn e g r := by
  unfold rn at h ⊢
  split
  · simp
  · rename_i h1
    rw [if_neg h1] at h
    split
    · simp
    · rename_i h2
      rw [if_neg h2] at h
      exact rnL_more _ g s _ _ r h
theorem rn_code (e g : Nat) (r : List Nat) : (rn e g r).1 = 0 ∨ (rn e g r).1 = 7 ∨ (rn e g r).1 = 170 := by
  unfold rn
  split
  · simp
  · split
    · simp
    · exact rnL_code _ g _ _ r
theorem be_len1 (n k : Nat) (r : List Nat) (h : be n k ++ r = r) : k = 0 := by
  have := congrArg List.length h
  rw [List.length_append, be_length] at this
  omega
theorem rn_24 (g : Nat) (r : List Nat) : rn 24 g r = rnL 1 g 1 0 r := by simp [rn, sizeE]
theorem rn_25 (g : Nat) (r : List Nat) : rn 25 g r = rnL 2 g 2 0 r := by simp [rn, sizeE]
theorem rn_26 (g : Nat) (r : List Nat) : rn 26 g r = rnL 4 g 4 0 r := by simp [rn, sizeE]
theorem rn_27 (g : Nat) (r : List Nat) : rn 27 g r = rnL 8 g 8 0 r := by simp [rn, sizeE]
/-- a head is read as what it was. -/
theorem rn_hd (t N g : Nat) (ht : t < 8) (hN : N ≤ g) (hN64 : N < 18446744073709551616) (r : List Nat) : ∃ b u, hd t N = b :: u ∧ b / 32 = t ∧ b < 256 ∧ rn (b % 32) g (u ++ r) = (0, N, r) := by
  unfold hd
  split
  · exact ⟨_, [], rfl, by omega, by omega, by unfold rn; rw [if_pos (by omega)]; simp; omega⟩
  split
  · refine ⟨_, _, rfl, by omega, by omega, ?_⟩
    rw [show (32 * t + 24) % 32 = 24 by omega, rn_24]
    exact rnL_be0 1 g N (by omega) (by simp [least]; omega) hN r
  split
  · refine ⟨_, _, rfl, by omega, by omega, ?_⟩
    rw [show (32 * t + 25) % 32 = 25 by omega, rn_25]
    exact rnL_be0 2 g N (by omega) (by simp [least]; omega) hN r
  split
  · refine ⟨_, _, rfl, by omega, by omega, ?_⟩
    rw [show (32 * t + 26) % 32 = 26 by omega, rn_26]
    exact rnL_be0 4 g N (by omega) (by simp [least]; omega) hN r
  · refine ⟨_, _, rfl, by omega, by omega, ?_⟩
    rw [show (32 * t + 27) % 32 = 27 by omega, rn_27]
    exact rnL_be0 8 g N (by omega) (by simp [least]; omega) hN r
theorem rnL_lt (size g : Nat) {N : Nat} {r r2 : List Nat} (hb : ∀ x ∈ r, x < 256) (h : rnL size g size 0 r = (0, N, r2)) : r = be N size ++ r2 ∧ N < 256 ^ size ∧ (0 < size → least size ≤ N ∧ N ≤ g) := by
  obtain ⟨e1, e2, e3⟩ := rnL_of size g size 0 r N r2 hb (by simp) h
  refine ⟨e1, ?_, e3⟩
  have hp := pow_pos' size
  have h0 : N / 256 ^ size = 0 := by
    rcases Nat.mul_eq_zero.1 e2.symm with h | h
    · exact h
    · omega
  rcases (Nat.div_eq_zero_iff).1 h0 with h | h
  · omega
  · exact h
/-- what is read as a head is one. -/
theorem hd_of {b g N : Nat} {r r2 : List Nat} (hr : ∀ x ∈ r, x < 256) (hg : b % 32 < 24 → b % 32 ≤ g) (h : rn (b % 32) g r = (0, N, r2)) : b :: r = hd (b / 32) N ++ r2 ∧ N ≤ g ∧ N < 18446744073709551616 := by
  have hb32 := Nat.div_add_mod b 32
  unfold rn at h
  split at h
  · simp only [Prod.mk.injEq, true_and] at h
    obtain ⟨rfl, rfl⟩ := h
    rename_i h1
    unfold hd
    rw [if_pos h1, hb32]
    exact ⟨rfl, hg h1, by omega⟩
  split at h
  · simp at h
  · rename_i h1 h2
    have hs : 0 < sizeE (b % 32) := Nat.pow_pos (by omega)
    obtain ⟨e1, e2, e3⟩ := rnL_lt _ g hr h
    obtain ⟨e4, e5⟩ := e3 hs
    have : b % 32 = 24 ∨ b % 32 = 25 ∨ b % 32 = 26 ∨ b % 32 = 27 := by omega
    unfold hd
    rcases this with hc | hc | hc | hc
    all_goals
      rw [hc] at e1 e2 e4
      simp [sizeE, least] at e1 e2 e4
    · rw [if_neg (by omega), if_pos (by omega), e1]
      exact ⟨by rw [List.cons_append]; congr 1; omega, e5, by omega⟩
    · rw [if_neg (by omega), if_neg (by omega), if_pos (by omega), e1]
      exact ⟨by rw [List.cons_append]; congr 1; omega, e5, by omega⟩
    · rw [if_neg (by omega), if_neg (by omega), if_neg (by omega), if_pos (by omega), e1]
      exact ⟨by rw [List.cons_append]; congr 1; omega, e5, by omega⟩
    · rw [if_neg (by omega), if_neg (by omega), if_neg (by omega), if_neg (by omega), e1]
      exact ⟨by rw [List.cons_append]; congr 1; omega, e5, by omega⟩

/-! an item, there and back -/
theorem ok_bytes {V : List Nat → Bool} {m : Nat} {x : T} (h : okT V (m + 1) x = true) :
    (kd x = 1 ∧ bs x = [] ∧ its x = []) ∨ (kd x = 2 ∧ nm x = 0 ∧ its x = [] ∧ (bs x).length ≤ 512) ∨ (kd x = 3 ∧ nm x = 0 ∧ its x = [] ∧ (bs x).length ≤ 512 ∧ V (bs x) = true) ∨ (kd x = 4 ∧ nm x = 0 ∧ bs x = [] ∧ (its x).length ≤ 64 ∧ ∀ y ∈ its x, okT V m y = true) := by
  rw [okT] at h
  split at h
  · simp at h; exact .inl ⟨by assumption, h⟩
  split at h
  · simp at h; exact .inr (.inl ⟨by assumption, h⟩)
  split at h
  · simp at h; exact .inr (.inr (.inl ⟨by assumption, h⟩))
  split at h
  · simp only [Bool.and_eq_true, decide_eq_true_eq, List.all_eq_true] at h
    exact .inr (.inr (.inr ⟨by assumption, h.1, List.eq_nil_of_length_eq_zero h.2.1, h.2.2.1, h.2.2.2⟩))
  · cases h

/-- numbers and bytes in their bounds, so many levels deep. -/
def fitT : Nat → T → Prop
  | 0, _ => True
  | m + 1, x => nm x < 18446744073709551616 ∧ (∀ y ∈ bs x, y < 256) ∧ ∀ y ∈ its x, fitT m y

theorem decL_flat {f : List Nat → Int × T × List Nat} {g : T → List Nat} {c : T → T} (t : List Nat) : ∀ (l : List T), (∀ y ∈ l, ∀ s, f (g y ++ s) = (0, c y, s)) → decL f l.length ((l.map g).flatten ++ t) = (0, l.map c, t)
  | [], _ => by simp [decL]
  | y :: r, h => by
    have h1 := h y List.mem_cons_self ((r.map g).flatten ++ t)
    have h2 := decL_flat t r (fun z hz => h z (List.mem_cons_of_mem _ hz))
    simp only [List.length_cons, List.map_cons, List.flatten_cons, List.append_assoc, decL, h1, h2, if_true]

/-- what was encoded is decoded, whatever stands behind. -/
theorem dec_enc (V : List Nat → Bool) : ∀ (m n : Nat) (x : T) (t : List Nat), okT V m x = true → m ≤ n → fitT n x → dec V m (enc n x ++ t) = (0, cn n x, t)
  | 0, _, _, _, h, _, _ => by cases h
  | m + 1, 0, _, _, _, hn, _ => by omega
  | m + 1, n + 1, x, t, h, hn, hf => by
    obtain ⟨f1, f2, f3⟩ := hf
    rcases ok_bytes h with ⟨k, hb, hi⟩ | ⟨k, h0, hi, hb⟩ | ⟨k, h0, hi, hb, hv⟩ | ⟨k, h0, hb, hi, ha⟩
    · obtain ⟨b, u, e1, e2, _, e3⟩ := rn_hd 0 (nm x) 18446744073709551615 (by omega) (by omega) f1 t
      rw [enc, if_pos k, e1, List.cons_append, dec, e2]
      simp only [kindN, limN, if_true, Nat.reduceEqDiff, if_false, e3]
      rw [decB, if_pos rfl, cn, k, hb, hi]
      rfl
    · obtain ⟨b, u, e1, e2, _, e3⟩ := rn_hd 2 (bs x).length 512 (by omega) hb (by omega) (bs x ++ t)
      rw [enc, if_neg (by omega), if_pos k, e1, List.cons_append, List.cons_append, dec, e2, List.append_assoc]
      simp only [kindN, limN, if_true, Nat.reduceEqDiff, if_false, e3]
      rw [decB, if_neg (by omega), if_neg (by omega), if_neg (by simp), if_neg (by simp), List.take_left', List.drop_left', cn, k, h0, hi]
      all_goals rfl
    · obtain ⟨b, u, e1, e2, _, e3⟩ := rn_hd 3 (bs x).length 512 (by omega) hb (by omega) (bs x ++ t)
      rw [enc, if_neg (by omega), if_neg (by omega), if_pos k, e1, List.cons_append, List.cons_append, dec, e2, List.append_assoc]
      simp only [kindN, limN, if_true, Nat.reduceEqDiff, if_false, e3]
      rw [decB, if_neg (by omega), if_neg (by omega), if_neg (by simp), if_neg (by rw [List.take_left' rfl, hv]; simp), List.take_left', List.drop_left', cn, k, h0, hi]
      all_goals rfl
    · obtain ⟨b, u, e1, e2, _, e3⟩ := rn_hd 4 (its x).length 64 (by omega) hi (by omega) (((its x).map (enc n)).flatten ++ t)
      rw [enc, if_neg (by omega), if_neg (by omega), if_neg (by omega), if_pos k, e1, List.cons_append, List.cons_append, dec, e2, List.append_assoc]
      have hl := decL_flat (f := dec V m) (g := enc n) (c := cn n) t (its x) (fun y hy s => dec_enc V m n y s (ha y hy) (by omega) (f3 y hy))
      simp only [kindN, limN, if_true, Nat.reduceEqDiff, if_false, e3]
      rw [decB, if_neg (by omega), if_pos rfl, hl, cn, k, h0, hb]
      rfl

theorem decL_of {f : List Nat → Int × T × List Nat} {g : T → List Nat} {ok : T → Prop} (hf : ∀ r x s, (∀ y ∈ r, y < 256) → f r = (0, x, s) → r = g x ++ s ∧ ok x) : ∀ (n : Nat) (r : List Nat) (l : List T) (s : List Nat), (∀ y ∈ r, y < 256) → decL f n r = (0, l, s) → r = (l.map g).flatten ++ s ∧ l.length = n ∧ ∀ y ∈ l, ok y
  | 0, r, l, s, _, h => by
    simp only [decL, Prod.mk.injEq, true_and] at h
    obtain ⟨rfl, rfl⟩ := h
    simp
  | n + 1, r, l, s, hb, h => by
    rw [decL] at h
    split at h
    · rename_i h1
      split at h
      · rename_i h2
        simp only [Prod.mk.injEq, true_and] at h
        obtain ⟨rfl, rfl⟩ := h
        obtain ⟨e1, e2⟩ := hf r (f r).2.1 (f r).2.2 hb (by rw [← h1])
        have hb2 : ∀ y ∈ (f r).2.2, y < 256 := fun y hy => hb y (by rw [e1]; exact List.mem_append.2 (.inr hy))
        obtain ⟨e3, e4, e5⟩ := decL_of hf n (f r).2.2 (decL f n (f r).2.2).2.1 (decL f n (f r).2.2).2.2 hb2 (by rw [← h2])
        refine ⟨?_, by simp [e4], ?_⟩
        · rw [List.map_cons, List.flatten_cons, List.append_assoc, ← e3]; exact e1
        · intro y hy
          rcases List.mem_cons.1 hy with rfl | hy
          · exact e2
          · exact e5 y hy
      · rename_i h2
        simp only [Prod.mk.injEq] at h
        exact absurd h.1 h2
    · rename_i h1
      simp only [Prod.mk.injEq] at h
      exact absurd h.1 h1

/-- what was decoded may be, and its bytes are those that it took. -/
theorem dec_of (V : List Nat → Bool) : ∀ (m : Nat) (r : List Nat) (x : T) (s : List Nat), (∀ y ∈ r, y < 256) → dec V m r = (0, x, s) → r = enc m x ++ s ∧ (okT V m x = true ∧ fitT m x)
  | _, [], _, _, _, h => by simp [dec] at h
  | 0, b :: r, _, _, _, h => by simp [dec] at h
  | m + 1, b :: r, x, s, hb, h => by
    rw [dec] at h
    split at h
    · simp at h
    split at h
    rotate_left
    · rename_i h1
      simp only [Prod.mk.injEq] at h
      exact absurd h.1 h1
    rename_i hk h1
    have hr : ∀ y ∈ r, y < 256 := fun y hy => hb y (List.mem_cons_of_mem _ hy)
    obtain ⟨N, hN⟩ : ∃ N, (rn (b % 32) (limN (kindN (b / 32))) r).2.1 = N := ⟨_, rfl⟩
    obtain ⟨r2, hr2⟩ : ∃ r2, (rn (b % 32) (limN (kindN (b / 32))) r).2.2 = r2 := ⟨_, rfl⟩
    have hrn : rn (b % 32) (limN (kindN (b / 32))) r = (0, N, r2) := by rw [← hN, ← hr2, ← h1]
    rw [hN, hr2] at h
    clear h1 hN hr2
    have hlim : b % 32 < 24 → b % 32 ≤ limN (kindN (b / 32)) := fun h => by
      have : 24 ≤ limN (kindN (b / 32)) := by unfold limN; repeat' split
                                              all_goals omega
      omega
    obtain ⟨e1, e2, e3⟩ := hd_of hr hlim hrn
    have hr2b : ∀ y ∈ r2, y < 256 := fun y hy => hb y (by rw [e1]; exact List.mem_append.2 (.inr hy))
    have hkk : (b / 32 = 0 ∧ kindN (b / 32) = 1) ∨ (b / 32 = 2 ∧ kindN (b / 32) = 2) ∨ (b / 32 = 3 ∧ kindN (b / 32) = 3) ∨ (b / 32 = 4 ∧ kindN (b / 32) = 4) := by
      unfold kindN at hk ⊢
      split
      · exact .inl ⟨by assumption, rfl⟩
      split
      · exact .inr (.inl ⟨by assumption, rfl⟩)
      split
      · exact .inr (.inr (.inl ⟨by assumption, rfl⟩))
      split
      · exact .inr (.inr (.inr ⟨by assumption, rfl⟩))
      · exfalso; simp_all
    unfold decB at h
    rcases hkk with ⟨ht, hc⟩ | ⟨ht, hc⟩ | ⟨ht, hc⟩ | ⟨ht, hc⟩
    all_goals rw [hc] at h e2; rw [ht] at e1
    · rw [if_pos rfl] at h
      simp only [Prod.mk.injEq, true_and] at h
      obtain ⟨rfl, rfl⟩ := h
      exact ⟨by rw [e1, enc, kd_mk, nm_mk]; rfl, by simp [okT, kd_mk, bs_mk, its_mk], e3, by simp [bs_mk], by simp [its_mk]⟩
    · rw [if_neg (by omega), if_neg (by omega)] at h
      split at h
      · simp at h
      rename_i hle
      rw [if_neg (by omega)] at h
      simp only [Prod.mk.injEq, true_and] at h
      obtain ⟨rfl, rfl⟩ := h
      have hlen : (r2.take N).length = N := by rw [List.length_take]; omega
      have e2' : N ≤ 512 := e2
      refine ⟨?_, by simp [okT, kd_mk, bs_mk, its_mk, nm_mk]; omega, by simp [nm_mk], fun y hy => hr2b y (List.mem_of_mem_take hy), by simp [its_mk]⟩
      rw [e1, enc, kd_mk, if_neg (by omega), if_pos (by omega), bs_mk, hlen, List.append_assoc, List.take_append_drop]
    · rw [if_neg (by omega), if_neg (by omega)] at h
      split at h
      · simp at h
      rename_i hle
      split at h
      · simp at h
      rename_i hv
      simp only [Prod.mk.injEq, true_and] at h
      obtain ⟨rfl, rfl⟩ := h
      have hlen : (r2.take N).length = N := by rw [List.length_take]; omega
      have e2' : N ≤ 512 := e2
      have hv' : V (r2.take N) = true := by
        cases hq : V (r2.take N) with
        | true => rfl
        | false => exact absurd ⟨rfl, hq⟩ hv
      refine ⟨?_, by simp [okT, kd_mk, bs_mk, its_mk, nm_mk, hv']; omega, by simp [nm_mk], fun y hy => hr2b y (List.mem_of_mem_take hy), by simp [its_mk]⟩
      rw [e1, enc, kd_mk, if_neg (by omega), if_neg (by omega), if_pos (by omega), bs_mk, hlen, List.append_assoc, List.take_append_drop]
    · rw [if_neg (by omega), if_pos rfl] at h
      split at h
      rotate_left
      · rename_i h1
        simp only [Prod.mk.injEq] at h
        exact absurd h.1 h1
      rename_i h1
      simp only [Prod.mk.injEq, true_and] at h
      obtain ⟨rfl, rfl⟩ := h
      obtain ⟨q1, q2, q3⟩ := decL_of (f := dec V m) (g := enc m) (ok := fun y => okT V m y = true ∧ fitT m y) (fun r x s hb h => dec_of V m r x s hb h) N r2 (decL (dec V m) N r2).2.1 (decL (dec V m) N r2).2.2 hr2b (by rw [← h1])
      have e2' : N ≤ 64 := e2
      refine ⟨?_, ?_, by simp [nm_mk], by simp [bs_mk], fun y hy => (q3 y hy).2⟩
      · rw [e1, enc, kd_mk, if_neg (by omega), if_neg (by omega), if_neg (by omega), if_pos (by omega), its_mk, q2, List.append_assoc, ← q1]
      · rw [okT, kd_mk, if_neg (by omega), if_neg (by omega), if_neg (by omega), if_pos (by omega), nm_mk, bs_mk, its_mk, q2]
        simp only [Bool.and_eq_true, decide_eq_true_eq, List.all_eq_true]
        exact ⟨by trivial, by first | rfl | trivial, e2', fun y hy => (q3 y hy).1⟩

theorem decL_more {f : List Nat → Int × T × List Nat} (s : List Nat) (hf : ∀ r, (f r).1 ≠ 7 → f (r ++ s) = if (f r).1 = 0 then (0, (f r).2.1, (f r).2.2 ++ s) else f r) : ∀ (n : Nat) (r : List Nat), (decL f n r).1 ≠ 7 → decL f n (r ++ s) = if (decL f n r).1 = 0 then (0, (decL f n r).2.1, (decL f n r).2.2 ++ s) else decL f n r
  | 0, r, _ => by simp [decL]
  | n + 1, r, h => by
    rw [decL] at h
    by_cases h1 : (f r).1 = 0
    · rw [if_pos h1] at h
      have e1 := hf r (by rw [h1]; omega)
      rw [if_pos h1] at e1
      by_cases h2 : (decL f n (f r).2.2).1 = 0
      · have e2 := decL_more s hf n (f r).2.2 (by rw [h2]; omega)
        rw [if_pos h2] at e2
        simp only [decL, e1, e2, h1, h2, if_true]
      · rw [if_neg h2] at h
        have e2 := decL_more s hf n (f r).2.2 h
        rw [if_neg h2] at e2
        simp only [decL, e1, e2, h1, h2, if_true, if_false]
    · rw [if_neg h1] at h
      have e1 := hf r h
      rw [if_neg h1] at e1
      simp only [decL, e1, h1, if_false]
theorem dec_more (V : List Nat → Bool) (s : List Nat) : ∀ (m : Nat) (r : List Nat), (dec V m r).1 ≠ 7 → dec V m (r ++ s) = if (dec V m r).1 = 0 then (0, (dec V m r).2.1, (dec V m r).2.2 ++ s) else dec V m r
  | _, [], h => by simp [dec] at h
  | 0, b :: r, _ => by simp [dec]
  | m + 1, b :: r, h => by
    rw [dec] at h
    by_cases hk : kindN (b / 32) = 0
    · simp [dec, hk]
    rw [if_neg hk] at h
    by_cases h1 : (rn (b % 32) (limN (kindN (b / 32))) r).1 = 0
    rotate_left
    · rw [if_neg h1] at h
      have e1 := rn_more (b % 32) (limN (kindN (b / 32))) r s h
      rw [if_neg h1] at e1
      simp only [List.cons_append, dec, hk, h1, e1, if_false]
    rw [if_pos h1] at h
    have e1 := rn_more (b % 32) (limN (kindN (b / 32))) r s (by rw [h1]; omega)
    rw [if_pos h1] at e1
    simp only [List.cons_append, dec, hk, h1, e1, if_false, if_true]
    generalize (rn (b % 32) (limN (kindN (b / 32))) r).2.1 = N at h ⊢
    generalize (rn (b % 32) (limN (kindN (b / 32))) r).2.2 = r2 at h ⊢
    generalize kindN (b / 32) = k at h ⊢
    unfold decB at h ⊢
    by_cases c1 : k = 1
    · simp only [if_pos c1, if_true]
    rw [if_neg c1] at h
    simp only [if_neg c1]
    by_cases c4 : k = 4
    · rw [if_pos c4] at h
      simp only [if_pos c4]
      by_cases h2 : (decL (dec V m) N r2).1 = 0
      · have e2 := decL_more s (dec_more V s m) N r2 (by rw [h2]; omega)
        rw [if_pos h2] at e2
        simp only [e2, h2, if_true]
      · rw [if_neg h2] at h
        have e2 := decL_more s (dec_more V s m) N r2 h
        rw [if_neg h2] at e2
        simp only [e2, h2, if_false]
    rw [if_neg c4] at h
    simp only [if_neg c4]
    by_cases c5 : r2.length < N
    · rw [if_pos c5] at h; exact absurd rfl h
    have ht : (r2 ++ s).take N = r2.take N := List.take_append_of_le_length (by omega)
    have hdr : (r2 ++ s).drop N = r2.drop N ++ s := List.drop_append_of_le_length (by omega)
    rw [if_neg (by rw [List.length_append]; omega), ht, hdr, if_neg c5]
    by_cases c6 : k = 3 ∧ V (r2.take N) = false
    · simp [if_pos c6]
    · simp only [if_neg c6, if_true]
/-- of each beginning it is too short. -/
theorem dec_short (V : List Nat → Bool) (m n : Nat) (x : T) (c : Nat) (h : okT V m x = true) (hn : m ≤ n) (hf : fitT n x) (hc : c < (enc n x).length) : (dec V m ((enc n x).take c)).1 = 7 := by
  by_cases h7 : (dec V m ((enc n x).take c)).1 = 7
  · exact h7
  exfalso
  have h1 := dec_more V ((enc n x).drop c) m _ h7
  have h2 := dec_enc V m n x [] h hn hf
  rw [List.append_nil] at h2
  rw [List.take_append_drop, h2] at h1
  split at h1
  · simp only [Prod.mk.injEq, true_and] at h1
    have := congrArg List.length h1.2
    simp only [List.length_append, List.length_drop, List.length_nil] at this
    omega
  · rename_i h3
    exact h3 (congrArg (fun q => q.1) h1).symm
/-- what Decode answers of an error. -/
theorem enc_len {V : List Nat → Bool} : ∀ (m n : Nat) (x : T), okT V m x = true → m ≤ n → 0 < (enc n x).length
  | 0, _, _, h, _ => by cases h
  | m + 1, 0, _, _, hn => by omega
  | m + 1, n + 1, x, h, _ => by
    have hh : ∀ t k, 0 < (hd t k).length := fun t k => by unfold hd; repeat' split
                                                          all_goals simp
    rw [enc]
    rcases ok_bytes h with ⟨k, _⟩ | ⟨k, _⟩ | ⟨k, _⟩ | ⟨k, _⟩
    · rw [if_pos k]; exact hh _ _
    · rw [if_neg (by omega), if_pos k, List.length_append]; have := hh 2 (bs x).length; omega
    · rw [if_neg (by omega), if_neg (by omega), if_pos k, List.length_append]; have := hh 3 (bs x).length; omega
    · rw [if_neg (by omega), if_neg (by omega), if_neg (by omega), if_pos k, List.length_append]; have := hh 4 (its x).length; omega
theorem hd_len (t k : Nat) : (hd t k).length ≤ 9 := by
  unfold hd
  repeat' split
  all_goals simp [be_length]
theorem flat_len {g : T → List Nat} {c : Nat} : ∀ (l : List T), (∀ y ∈ l, (g y).length ≤ c) → ((l.map g).flatten).length ≤ l.length * c
  | [], _ => by simp
  | y :: r, h => by
    have h1 := h y List.mem_cons_self
    have h2 := flat_len r (fun z hz => h z (List.mem_cons_of_mem _ hz))
    simp only [List.map_cons, List.flatten_cons, List.length_append, List.length_cons, Nat.add_mul, Nat.one_mul]
    omega
def lenB : Nat → Nat
  | 0 => 0
  | m + 1 => 521 + 64 * lenB m
theorem enc_le {V : List Nat → Bool} : ∀ (m n : Nat) (x : T), okT V m x = true → m ≤ n → (enc n x).length ≤ lenB m
  | 0, _, _, h, _ => by cases h
  | m + 1, 0, _, _, hn => by omega
  | m + 1, n + 1, x, h, hn => by
    rw [enc, lenB]
    rcases ok_bytes h with ⟨k, _⟩ | ⟨k, _, _, hb⟩ | ⟨k, _, _, hb, _⟩ | ⟨k, _, _, hi, ha⟩
    · rw [if_pos k]; have := hd_len 0 (nm x); omega
    · rw [if_neg (by omega), if_pos k, List.length_append]; have := hd_len 2 (bs x).length; omega
    · rw [if_neg (by omega), if_neg (by omega), if_pos k, List.length_append]; have := hd_len 3 (bs x).length; omega
    · rw [if_neg (by omega), if_neg (by omega), if_neg (by omega), if_pos k, List.length_append]
      have h1 := hd_len 4 (its x).length
      have h2 := flat_len (g := enc n) (c := lenB m) (its x) (fun y hy => enc_le m n y (ha y hy) (by omega))
      have h3 : (its x).length * lenB m ≤ 64 * lenB m := Nat.mul_le_mul_right _ hi
      omega
/-- unlike items have unlike bytes. -/
theorem enc_two (V : List Nat → Bool) (m n : Nat) (x y : T) (hx : okT V m x = true) (hy : okT V m y = true) (hn : m ≤ n) (fx : fitT n x) (fy : fitT n y) : decide (enc n x = enc n y) = sameT n x y := by
  rw [Bool.eq_iff_iff, decide_eq_true_eq, same_iff]
  constructor
  · intro h
    have h1 := dec_enc V m n x [] hx hn fx
    have h2 := dec_enc V m n y [] hy hn fy
    rw [h, h2] at h1
    simp only [Prod.mk.injEq, true_and, and_true] at h1
    exact h1.symm
  · intro h
    rw [← enc_cn n x, ← enc_cn n y, h]
end Go.Proofs.YtjfmgokpnpmdpaaDoor
