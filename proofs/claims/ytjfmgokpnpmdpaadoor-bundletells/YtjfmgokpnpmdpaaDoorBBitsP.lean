/- A bundle's bytes: where Hops and the payload stand; one bit turned: pure. -/
import Derived.Test.YtjfmgokpnpmdpaaDoorBPure
import Derived.Test.YtjfmgokpnpmdpaaDoorKBurst
namespace Go.Proofs.YtjfmgokpnpmdpaaDoor
open Go.RowKit
set_option linter.unusedVariables false

def preT (f : List Nat) (h n : Nat) : List Nat := hd 4 3 ++ (hd 2 f.length ++ f) ++ hd 0 h ++ hd 2 n
theorem enc_pre (f : List Nat) (h : Nat) (p : List Nat) : enc 4 (triT f h p) = preT f h p.length ++ p := by
  rw [enc_tri, preT, List.append_assoc, List.append_assoc, List.append_assoc, List.append_assoc, List.append_assoc, List.append_assoc, List.append_assoc]
theorem seal32_turned (l m : List Nat) (E : Nat) (hl : ∀ x ∈ l, x < 256) (hm : ∀ x ∈ m, x < 256) (hlen : m.length = (seal32 l).length) (hE : Crc.val m = Crc.val (seal32 l) ^^^ E) :
    (seal32 (m.take (m.length - 4)) = m) ↔ Crc.stn 2197175160 (8 * l.length) E = 0 :=
  Crc.turned_ok 2197175160 4294967295 4 Crc.sum32 (fun _ => rfl) (fun l h => Crc.sum32_lt l h) l m E hl hm (by rw [hlen, seal32_length]) hE
/-- sealed bytes with one bit turned. -/
def turn1 (l : List Nat) (q r : Nat) : List Nat := l.set q (l.getD q 0 ^^^ 2 ^ r)
theorem turn1_len (l : List Nat) (q r : Nat) : (turn1 l q r).length = l.length := by simp [turn1]
theorem pow_lt8 {r : Nat} (h : r < 8) : 2 ^ r < 256 := Nat.pow_lt_pow_right (n := 8) (by omega) h
theorem turn1_byte {l : List Nat} (hl : ∀ x ∈ l, x < 256) (q r : Nat) (hr : r < 8) : ∀ x ∈ turn1 l q r, x < 256 := by
  refine Crc.set_byte l hl q _ ?_
  have h1 : l.getD q 0 < 256 := by
    by_cases hq : q < l.length
    · rw [List.getD_eq_getElem?_getD, List.getElem?_eq_getElem hq]; exact hl _ (List.getElem_mem hq)
    · rw [List.getD_eq_getElem?_getD, List.getElem?_eq_none (by omega)]; simp
  exact Nat.xor_lt_two_pow (n := 8) h1 (pow_lt8 hr)
theorem opens_turned (l : List Nat) (hl : ∀ x ∈ l, x < 256) (q r : Nat) (hq : q < l.length + 4) (hr : r < 8) : opens 4 seal32 (turn1 (seal32 l) q r) = false := by
  have h1 := seal32_turned l (turn1 (seal32 l) q r) (2 ^ r * 2 ^ (8 * q)) hl (turn1_byte (seal32_byte hl) q r hr) (turn1_len _ _ _) (Crc.val_set (seal32 l) (seal32_byte hl) q (2 ^ r) (by rw [seal32_length]; exact hq) (pow_lt8 hr))
  have h2 := Crc.burst_ne 2197175160 31 (8 * l.length) (8 * q) (2 ^ r) Crc.top32 (by decide) (Nat.lt_trans (pow_lt8 hr) (by decide)) (by have := Nat.two_pow_pos r; omega)
  unfold opens
  rw [decide_eq_false (fun h => h2 (h1.1 h)), Bool.and_false]
/-- a bundle's bytes with one bit of the payload turned say no bundle. -/
theorem dec_turned (V : List Nat → Bool) (b : Bn) (h : okB b = true) (hp : ∀ x ∈ b.pay, x < 256) (q r : Nat) (hq : q < b.pay.length) (hr : r < 8) :
    (decBn V (turn1 (encB b) ((encB b).length - 4 - b.pay.length + q) r)).1 = 130 := by
  have h1 := okB_of h
  have h2 := firstB_len b
  have h3 := seal32_length b.pay
  have e0 : encB b = preT (seal16 (firstB b)) b.hop.toNat (seal32 b.pay).length ++ seal32 b.pay := enc_pre _ _ _
  have e1 : (encB b).length - 4 - b.pay.length + q = (preT (seal16 (firstB b)) b.hop.toNat (seal32 b.pay).length).length + q := by
    rw [e0, List.length_append, h3]; omega
  have e2 : turn1 (encB b) ((encB b).length - 4 - b.pay.length + q) r = enc 4 (triT (seal16 (firstB b)) b.hop.toNat (turn1 (seal32 b.pay) q r)) := by
    rw [e1, enc_pre, turn1_len, e0]
    unfold turn1
    rw [List.set_append_right _ _ (by omega), Nat.add_sub_cancel_left]
    congr 2
    rw [List.getD_eq_getElem?_getD, List.getD_eq_getElem?_getD, List.getElem?_append_right (by omega), Nat.add_sub_cancel_left]
  rw [e2]
  have e3 := parts_tri V (seal16 (firstB b)) b.hop.toNat (turn1 (seal32 b.pay) q r) (by rw [seal16_length]; omega) (by rw [turn1_len, h3]; omega) (seal16_byte (firstB_byte b)) (by omega) (turn1_byte (seal32_byte hp) q r hr)
  unfold decBn
  rw [e3]
  show (tailB V _ (seal16 (firstB b)) b.hop.toNat (turn1 (seal32 b.pay) q r)).1 = 130
  rw [tailB, if_neg (by rw [opens_turned b.pay hp q r (by omega) hr, Bool.and_false]; simp)]

/-- ahead of Hops, and behind. -/
def aheadB (b : Bn) : List Nat := hd 4 3 ++ (hd 2 (seal16 (firstB b)).length ++ seal16 (firstB b))
def behindB (b : Bn) : List Nat := hd 2 (seal32 b.pay).length ++ seal32 b.pay
theorem encB_hop (b : Bn) (h : okB b = true) : encB b = aheadB b ++ (b.hop.toNat :: behindB b) := by
  have h1 := okB_of h
  have h2 : hd 0 b.hop.toNat = [b.hop.toNat] := by
    unfold hd
    rw [if_pos (by omega)]
    simp
  unfold encB itemB
  rw [enc_tri, h2, aheadB, behindB]
  simp
/-- at how many of the first k places x is unlike y. -/
def cntD (x y : List Nat) : Nat → Nat
  | 0 => 0
  | k + 1 => cntD x y k + if y.length ≤ k ∨ x.getD k 0 ≠ y.getD k 0 then 1 else 0
theorem cntD_hop (A C : List Nat) (p q : Nat) : ∀ k, k ≤ (A ++ p :: C).length → cntD (A ++ p :: C) (A ++ q :: C) k = if A.length < k ∧ p ≠ q then 1 else 0
  | 0, _ => by simp [cntD]
  | k + 1, h => by
    have hl : (A ++ q :: C).length = (A ++ p :: C).length := by simp
    rw [cntD, cntD_hop A C p q k (by omega)]
    have hg : (A ++ p :: C).getD k 0 ≠ (A ++ q :: C).getD k 0 ↔ k = A.length ∧ p ≠ q := by
      rw [List.getD_eq_getElem?_getD, List.getD_eq_getElem?_getD]
      rcases Nat.lt_trichotomy k A.length with h1 | h1 | h1
      · rw [List.getElem?_append_left h1, List.getElem?_append_left h1]
        constructor
        · intro h; exact absurd rfl h
        · intro h; omega
      · subst h1
        rw [List.getElem?_append_right (Nat.le_refl _), List.getElem?_append_right (Nat.le_refl _)]
        simp
      · rw [List.getElem?_append_right (by omega), List.getElem?_append_right (by omega)]
        obtain ⟨j, hj⟩ : ∃ j, k - A.length = j + 1 := ⟨k - A.length - 1, by omega⟩
        rw [hj, List.getElem?_cons_succ, List.getElem?_cons_succ]
        constructor
        · intro h; exact absurd rfl h
        · intro h; omega
    by_cases hpq : p ≠ q
    · rcases Nat.lt_trichotomy k A.length with h1 | h1 | h1
      · rw [if_neg (by omega), if_neg (by intro hh; rcases hh with hh | hh; omega; have := hg.1 hh; omega), if_neg (by omega)]
      · rw [if_neg (by omega), if_pos (.inr (hg.2 ⟨h1, hpq⟩)), if_pos ⟨by omega, hpq⟩]
      · rw [if_pos ⟨h1, hpq⟩, if_neg (by intro hh; rcases hh with hh | hh; omega; have := hg.1 hh; omega), if_pos ⟨by omega, hpq⟩]
    · rw [if_neg (fun hh => hpq hh.2), if_neg (by intro hh; rcases hh with hh | hh; omega; exact hpq (hg.1 hh).2), if_neg (fun hh => hpq hh.2)]
/-- two bundles that differ in Hops alone. -/
theorem hop_cnt (b : Bn) (h2 : Int) (h : okB b = true) (h' : okB { b with hop := h2 } = true) : (encB { b with hop := h2 }).length = (encB b).length ∧ cntD (encB b) (encB { b with hop := h2 }) (encB b).length = if b.hop = h2 then 0 else 1 := by
  have e1 := encB_hop b h
  have e2 := encB_hop { b with hop := h2 } h'
  have e3 : aheadB { b with hop := h2 } = aheadB b := rfl
  have e4 : behindB { b with hop := h2 } = behindB b := rfl
  rw [e3, e4] at e2
  have k1 := (okB_of h).2.2.2.2.1
  have k2 : 0 ≤ h2 := (okB_of h').2.2.2.2.1.1
  rw [e1, e2]
  refine ⟨by simp, ?_⟩
  rw [cntD_hop _ _ _ _ _ (Nat.le_refl _)]
  show (if _ ∧ b.hop.toNat ≠ h2.toNat then 1 else 0) = _
  by_cases hh : b.hop = h2
  · rw [if_pos hh, if_neg (fun hx => hx.2 (by rw [hh]))]
  · rw [if_neg hh, if_pos ⟨by simp, by omega⟩]
end Go.Proofs.YtjfmgokpnpmdpaaDoor
