/- Four bytes turned, each by a byte and its place: told, or nothing has turned: pure. -/
import Derived.Test.YtidmkcnoncanbaaZBack
namespace Go.Proofs.Ytidmkcnoncanbaa
open Go.RowKit
set_option linter.unusedVariables false
/-- j bytes turned, from k on. -/
def turnC (L : List Nat) (k b : Nat) : Nat → List Nat
  | 0 => L
  | j + 1 => (turnC L k b j).set (k + j) ((turnC L k b j).getD (k + j) 0 ^^^ ((b + (k + j)) % 256))
theorem turnC_len (L : List Nat) (k b j : Nat) : (turnC L k b j).length = L.length := by
  induction j with
  | zero => rfl
  | succ j ih => simp [turnC, ih]
theorem turnC_byte {L : List Nat} (h : ∀ x ∈ L, x < 256) (k b j : Nat) : ∀ x ∈ turnC L k b j, x < 256 := by
  induction j with
  | zero => exact h
  | succ j ih =>
    refine Crc.set_byte _ ih _ _ (Nat.xor_lt_two_pow (n := 8) ?_ (by omega))
    by_cases hq : k + j < (turnC L k b j).length
    · rw [List.getD_eq_getElem?_getD, List.getElem?_eq_getElem hq]; exact ih _ (List.getElem_mem hq)
    · rw [List.getD_eq_getElem?_getD, List.getElem?_eq_none (by omega)]; simp
theorem turnC_left (l c : List Nat) (k b : Nat) : ∀ j, k + j ≤ l.length → turnC (l ++ c) k b j = turnC l k b j ++ c := by
  intro j
  induction j with
  | zero => intro _; rfl
  | succ j ih =>
    intro h
    have hl := turnC_len l k b j
    rw [turnC, turnC, ih (by omega), List.set_append_left _ _ (by omega), List.getD_eq_getElem?_getD, List.getElem?_append_left (by omega), ← List.getD_eq_getElem?_getD]
theorem turnC_right (l c : List Nat) (k b : Nat) (hk : l.length ≤ k) : ∀ j, turnC (l ++ c) k b j = l ++ turnC c (k - l.length) (b + l.length) j := by
  intro j
  induction j with
  | zero => rfl
  | succ j ih =>
    rw [turnC, turnC, ih, List.set_append_right _ _ (by omega), List.getD_eq_getElem?_getD, List.getElem?_append_right (by omega), ← List.getD_eq_getElem?_getD]
    rw [show k + j - l.length = k - l.length + j by omega, show b + (k + j) = b + l.length + (k - l.length + j) by omega]
theorem turnC_add (L : List Nat) (k b i : Nat) : ∀ j, turnC L k b (i + j) = turnC (turnC L k b i) (k + i) b j := by
  intro j
  induction j with
  | zero => rfl
  | succ j ih => rw [← Nat.add_assoc, turnC, turnC, ih, Nat.add_assoc]
/-- what has turned, as a number. -/
def VV (d : Nat) : Nat → Nat
  | 0 => 0
  | j + 1 => VV d j ^^^ ((d + j) % 256 * 2 ^ (8 * j))
theorem val_turnC (L : List Nat) (h : ∀ x ∈ L, x < 256) (k b : Nat) : ∀ j, k + j ≤ L.length → Crc.val (turnC L k b j) = Crc.val L ^^^ (VV ((b + k) % 256) j * 2 ^ (8 * k)) := by
  intro j
  induction j with
  | zero => intro _; simp [turnC, VV]
  | succ j ih =>
    intro hj
    rw [turnC, Crc.val_set _ (turnC_byte h k b j) _ _ (by rw [turnC_len]; omega) (by omega), ih (by omega), VV, Crc.xor_mul, Nat.xor_assoc, Nat.mul_assoc, ← Nat.pow_add]
    rw [show 8 * j + 8 * k = 8 * (k + j) by omega, show ((b + k) % 256 + j) % 256 = (b + (k + j)) % 256 by omega]
theorem VV_4 : ∀ d, d < 256 → VV d 4 ≠ 0 ∧ VV d 4 < 2 ^ 32 := by decide +kernel
/-- what has turned in the sum, as a number, highest first. -/
def DD (d : Nat) : Nat → Nat
  | 0 => 0
  | j + 1 => DD d j ^^^ ((d + j) % 256 * 2 ^ (8 * (3 - j)))
theorem numN_rev (a b c d : Nat) : numN [a, b, c, d] = Crc.val [d, c, b, a] := by
  simp [numN, Crc.val]
  omega
theorem four (c : List Nat) (h : c.length = 4) : ∃ p q r s, c = [p, q, r, s] := by
  match c, h with
  | [p, q, r, s], _ => exact ⟨p, q, r, s, rfl⟩
theorem numN_set (c : List Nat) (hl : c.length = 4) (h : ∀ x ∈ c, x < 256) (q d : Nat) (hq : q < 4) (hd : d < 256) : numN (c.set q (c.getD q 0 ^^^ d)) = numN c ^^^ (d * 2 ^ (8 * (3 - q))) := by
  obtain ⟨a0, a1, a2, a3, rfl⟩ := four c hl
  have hr : ∀ x ∈ [a3, a2, a1, a0], x < 256 := fun x hx => h x (by simp at hx ⊢; omega)
  have hv := Crc.val_set [a3, a2, a1, a0] hr (3 - q) d (by simp; omega) hd
  have hq4 : q = 0 ∨ q = 1 ∨ q = 2 ∨ q = 3 := by omega
  rcases hq4 with rfl | rfl | rfl | rfl
  all_goals
    rw [numN_rev a0 a1 a2 a3, ← hv]
    exact numN_rev _ _ _ _
theorem num_turnC (c : List Nat) (hl : c.length = 4) (h : ∀ x ∈ c, x < 256) (b : Nat) : ∀ j, j ≤ 4 → numN (turnC c 0 b j) = numN c ^^^ DD (b % 256) j := by
  intro j
  induction j with
  | zero => intro _; simp [turnC, DD]
  | succ j ih =>
    intro hj
    rw [turnC, Nat.zero_add, numN_set _ (by rw [turnC_len]; exact hl) (turnC_byte h 0 b j) j _ (by omega) (by omega), ih (by omega), DD, Nat.xor_assoc]
    rw [show (b % 256 + j) % 256 = (b + j) % 256 by omega]
theorem apart1 : ∀ d, d < 256 → Crc.stn 2197175160 8 (VV d 1) ≠ DD ((d + 1) % 256) 3 := by decide +kernel
theorem apart2 : ∀ d, d < 256 → Crc.stn 2197175160 16 (VV d 2) ≠ DD ((d + 2) % 256) 2 := by decide +kernel
theorem apart3 : ∀ d, d < 256 → Crc.stn 2197175160 24 (VV d 3) ≠ DD ((d + 3) % 256) 1 := by decide +kernel
theorem xor_cancel {a b c : Nat} (h : a ^^^ b = a ^^^ c) : b = c := Crc.xor_left_inj h
/-- bytes with their sum, turned so: told, or the same. -/
theorem cut_told (l : List Nat) (hl : ∀ x ∈ l, x < 256) (k b J : Nat) (hk : k < l.length + 4) (hJ : J = min 4 (l.length + 4 - k)) (he : be (Crc.sum32 ((turnC (l ++ be (Crc.sum32 l) 4) k b J).take l.length)) 4 = (turnC (l ++ be (Crc.sum32 l) 4) k b J).drop l.length) :
    turnC (l ++ be (Crc.sum32 l) 4) k b J = l ++ be (Crc.sum32 l) 4 := by
  have hs := sum32_lt hl
  by_cases h1 : l.length ≤ k
  · rw [turnC_right l _ k b h1] at he ⊢
    rw [List.take_left' rfl, List.drop_left' rfl] at he
    rw [← he]
  · exfalso
    obtain rfl : J = 4 := by omega
    by_cases h2 : k + 4 ≤ l.length
    · rw [turnC_left l _ k b 4 h2, List.take_left' (turnC_len l k b 4), List.drop_left' (turnC_len l k b 4)] at he
      have h3 := be_inj (sum32_lt (turnC_byte hl k b 4)) hs he
      rw [sum_turned l _ _ hl (turnC_byte hl k b 4) (turnC_len l k b 4) (val_turnC l hl k b 4 h2)] at h3
      obtain ⟨v1, v2⟩ := VV_4 ((b + k) % 256) (by omega)
      exact xor_ne (Crc.burst_ne 2197175160 31 (8 * l.length) (8 * k) _ Crc.top32 (by decide) v2 v1) h3
    · obtain ⟨j, hj⟩ : ∃ j, l.length = k + j := ⟨l.length - k, by omega⟩
      have hj3 : 1 ≤ j ∧ j ≤ 3 := by omega
      rw [show 4 = j + (4 - j) by omega, turnC_add, turnC_left l _ k b j (by omega), turnC_right _ _ _ _ (by rw [turnC_len]; omega), turnC_len, show k + j - l.length = 0 by omega, List.take_left' (turnC_len l k b j), List.drop_left' (turnC_len l k b j)] at he
      have hm := turnC_byte hl k b j
      have h3 := num_be 4 (Crc.sum32 (turnC l k b j)) (by have := sum32_lt hm; omega)
      rw [show j + (4 - j) = 4 by omega] at he
      rw [he, num_turnC _ (be_length _ _) (be_byte _ _) (b + l.length) (4 - j) (by omega), num_be 4 _ (by omega), sum_turned l _ _ hl hm (turnC_len l k b j) (val_turnC l hl k b j (by omega))] at h3
      have h4 := xor_cancel h3
      have h5 : Crc.stn 2197175160 (8 * l.length) (VV ((b + k) % 256) j * 2 ^ (8 * k)) = Crc.stn 2197175160 (8 * j) (VV ((b + k) % 256) j) := by
        rw [show 8 * l.length = 8 * j + 8 * k by omega, Crc.stn_add, Crc.stn_shift]
      rw [h5] at h4
      have h6 : (b + l.length) % 256 = ((b + k) % 256 + j) % 256 := by omega
      rw [h6] at h4
      have hj4 : j = 1 ∨ j = 2 ∨ j = 3 := by omega
      rcases hj4 with rfl | rfl | rfl
      · exact apart1 ((b + k) % 256) (by omega) h4.symm
      · exact apart2 ((b + k) % 256) (by omega) h4.symm
      · exact apart3 ((b + k) % 256) (by omega) h4.symm
end Go.Proofs.Ytidmkcnoncanbaa
