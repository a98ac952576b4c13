/- A number's bytes, seven bits in each; what bytes say; there and back (pure). -/
import Derived.WalkKit
namespace Go.Proofs.Ythhoafhkdioboaa
/-- the bytes with a mark, for at most k digits. -/
def hiF : Nat → Nat → List Nat
  | 0, _ => []
  | k + 1, n => if n = 0 then [] else hiF k (n / 128) ++ [n % 128 + 128]
theorem hiF_zero (k : Nat) : hiF k 0 = [] := by cases k <;> simp [hiF]
theorem hiF_succ (k n : Nat) (h : n < 128 ^ k) : hiF (k + 1) n = hiF k n := by
  induction k generalizing n with
  | zero =>
    have : n = 0 := by simpa using h
    subst this
    simp [hiF]
  | succ k ih =>
    rw [hiF]
    by_cases h0 : n = 0
    · subst h0; rw [if_pos rfl, hiF_zero]
    · rw [if_neg h0, ih (n / 128) (by rw [Nat.pow_succ] at h; exact Nat.div_lt_of_lt_mul (by rw [Nat.mul_comm]; exact h))]
      rw [hiF, if_neg h0]
def hi (n : Nat) : List Nat := hiF 10 n
theorem hi_zero : hi 0 = [] := hiF_zero 10
theorem hi_step (n : Nat) (h : n < 18446744073709551616) (h0 : n ≠ 0) : hi n = hi (n / 128) ++ [n % 128 + 128] := by
  unfold hi
  rw [hiF, if_neg h0, hiF_succ 9 (n / 128) (by simp; omega)]
/-- a number's bytes. -/
def sd (n : Nat) : List Nat := hi (n / 128) ++ [n % 128]
def sz (n : Nat) : Nat := (sd n).length
theorem hiF_byte (k n : Nat) : ∀ x ∈ hiF k n, 128 ≤ x ∧ x < 256 := by
  induction k generalizing n with
  | zero => intro x hx; simp [hiF] at hx
  | succ k ih =>
    intro x hx
    rw [hiF] at hx
    by_cases h0 : n = 0
    · rw [if_pos h0] at hx; simp at hx
    · rw [if_neg h0] at hx
      rcases List.mem_append.1 hx with h | h
      · exact ih _ x h
      · rw [List.mem_singleton.1 h]; omega
theorem hi_byte (n : Nat) : ∀ x ∈ hi n, 128 ≤ x ∧ x < 256 := hiF_byte 10 n
theorem sd_byte (n : Nat) : ∀ x ∈ sd n, x < 256 := by
  intro x hx
  rcases List.mem_append.1 hx with h | h
  · exact (hi_byte _ x h).2
  · rw [List.mem_singleton.1 h]; omega
theorem hiF_len (k n : Nat) : (hiF k n).length ≤ k := by
  induction k generalizing n with
  | zero => simp [hiF]
  | succ k ih =>
    rw [hiF]
    by_cases h0 : n = 0
    · rw [if_pos h0]; simp
    · rw [if_neg h0]; simp; exact ih _
theorem hi_len (n : Nat) : (hi n).length ≤ 10 := hiF_len 10 n
theorem sd_len (n : Nat) (h : n < 18446744073709551616) : 1 ≤ sz n ∧ sz n ≤ 10 := by
  unfold sz sd
  have h1 : hi (n / 128) = hiF 9 (n / 128) := hiF_succ 9 (n / 128) (by simp; omega)
  rw [h1]
  have := hiF_len 9 (n / 128)
  simp
  exact this
theorem sz_eq (n : Nat) : sz n = (hi (n / 128)).length + 1 := by simp [sz, sd]
theorem hiF_head (k n : Nat) (h : n < 128 ^ k) (h0 : n ≠ 0) : ∃ d r, hiF k n = (d + 128) :: r ∧ 0 < d ∧ d < 128 := by
  induction k generalizing n with
  | zero => simp at h; exact absurd h h0
  | succ k ih =>
    rw [hiF, if_neg h0]
    by_cases h1 : n / 128 = 0
    · rw [h1, hiF_zero]
      exact ⟨n % 128, [], rfl, by omega, by omega⟩
    · obtain ⟨d, r, e, h2, h3⟩ := ih (n / 128) (by rw [Nat.pow_succ] at h; exact Nat.div_lt_of_lt_mul (by rw [Nat.mul_comm]; exact h)) h1
      rw [e]
      exact ⟨d, r ++ [n % 128 + 128], rfl, h2, h3⟩
/-- what bytes say, behind i bytes that said n. -/
def gl : Nat → Nat → List Nat → Nat × Nat × Int
  | _, _, [] => (0, 0, 7)
  | n, i, x :: r => if 144115188075855872 ≤ n then (0, 0, 3) else if x < 128 then (n * 128 + x, i + 1, 0) else gl (n * 128 + x % 128) (i + 1) r
def getS (b : List Nat) : Nat × Nat × Int := if b.head? = some 128 then (0, 0, 180) else gl 0 0 b
theorem gl_hiF (k : Nat) : ∀ (m : Nat) (rest : List Nat), m < 128 ^ k → m < 18446744073709551616 → gl 0 0 (hiF k m ++ rest) = gl m (hiF k m).length rest := by
  induction k with
  | zero => intro m rest h _; have : m = 0 := by simpa using h
            subst this; simp [hiF]
  | succ k ih =>
    intro m rest h hb
    by_cases h0 : m = 0
    · subst h0; rw [hiF_zero]; rfl
    · rw [hiF, if_neg h0, List.append_assoc, ih (m / 128) _ (by rw [Nat.pow_succ] at h; exact Nat.div_lt_of_lt_mul (by rw [Nat.mul_comm]; exact h)) (by omega)]
      rw [List.singleton_append, gl, if_neg (by omega), if_neg (by omega)]
      rw [show m / 128 * 128 + (m % 128 + 128) % 128 = m by omega]
      simp
theorem gl_hi (m : Nat) (rest : List Nat) (h : m < 18446744073709551616) : gl 0 0 (hi m ++ rest) = gl m (hi m).length rest := gl_hiF 10 m rest (by simp; omega) h
theorem sd_head (n : Nat) (h : n < 18446744073709551616) (t : List Nat) : (sd n ++ t).head? ≠ some 128 := by
  unfold sd
  by_cases h0 : n / 128 = 0
  · rw [h0, hi_zero]; simp; omega
  · obtain ⟨d, r, e, h2, h3⟩ := hiF_head 10 (n / 128) (by simp; omega) h0
    rw [show hi (n / 128) = _ from e]
    simp; omega
/-- what was put is got. -/
theorem get_sd (n : Nat) (h : n < 18446744073709551616) (t : List Nat) : getS (sd n ++ t) = (n, sz n, 0) := by
  unfold getS
  rw [if_neg (sd_head n h t), sz_eq]
  unfold sd
  rw [List.append_assoc, gl_hi _ _ (by omega), List.singleton_append, gl, if_neg (by omega), if_pos (by omega), show n / 128 * 128 + n % 128 = n by omega]
theorem gl_take (k : Nat) : ∀ (m i : Nat), m < 128 ^ k → m < 18446744073709551616 → gl 0 0 ((hiF k m).take i) = (0, 0, 7) := by
  induction k with
  | zero => intro m i h _; simp [hiF, gl]
  | succ k ih =>
    intro m i h hb
    by_cases h0 : m = 0
    · subst h0; rw [hiF_zero]; simp [gl]
    · have hk : m / 128 < 128 ^ k := by rw [Nat.pow_succ] at h; exact Nat.div_lt_of_lt_mul (by rw [Nat.mul_comm]; exact h)
      by_cases hi' : i ≤ (hiF k (m / 128)).length
      · rw [hiF, if_neg h0, List.take_append_of_le_length hi']
        exact ih (m / 128) i hk (by omega)
      · have hl : (hiF (k + 1) m).length ≤ i := by rw [hiF, if_neg h0]; simp; omega
        rw [List.take_of_length_le hl]
        have := gl_hiF (k + 1) m [] h hb
        rw [List.append_nil] at this
        rw [this]; rfl
theorem head_take (l : List Nat) (i : Nat) (h : l.head? ≠ some 128) : (l.take i).head? ≠ some 128 := by
  cases i with
  | zero => simp
  | succ i => cases l with
    | nil => simp
    | cons x r => simpa using h
/-- less of it is too short. -/
theorem get_take (n i : Nat) (h : n < 18446744073709551616) (hi' : i < sz n) : getS ((sd n).take i) = (0, 0, 7) := by
  unfold getS
  have h1 := sd_head n h []
  rw [List.append_nil] at h1
  rw [if_neg (head_take _ _ h1)]
  rw [sz_eq] at hi'
  unfold sd
  rw [List.take_append_of_le_length (by omega)]
  exact gl_take 10 (n / 128) i (by simp; omega) (by omega)
theorem hi_more (a x : Nat) (ha : a < 144115188075855872) (hx : 128 ≤ x) (hx2 : x < 256) (h0 : a ≠ 0 ∨ x ≠ 128) : hi (a * 128 + x % 128) = hi a ++ [x] := by
  rw [hi_step _ (by omega) (by omega), show (a * 128 + x % 128) / 128 = a by omega, show (a * 128 + x % 128) % 128 + 128 = x by omega]
theorem gl_sound (b : List Nat) : ∀ (a i n k : Nat), (∀ x ∈ b, x < 256) → (a ≠ 0 ∨ b.head? ≠ some 128) → gl a i b = (n, k, 0) →
    i < k ∧ k ≤ i + b.length ∧ hi a ++ b.take (k - i) = sd n ∧ n < 18446744073709551616 := by
  induction b with
  | nil => intro a i n k _ _ h; simp [gl] at h
  | cons x r ih =>
    intro a i n k hb h0 h
    have hx := hb x List.mem_cons_self
    rw [gl] at h
    by_cases h1 : 144115188075855872 ≤ a
    · rw [if_pos h1] at h; simp at h
    · rw [if_neg h1] at h
      by_cases h2 : x < 128
      · rw [if_pos h2] at h
        simp only [Prod.mk.injEq, and_true] at h
        obtain ⟨rfl, rfl⟩ := h
        refine ⟨by omega, by simp, ?_, by omega⟩
        rw [show i + 1 - i = 1 by omega]
        unfold sd
        rw [show (a * 128 + x) / 128 = a by omega, show (a * 128 + x) % 128 = x by omega]
        rfl
      · rw [if_neg h2] at h
        have h3 : a ≠ 0 ∨ x ≠ 128 := h0.imp id (fun h => by simpa using h)
        obtain ⟨q1, q2, q3, q4⟩ := ih (a * 128 + x % 128) (i + 1) n k (fun y hy => hb y (List.mem_cons_of_mem _ hy)) (.inl (by omega)) h
        refine ⟨by omega, by simp; omega, ?_, q4⟩
        rw [hi_more a x (by omega) (by omega) hx h3] at q3
        rw [show k - i = (k - (i + 1)) + 1 by omega, List.take_succ_cons, ← q3]
        simp
/-- what is got, put, is the bytes that it had. -/
theorem get_sound (b : List Nat) (n k : Nat) (hb : ∀ x ∈ b, x < 256) (h : getS b = (n, k, 0)) : 1 ≤ k ∧ k ≤ b.length ∧ b.take k = sd n ∧ n < 18446744073709551616 := by
  unfold getS at h
  by_cases h0 : b.head? = some 128
  · rw [if_pos h0] at h; simp at h
  · rw [if_neg h0] at h
    obtain ⟨q1, q2, q3, q4⟩ := gl_sound b 0 0 n k hb (.inr h0) h
    rw [hi_zero] at q3
    exact ⟨by omega, by omega, by simpa using q3, q4⟩
theorem gl_err (b : List Nat) : ∀ (a i : Nat), (∃ n k, gl a i b = (n, k, 0)) ∨ gl a i b = (0, 0, 7) ∨ gl a i b = (0, 0, 3) := by
  induction b with
  | nil => intro a i; exact .inr (.inl rfl)
  | cons x r ih =>
    intro a i
    rw [gl]
    by_cases h1 : 144115188075855872 ≤ a
    · rw [if_pos h1]; exact .inr (.inr rfl)
    · rw [if_neg h1]
      by_cases h2 : x < 128
      · rw [if_pos h2]; exact .inl ⟨_, _, rfl⟩
      · rw [if_neg h2]; exact ih _ _
theorem get_err (b : List Nat) : (∃ n k, getS b = (n, k, 0)) ∨ getS b = (0, 0, 7) ∨ getS b = (0, 0, 3) ∨ getS b = (0, 0, 180) := by
  unfold getS
  by_cases h0 : b.head? = some 128
  · rw [if_pos h0]; exact .inr (.inr (.inr rfl))
  · rw [if_neg h0]
    rcases gl_err b 0 0 with h | h | h
    · exact .inl h
    · exact .inr (.inl h)
    · exact .inr (.inr (.inl h))
/-- what is got is small. -/
theorem get_lt (b : List Nat) (hb : ∀ x ∈ b, x < 256) : (getS b).1 < 18446744073709551616 ∧ (getS b).2.1 ≤ b.length := by
  rcases get_err b with ⟨n, k, h⟩ | h | h | h
  · have := get_sound b n k hb h
    rw [h]; exact ⟨this.2.2.2, this.2.1⟩
  all_goals (rw [h]; exact ⟨by simp, by simp⟩)
theorem hiF_mono (k : Nat) : ∀ (n m : Nat), n ≤ m → (hiF k n).length ≤ (hiF k m).length := by
  induction k with
  | zero => intro n m _; simp [hiF]
  | succ k ih =>
    intro n m h
    by_cases h0 : n = 0
    · subst h0; rw [hiF_zero]; simp
    · rw [hiF, hiF, if_neg h0, if_neg (by omega)]
      simp
      exact ih _ _ (Nat.div_le_div_right h)
theorem sz_mono (n m : Nat) (h : n ≤ m) : sz n ≤ sz m := by
  rw [sz_eq, sz_eq]
  have := hiF_mono 10 (n / 128) (m / 128) (Nat.div_le_div_right h)
  unfold hi
  omega
/-- no number's bytes are the begin of another one's. -/
theorem sd_begin (n m : Nat) (hn : n < 18446744073709551616) (hm : m < 18446744073709551616) (t : List Nat) (h : sd n ++ t = sd m) : n = m := by
  have h1 := get_sd n hn t
  rw [h] at h1
  have h2 := get_sd m hm []
  rw [List.append_nil, h1] at h2
  exact (Prod.mk.inj h2).1
/-- the one row of bytes is less than the other one, of its length. -/
def less : List Nat → List Nat → Prop
  | x :: r, y :: s => x < y ∨ x = y ∧ less r s
  | _, _ => False
theorem less_append : ∀ (l m : List Nat) (p q : List Nat), l.length = m.length → less l m → less (l ++ p) (m ++ q)
  | [], [], _, _, _, h => h.elim
  | [], _ :: _, _, _, h, _ => by simp at h
  | _ :: _, [], _, _, h, _ => by simp at h
  | x :: r, y :: s, p, q, hl, h => h.elim .inl (fun h => .inr ⟨h.1, less_append r s p q (by simpa using hl) h.2⟩)
theorem less_same : ∀ (l : List Nat) (p q : List Nat), less p q → less (l ++ p) (l ++ q)
  | [], _, _, h => h
  | _ :: r, p, q, h => .inr ⟨rfl, less_same r p q h⟩
theorem hiF_less (k : Nat) : ∀ (n m : Nat), n < m → (hiF k n).length = (hiF k m).length → n ≠ 0 → n < 128 ^ k → m < 128 ^ k → less (hiF k n) (hiF k m) := by
  induction k with
  | zero => intro n m h _ _ _ hm; simp at hm; omega
  | succ k ih =>
    intro n m h hl h0 hn hm
    rw [hiF, hiF, if_neg h0, if_neg (by omega)] at hl ⊢
    have hd : n / 128 ≤ m / 128 := Nat.div_le_div_right (by omega)
    have hk1 : n / 128 < 128 ^ k := by rw [Nat.pow_succ] at hn; exact Nat.div_lt_of_lt_mul (by rw [Nat.mul_comm]; exact hn)
    have hk2 : m / 128 < 128 ^ k := by rw [Nat.pow_succ] at hm; exact Nat.div_lt_of_lt_mul (by rw [Nat.mul_comm]; exact hm)
    rcases Nat.lt_or_ge (n / 128) (m / 128) with hlt | hge
    · have hl' : (hiF k (n / 128)).length = (hiF k (m / 128)).length := by simpa using hl
      by_cases hz : n / 128 = 0
      · exfalso
        obtain ⟨d, r, e, _⟩ := hiF_head k (m / 128) hk2 (by omega)
        rw [hz, hiF_zero, e] at hl'
        simp at hl'
      · exact less_append _ _ _ _ hl' (ih _ _ hlt hl' hz hk1 hk2)
    · have : n / 128 = m / 128 := by omega
      rw [this]
      exact less_same _ _ _ (.inl (by omega))
theorem sd_less (n m : Nat) (hn : n < 18446744073709551616) (hm : m < 18446744073709551616) (h : n < m) (hl : sz n = sz m) : less (sd n) (sd m) := by
  rw [sz_eq, sz_eq] at hl
  unfold sd
  rcases Nat.lt_or_ge (n / 128) (m / 128) with hlt | hge
  · have hl' : (hi (n / 128)).length = (hi (m / 128)).length := by omega
    by_cases hz : n / 128 = 0
    · exfalso
      obtain ⟨d, r, e, _⟩ := hiF_head 10 (m / 128) (by simp; omega) (by omega)
      rw [hz, hi_zero, show hi (m / 128) = _ from e] at hl'
      simp at hl'
    · exact less_append _ _ _ _ hl' (hiF_less 10 _ _ hlt hl' hz (by simp; omega) (by simp; omega))
  · have : n / 128 = m / 128 := by omega
    rw [this]
    exact less_same _ _ _ (.inl (by omega))
end Go.Proofs.Ythhoafhkdioboaa
