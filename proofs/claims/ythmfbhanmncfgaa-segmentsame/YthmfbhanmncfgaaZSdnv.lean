/- sdnv: numbers as bytes, there and back (pure); the walks of Size, lay, Get, Row. -/
import Derived.Test.YthmfbhanmncfgaaHAppend
import Derived.Test.YthmfbhanmncfgaaHJump
import Derived.Test.YthmfbhanmncfgaaH64
namespace Go.Proofs.Ythmfbhanmncfgaa
open Go.RowKit
set_option linter.unusedVariables false
/-- the bytes with a mark, for at most k digits. -/
def hiF : Nat → Nat → List Nat
  | 0, _ => []
  | k + 1, n => if n = 0 then [] else hiF k (n / 128) ++ [n % 128 + 128]
theorem hiF_zero (k : Nat) : hiF k 0 = [] := by cases k <;> simp [hiF]
theorem hiF_succ (k n : Nat) (h : n < 128 ^ k) : hiF (k + 1) n = hiF k n := by
  induction k generalizing n with
  | zero =>
    have : n = 0 := by simpa using h
    subst this
    simp [hiF]
  | succ k ih =>
    rw [hiF]
    by_cases h0 : n = 0
    · subst h0; rw [if_pos rfl, hiF_zero]
    · rw [if_neg h0, ih (n / 128) (by rw [Nat.pow_succ] at h; exact Nat.div_lt_of_lt_mul (by rw [Nat.mul_comm]; exact h))]
      rw [hiF, if_neg h0]
def hi (n : Nat) : List Nat := hiF 10 n
theorem hi_zero : hi 0 = [] := hiF_zero 10
theorem hi_step (n : Nat) (h : n < 18446744073709551616) (h0 : n ≠ 0) : hi n = hi (n / 128) ++ [n % 128 + 128] := by
  unfold hi
  rw [hiF, if_neg h0, hiF_succ 9 (n / 128) (by simp; omega)]
/-- a number's bytes. -/
def sd (n : Nat) : List Nat := hi (n / 128) ++ [n % 128]
def sz (n : Nat) : Nat := (sd n).length
theorem hiF_byte (k n : Nat) : ∀ x ∈ hiF k n, 128 ≤ x ∧ x < 256 := by
  induction k generalizing n with
  | zero => intro x hx; simp [hiF] at hx
  | succ k ih =>
    intro x hx
    rw [hiF] at hx
    by_cases h0 : n = 0
    · rw [if_pos h0] at hx; simp at hx
    · rw [if_neg h0] at hx
      rcases List.mem_append.1 hx with h | h
      · exact ih _ x h
      · rw [List.mem_singleton.1 h]; omega
theorem hi_byte (n : Nat) : ∀ x ∈ hi n, 128 ≤ x ∧ x < 256 := hiF_byte 10 n
theorem sd_byte (n : Nat) : ∀ x ∈ sd n, x < 256 := by
  intro x hx
  rcases List.mem_append.1 hx with h | h
  · exact (hi_byte _ x h).2
  · rw [List.mem_singleton.1 h]; omega
theorem hiF_len (k n : Nat) : (hiF k n).length ≤ k := by
  induction k generalizing n with
  | zero => simp [hiF]
  | succ k ih =>
    rw [hiF]
    by_cases h0 : n = 0
    · rw [if_pos h0]; simp
    · rw [if_neg h0]; simp; exact ih _
theorem hi_len (n : Nat) : (hi n).length ≤ 10 := hiF_len 10 n
theorem sd_len (n : Nat) (h : n < 18446744073709551616) : 1 ≤ sz n ∧ sz n ≤ 10 := by
  unfold sz sd
  have h1 : hi (n / 128) = hiF 9 (n / 128) := hiF_succ 9 (n / 128) (by simp; omega)
  rw [h1]
  have := hiF_len 9 (n / 128)
  simp
  exact this
theorem sz_eq (n : Nat) : sz n = (hi (n / 128)).length + 1 := by simp [sz, sd]
theorem hiF_head (k n : Nat) (h : n < 128 ^ k) (h0 : n ≠ 0) : ∃ d r, hiF k n = (d + 128) :: r ∧ 0 < d ∧ d < 128 := by
  induction k generalizing n with
  | zero => simp at h; exact absurd h h0
  | succ k ih =>
    rw [hiF, if_neg h0]
    by_cases h1 : n / 128 = 0
    · rw [h1, hiF_zero]
      exact ⟨n % 128, [], rfl, by omega, by omega⟩
    · obtain ⟨d, r, e, h2, h3⟩ := ih (n / 128) (by rw [Nat.pow_succ] at h; exact Nat.div_lt_of_lt_mul (by rw [Nat.mul_comm]; exact h)) h1
      rw [e]
      exact ⟨d, r ++ [n % 128 + 128], rfl, h2, h3⟩
/-- what bytes say, behind i bytes that said n. -/
def gl : Nat → Nat → List Nat → Nat × Nat × Int
  | _, _, [] => (0, 0, 7)
  | n, i, x :: r => if 144115188075855872 ≤ n then (0, 0, 3) else if x < 128 then (n * 128 + x, i + 1, 0) else gl (n * 128 + x % 128) (i + 1) r
def getS (b : List Nat) : Nat × Nat × Int := if b.head? = some 128 then (0, 0, 180) else gl 0 0 b
theorem gl_hiF (k : Nat) : ∀ (m : Nat) (rest : List Nat), m < 128 ^ k → m < 18446744073709551616 → gl 0 0 (hiF k m ++ rest) = gl m (hiF k m).length rest := by
  induction k with
  | zero => intro m rest h _; have : m = 0 := by simpa using h
            subst this; simp [hiF]
  | succ k ih =>
    intro m rest h hb
    by_cases h0 : m = 0
    · subst h0; rw [hiF_zero]; rfl
    · rw [hiF, if_neg h0, List.append_assoc, ih (m / 128) _ (by rw [Nat.pow_succ] at h; exact Nat.div_lt_of_lt_mul (by rw [Nat.mul_comm]; exact h)) (by omega)]
      rw [List.singleton_append, gl, if_neg (by omega), if_neg (by omega)]
      rw [show m / 128 * 128 + (m % 128 + 128) % 128 = m by omega]
      simp
theorem gl_hi (m : Nat) (rest : List Nat) (h : m < 18446744073709551616) : gl 0 0 (hi m ++ rest) = gl m (hi m).length rest := gl_hiF 10 m rest (by simp; omega) h
theorem sd_head (n : Nat) (h : n < 18446744073709551616) (t : List Nat) : (sd n ++ t).head? ≠ some 128 := by
  unfold sd
  by_cases h0 : n / 128 = 0
  · rw [h0, hi_zero]; simp; omega
  · obtain ⟨d, r, e, h2, h3⟩ := hiF_head 10 (n / 128) (by simp; omega) h0
    rw [show hi (n / 128) = _ from e]
    simp; omega
/-- what was put is got. -/
theorem get_sd (n : Nat) (h : n < 18446744073709551616) (t : List Nat) : getS (sd n ++ t) = (n, sz n, 0) := by
  unfold getS
  rw [if_neg (sd_head n h t), sz_eq]
  unfold sd
  rw [List.append_assoc, gl_hi _ _ (by omega), List.singleton_append, gl, if_neg (by omega), if_pos (by omega), show n / 128 * 128 + n % 128 = n by omega]
theorem gl_take (k : Nat) : ∀ (m i : Nat), m < 128 ^ k → m < 18446744073709551616 → gl 0 0 ((hiF k m).take i) = (0, 0, 7) := by
  induction k with
  | zero => intro m i h _; simp [hiF, gl]
  | succ k ih =>
    intro m i h hb
    by_cases h0 : m = 0
    · subst h0; rw [hiF_zero]; simp [gl]
    · have hk : m / 128 < 128 ^ k := by rw [Nat.pow_succ] at h; exact Nat.div_lt_of_lt_mul (by rw [Nat.mul_comm]; exact h)
      by_cases hi' : i ≤ (hiF k (m / 128)).length
      · rw [hiF, if_neg h0, List.take_append_of_le_length hi']
        exact ih (m / 128) i hk (by omega)
      · have hl : (hiF (k + 1) m).length ≤ i := by rw [hiF, if_neg h0]; simp; omega
        rw [List.take_of_length_le hl]
        have := gl_hiF (k + 1) m [] h hb
        rw [List.append_nil] at this
        rw [this]; rfl
theorem head_take (l : List Nat) (i : Nat) (h : l.head? ≠ some 128) : (l.take i).head? ≠ some 128 := by
  cases i with
  | zero => simp
  | succ i => cases l with
    | nil => simp
    | cons x r => simpa using h
/-- less of it is too short. -/
theorem get_take (n i : Nat) (h : n < 18446744073709551616) (hi' : i < sz n) : getS ((sd n).take i) = (0, 0, 7) := by
  unfold getS
  have h1 := sd_head n h []
  rw [List.append_nil] at h1
  rw [if_neg (head_take _ _ h1)]
  rw [sz_eq] at hi'
  unfold sd
  rw [List.take_append_of_le_length (by omega)]
  exact gl_take 10 (n / 128) i (by simp; omega) (by omega)
theorem hi_more (a x : Nat) (ha : a < 144115188075855872) (hx : 128 ≤ x) (hx2 : x < 256) (h0 : a ≠ 0 ∨ x ≠ 128) : hi (a * 128 + x % 128) = hi a ++ [x] := by
  rw [hi_step _ (by omega) (by omega), show (a * 128 + x % 128) / 128 = a by omega, show (a * 128 + x % 128) % 128 + 128 = x by omega]
theorem gl_sound (b : List Nat) : ∀ (a i n k : Nat), (∀ x ∈ b, x < 256) → (a ≠ 0 ∨ b.head? ≠ some 128) → gl a i b = (n, k, 0) →
    i < k ∧ k ≤ i + b.length ∧ hi a ++ b.take (k - i) = sd n ∧ n < 18446744073709551616 := by
  induction b with
  | nil => intro a i n k _ _ h; simp [gl] at h
  | cons x r ih =>
    intro a i n k hb h0 h
    have hx := hb x List.mem_cons_self
    rw [gl] at h
    by_cases h1 : 144115188075855872 ≤ a
    · rw [if_pos h1] at h; simp at h
    · rw [if_neg h1] at h
      by_cases h2 : x < 128
      · rw [if_pos h2] at h
        simp only [Prod.mk.injEq, and_true] at h
        obtain ⟨rfl, rfl⟩ := h
        refine ⟨by omega, by simp, ?_, by omega⟩
        rw [show i + 1 - i = 1 by omega]
        unfold sd
        rw [show (a * 128 + x) / 128 = a by omega, show (a * 128 + x) % 128 = x by omega]
        rfl
      · rw [if_neg h2] at h
        have h3 : a ≠ 0 ∨ x ≠ 128 := h0.imp id (fun h => by simpa using h)
        obtain ⟨q1, q2, q3, q4⟩ := ih (a * 128 + x % 128) (i + 1) n k (fun y hy => hb y (List.mem_cons_of_mem _ hy)) (.inl (by omega)) h
        refine ⟨by omega, by simp; omega, ?_, q4⟩
        rw [hi_more a x (by omega) (by omega) hx h3] at q3
        rw [show k - i = (k - (i + 1)) + 1 by omega, List.take_succ_cons, ← q3]
        simp
/-- what is got, put, is the bytes that it had. -/
theorem get_sound (b : List Nat) (n k : Nat) (hb : ∀ x ∈ b, x < 256) (h : getS b = (n, k, 0)) : 1 ≤ k ∧ k ≤ b.length ∧ b.take k = sd n ∧ n < 18446744073709551616 := by
  unfold getS at h
  by_cases h0 : b.head? = some 128
  · rw [if_pos h0] at h; simp at h
  · rw [if_neg h0] at h
    obtain ⟨q1, q2, q3, q4⟩ := gl_sound b 0 0 n k hb (.inr h0) h
    rw [hi_zero] at q3
    exact ⟨by omega, by omega, by simpa using q3, q4⟩
theorem gl_err (b : List Nat) : ∀ (a i : Nat), (∃ n k, gl a i b = (n, k, 0)) ∨ gl a i b = (0, 0, 7) ∨ gl a i b = (0, 0, 3) := by
  induction b with
  | nil => intro a i; exact .inr (.inl rfl)
  | cons x r ih =>
    intro a i
    rw [gl]
    by_cases h1 : 144115188075855872 ≤ a
    · rw [if_pos h1]; exact .inr (.inr rfl)
    · rw [if_neg h1]
      by_cases h2 : x < 128
      · rw [if_pos h2]; exact .inl ⟨_, _, rfl⟩
      · rw [if_neg h2]; exact ih _ _
theorem get_err (b : List Nat) : (∃ n k, getS b = (n, k, 0)) ∨ getS b = (0, 0, 7) ∨ getS b = (0, 0, 3) ∨ getS b = (0, 0, 180) := by
  unfold getS
  by_cases h0 : b.head? = some 128
  · rw [if_pos h0]; exact .inr (.inr (.inr rfl))
  · rw [if_neg h0]
    rcases gl_err b 0 0 with h | h | h
    · exact .inl h
    · exact .inr (.inl h)
    · exact .inr (.inr (.inl h))
/-- what is got is small. -/
theorem get_lt (b : List Nat) (hb : ∀ x ∈ b, x < 256) : (getS b).1 < 18446744073709551616 ∧ (getS b).2.1 ≤ b.length := by
  rcases get_err b with ⟨n, k, h⟩ | h | h | h
  · have := get_sound b n k hb h
    rw [h]; exact ⟨this.2.2.2, this.2.1⟩
  all_goals (rw [h]; exact ⟨by simp, by simp⟩)
theorem hiF_mono (k : Nat) : ∀ (n m : Nat), n ≤ m → (hiF k n).length ≤ (hiF k m).length := by
  induction k with
  | zero => intro n m _; simp [hiF]
  | succ k ih =>
    intro n m h
    by_cases h0 : n = 0
    · subst h0; rw [hiF_zero]; simp
    · rw [hiF, hiF, if_neg h0, if_neg (by omega)]
      simp
      exact ih _ _ (Nat.div_le_div_right h)
theorem sz_mono (n m : Nat) (h : n ≤ m) : sz n ≤ sz m := by
  rw [sz_eq, sz_eq]
  have := hiF_mono 10 (n / 128) (m / 128) (Nat.div_le_div_right h)
  unfold hi
  omega
/-- no number's bytes are the begin of another one's. -/
theorem sd_begin (n m : Nat) (hn : n < 18446744073709551616) (hm : m < 18446744073709551616) (t : List Nat) (h : sd n ++ t = sd m) : n = m := by
  have h1 := get_sd n hn t
  rw [h] at h1
  have h2 := get_sd m hm []
  rw [List.append_nil, h1] at h2
  exact (Prod.mk.inj h2).1
/-- the one row of bytes is less than the other one, of its length. -/
def less : List Nat → List Nat → Prop
  | x :: r, y :: s => x < y ∨ x = y ∧ less r s
  | _, _ => False
theorem less_append : ∀ (l m : List Nat) (p q : List Nat), l.length = m.length → less l m → less (l ++ p) (m ++ q)
  | [], [], _, _, _, h => h.elim
  | [], _ :: _, _, _, h, _ => by simp at h
  | _ :: _, [], _, _, h, _ => by simp at h
  | x :: r, y :: s, p, q, hl, h => h.elim .inl (fun h => .inr ⟨h.1, less_append r s p q (by simpa using hl) h.2⟩)
theorem less_same : ∀ (l : List Nat) (p q : List Nat), less p q → less (l ++ p) (l ++ q)
  | [], _, _, h => h
  | _ :: r, p, q, h => .inr ⟨rfl, less_same r p q h⟩
theorem hiF_less (k : Nat) : ∀ (n m : Nat), n < m → (hiF k n).length = (hiF k m).length → n ≠ 0 → n < 128 ^ k → m < 128 ^ k → less (hiF k n) (hiF k m) := by
  induction k with
  | zero => intro n m h _ _ _ hm; simp at hm; omega
  | succ k ih =>
    intro n m h hl h0 hn hm
    rw [hiF, hiF, if_neg h0, if_neg (by omega)] at hl ⊢
    have hd : n / 128 ≤ m / 128 := Nat.div_le_div_right (by omega)
    have hk1 : n / 128 < 128 ^ k := by rw [Nat.pow_succ] at hn; exact Nat.div_lt_of_lt_mul (by rw [Nat.mul_comm]; exact hn)
    have hk2 : m / 128 < 128 ^ k := by rw [Nat.pow_succ] at hm; exact Nat.div_lt_of_lt_mul (by rw [Nat.mul_comm]; exact hm)
    rcases Nat.lt_or_ge (n / 128) (m / 128) with hlt | hge
    · have hl' : (hiF k (n / 128)).length = (hiF k (m / 128)).length := by simpa using hl
      by_cases hz : n / 128 = 0
      · exfalso
        obtain ⟨d, r, e, _⟩ := hiF_head k (m / 128) hk2 (by omega)
        rw [hz, hiF_zero, e] at hl'
        simp at hl'
      · exact less_append _ _ _ _ hl' (ih _ _ hlt hl' hz hk1 hk2)
    · have : n / 128 = m / 128 := by omega
      rw [this]
      exact less_same _ _ _ (.inl (by omega))
theorem sd_less (n m : Nat) (hn : n < 18446744073709551616) (hm : m < 18446744073709551616) (h : n < m) (hl : sz n = sz m) : less (sd n) (sd m) := by
  rw [sz_eq, sz_eq] at hl
  unfold sd
  rcases Nat.lt_or_ge (n / 128) (m / 128) with hlt | hge
  · have hl' : (hi (n / 128)).length = (hi (m / 128)).length := by omega
    by_cases hz : n / 128 = 0
    · exfalso
      obtain ⟨d, r, e, _⟩ := hiF_head 10 (m / 128) (by simp; omega) (by omega)
      rw [hz, hi_zero, show hi (m / 128) = _ from e] at hl'
      simp at hl'
    · exact less_append _ _ _ _ hl' (hiF_less 10 _ _ hlt hl' hz (by simp; omega) (by simp; omega))
  · have : n / 128 = m / 128 := by omega
    rw [this]
    exact less_same _ _ _ (.inl (by omega))

set_option maxRecDepth 20000 in
set_option maxHeartbeats 1000000 in
theorem size_any (w : World) (n : Nat) (hn : n < 18446744073709551616) :
    Calls Try.prog 39 #[.int .u64 n] w fun e w' => e = .returned (.int .i64 (sz n : Nat)) ∧ w = w' := by
  have HS := sz_eq n
  have hl := sd_len n hn
  generalize sz n = Z at HS hl ⊢
  have HZ : Hid (Z = (hi (n / 128)).length + 1) := HS
  clear HS
  go_enter Try.func39, Try.ntmps39
  go_wp2
  go_loop [0, 3] (fun u s => ∃ q k : Nat, u = .int .u64 q ∧ s = .int .i64 k ∧ q < 18446744073709551616 ∧ k ≤ Z ∧ Hid (k + (hi q).length = Z)) (fun u _ => (intOf u).toNat)
  case atStart => exact ⟨n / 128, 1, by simp, rfl, by omega, by omega, by show _ = _; rw [HZ.out]; omega⟩
  case round =>
    obtain ⟨q, k, rfl, rfl, hq, hk, HK⟩ := hrel
    by_cases h0 : 0 < q
    · have HN : Hid (k + 1 + (hi (q / 128)).length = Z) := by
        show _ = _
        have := HK.out
        rw [hi_step q hq (by omega)] at this
        simp at this
        omega
      have hk1 : k + 1 ≤ Z := by have := HN.out; omega
      go_wp2
      go_round
      case rel => exact ⟨q / 128, k + 1, by simp, by go_num, by omega, hk1, HN.out⟩
      case measure => simp [intOf]; omega
    · obtain rfl : q = 0 := by omega
      have HN : Hid (k = Z) := by show _ = _; have := HK.out; rw [hi_zero] at this; simpa using this
      go_wp2
      go_ret
      exact ⟨ret_int (by rw [HN.out]), rfl⟩

theorem cells_set (L : List Nat) (i b : Nat) : (cells L).toArray.setIfInBounds i (.int .u8 (b : Nat)) = (cells (L.set i b)).toArray := by
  rw [List.setIfInBounds_toArray]
  unfold cells
  rw [List.map_set]
theorem take_set (L R : List Nat) (m b : Nat) (h : m < L.length) : (L.take (m + 1) ++ R).set m b = L.take m ++ (b :: R) := by
  rw [List.take_succ_eq_append_getElem h, List.append_assoc, List.set_append_right _ _ (by rw [List.length_take]; omega)]
  congr 1
  rw [List.length_take, show m - min m L.length = 0 by omega]
  rfl
/-- one byte more, ahead of those that were laid. -/
theorem lay_step {w wr : World} {g m b : Nat} {L R : List Nat} (h : wr.heap[g]? = some (.cells (cells (L.take (m + 1) ++ R)).toArray 5 (0, 0))) (ho : Off (fun k => k = g) w wr) (hm : m < L.length) :
    (wr.setCell ⟨g, m, none⟩ (.int .u8 (b : Nat))).heap[g]? = some (.cells (cells (L.take m ++ (b :: R))).toArray 5 (0, 0)) ∧ Off (fun k => k = g) w (wr.setCell ⟨g, m, none⟩ (.int .u8 (b : Nat))) := by
  refine ⟨?_, ho.setCell (p := ⟨g, m, none⟩) (.inr rfl) _⟩
  rw [heap_setCell_same _ _ _ _ _ _ h, cells_set, take_set _ _ _ _ hm]
theorem lay_cell {wr : World} {g m : Nat} {L R : List Nat} (h : wr.heap[g]? = some (.cells (cells (L.take (m + 1) ++ R)).toArray 5 (0, 0))) (hm : m < L.length) : ∃ u, wr.cell? ⟨g, m, none⟩ = some u := by
  rw [cell_of h]
  exact ⟨_, Array.getElem?_eq_getElem (by simp [cells_length]; omega)⟩
set_option maxRecDepth 20000 in
set_option maxHeartbeats 1000000 in
theorem lay_any (w : World) (g e cap : Nat) (L : List Nat) (n : Nat) (hn : n < 18446744073709551616) (hB : Bs w g L) (he : e ≤ L.length) (hs : sz n ≤ e) (hz : e ≤ 140737488351232) :
    Calls Try.prog 40 #[.slice (some ⟨g, 0, none⟩) e cap, .int .u64 n] w fun en w' => en = .returned (.tuple #[]) ∧ Hid (Bs w' g (L.take (e - sz n) ++ (sd n ++ L.drop e)) ∧ Off (fun k => k = g) w w') := by
  rw [sz_eq] at hs ⊢
  obtain ⟨m, hm⟩ : ∃ m, e = m + 1 := ⟨e - 1, by omega⟩
  subst hm
  have HW : Hid (Bs w g L) := hB
  have h0 : w.heap[g]? = some (.cells (cells (L.take (m + 1) ++ L.drop (m + 1))).toArray 5 (0, 0)) := by rw [List.take_append_drop]; exact hB.here
  have hmL : m < L.length := by omega
  obtain ⟨u, hc0⟩ := lay_cell h0 hmL
  have hf0 := frozen_of h0 m
  have HA : Hid _ := lay_step (b := n % 128) h0 (Off.refl _ w) hmL
  have HSZ : Hid ((hi (n / 128)).length ≤ m) := by show _ ≤ _; omega
  have i1 : ((m : Nat) : Int) < ((m + 1 : Nat) : Int) := by omega
  clear h0 hB hs
  go_enter Try.func40, Try.ntmps40
  go_wp2
  go_loopw [1, 4] (fun u i wr => ∃ (q j r : Nat) (T : List Nat), u = .int .u64 q ∧ i = .int .i64 r ∧ r + j = m ∧ q < 18446744073709551616 ∧ Hid (T.length = j ∧ hi q ++ T = hi (n / 128) ∧ wr.heap[g]? = some (.cells (cells (L.take r ++ (T ++ (n % 128 :: L.drop (m + 1))))).toArray 5 (0, 0)) ∧ Off (fun k => k = g) w wr)) (fun u _ _ => (intOf u).toNat)
  case atStart => exact ⟨n / 128, 0, m, [], by simp, rfl, rfl, by omega, rfl, by simp, by simpa using HA.out.1, by simpa using HA.out.2⟩
  case round =>
    obtain ⟨q, j, r, T, rfl, rfl, hr, hq, HD⟩ := hrel
    by_cases h0 : 0 < q
    · have HQ : Hid (hi (q / 128) ++ ((q % 128 + 128) :: T) = hi (n / 128)) := by
        show _ = _
        rw [← HD.out.2.1, hi_step q hq (by omega), List.append_assoc]; rfl
      have hrp : 0 < r := by
        have h1 := congrArg List.length HQ.out
        have h2 := HSZ.out
        have h3 := HD.out.1
        simp at h1
        omega
      obtain ⟨r, rfl⟩ : ∃ p, r = p + 1 := ⟨r - 1, by omega⟩
      have hB0 := HD.out.2.2.1
      have hrL : r < L.length := by omega
      obtain ⟨u, hc⟩ := lay_cell hB0 hrL
      have hf := frozen_of hB0 r
      have HN : Hid _ := lay_step (b := q % 128 + 128) hB0 HD.out.2.2.2 hrL
      clear hB0
      have i3 : ((r : Nat) : Int) < ((m + 1 : Nat) : Int) := by omega
      go_wp2
      go_roundw
      case rel =>
        refine ⟨q / 128, j + 1, r, (q % 128 + 128) :: T, by simp, by first | rfl | go_num, by omega, by omega, by simp [HD.out.1], HQ.out, ?_, ?_⟩
        · simpa using HN.out.1
        · simpa using HN.out.2
      case measure => simp [intOf]; omega
    · obtain rfl : q = 0 := by omega
      have HT : Hid (T = hi (n / 128)) := by show _ = _; have := HD.out.2.1; rw [hi_zero] at this; simpa using this
      have HJ : Hid (r = m + 1 - ((hi (n / 128)).length + 1)) := by show _ = _; have h1 := HD.out.1; rw [HT.out] at h1; omega
      go_wp2
      go_end0
      refine ⟨rfl, ⟨?_, ?_, ?_⟩, HD.out.2.2.2⟩
      · have := HD.out.2.2.1
        rw [← HJ.out]
        rw [this, HT.out]
        unfold sd
        simp
      · intro x hx
        rcases List.mem_append.1 hx with h | h
        · exact HW.out.byte x (List.mem_of_mem_take h)
        · rcases List.mem_append.1 h with h | h
          · exact sd_byte n x h
          · exact HW.out.byte x (List.mem_of_mem_drop h)
      · have h2 := HW.out.len
        have h3 := sz_eq n
        have h4 := HSZ.out
        unfold sz at h3
        simp only [List.length_append, List.length_take, List.length_drop, h3]
        omega
attribute [local go_sem] jump_ret jump_normal jump_exit jump_panic jump_goto

/-- what is got, as the code tells it. -/
def got (C : Nat × Nat × Int) : Ending := .returned (.tuple #[.int .u64 (C.1 : Nat), .int .i64 (C.2.1 : Nat), .int .i64 C.2.2])
theorem got_ok (n k : Nat) (a b : Int) (h1 : a = (n : Nat)) (h2 : b = (k : Nat)) : Ending.returned (.tuple #[.int .u64 a, .int .i64 b, .int .i64 0]) = got (n, k, 0) := by rw [h1, h2]; rfl
theorem or_digit (N x : Nat) (h : N < 144115188075855872) : bits .or .u64 ((N : Int) * 128) ((x : Int) % 128) = ((N * 128 + x % 128 : Nat) : Int) := by
  have h1 := Nat.shiftLeft_add_eq_or_of_lt (show x % 128 < 2 ^ 7 by omega) N
  rw [Nat.shiftLeft_eq] at h1
  rw [show (N : Int) * 128 = ((N * 128 : Nat) : Int) by omega, show (x : Int) % 128 = ((x % 128 : Nat) : Int) by omega, bits_or_u64_nat _ _ (by omega) (by omega)]
  rw [← show N * 2 ^ 7 = N * 128 from rfl, h1]
theorem gl_more (l : List Nat) (N k : Nat) (hk : k < l.length) : gl N k (l.drop k) = if 144115188075855872 ≤ N then (0, 0, 3) else if l[k] < 128 then (N * 128 + l[k], k + 1, 0) else gl (N * 128 + l[k] % 128) (k + 1) (l.drop (k + 1)) := by
  rw [List.drop_eq_getElem_cons hk, gl]
theorem row_at {w : World} {a : Option Addr} {l : List Nat} (h : Row w a l) (k : Nat) (hk : k < l.length) : ∃ b off, a = some ⟨b, off, none⟩ ∧ w.cell? ⟨b, off + k, none⟩ = some (.int .u8 (l[k] : Nat)) := by
  obtain ⟨b, off, rfl, hc⟩ := h.2.2 (by omega)
  refine ⟨b, off, rfl, ?_⟩
  rw [hc k hk, List.getD_eq_getElem?_getD, List.getElem?_eq_getElem hk]
  rfl
set_option maxRecDepth 20000 in
set_option maxHeartbeats 1000000 in
theorem get_none (w : World) (a : Option Addr) (cap : Nat) :
    Calls Try.prog 43 #[.slice a 0 cap] w fun e w' => e = got (0, 0, 7) ∧ w = w' := by
  go_enter Try.func43, Try.ntmps43
  go_wp2
  refine wp_scope_once 0 rfl ?_
  go_wp2
  go_loop [5, 20] (fun u i => u = .int .u64 0 ∧ i = .int .i64 0) (fun _ i => (intOf i).toNat)
  case atStart => exact ⟨rfl, rfl⟩
  case round =>
    obtain ⟨rfl, rfl⟩ := hrel
    go_wp2
    exact bodyPost_ret (v := .tuple #[.int .u64 0, .int .i64 0, .int .i64 7]) (by simp [results, Try.results43, go_sem]) rfl ⟨rfl, rfl⟩
set_option maxRecDepth 20000 in
set_option maxHeartbeats 1000000 in
theorem get_nought (w : World) (b off n cap : Nat) (hn : 0 < n) (hz : n ≤ 140737488351232) (hc : w.cell? ⟨b, off, none⟩ = some (.int .u8 128)) :
    Calls Try.prog 43 #[.slice (some ⟨b, off, none⟩) n cap] w fun e w' => e = got (0, 0, 180) ∧ w = w' := by
  go_enter Try.func43, Try.ntmps43
  go_wp2
  refine wp_scope_once 0 rfl ?_
  go_wp2
  rw [jump_ret]
  exact bodyPost_ret (v := .tuple #[.int .u64 0, .int .i64 0, .int .i64 180]) (by simp [results, Try.results43, go_sem]) rfl ⟨rfl, rfl⟩
set_option maxRecDepth 20000 in
set_option maxHeartbeats 1000000 in
theorem get_some (w : World) (b off : Nat) (cap : Nat) (l : List Nat) (hr : Row w (some ⟨b, off, none⟩) l) (hz : l.length ≤ 140737488351232) (x : Nat) (h0 : l.head? = some x) (hx : x ≠ 128) (hc : w.cell? ⟨b, off, none⟩ = some (.int .u8 x)) :
    Calls Try.prog 43 #[.slice (some ⟨b, off, none⟩) l.length cap] w fun e w' => e = got (getS l) ∧ w = w' := by
  have HR : Hid (Row w (some ⟨b, off, none⟩) l) := hr
  have HG : Hid (getS l = gl 0 0 l) := by show _ = _; unfold getS; rw [if_neg (by rw [h0]; simpa using hx)]
  have hl : 0 < l.length := by cases l; simp at h0; simp
  have hxi : ((x : Int) == 128) = false := by simp; omega
  generalize getS l = G at HG ⊢
  clear hr h0
  go_enter Try.func43, Try.ntmps43
  go_wp2
  refine wp_scope_once 0 rfl ?_
  go_wp2
  clear hc hxi hx
  go_loop [5, 20] (fun u i => ∃ N k : Nat, u = .int .u64 N ∧ i = .int .i64 k ∧ N < 18446744073709551616 ∧ k ≤ l.length ∧ Hid (gl N k (l.drop k) = G)) (fun _ i => l.length - (intOf i).toNat)
  case atStart => exact ⟨0, 0, rfl, rfl, by omega, by omega, HG.out.symm⟩
  case round =>
    obtain ⟨N, k, rfl, rfl, hN, hk, HK⟩ := hrel
    by_cases hlt : k < l.length
    · obtain ⟨_, _, e, hc⟩ := row_at HR.out k hlt
      cases e
      have HM : Hid _ := gl_more l N k hlt
      have hy : l[k] < 256 := HR.out.1 _ (List.getElem_mem hlt)
      generalize l[k] = y at hc HM hy
      by_cases h1 : 144115188075855872 ≤ N
      · have hd : 0 < N / 144115188075855872 := by omega
        have HE : Hid (G = (0, 0, 3)) := by show _ = _; rw [← HK.out, HM.out, if_pos h1]
        go_wp2
        exact bodyPost_ret (v := .tuple #[.int .u64 0, .int .i64 0, .int .i64 3]) (by simp [results, Try.results43, go_sem]) rfl ⟨by rw [HE.out]; rfl, rfl⟩
      · have hd : N / 144115188075855872 = 0 := by omega
        have hor := or_digit N y (by omega)
        by_cases h2 : y < 128
        · have HE : Hid (G = (N * 128 + y, k + 1, 0)) := by show _ = _; rw [← HK.out, HM.out, if_neg h1, if_pos h2]
          go_wp2
          go_step3
          show _ ∧ Code.wp _ _ _ _ _
          refine ⟨rfl, ?_⟩
          go_wp2
          try rw [jump_ret]
          exact bodyPost_ret (v := .tuple #[.int .u64 _, .int .i64 _, .int .i64 0]) (by simp [results, Try.results43, go_sem]; exact ⟨rfl, rfl⟩) rfl ⟨by rw [HE.out]; exact got_ok _ _ _ _ (by omega) (by omega), rfl⟩
        · have HE : Hid (gl (N * 128 + y % 128) (k + 1) (l.drop (k + 1)) = G) := by show _ = _; rw [← HK.out, HM.out, if_neg h1, if_neg h2]
          go_wp2
          go_round
          case rel => exact ⟨N * 128 + y % 128, k + 1, rfl, by go_num, by omega, by omega, HE.out⟩
          case measure => simp [intOf]; omega
    · obtain rfl : k = l.length := by omega
      have HE : Hid (G = (0, 0, 7)) := by show _ = _; rw [← HK.out, List.drop_of_length_le (Nat.le_refl _)]; rfl
      go_wp2
      exact bodyPost_ret (v := .tuple #[.int .u64 0, .int .i64 0, .int .i64 7]) (by simp [results, Try.results43, go_sem]) rfl ⟨by rw [HE.out]; rfl, rfl⟩
theorem get_any (w : World) (a : Option Addr) (cap : Nat) (l : List Nat) (hr : Row w a l) (hz : l.length ≤ 140737488351232) :
    Calls Try.prog 43 #[.slice a l.length cap] w fun e w' => e = got (getS l) ∧ w = w' := by
  cases l with
  | nil => exact get_none w a cap
  | cons x r =>
    obtain ⟨b, off, rfl, hc⟩ := row_at hr 0 (by simp)
    by_cases hx : x = 128
    · subst hx
      exact get_nought w b off _ cap (by simp) hz hc
    · exact get_some w b off cap (x :: r) hr hz x rfl hx hc

/-- the bytes of numbers in a row. -/
def rowL : List Nat → List Nat
  | [] => []
  | n :: r => sd n ++ rowL r
theorem rowL_append (l m : List Nat) : rowL (l ++ m) = rowL l ++ rowL m := by
  induction l with
  | nil => rfl
  | cons x r ih => simp [rowL, ih]
theorem rowL_one (n : Nat) : rowL [n] = sd n := by simp [rowL]
theorem rowL_byte (l : List Nat) : ∀ x ∈ rowL l, x < 256 := by
  induction l with
  | nil => intro x hx; simp [rowL] at hx
  | cons n r ih =>
    intro x hx
    rcases List.mem_append.1 hx with h | h
    · exact sd_byte n x h
    · exact ih x h
theorem rowL_len (l : List Nat) (h : ∀ x ∈ l, x < 18446744073709551616) : (rowL l).length ≤ 10 * l.length := by
  induction l with
  | nil => simp [rowL]
  | cons n r ih =>
    have h1 := (sd_len n (h n List.mem_cons_self)).2
    have h2 := ih (fun x hx => h x (List.mem_cons_of_mem _ hx))
    unfold sz at h1
    simp only [rowL, List.length_append, List.length_cons]
    omega
theorem rowL_take (L : List Nat) (k : Nat) (hk : k < L.length) : rowL (L.take (k + 1)) = rowL (L.take k) ++ sd L[k] := by
  rw [List.take_succ_eq_append_getElem hk, rowL_append, rowL_one]
theorem rowL_le (L : List Nat) (k : Nat) : (rowL (L.take k)).length ≤ (rowL L).length := by
  have := congrArg List.length (rowL_append (L.take k) (L.drop k))
  rw [List.take_append_drop, List.length_append] at this
  omega
/-- the bytes of the first numbers, and noughts behind them. -/
def part (Z : Nat) (R : List Nat) : List Nat := R ++ List.replicate (Z - R.length) 0
theorem part_len (Z : Nat) (R : List Nat) (h : R.length ≤ Z) : (part Z R).length = Z := by simp [part]; omega
theorem part_more (Z : Nat) (R S : List Nat) (h : R.length + S.length ≤ Z) : (part Z R).take (R.length + S.length - S.length) ++ (S ++ (part Z R).drop (R.length + S.length)) = part Z (R ++ S) := by
  unfold part
  rw [show R.length + S.length - S.length = R.length by omega, List.take_left, List.drop_append, List.drop_of_length_le (by omega), List.nil_append, show R.length + S.length - R.length = S.length by omega, List.drop_replicate, List.append_assoc, List.length_append]
  rw [show Z - R.length - S.length = Z - (R.length + S.length) by omega]

set_option maxRecDepth 20000 in
set_option maxHeartbeats 1000000 in
theorem row_any (w : World) (a : Option Addr) (c : Nat) (L : List Nat) (hr : Row64 w a L) (hz : L.length ≤ 1000000) :
    Calls Try.prog 27 #[.slice a L.length c] w fun e w' => e = .returned (.slice (some ⟨w.heap.size, 0, none⟩) (rowL L).length (rowL L).length) ∧ Hid (Bs w' w.heap.size (rowL L) ∧ Below w.heap.size w w') := by
  obtain ⟨i0, hi, hz0, hz1, hz2⟩ := info_parts Try.info5
  have HI : Hid _ := hi
  have HR : Hid (Row64 w a L) := hr
  have hZ := rowL_len L hr.1
  clear hi hr
  have HZ : Hid (∃ Z, Z = (rowL L).length) := ⟨_, rfl⟩
  obtain ⟨Z, hZe⟩ := HZ.out
  have HZE : Hid (Z = (rowL L).length) := hZe
  rw [← hZe] at hZ ⊢
  clear hZe HZ
  have hb2 : i0.bytes * Z ≤ 281474976710656 := by rw [hz2]; omega
  go_enter Try.func27, Try.ntmps27
  go_wp2
  go_loop [3, 12] (fun s i => ∃ k m : Nat, k ≤ L.length ∧ i = .int .i64 k ∧ s = .int .i64 m ∧ m ≤ Z ∧ Hid (m = (rowL (L.take k)).length)) (fun _ i => L.length - (intOf i).toNat)
  case atStart => exact ⟨0, 0, by omega, rfl, rfl, by omega, rfl⟩
  case round =>
    obtain ⟨k, m, hk, rfl, rfl, hm, HM⟩ := hrel
    by_cases hlt : k < L.length
    · obtain ⟨b, off, rfl, hc, hx⟩ := row64_at HR.out k hlt
      have HN : Hid (m + sz L[k] = (rowL (L.take (k + 1))).length) := by show _ = _; rw [rowL_take L k hlt, List.length_append, ← HM.out]; rfl
      have hle : m + sz L[k] ≤ Z := by rw [HN.out, HZE.out]; exact rowL_le L _
      have HS := fun w => size_any w L[k] hx
      generalize L[k] = y at hc hx HN HS hle
      generalize sz y = Y at HN HS hle
      go_wp2_with (go_at_call 39; refine (HS _).mono ?_; rintro e w1 ⟨rfl, rfl⟩)
      go_round
      case rel => exact ⟨k + 1, m + Y, by omega, by go_num, by go_num, hle, HN.out⟩
      case measure => simp [intOf]; omega
    · obtain rfl : k = L.length := by omega
      obtain rfl : m = Z := by rw [HM.out, HZE.out, List.take_length]
      go_wp2_with (at_make; refine wpList_make_full _ rfl _ _ 23 rfl w.heap.size 5 i0 _ 1 Try.underlying23 HI.out hz0 hz1 .i64 .i64 _ _ m (by rfl) (by rfl) (by omega) (by omega) hb2 (by unfold maxLen; omega) (Nat.le_refl _) ?_; intro w1 hown hgrow; obtain ⟨hm1, hm2⟩ := made_bytes hown hgrow; have HM1 : Hid _ := hm1; have HM2 : Hid _ := hm2; clear hown hgrow hm1 hm2)
      go_loopw [7, 25] (fun s i wr => ∃ k p : Nat, k ≤ L.length ∧ i = .int .i64 k ∧ s = .int .i64 p ∧ p ≤ m ∧ Hid (p = (rowL (L.take k)).length ∧ Bs wr w.heap.size (part m (rowL (L.take k))) ∧ Below w.heap.size w wr)) (fun _ i _ => L.length - (intOf i).toNat)
      case atStart => exact ⟨0, 0, by omega, rfl, rfl, by omega, rfl, ⟨by rw [HM1.out]; simp [part, rowL], by intro x hx; simp [part, rowL] at hx; omega, by rw [part_len _ _ (by simp [rowL])]; unfold maxLen; omega⟩, HM2.out⟩
      case round =>
        obtain ⟨k, p, hk, rfl, rfl, hp, HP⟩ := hrel
        by_cases hlt : k < L.length
        · obtain ⟨b, off, rfl, hc, hx⟩ := row64_at (HR.out.later HP.out.2.2) k hlt
          have HN : Hid (p + sz L[k] = (rowL (L.take (k + 1))).length) := by show _ = _; rw [rowL_take L k hlt, List.length_append, ← HP.out.1]; rfl
          have hle : p + sz L[k] ≤ m := by rw [HN.out, HZE.out]; exact rowL_le L _
          have HS := fun w => size_any w L[k] hx
          have HPT : Hid ((part m (rowL (L.take k))).take (p + sz L[k] - sz L[k]) ++ (sd L[k] ++ (part m (rowL (L.take k))).drop (p + sz L[k])) = part m (rowL (L.take (k + 1)))) := by
            show _ = _
            have h1 := HP.out.1
            rw [rowL_take L k hlt, h1]
            refine part_more m _ (sd L[k]) ?_
            rw [← h1]; exact hle
          have HLY := lay_any wr w.heap.size (p + sz L[k]) m (part m (rowL (L.take k))) L[k] hx HP.out.2.1 (by rw [part_len _ _ (by rw [← HP.out.1]; exact hp)]; exact hle) (by omega) (by omega)
          rw [HPT.out] at HLY
          generalize L[k] = y at hc hx HN HS hle HLY
          generalize sz y = Y at HN HS hle HLY
          have i1 : ((p : Int) + (Y : Int)) ≤ (m : Int) := by omega
          clear HPT
          go_wp2_with (first | (go_at_call 39; refine (HS _).mono ?_; rintro e w1 ⟨rfl, rfl⟩) | (go_at_call 40; refine HLY.mono ?_; rintro e w2 ⟨rfl, HQ⟩))
          go_roundw
          case rel => exact ⟨k + 1, p + Y, by omega, by go_num, by go_num, hle, HN.out, HQ.out.1, HP.out.2.2.trans (HQ.out.2.below HP.out.2.2.size (fun i e => by omega))⟩
          case measure => simp [intOf]; omega
        · obtain rfl : k = L.length := by omega
          go_wp2
          go_ret
          refine ⟨rfl, ?_, HP.out.2.2⟩
          have := HP.out.2.1
          rw [List.take_length] at this
          have e : part m (rowL L) = rowL L := by unfold part; rw [← HZE.out, Nat.sub_self]; simp
          rw [e] at this
          exact this
end Go.Proofs.Ythmfbhanmncfgaa
