/- Plain arithmetic: a sum is a row of steps over one number; bits turned in sealed bytes are told by the steps over the turned bits alone. No Go here. -/
import Derived.Test.YthmfbhanmncfgaaWCrc
namespace Go.Proofs.Ythmfbhanmncfgaa.Crc

theorem xor_half (a b : Nat) : (a ^^^ b) / 2 = (a / 2) ^^^ (b / 2) := Nat.xor_div_two
theorem add_xor (i a b : Nat) (h : b < 2 ^ i) : 2 ^ i * a + b = (2 ^ i * a) ^^^ b := by
  apply Nat.eq_of_testBit_eq
  intro j
  rw [Nat.testBit_xor, Nat.testBit_two_pow_mul_add a h, Nat.testBit_two_pow_mul]
  by_cases hj : j < i
  · have : ¬ i ≤ j := by omega
    simp [hj, this]
  · have h1 : i ≤ j := by omega
    have h2 : b.testBit j = false := Nat.testBit_lt_two_pow (Nat.lt_of_lt_of_le h (Nat.pow_le_pow_right (by omega) h1))
    simp [hj, h1, h2]
theorem xor_mul (i a b : Nat) : (a ^^^ b) * 2 ^ i = (a * 2 ^ i) ^^^ (b * 2 ^ i) := by
  rw [← Nat.shiftLeft_eq, ← Nat.shiftLeft_eq, ← Nat.shiftLeft_eq, Nat.shiftLeft_xor_distrib]

theorem st_xor (p a b : Nat) : st p (a ^^^ b) = st p a ^^^ st p b := by
  unfold st
  rw [xor_half]
  have h := Nat.xor_mod_two_eq_one (a := a) (b := b)
  by_cases ha : a % 2 = 1 <;> by_cases hb : b % 2 = 1
  · rw [if_neg (by rw [h]; simp [ha, hb]), if_pos ha, if_pos hb]
    rw [Nat.xor_assoc, ← Nat.xor_assoc p, Nat.xor_comm p, Nat.xor_assoc (b / 2), Nat.xor_self, Nat.xor_zero]
  · rw [if_pos (by rw [h]; simp [ha, hb]), if_pos ha, if_neg hb]
    rw [Nat.xor_assoc, Nat.xor_comm (b / 2), Nat.xor_assoc]
  · rw [if_pos (by rw [h]; simp [ha, hb]), if_neg ha, if_pos hb, Nat.xor_assoc]
  · rw [if_neg (by rw [h]; simp [ha, hb]), if_neg ha, if_neg hb]
theorem stn_xor (p n a b : Nat) : stn p n (a ^^^ b) = stn p n a ^^^ stn p n b := by
  induction n with
  | zero => rfl
  | succ n ih => rw [stn_succ, stn_succ, stn_succ, ih, st_xor]
theorem st_double (p y : Nat) : st p (y * 2) = y := by
  rw [st_even _ _ (by omega)]; omega
theorem stn_succ' (p n s : Nat) : stn p (n + 1) s = stn p n (st p s) := by
  induction n with
  | zero => rfl
  | succ n ih => rw [stn_succ, ih, stn_succ]
theorem stn_add (p m n s : Nat) : stn p (m + n) s = stn p m (stn p n s) := by
  induction m with
  | zero => rw [Nat.zero_add]; rfl
  | succ m ih => rw [Nat.succ_add, stn_succ, stn_succ, ih]
theorem stn_shift (p k y : Nat) : stn p k (y * 2 ^ k) = y := by
  induction k with
  | zero => simp [stn]
  | succ k ih => rw [stn_succ', Nat.pow_succ, ← Nat.mul_assoc, st_double, ih]
theorem stn_zero (p n : Nat) : stn p n 0 = 0 := by
  have := stn_shift p n 0
  rwa [Nat.zero_mul] at this

theorem st_ne (p w m : Nat) (hp : p.testBit w = true) (hm : m < 2 ^ (w + 1)) (h0 : m ≠ 0) : st p m ≠ 0 := by
  by_cases ho : m % 2 = 1
  · rw [st_odd _ _ ho]
    intro h
    have h1 : ((m / 2) ^^^ p).testBit w = true := by
      rw [Nat.testBit_xor, hp, Nat.testBit_lt_two_pow (show m / 2 < 2 ^ w by rw [Nat.pow_succ] at hm; omega)]
      rfl
    rw [h] at h1
    simp at h1
  · rw [st_even _ _ ho]
    omega
theorem stn_ne (p w n m : Nat) (hp : p.testBit w = true) (hpl : p < 2 ^ (w + 1)) (hm : m < 2 ^ (w + 1)) (h0 : m ≠ 0) : stn p n m ≠ 0 := by
  induction n with
  | zero => exact h0
  | succ n ih => exact st_ne p w _ hp (stn_lt p n m (w + 1) hpl hm) ih

/-- the number that bytes are, the lowest first. -/
def val : List Nat → Nat
  | [] => 0
  | x :: r => x + 256 * val r

theorem val_cons_xor (x v : Nat) (hx : x < 256) : x + 256 * v = x ^^^ (v * 2 ^ 8) := by
  have h := add_xor 8 v x hx
  rw [Nat.xor_comm, Nat.mul_comm v]
  omega

theorem run_val (p s : Nat) (l : List Nat) (hl : ∀ x ∈ l, x < 256) : run p s l = stn p (8 * l.length) (s ^^^ val l) := by
  induction l generalizing s with
  | nil => simp [run, val, stn]
  | cons x r ih =>
    have hx := hl x List.mem_cons_self
    show run p (stn p 8 (s ^^^ x)) r = _
    rw [ih _ (fun y hy => hl y (List.mem_cons_of_mem _ hy))]
    show _ = stn p (8 * (r.length + 1)) (s ^^^ (x + 256 * val r))
    rw [val_cons_xor x (val r) hx, ← Nat.xor_assoc, Nat.mul_succ, stn_add, stn_xor p 8 (s ^^^ x), stn_shift]

theorem val_append (l m : List Nat) : val (l ++ m) = val l + 2 ^ (8 * l.length) * val m := by
  induction l with
  | nil => simp [val]
  | cons x r ih =>
    show x + 256 * val (r ++ m) = x + 256 * val r + 2 ^ (8 * (r.length + 1)) * val m
    rw [ih, Nat.mul_succ, Nat.pow_add, Nat.mul_add]
    have : 2 ^ (8 * r.length) * 2 ^ 8 * val m = 256 * (2 ^ (8 * r.length) * val m) := by
      rw [Nat.mul_comm (2 ^ (8 * r.length)), Nat.mul_assoc]
    omega
theorem val_lt (l : List Nat) (hl : ∀ x ∈ l, x < 256) : val l < 2 ^ (8 * l.length) := by
  induction l with
  | nil => simp [val]
  | cons x r ih =>
    have h1 := ih (fun y hy => hl y (List.mem_cons_of_mem _ hy))
    have hx := hl x List.mem_cons_self
    show x + 256 * val r < 2 ^ (8 * (r.length + 1))
    rw [Nat.mul_succ, Nat.pow_add]
    omega
theorem val_append_xor (l m : List Nat) (hl : ∀ x ∈ l, x < 256) : val (l ++ m) = val l ^^^ (val m * 2 ^ (8 * l.length)) := by
  have h := add_xor (8 * l.length) (val m) (val l) (val_lt l hl)
  rw [val_append, Nat.xor_comm, Nat.mul_comm (val m)]
  omega
theorem val_inj (l m : List Nat) (hl : ∀ x ∈ l, x < 256) (hm : ∀ x ∈ m, x < 256) (hn : l.length = m.length) (h : val l = val m) : l = m := by
  induction l generalizing m with
  | nil => cases m with
    | nil => rfl
    | cons y t => simp at hn
  | cons x r ih => cases m with
    | nil => simp at hn
    | cons y t =>
      have hx := hl x List.mem_cons_self
      have hy := hm y List.mem_cons_self
      have h' : x + 256 * val r = y + 256 * val t := h
      have h1 : x = y := by omega
      have h2 : val r = val t := by omega
      rw [h1, ih t (fun z hz => hl z (List.mem_cons_of_mem _ hz)) (fun z hz => hm z (List.mem_cons_of_mem _ hz)) (by simpa using hn) h2]
theorem val_le (s k : Nat) (hs : s < 2 ^ (8 * k)) : val (le s k) = s := by
  have h : ∀ k, val (le s k) = s % 2 ^ (8 * k) := by
    intro k
    induction k with
    | zero => simp [le, val]; omega
    | succ k ih =>
      rw [le_succ, val_append, ih, le_length]
      show _ + 2 ^ (8 * k) * (s / 256 ^ k % 256) = _
      have e : 256 ^ k = 2 ^ (8 * k) := by rw [Nat.pow_mul]
      rw [e, Nat.mul_succ, Nat.pow_add, Nat.mod_mul]
  rw [h, Nat.mod_eq_of_lt hs]

/-- what bytes with a number behind them come to. -/
theorem syn (p all n : Nat) (l m : List Nat) (hl : ∀ x ∈ l, x < 256) (hn : l.length = n) : stn p (8 * n) (all ^^^ val (l ++ m)) = run p all l ^^^ val m := by
  subst hn
  rw [val_append_xor l m hl, ← Nat.xor_assoc, stn_xor, stn_shift, run_val p all l hl]

theorem xor_left_inj {a b c : Nat} (h : a ^^^ b = a ^^^ c) : b = c := by
  have := congrArg (fun z => a ^^^ z) h
  simpa [← Nat.xor_assoc] using this

/-- sealed bytes, bits E of them turned: their sum is right just where the steps over E come to nought. -/
theorem turned_ok (p all k : Nat) (f : List Nat → Nat) (hf : ∀ l, f l = all ^^^ run p all l) (hflt : ∀ l : List Nat, (∀ x ∈ l, x < 256) → f l < 2 ^ (8 * k)) (l m : List Nat) (E : Nat)
    (hl : ∀ x ∈ l, x < 256) (hm : ∀ x ∈ m, x < 256) (hlen : m.length = l.length + k) (hE : val m = val (l ++ le (f l) k) ^^^ E) :
    (m.take (m.length - k) ++ le (f (m.take (m.length - k))) k = m) ↔ stn p (8 * l.length) E = 0 := by
  have ht : m.length - k = l.length := by omega
  rw [ht]
  have hmt : ∀ x ∈ m.take l.length, x < 256 := fun x hx => hm x (List.mem_of_mem_take hx)
  have hmd : ∀ x ∈ m.drop l.length, x < 256 := fun x hx => hm x (List.mem_of_mem_drop hx)
  have hmtl : (m.take l.length).length = l.length := by rw [List.length_take]; omega
  have hmdl : (m.drop l.length).length = k := by rw [List.length_drop]; omega
  have s1 := syn p all l.length l (le (f l) k) hl rfl
  have s2 := syn p all l.length (m.take l.length) (m.drop l.length) hmt hmtl
  rw [List.take_append_drop] at s2
  rw [val_le _ _ (hflt l hl), hf l, ← Nat.xor_assoc, Nat.xor_comm (run p all l) all, Nat.xor_assoc, Nat.xor_self, Nat.xor_zero] at s1
  have s3 : stn p (8 * l.length) (all ^^^ val m) = all ^^^ stn p (8 * l.length) E := by
    rw [hE, ← Nat.xor_assoc, stn_xor, hf l, s1]
  rw [s2] at s3
  have hsplit : (m.take l.length ++ le (f (m.take l.length)) k = m) ↔ f (m.take l.length) = val (m.drop l.length) := by
    constructor
    · intro h
      have h1 : le (f (m.take l.length)) k = m.drop l.length := by
        have h2 : m.take l.length ++ le (f (m.take l.length)) k = m.take l.length ++ m.drop l.length := by rw [h, List.take_append_drop]
        exact List.append_cancel_left h2
      rw [← h1, val_le _ _ (hflt _ hmt)]
    · intro h
      rw [h]
      have h1 : le (val (m.drop l.length)) k = m.drop l.length := by
        refine val_inj _ _ (le_byte _ _) hmd (by rw [le_length, hmdl]) ?_
        rw [val_le _ _ (by have := val_lt _ hmd; rwa [hmdl] at this)]
      rw [h1, List.take_append_drop]
  rw [hsplit, hf]
  constructor
  · intro h
    rw [← h, ← Nat.xor_assoc, Nat.xor_comm (run p all (m.take l.length)) all, Nat.xor_assoc, Nat.xor_self, Nat.xor_zero] at s3
    exact (xor_left_inj (a := all) (by rw [← s3, Nat.xor_zero])).symm
  · intro h
    rw [h, Nat.xor_zero] at s3
    generalize run p all (m.take l.length) = R at s3 ⊢
    generalize val (m.drop l.length) = D at s3 ⊢
    rw [← s3, Nat.xor_comm R D, Nat.xor_assoc, Nat.xor_self, Nat.xor_zero]

/-- bits that lie within as many side by side as the sum has. -/
theorem burst_ne (p w n k M : Nat) (hp : p.testBit w = true) (hpl : p < 2 ^ (w + 1)) (hM : M < 2 ^ (w + 1)) (h0 : M ≠ 0) : stn p n (M * 2 ^ k) ≠ 0 := by
  by_cases hk : k ≤ n
  · obtain ⟨j, rfl⟩ := Nat.exists_eq_add_of_le' hk
    rw [stn_add, stn_shift]
    exact stn_ne p w j M hp hpl hM h0
  · obtain ⟨j, rfl⟩ := Nat.exists_eq_add_of_le' (show n ≤ k by omega)
    rw [Nat.pow_add, ← Nat.mul_assoc, stn_shift]
    have : 0 < 2 ^ j := Nat.two_pow_pos j
    exact Nat.mul_ne_zero h0 (by omega)

/-- two bits, g apart. -/
theorem pair_ne (p w n k g : Nat) (hp : p.testBit w = true) (hpl : p < 2 ^ (w + 1)) (hw : 1 ≤ w) (hg : stn p g 1 ≠ 1) : stn p n ((1 + 2 ^ g) * 2 ^ k) ≠ 0 := by
  have h1 : 1 + 2 ^ g = 1 ^^^ 2 ^ g ∨ g = 0 := by
    rcases Nat.eq_zero_or_pos g with h | h
    · exact .inr h
    · left
      have := add_xor g 1 1 (Nat.one_lt_two_pow (by omega))
      rw [Nat.mul_one] at this
      rw [Nat.xor_comm, ← this, Nat.add_comm]
  rcases h1 with h1 | h1
  · by_cases hk : k ≤ n
    · obtain ⟨j, rfl⟩ := Nat.exists_eq_add_of_le' hk
      rw [stn_add, stn_shift]
      intro h
      have h2 : stn p (g + j) (1 + 2 ^ g) = 0 := by rw [stn_add, h, stn_zero]
      have h3 : stn p g (1 + 2 ^ g) = stn p g 1 ^^^ 1 := by
        have := stn_shift p g 1
        rw [Nat.one_mul] at this
        rw [h1, stn_xor, this]
      rw [Nat.add_comm g j, stn_add, h3] at h2
      have hlt : stn p g 1 ^^^ 1 < 2 ^ (w + 1) := Nat.xor_lt_two_pow (stn_lt p g 1 (w + 1) hpl (Nat.one_lt_two_pow (by omega))) (Nat.one_lt_two_pow (by omega))
      refine stn_ne p w j _ hp hpl hlt (fun h4 => hg ?_) h2
      have := congrArg (fun z => z ^^^ 1) h4
      simpa [Nat.xor_assoc] using this
    · obtain ⟨j, rfl⟩ := Nat.exists_eq_add_of_le' (show n ≤ k by omega)
      rw [Nat.pow_add, ← Nat.mul_assoc, stn_shift]
      have h5 : 0 < 2 ^ j := Nat.two_pow_pos j
      have h6 : 0 < 2 ^ g := Nat.two_pow_pos g
      exact Nat.mul_ne_zero (by omega) (by omega)
  · subst h1
    exact absurd rfl hg

theorem order16 : ∀ g, g < 64 → 0 < g → stn 33800 g 1 ≠ 1 := by decide +kernel
theorem order32 : ∀ g, g < 64 → 0 < g → stn 2197175160 g 1 ≠ 1 := by decide +kernel
theorem top16 : (33800 : Nat).testBit 15 = true := by decide +kernel
theorem top32 : (2197175160 : Nat).testBit 31 = true := by decide +kernel

/-- one byte turned. -/
theorem val_set (l : List Nat) (hl : ∀ x ∈ l, x < 256) (q b : Nat) (hq : q < l.length) (hb : b < 256) : val (l.set q (l.getD q 0 ^^^ b)) = val l ^^^ (b * 2 ^ (8 * q)) := by
  induction l generalizing q with
  | nil => simp at hq
  | cons x r ih =>
    have hx := hl x List.mem_cons_self
    have hr : ∀ y ∈ r, y < 256 := fun y hy => hl y (List.mem_cons_of_mem _ hy)
    cases q with
    | zero =>
      show (x ^^^ b) + 256 * val r = (x + 256 * val r) ^^^ (b * 2 ^ (8 * 0))
      rw [val_cons_xor _ _ (Nat.xor_lt_two_pow (n := 8) hx hb), val_cons_xor _ _ hx, Nat.mul_zero, Nat.pow_zero, Nat.mul_one, Nat.xor_assoc, Nat.xor_assoc, Nat.xor_comm b]
    | succ q =>
      have h := ih hr q (by simpa using hq)
      show x + 256 * val (r.set q (r.getD q 0 ^^^ b)) = (x + 256 * val r) ^^^ (b * 2 ^ (8 * (q + 1)))
      rw [h, val_cons_xor _ _ hx, val_cons_xor _ _ hx, xor_mul, Nat.xor_assoc, Nat.mul_assoc, ← Nat.pow_add, show 8 * (q + 1) = 8 * q + 8 from rfl]
theorem set_byte (l : List Nat) (hl : ∀ x ∈ l, x < 256) (q b : Nat) (hb : b < 256) : ∀ x ∈ l.set q b, x < 256 := by
  intro x hx
  rcases List.mem_or_eq_of_mem_set hx with h | h
  · exact hl x h
  · omega

/-- the mask's bits that are turned in i rounds. -/
def mk (mask i r : Nat) : Nat := mask % 2 ^ min i r
theorem mk_zero (mask r : Nat) : mk mask 0 r = 0 := by simp [mk, Nat.mod_one]
theorem mk_set (mask i r : Nat) (hr : i < r) (hb : mask / 2 ^ i % 2 = 1) : mk mask (i + 1) r = mk mask i r ^^^ 2 ^ i ∧ mk mask (i + 1) r ≠ 0 := by
  unfold mk
  rw [Nat.min_eq_left (by omega), Nat.min_eq_left (by omega), Nat.pow_succ, Nat.mod_mul, hb, Nat.mul_one]
  have h1 := add_xor i 1 (mask % 2 ^ i) (Nat.mod_lt _ (Nat.two_pow_pos i))
  rw [Nat.mul_one] at h1
  have : 0 < 2 ^ i := Nat.two_pow_pos i
  refine ⟨?_, by omega⟩
  rw [Nat.xor_comm, ← h1, Nat.add_comm]
theorem mk_not (mask i r : Nat) (hb : ¬ mask / 2 ^ i % 2 = 1) : mk mask (i + 1) r = mk mask i r := by
  unfold mk
  by_cases h : i < r
  · rw [Nat.min_eq_left (by omega), Nat.min_eq_left (by omega), Nat.pow_succ, Nat.mod_mul, show mask / 2 ^ i % 2 = 0 by omega, Nat.mul_zero, Nat.add_zero]
  · rw [Nat.min_eq_right (by omega), Nat.min_eq_right (by omega)]
theorem mk_out (mask i r : Nat) (hr : ¬ i < r) : mk mask (i + 1) r = mk mask i r := by
  unfold mk
  rw [Nat.min_eq_right (by omega), Nat.min_eq_right (by omega)]
theorem mk_lt (mask i r : Nat) : mk mask i r < 2 ^ i := by
  unfold mk
  exact Nat.lt_of_lt_of_le (Nat.mod_lt _ (Nat.two_pow_pos _)) (Nat.pow_le_pow_right (by omega) (Nat.min_le_left _ _))

end Go.Proofs.Ythmfbhanmncfgaa.Crc
