/- Plain arithmetic of the two sums: the step, many steps, the sum of a list of bytes as one row of steps over one number. No Go here. -/
namespace Go.Proofs.Ythmfbhanmncfgaa.Crc

/-- one step: halve, and turn by p where it was odd. -/
def st (p s : Nat) : Nat := if s % 2 = 1 then (s / 2) ^^^ p else s / 2

/-- n steps. -/
def stn (p : Nat) : Nat → Nat → Nat
  | 0, s => s
  | n + 1, s => st p (stn p n s)

/-- the sum's inner state behind bytes. -/
def run (p : Nat) (s : Nat) (l : List Nat) : Nat := l.foldl (fun s x => stn p 8 (s ^^^ x)) s

theorem run_nil (p s : Nat) : run p s [] = s := rfl
theorem run_snoc (p s : Nat) (l : List Nat) (x : Nat) : run p s (l ++ [x]) = stn p 8 (run p s l ^^^ x) := by
  unfold run; rw [List.foldl_append]; rfl

theorem st_lt (p s k : Nat) (hp : p < 2 ^ k) (hs : s < 2 ^ k) : st p s < 2 ^ k := by
  unfold st; split
  · exact Nat.xor_lt_two_pow (by omega) hp
  · omega
theorem stn_lt (p n s k : Nat) (hp : p < 2 ^ k) (hs : s < 2 ^ k) : stn p n s < 2 ^ k := by
  induction n with
  | zero => exact hs
  | succ n ih => exact st_lt p _ k hp ih
theorem run_lt (p s k : Nat) (hk : 8 ≤ k) (hp : p < 2 ^ k) (hs : s < 2 ^ k) (l : List Nat) (hl : ∀ x ∈ l, x < 256) : run p s l < 2 ^ k := by
  unfold run
  induction l generalizing s with
  | nil => exact hs
  | cons x r ih =>
    simp only [List.foldl_cons]
    refine ih _ (stn_lt p 8 _ k hp (Nat.xor_lt_two_pow hs ?_)) (fun y hy => hl y (List.mem_cons_of_mem _ hy))
    have h1 := hl x List.mem_cons_self
    have h2 : 2 ^ 8 ≤ 2 ^ k := Nat.pow_le_pow_right (by omega) hk
    omega

theorem st_odd (p s : Nat) (h : s % 2 = 1) : st p s = (s / 2) ^^^ p := by unfold st; rw [if_pos h]
theorem st_even (p s : Nat) (h : ¬ s % 2 = 1) : st p s = s / 2 := by unfold st; rw [if_neg h]
theorem stn_succ (p n s : Nat) : stn p (n + 1) s = st p (stn p n s) := rfl

/-- the two sums of the document. -/
def sum16 (l : List Nat) : Nat := 65535 ^^^ run 33800 65535 l
def sum32 (l : List Nat) : Nat := 4294967295 ^^^ run 2197175160 4294967295 l

theorem take_snoc (l : List Nat) (k : Nat) (h : k < l.length) : l.take (k + 1) = l.take k ++ [l.getD k 0] := by
  rw [List.take_succ_eq_append_getElem h]; simp [h]

theorem run_take (p s : Nat) (l : List Nat) (k : Nat) (h : k < l.length) : run p s (l.take (k + 1)) = stn p 8 (run p s (l.take k) ^^^ l.getD k 0) := by
  rw [take_snoc l k h, run_snoc]

/-- the lowest k bytes of a number, the lowest first. -/
def le (s : Nat) : Nat → List Nat
  | 0 => []
  | k + 1 => le s k ++ [s / 256 ^ k % 256]
theorem le_length (s k : Nat) : (le s k).length = k := by
  induction k with
  | zero => rfl
  | succ k ih => simp [le, ih]
theorem le_byte (s k : Nat) : ∀ x ∈ le s k, x < 256 := by
  induction k with
  | zero => intro x hx; simp [le] at hx
  | succ k ih =>
    intro x hx
    rcases List.mem_append.1 hx with h | h
    · exact ih x h
    · rw [List.mem_singleton.1 h]; exact Nat.mod_lt _ (by omega)
theorem le_succ (s k : Nat) : le s (k + 1) = le s k ++ [s / 256 ^ k % 256] := rfl
theorem div_succ (s k : Nat) : s / 256 ^ (k + 1) = s / 256 ^ k / 256 := by rw [Nat.pow_succ, Nat.div_div_eq_div_mul]

theorem sum16_lt (l : List Nat) (hl : ∀ x ∈ l, x < 256) : sum16 l < 65536 :=
  Nat.xor_lt_two_pow (n := 16) (by omega) (run_lt 33800 65535 16 (by omega) (by omega) (by omega) l hl)
theorem sum32_lt (l : List Nat) (hl : ∀ x ∈ l, x < 256) : sum32 l < 4294967296 :=
  Nat.xor_lt_two_pow (n := 32) (by omega) (run_lt 2197175160 4294967295 32 (by omega) (by omega) (by omega) l hl)

end Go.Proofs.Ythmfbhanmncfgaa.Crc
