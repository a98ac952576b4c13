/- Segments: what was encoded is decoded, and the other way round; one bit turned: pure. -/
import Derived.Test.YthmfbhanmncfgaaZPure
import Derived.Test.YthmfbhanmncfgaaZOct
import Derived.Test.YthmfbhanmncfgaaKBurst
namespace Go.Proofs.Ythmfbhanmncfgaa
open Go.RowKit
set_option linter.unusedVariables false
theorem be_snoc (x k : Nat) : be x (k + 1) = be (x / 256) k ++ [x % 256] := by
  induction k generalizing x with
  | zero => rw [be_succ]; simp [be, leN]
  | succ k ih =>
    rw [be_succ, ih x, be_succ (x / 256) k, Nat.div_div_eq_div_mul, Nat.pow_succ, Nat.mul_comm 256, List.cons_append]
theorem be_num (t : List Nat) (h : ∀ x ∈ t, x < 256) : be (numN t) t.length = t := by
  have key : ∀ (n : Nat) (t : List Nat), t.length = n → (∀ x ∈ t, x < 256) → be (numN t) t.length = t := by
    intro n
    induction n with
    | zero => intro t ht _; rw [List.eq_nil_of_length_eq_zero ht]; simp [be, leN]
    | succ n ih =>
      intro t ht hb
      have hne : t ≠ [] := by intro h; rw [h] at ht; simp at ht
      obtain ⟨s, b, rfl⟩ : ∃ s b, t = s ++ [b] := ⟨t.dropLast, t.getLast hne, (List.dropLast_concat_getLast hne).symm⟩
      have hs : s.length = n := by simpa using ht
      have hb1 : b < 256 := hb b (by simp)
      have h1 := ih s hs (fun x hx => hb x (by simp [hx]))
      rw [numN_snoc, List.length_append, List.length_singleton, be_snoc, show (numN s * 256 + b) / 256 = numN s by omega, show (numN s * 256 + b) % 256 = b by omega, h1]
  exact key _ t rfl h
theorem num_be (k : Nat) : ∀ (N : Nat), N < 256 ^ k → numN (be N k) = N := by
  induction k with
  | zero => intro N h; simp at h; subst h; simp [be, leN, numN]
  | succ k ih =>
    intro N h
    rw [Nat.pow_succ] at h
    rw [be_snoc, numN_snoc, ih (N / 256) (by omega)]
    omega
/-- sealed bytes with one bit turned. -/
def turn1 (l : List Nat) (q r : Nat) : List Nat := l.set q (l.getD q 0 ^^^ 2 ^ r)
theorem turn1_len (l : List Nat) (q r : Nat) : (turn1 l q r).length = l.length := by simp [turn1]
theorem pow_lt8 {r : Nat} (h : r < 8) : 2 ^ r < 256 := Nat.pow_lt_pow_right (n := 8) (by omega) h
theorem turn1_byte {l : List Nat} (hl : ∀ x ∈ l, x < 256) (q r : Nat) (hr : r < 8) : ∀ x ∈ turn1 l q r, x < 256 := by
  refine Crc.set_byte l hl q _ ?_
  have h1 : l.getD q 0 < 256 := by
    by_cases hq : q < l.length
    · rw [List.getD_eq_getElem?_getD, List.getElem?_eq_getElem hq]; exact hl _ (List.getElem_mem hq)
    · rw [List.getD_eq_getElem?_getD, List.getElem?_eq_none (by omega)]; simp
  exact Nat.xor_lt_two_pow (n := 8) h1 (pow_lt8 hr)
theorem sum32_lt {l : List Nat} (h : ∀ x ∈ l, x < 256) : Crc.sum32 l < 4294967296 := Crc.sum32_lt l h
theorem clsL_byte (l : List (Int × Int)) : ∀ x ∈ clsL l, x < 256 := by
  induction l with
  | nil => intro x hx; simp [clsL] at hx
  | cons c r ih =>
    intro x hx
    rcases List.mem_append.1 hx with h | h
    · exact rowL_byte _ x h
    · exact ih x h
theorem tail_byte (s : Sg) (hd : ∀ x ∈ s.dat, x < 256) : ∀ x ∈ tailS s, x < 256 := by
  intro x hx
  unfold tailS at hx
  split at hx
  · rcases List.mem_append.1 hx with h | h
    · split at h
      · exact rowL_byte _ x h
      · exact rowL_byte _ x h
    · rcases List.mem_append.1 h with h | h
      · exact rowL_byte _ x h
      · exact hd x h
  · split at hx
    · rcases List.mem_append.1 hx with h | h
      · exact rowL_byte _ x h
      · exact clsL_byte _ x h
    · split at hx
      · exact rowL_byte _ x hx
      · split at hx
        · exact rowL_byte _ x hx
        · simp at hx
theorem body_byte (s : Sg) (h : okS s = true) (hd : ∀ x ∈ s.dat, x < 256) : ∀ x ∈ bodyS s, x < 256 := by
  intro x hx
  rcases List.mem_cons.1 hx with rfl | hx
  · have := kinds (okS_parts h).2.2.1
    omega
  · rcases List.mem_append.1 hx with h | h
    · exact rowL_byte _ x h
    · exact tail_byte s hd x h
theorem enc_byte (s : Sg) (h : okS s = true) (hd : ∀ x ∈ s.dat, x < 256) : ∀ x ∈ encS s, x < 256 := by
  intro x hx
  rcases List.mem_append.1 hx with h1 | h1
  · exact body_byte s h hd x h1
  · exact be_byte _ _ x h1
theorem enc_len (s : Sg) : (encS s).length = (bodyS s).length + 4 := by simp [encS, be_length]
theorem sz_5 {n : Nat} (h : n < 4294967296) : 1 ≤ sz n ∧ sz n ≤ 5 := ⟨(sd_len n (by omega)).1, Nat.le_trans (sz_mono n 4294967295 (by omega)) (by decide)⟩
theorem sz_2 {n : Nat} (h : n ≤ 512) : 1 ≤ sz n ∧ sz n ≤ 2 := ⟨(sd_len n (by omega)).1, Nat.le_trans (sz_mono n 512 h) (by decide)⟩
theorem sz_1 {n : Nat} (h : n ≤ 127) : sz n = 1 := by
  have h1 := (sd_len n (by omega)).1
  have h2 := Nat.le_trans (sz_mono n 127 h) (show sz 127 ≤ 1 by decide)
  omega
theorem sdl (n : Nat) : (sd n).length = sz n := rfl
theorem clsL_len (l : List (Int × Int)) (h : ∀ c ∈ l, (0 ≤ c.1 ∧ c.1 ≤ 512) ∧ (0 ≤ c.2 ∧ c.2 ≤ 512)) : (clsL l).length ≤ 4 * l.length := by
  induction l with
  | nil => simp [clsL]
  | cons c r ih =>
    have h1 := h c List.mem_cons_self
    have h2 := ih (fun x hx => h x (List.mem_cons_of_mem _ hx))
    have h3 := sz_2 (n := c.1.toNat) (by omega)
    have h4 := sz_2 (n := c.2.toNat) (by omega)
    simp only [clsL, rowL, List.length_append, List.length_cons, List.length_nil, sdl]
    omega
theorem body_len (s : Sg) (h : okS s = true) (hz : Szd s) : 3 ≤ (bodyS s).length ∧ (bodyS s).length ≤ 126 := by
  obtain ⟨h1, h2, h3, h4⟩ := okS_parts h
  have z1 := sz_5 hz.ses
  have z2 := sz_5 hz.ser
  have z3 := sz_5 hz.cks
  have z4 := sz_1 (n := s.src.toNat) (by omega)
  have z5 := sz_1 (n := 1) (by omega)
  have z6 := sz_1 (n := 0) (by omega)
  have hb : (bodyS s).length = 1 + (sz s.src.toNat + sz s.ses + (tailS s).length) := by
    simp only [bodyS, rowL, List.length_append, List.length_cons, List.length_nil, sdl]
    omega
  have ht : (tailS s).length ≤ 112 := by
    unfold tailS
    rcases kinds h3 with ⟨k, hd⟩ | ⟨k, hd⟩ | ⟨k, hd⟩ | ⟨k, hd⟩ | k
    · obtain ⟨d1, d2, d3, d4⟩ := dataS_of hd
      have y1 := sz_2 (n := s.off.toNat) (by omega)
      have y2 := sz_2 (n := s.tot.toNat) (by omega)
      have y3 := sz_1 (n := s.dat.length) (by omega)
      rw [if_pos k]
      split
      · simp only [rowL, List.length_append, List.length_nil, sdl]
        omega
      · simp only [rowL, List.length_append, List.length_nil, sdl]
        omega
    · obtain ⟨d1, d2, d3, d4, d5, d6, d7⟩ := repS_of hd
      have y1 := sz_2 (n := s.low.toNat) (by omega)
      have y2 := sz_2 (n := s.upp.toNat) (by omega)
      have y3 := sz_1 (n := s.cls.length) (by omega)
      have y4 := clsL_len s.cls (clsOk_all _ _ _ d3 d5 d7)
      rw [if_neg (by omega), if_pos k]
      simp only [rowL, List.length_append, List.length_nil, sdl]
      omega
    · rw [if_neg (by omega), if_neg (by omega), if_pos k]
      simp only [rowL, List.length_append, List.length_nil, sdl]
      omega
    · have y1 := sz_2 (n := s.rea.toNat) (by omega)
      rw [if_neg (by omega), if_neg (by omega), if_neg (by omega), if_pos k]
      simp only [rowL, List.length_append, List.length_nil, sdl]
      omega
    · rw [if_neg (by omega), if_neg (by omega), if_neg (by omega), if_neg (by omega)]
      simp
  omega
/-- what was encoded is decoded. -/
theorem dec_enc (s : Sg) (h : okS s = true) (hz : Szd s) : decS (encS s) = (0, s) := by
  have hl := body_len s h hz
  have hl2 := enc_len s
  have ht : (encS s).take ((encS s).length - 4) = bodyS s := by rw [hl2]; unfold encS; simp
  have hd : (encS s).drop ((encS s).length - 4) = be (Crc.sum32 (bodyS s)) 4 := by rw [hl2]; unfold encS; simp
  unfold decS
  rw [if_neg (by omega), ht, hd, if_neg (by simp)]
  have hr := read_body s h hz
  have e1 : (bodyS s).headD 0 = s.knd.toNat := rfl
  have e2 : (bodyS s).tail = rowL [s.src.toNat, s.ses] ++ tailS s := rfl
  simp only [e1, e2, hr, h]
  rfl
theorem tail_1 (s : Sg) (h : s.knd = 1) : tailS s = (if s.chk = true then rowL [1, s.ser] else rowL [0]) ++ (rowL [s.off.toNat, s.tot.toNat, s.dat.length] ++ s.dat) := by rw [tailS, if_pos h]
theorem cnt_dat (s : Sg) (h : s.knd ≠ 1) : (cntS s).dat = [] := by
  unfold cntS
  rw [if_neg h]
  split
  · rfl
  · split
    · rfl
    · split
      · rfl
      · rfl
theorem read_sound (x : Nat) (l : List Nat) (hb : ∀ y ∈ l, y < 256) (h1 : (readS x l).2.2 = false) (h2 : (readS x l).2.1 = []) :
    bodyS (readS x l).1 = x :: l ∧ Szd (readS x l).1 := by
  have ha := numR_byte 6 (l, false) hb
  have hb2 := numR_byte 4294967295 _ ha
  have m1 := numR_le 4294967295 (numR 6 (l, false)).2
  unfold readS at h1 h2 ⊢
  simp only at h1 h2 ⊢
  have key : ∀ (s : Sg) (t : List Nat), s.knd = (x : Int) → s.src = ((numR 6 (l, false)).1 : Int) → s.ses = (numR 4294967295 (numR 6 (l, false)).2).1 → (numR 4294967295 (numR 6 (l, false)).2).2.2 = false → (numR 4294967295 (numR 6 (l, false)).2).2.1 = tailS s → bodyS s = x :: l := by
    intro s t k1 k2 k3 k4 k5
    have q1 := numR_sound _ _ ha k4
    have q2 := numR_sound _ _ hb q1.2.1
    unfold bodyS
    rw [k1, k2, k3, ← k5, Int.toNat_natCast, Int.toNat_natCast]
    congr 1
    refine Eq.trans ?_ q2.1.symm
    rw [q1.1]
    simp [rowL]
  generalize hA : numR 6 (l, false) = A at *
  generalize hB : numR 4294967295 A.2 = B at *
  by_cases x1 : x = 1
  · rw [if_pos x1] at h1 h2 ⊢
    unfold dataR at h1 h2 ⊢
    simp only at h1 h2 ⊢
    have b1 := numR_byte 1 _ hb2
    generalize hC : numR 1 B.2 = C at *
    have b2 : ∀ y ∈ (serR C.1 C.2).2.1, y < 256 := by
      unfold serR
      split
      · exact numR_byte _ _ b1
      · exact b1
    generalize hQ : serR C.1 C.2 = Q at *
    have b3 := numR_byte 512 _ b2
    generalize hO : numR 512 Q.2 = O at *
    have b4 := numR_byte 512 _ b3
    generalize hT : numR 512 O.2 = TT at *
    have b5 := numR_byte 100 _ b4
    generalize hN : numR 100 TT.2 = NN at *
    have r1 := rawR_sound _ _ h1
    generalize hD : rawR NN.1 NN.2 = D at *
    have r2 := numR_sound 100 TT.2 b4 (by rw [hN]; exact r1.2.1)
    have r3 := numR_sound 512 O.2 b3 (by rw [hT]; exact r2.2.1)
    have r4 := numR_sound 512 Q.2 b2 (by rw [hO]; exact r3.2.1)
    rw [hN] at r2
    rw [hT] at r3
    rw [hO] at r4
    have hq : C.2.2 = false ∧ C.2.1 = (if decide (C.1 = 1) = true then sd Q.1 else []) ++ Q.2.1 ∧ Q.1 < 4294967296 := by
      unfold serR at hQ
      by_cases c1 : C.1 = 1
      · rw [if_pos c1] at hQ
        have := numR_sound 4294967295 C.2 b1 (by rw [hQ]; exact r4.2.1)
        rw [hQ] at this
        rw [if_pos (decide_eq_true c1)]
        exact ⟨this.2.1, this.1, by omega⟩
      · rw [if_neg c1] at hQ
        subst hQ
        rw [if_neg (by simpa using c1)]
        exact ⟨r4.2.1, rfl, by omega⟩
    have r5 := numR_sound 1 B.2 hb2 (by rw [hC]; exact hq.1)
    rw [hC] at r5
    refine ⟨key _ [] rfl rfl rfl r5.2.1 ?_, ⟨by show B.1 < _; omega, hq.2.2, by show (0 : Nat) < _; omega⟩⟩
    have hc : C.1 = 0 ∨ C.1 = 1 := by omega
    rw [r5.1, hq.2.1, r4.1, r3.1, r2.1, r1.1, h2]
    rw [tail_1 _ (by show (x : Int) = 1; omega)]
    simp only [Int.toNat_natCast]
    rw [r1.2.2]
    rcases hc with hc | hc
    · rw [hc]
      have : (decide ((0 : Nat) = 1)) = false := by decide
      rw [this]
      simp [rowL]
    · rw [hc]; simp [rowL]
  · rw [if_neg x1] at h1 h2 ⊢
    by_cases x2 : x = 2
    · rw [if_pos x2] at h1 h2 ⊢
      unfold repR at h1 h2 ⊢
      simp only at h1 h2 ⊢
      have b1 := numR_byte 4294967295 _ hb2
      have m2 := numR_le 4294967295 B.2
      generalize hC : numR 4294967295 B.2 = C at *
      have b2 := numR_byte 4294967295 _ b1
      have m3 := numR_le 4294967295 C.2
      generalize hQ : numR 4294967295 C.2 = Q at *
      have b3 := numR_byte 512 _ b2
      generalize hO : numR 512 Q.2 = O at *
      have b4 := numR_byte 512 _ b3
      generalize hT : numR 512 O.2 = TT at *
      have b5 := numR_byte 20 _ b4
      generalize hN : numR 20 TT.2 = NN at *
      have r1 := clsR_sound _ _ b5 h1
      generalize hD : clsR NN.1 NN.2 = D at *
      have r2 := numR_sound 20 TT.2 b4 (by rw [hN]; exact r1.2.1)
      have r3 := numR_sound 512 O.2 b3 (by rw [hT]; exact r2.2.1)
      have r4 := numR_sound 512 Q.2 b2 (by rw [hO]; exact r3.2.1)
      have r5 := numR_sound 4294967295 C.2 b1 (by rw [hQ]; exact r4.2.1)
      have r6 := numR_sound 4294967295 B.2 hb2 (by rw [hC]; exact r5.2.1)
      rw [hN] at r2
      rw [hT] at r3
      rw [hO] at r4
      rw [hQ] at r5
      rw [hC] at r6
      refine ⟨key _ [] rfl rfl rfl r6.2.1 ?_, ⟨by show B.1 < _; omega, by show C.1 < _; omega, by show Q.1 < _; omega⟩⟩
      rw [r6.1, r5.1, r4.1, r3.1, r2.1, r1.1, h2]
      unfold tailS
      rw [if_neg (by show ¬ (x : Int) = 1; omega), if_pos (by show (x : Int) = 2; omega)]
      simp only [Int.toNat_natCast]
      rw [r1.2.2.1]
      simp [rowL]
    · rw [if_neg x2] at h1 h2 ⊢
      by_cases x3 : x = 3
      · rw [if_pos x3] at h1 h2 ⊢
        simp only at h1 h2 ⊢
        have r6 := numR_sound 4294967295 B.2 hb2 h1
        refine ⟨key _ [] rfl rfl rfl r6.2.1 ?_, ⟨by show B.1 < _; omega, by show (numR 4294967295 B.2).1 < _; omega, by show (0 : Nat) < _; omega⟩⟩
        rw [r6.1, h2]
        unfold tailS
        rw [if_neg (by show ¬ (x : Int) = 1; omega), if_neg (by show ¬ (x : Int) = 2; omega), if_pos (by show (x : Int) = 3; omega)]
        simp [rowL]
      · rw [if_neg x3] at h1 h2 ⊢
        by_cases x4 : x = 4 ∨ x = 6
        · rw [if_pos x4] at h1 h2 ⊢
          simp only at h1 h2 ⊢
          have r6 := numR_sound 255 B.2 hb2 h1
          refine ⟨key _ [] rfl rfl rfl r6.2.1 ?_, ⟨by show B.1 < _; omega, by show (0 : Nat) < _; omega, by show (0 : Nat) < _; omega⟩⟩
          rw [r6.1, h2]
          unfold tailS
          rw [if_neg (by show ¬ (x : Int) = 1; omega), if_neg (by show ¬ (x : Int) = 2; omega), if_neg (by show ¬ (x : Int) = 3; omega), if_pos (by show (x : Int) = 4 ∨ (x : Int) = 6; omega)]
          simp [rowL]
        · rw [if_neg x4] at h1 h2 ⊢
          simp only at h1 h2 ⊢
          refine ⟨key _ [] rfl rfl rfl h1 ?_, ⟨by show B.1 < _; omega, by show (0 : Nat) < _; omega, by show (0 : Nat) < _; omega⟩⟩
          rw [h2]
          unfold tailS
          rw [if_neg (by show ¬ (x : Int) = 1; omega), if_neg (by show ¬ (x : Int) = 2; omega), if_neg (by show ¬ (x : Int) = 3; omega), if_neg (by show ¬ ((x : Int) = 4 ∨ (x : Int) = 6); omega)]
theorem dec_cases (b : List Nat) : (∃ t, decS b = (0, t)) ∨ decS b = (7, zeroS) ∨ decS b = (130, zeroS) ∨ decS b = (200, zeroS) := by
  unfold decS
  split
  · exact .inr (.inl rfl)
  · split
    · exact .inr (.inr (.inl rfl))
    · simp only
      split
      · exact .inl ⟨_, rfl⟩
      · exact .inr (.inr (.inr rfl))
/-- what was decoded is encoded. -/
theorem dec_sound (b : List Nat) (hb : ∀ x ∈ b, x < 256) (t : Sg) (h : decS b = (0, t)) : encS t = b ∧ okS t = true ∧ Szd t ∧ ∀ x ∈ t.dat, x < 256 := by
  unfold decS at h
  by_cases h1 : b.length < 7
  · rw [if_pos h1] at h; cases h
  · rw [if_neg h1] at h
    by_cases h2 : be (Crc.sum32 (b.take (b.length - 4))) 4 ≠ b.drop (b.length - 4)
    · rw [if_pos h2] at h; cases h
    · rw [if_neg h2] at h
      have h2 : be (Crc.sum32 (b.take (b.length - 4))) 4 = b.drop (b.length - 4) := Decidable.not_not.1 h2
      simp only at h
      by_cases h3 : ((!(readS ((b.take (b.length - 4)).headD 0) (b.take (b.length - 4)).tail).2.2 && decide ((readS ((b.take (b.length - 4)).headD 0) (b.take (b.length - 4)).tail).2.1.length = 0)) && okS (readS ((b.take (b.length - 4)).headD 0) (b.take (b.length - 4)).tail).1) = true
      · rw [if_pos h3] at h
        obtain ⟨_, rfl⟩ := Prod.mk.inj h
        simp only [Bool.and_eq_true, Bool.not_eq_true', decide_eq_true_eq] at h3
        have hl : (b.take (b.length - 4)).length = b.length - 4 := by rw [List.length_take]; omega
        obtain ⟨x, l, hxl⟩ : ∃ x l, b.take (b.length - 4) = x :: l := by
          cases hc : b.take (b.length - 4) with
          | nil => rw [hc] at hl; simp at hl; omega
          | cons x l => exact ⟨x, l, rfl⟩
        rw [hxl] at h3 ⊢
        simp only [List.headD_cons, List.tail_cons] at h3 ⊢
        have hlb : ∀ y ∈ l, y < 256 := fun y hy => hb y (List.mem_of_mem_take (i := b.length - 4) (by rw [hxl]; exact List.mem_cons_of_mem _ hy))
        obtain ⟨q1, q2⟩ := read_sound x l hlb h3.1.1 (List.eq_nil_of_length_eq_zero h3.1.2)
        refine ⟨?_, h3.2, q2, ?_⟩
        · unfold encS
          rw [q1, ← hxl, h2, List.take_append_drop]
        · intro y hy
          have e := okS_parts h3.2
          rcases kinds e.2.2.1 with ⟨k, _⟩ | ⟨k, _⟩ | ⟨k, _⟩ | ⟨k, _⟩ | k
          · refine hlb y ?_
            have : y ∈ tailS (readS x l).1 := by
              unfold tailS
              rw [if_pos k]
              simp [hy]
            have h5 : y ∈ bodyS (readS x l).1 := by unfold bodyS; simp [this]
            have h6 : (bodyS (readS x l).1).tail = l := by rw [q1]; rfl
            rw [← h6]
            unfold bodyS
            simp [this]
          all_goals
            exfalso
            rw [e.2.2.2, cnt_dat _ (by omega)] at hy
            simp at hy
      · rw [if_neg h3] at h; cases h

/-! bits turned -/
theorem sum_turned (l m : List Nat) (E : Nat) (hl : ∀ x ∈ l, x < 256) (hm : ∀ x ∈ m, x < 256) (hlen : m.length = l.length) (hE : Crc.val m = Crc.val l ^^^ E) : Crc.sum32 m = Crc.sum32 l ^^^ Crc.stn 2197175160 (8 * l.length) E := by
  unfold Crc.sum32
  rw [Crc.run_val _ _ _ hm, Crc.run_val _ _ _ hl, hE, hlen, ← Nat.xor_assoc, Crc.stn_xor, Nat.xor_assoc]
theorem xor_ne {a E : Nat} (h : E ≠ 0) : a ^^^ E ≠ a := fun e => h (by have := Crc.xor_left_inj (a := a) (b := E) (c := 0) (by rw [e]; simp); exact this)
theorem be_inj {x y : Nat} (hx : x < 4294967296) (hy : y < 4294967296) (h : be x 4 = be y 4) : x = y := by
  rw [← num_be 4 x (by omega), h, num_be 4 y (by omega)]
theorem dec_130 (m : List Nat) (h7 : 7 ≤ m.length) (h : be (Crc.sum32 (m.take (m.length - 4))) 4 ≠ m.drop (m.length - 4)) : decS m = (130, zeroS) := by
  unfold decS
  rw [if_neg (by omega), if_pos h]
theorem bit_told (l : List Nat) (hl : ∀ x ∈ l, x < 256) (q r : Nat) (hq : q < l.length + 4) (hr : r < 8) :
    be (Crc.sum32 ((turn1 (l ++ be (Crc.sum32 l) 4) q r).take l.length)) 4 ≠ (turn1 (l ++ be (Crc.sum32 l) 4) q r).drop l.length := by
  by_cases h : q < l.length
  · have e1 : (turn1 (l ++ be (Crc.sum32 l) 4) q r).take l.length = turn1 l q r := by
      unfold turn1
      rw [List.set_append_left _ _ h, List.getD_eq_getElem?_getD, List.getElem?_append_left h, ← List.getD_eq_getElem?_getD]
      have := turn1_len l q r
      unfold turn1 at this
      exact List.take_left' this
    have e2 : (turn1 (l ++ be (Crc.sum32 l) 4) q r).drop l.length = be (Crc.sum32 l) 4 := by
      unfold turn1
      rw [List.set_append_left _ _ h]
      exact List.drop_left' (by simp)
    rw [e1, e2]
    intro e
    have hb := turn1_byte hl q r hr
    have e3 := be_inj (sum32_lt hb) (sum32_lt hl) e
    have hv := Crc.val_set l hl q (2 ^ r) h (pow_lt8 hr)
    have e4 := sum_turned l (turn1 l q r) (2 ^ r * 2 ^ (8 * q)) hl hb (turn1_len _ _ _) hv
    rw [e4] at e3
    exact xor_ne (Crc.burst_ne 2197175160 31 (8 * l.length) (8 * q) (2 ^ r) Crc.top32 (by decide) (Nat.lt_trans (pow_lt8 hr) (by decide)) (by have := Nat.two_pow_pos r; omega)) e3
  · have e1 : (turn1 (l ++ be (Crc.sum32 l) 4) q r).take l.length = l := by
      unfold turn1
      rw [List.set_append_right _ _ (by omega)]
      exact List.take_left' rfl
    have e2 : (turn1 (l ++ be (Crc.sum32 l) 4) q r).drop l.length = turn1 (be (Crc.sum32 l) 4) (q - l.length) r := by
      unfold turn1
      rw [List.set_append_right _ _ (by omega), List.getD_eq_getElem?_getD, List.getElem?_append_right (by omega), ← List.getD_eq_getElem?_getD]
      exact List.drop_left' rfl
    rw [e1, e2]
    intro e
    have hq2 : q - l.length < (be (Crc.sum32 l) 4).length := by rw [be_length]; omega
    have e3 := congrArg (fun z : List Nat => z.getD (q - l.length) 0) e
    simp only [turn1] at e3
    rw [List.getD_eq_getElem?_getD (l := (be (Crc.sum32 l) 4).set _ _), List.getElem?_set_self hq2] at e3
    exact xor_ne (a := (be (Crc.sum32 l) 4).getD (q - l.length) 0) (E := 2 ^ r) (by have := Nat.two_pow_pos r; omega) (by simpa using e3.symm)
theorem dec_turned (s : Sg) (h : okS s = true) (hz : Szd s) (hd : ∀ x ∈ s.dat, x < 256) (q r : Nat) (hq : q < (encS s).length) (hr : r < 8) : decS (turn1 (encS s) q r) = (130, zeroS) := by
  have h1 := body_len s h hz
  have h2 := enc_len s
  refine dec_130 _ (by rw [turn1_len]; omega) ?_
  rw [turn1_len, h2, Nat.add_sub_cancel]
  exact bit_told (bodyS s) (body_byte s h hd) q r (by omega) hr
end Go.Proofs.Ythmfbhanmncfgaa
