/- Operations and their bytes: what is decoded encodes to the same bytes, and the other way round. -/
import Derived.Test.YtfocejmfmnijpaaDDecOps
import Derived.Test.YtfocejmfmnijpaaEEncOps
namespace Go.Proofs.Ytfocejmfmnijpaa
open Go.RowKit

theorem be_num2 {x y : Nat} (hx : x < 256) (hy : y < 256) : be (x * 256 + y) 2 = [x, y] := by
  rw [be_succ, be_succ]
  have h0 : be (x * 256 + y) 0 = [] := List.eq_nil_of_length_eq_zero (be_length _ 0)
  rw [h0]
  have h1 : (x * 256 + y) / 256 ^ 1 % 256 = x := by omega
  have h2 : (x * 256 + y) / 256 ^ 0 % 256 = y := by omega
  rw [h1, h2]
theorem num_be2 {n : Nat} (h : n < 65536) : numN (be n 2) = n := by
  have h1 : n = n / 256 * 256 + n % 256 := by omega
  rw [h1, be_num2 (by omega) (by omega)]
  show (0 * 256 + n / 256) * 256 + n % 256 = _
  omega
theorem be_of2 {t : List Nat} (hl : t.length = 2) (hb : ∀ x ∈ t, x < 256) : be (numN t) 2 = t := by
  match t, hl, hb with
  | [x, y], _, hb =>
    have : numN [x, y] = x * 256 + y := by show (0 * 256 + x) * 256 + y = _; omega
    rw [this, be_num2 (hb x (by simp)) (hb y (by simp))]

/-- what is taken is the front of what is left. -/
theorem takes_split {l : List Nat} {at_ n : Nat} {er : Int} (h : (takes l at_ er n).2.2 = 0) : er = 0 ∧ l.drop at_ = (takes l at_ er n).1 ++ l.drop (takes l at_ er n).2.1 ∧ (takes l at_ er n).1.length = n := by
  by_cases he : (er != 0) = true
  · rw [takes_err he] at h
    simp only at h
    simp [h] at he
  · obtain rfl : er = 0 := by simpa using he
    by_cases hn : at_ + n ≤ l.length
    · rw [takes_ok hn]
      refine ⟨rfl, ?_, by rw [List.length_take, List.length_drop]; omega⟩
      rw [← List.drop_drop, List.take_append_drop]
    · rw [takes_short hn] at h
      simp at h
theorem counts_split {l : List Nat} {k at_ : Nat} {er : Int} (hb : ∀ x ∈ l, x < 256) (h : (counts l k at_ er).2.2 = 0) : er = 0 ∧ ∃ t, t.length = k ∧ (counts l k at_ er).1.length = numN t ∧ (∀ x ∈ t, x < 256) ∧ (∀ x ∈ (counts l k at_ er).1, x < 256) ∧ l.drop at_ = t ++ ((counts l k at_ er).1 ++ l.drop (counts l k at_ er).2.1) := by
  obtain ⟨h1, h2, h3⟩ := takes_split (l := l) h
  obtain ⟨h4, h5, h6⟩ := takes_split h1
  refine ⟨h4, (takes l at_ er k).1, h6, h3, takes_byte hb, takes_byte hb, ?_⟩
  rw [h5, h2]
  rfl
theorem counts_name {l : List Nat} {at_ : Nat} {er : Int} (hb : ∀ x ∈ l, x < 256) (h : (counts l 1 at_ er).2.2 = 0) : er = 0 ∧ l.drop at_ = encName (nameOf (counts l 1 at_ er).1) ++ l.drop (counts l 1 at_ er).2.1 := by
  obtain ⟨h1, t, h2, h3, _, h4, h5⟩ := counts_split hb h
  refine ⟨h1, ?_⟩
  unfold encName
  rw [nbytes_nameOf _ h4, nameOf_size, h3, h5]
  match t, h2 with
  | [x], _ =>
    have : numN [x] = x := by show 0 * 256 + x = x; omega
    rw [this]
    rfl
theorem counts_bytes {l : List Nat} {at_ : Nat} {er : Int} (hb : ∀ x ∈ l, x < 256) (h : (counts l 2 at_ er).2.2 = 0) : er = 0 ∧ l.drop at_ = encBytes (counts l 2 at_ er).1 ++ l.drop (counts l 2 at_ er).2.1 := by
  obtain ⟨h1, t, h2, h3, ht, h4, h5⟩ := counts_split hb h
  refine ⟨h1, ?_⟩
  unfold encBytes
  rw [h3, be_of2 h2 ht, h5, List.append_assoc]
theorem takes_two {l : List Nat} {at_ : Nat} {er : Int} (hb : ∀ x ∈ l, x < 256) (h : (takes l at_ er 2).2.2 = 0) : er = 0 ∧ l.drop at_ = be (numN (takes l at_ er 2).1) 2 ++ l.drop (takes l at_ er 2).2.1 := by
  obtain ⟨h1, h2, h3⟩ := takes_split h
  rw [be_of2 h3 (takes_byte hb)]
  exact ⟨h1, h2⟩
theorem takes_one {l : List Nat} {at_ : Nat} {er : Int} (h : (takes l at_ er 1).2.2 = 0) : er = 0 ∧ l.drop at_ = numN (takes l at_ er 1).1 :: l.drop (takes l at_ er 1).2.1 := by
  obtain ⟨h1, h2, h3⟩ := takes_split h
  refine ⟨h1, ?_⟩
  rw [h2]
  generalize (takes l at_ er 1).1 = t at *
  match t, h3 with
  | [x], _ =>
    have : numN [x] = x := by show 0 * 256 + x = x; omega
    rw [this]
    rfl
theorem rOp_enc {l : List Nat} {at_ : Nat} {er : Int} (hb : ∀ x ∈ l, x < 256) (h : (rOp l at_ er).2.2 = 0) (hs : sayB (rOp l at_ er).1 = true) : er = 0 ∧ l.drop at_ = encOp (rOp l at_ er).1 ++ l.drop (rOp l at_ er).2.1 := by
  unfold rOp at h hs ⊢
  simp only at h hs ⊢
  by_cases h1 : numN (takes l at_ er 1).1 = 1
  · rw [if_pos h1] at h hs ⊢
    obtain ⟨e3, d3⟩ := counts_bytes hb h
    obtain ⟨e2, d2⟩ := counts_name hb e3
    obtain ⟨e1, d1⟩ := takes_one e2
    refine ⟨e1, ?_⟩
    rw [d1, d2, d3, h1]
    simp [encOp, encTail]
  · rw [if_neg h1] at h hs ⊢
    by_cases h2 : numN (takes l at_ er 1).1 = 2
    · rw [if_pos h2] at h hs ⊢
      obtain ⟨e4, d4⟩ := counts_bytes hb h
      obtain ⟨e3, d3⟩ := takes_two hb e4
      obtain ⟨e2, d2⟩ := counts_name hb e3
      obtain ⟨e1, d1⟩ := takes_one e2
      refine ⟨e1, ?_⟩
      rw [d1, d2, d3, d4, h2]
      simp [encOp, encTail]
    · rw [if_neg h2] at h hs ⊢
      by_cases h3 : numN (takes l at_ er 1).1 = 3
      · rw [if_pos h3] at h hs ⊢
        obtain ⟨e3, d3⟩ := counts_name hb h
        obtain ⟨e2, d2⟩ := counts_name hb e3
        obtain ⟨e1, d1⟩ := takes_one e2
        refine ⟨e1, ?_⟩
        rw [d1, d2, d3, h3]
        simp [encOp, encTail]
      · rw [if_neg h3] at h hs ⊢
        obtain ⟨e2, d2⟩ := counts_name hb h
        obtain ⟨e1, d1⟩ := takes_one e2
        refine ⟨e1, ?_⟩
        rw [d1, d2]
        have hk := (say_is hs).2.2
        simp only at hk
        have h4 : numN (takes l at_ er 1).1 = 4 := by omega
        rw [h4]
        simp [encOp, encTail]
theorem rOps_enc {l : List Nat} (hb : ∀ x ∈ l, x < 256) : ∀ (n at_ : Nat) (er : Int) (acc m : List OpS) (at2 : Nat), rOps l n at_ er acc = some (m, at2, 0) → er = 0 ∧ ∃ m', m = acc ++ m' ∧ m'.length = n ∧ (∀ x ∈ m', sayB x = true) ∧ l.drop at_ = m'.flatMap encOp ++ l.drop at2
  | 0, at_, er, acc, m, at2, h => by
    simp only [rOps, Option.some.injEq, Prod.mk.injEq] at h
    obtain ⟨rfl, rfl, rfl⟩ := h
    exact ⟨rfl, [], by simp, rfl, by simp, rfl⟩
  | n + 1, at_, er, acc, m, at2, h => by
    rw [rOps] at h
    by_cases hs : sayB (rOp l at_ er).1 = true
    · rw [if_pos hs] at h
      obtain ⟨e1, m', h1, h2, h3, h4⟩ := rOps_enc hb n _ _ _ _ _ h
      obtain ⟨e2, d2⟩ := rOp_enc hb e1 hs
      refine ⟨e2, (rOp l at_ er).1 :: m', by rw [h1, List.append_assoc]; rfl, by simp [h2], ?_, ?_⟩
      · intro x hx
        rcases List.mem_cons.1 hx with rfl | hx
        · exact hs
        · exact h3 x hx
      · rw [d2, h4, List.flatMap_cons, List.append_assoc]
    · rw [if_neg hs] at h; simp at h
/-- what is decoded can be said, and encodes to the same bytes. -/
theorem decO_enc {l : List Nat} (hb : ∀ x ∈ l, x < 256) {m : List OpS} (h : decO l = some m) : m.length ≤ 64 ∧ (∀ x ∈ m, sayB x = true) ∧ encOps m = l := by
  unfold decO at h
  by_cases h64 : 64 < numN (takes l 0 0 2).1
  · rw [if_pos h64] at h; simp at h
  · rw [if_neg h64] at h
    generalize hR : rOps l (numN (takes l 0 0 2).1) (takes l 0 0 2).2.1 (takes l 0 0 2).2.2 [] = R at h
    match R with
    | none => simp [finO] at h
    | some (m', at2, er) =>
      simp only [finO] at h
      by_cases hc : (er != 0) = true ∨ 0 < l.length - at2
      · rw [if_pos hc] at h; simp at h
      · rw [if_neg hc] at h
        simp only [Option.some.injEq] at h
        subst h
        obtain rfl : er = 0 := by
          by_cases he : er = 0
          · exact he
          · exact absurd (Or.inl (by simpa using he)) hc
        obtain ⟨e1, m2, h1, h2, h3, h4⟩ := rOps_enc hb _ _ _ _ _ _ hR
        obtain ⟨_, d0⟩ := takes_two hb e1
        rw [List.nil_append] at h1
        subst h1
        refine ⟨by omega, h3, ?_⟩
        unfold encOps
        rw [h2]
        have hd : l.drop at2 = [] := List.drop_eq_nil_of_le (by omega)
        rw [hd, List.append_nil] at h4
        rw [← h4, ← d0, List.drop_zero]

/-- a front that is there is taken. -/
theorem takes_pre {l : List Nat} {at_ : Nat} {m r : List Nat} (h : l.drop at_ = m ++ r) (ha : at_ ≤ l.length) : takes l at_ 0 m.length = (m, at_ + m.length, 0) ∧ l.drop (at_ + m.length) = r ∧ at_ + m.length ≤ l.length := by
  have hl := congrArg List.length h
  rw [List.length_drop, List.length_append] at hl
  refine ⟨?_, ?_, by omega⟩
  · rw [takes_ok (by omega), h, List.take_left]
  · rw [← List.drop_drop, h, List.drop_left]
theorem counts_pre {l : List Nat} {at_ k : Nat} {t m r : List Nat} (h : l.drop at_ = t ++ (m ++ r)) (ha : at_ ≤ l.length) (hk : t.length = k) (hn : numN t = m.length) : counts l k at_ 0 = (m, at_ + k + m.length, 0) ∧ l.drop (at_ + k + m.length) = r ∧ at_ + k + m.length ≤ l.length := by
  subst hk
  obtain ⟨h1, h2, h3⟩ := takes_pre h ha
  obtain ⟨h4, h5, h6⟩ := takes_pre h2 h3
  unfold counts
  rw [h1]
  simp only
  rw [hn, h4]
  exact ⟨rfl, h5, h6⟩
theorem name_pre {l : List Nat} {at_ : Nat} {s : ByteArray} {r : List Nat} (h : l.drop at_ = encName s ++ r) (ha : at_ ≤ l.length) : counts l 1 at_ 0 = (nbytes s, at_ + 1 + (nbytes s).length, 0) ∧ l.drop (at_ + 1 + (nbytes s).length) = r ∧ at_ + 1 + (nbytes s).length ≤ l.length :=
  counts_pre (t := [s.size]) (by rw [h]; rfl) ha rfl (by rw [nbytes_length]; show 0 * 256 + s.size = s.size; omega)
theorem bytes_pre {l : List Nat} {at_ : Nat} {b r : List Nat} (h : l.drop at_ = encBytes b ++ r) (ha : at_ ≤ l.length) (hb : b.length < 65536) : counts l 2 at_ 0 = (b, at_ + 2 + b.length, 0) ∧ l.drop (at_ + 2 + b.length) = r ∧ at_ + 2 + b.length ≤ l.length :=
  counts_pre (t := be b.length 2) (by rw [h, encBytes, List.append_assoc]) ha (be_length _ _) (num_be2 hb)
end Go.Proofs.Ytfocejmfmnijpaa
