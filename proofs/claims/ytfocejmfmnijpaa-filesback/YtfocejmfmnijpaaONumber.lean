/- The walks of octet's Reader: number, U8, U16, Raw, Read. -/
import Derived.Test.YtfocejmfmnijpaaOReader
import Derived.Laws.Bits64b
namespace Go.Proofs.Ytfocejmfmnijpaa
open Go.RowKit

theorem or_low (X y : Nat) (hX : X < 72057594037927936) (hy : y < 256) : bits .or .u64 ((X : Int) * 256) (y : Int) = ((X * 256 + y : Nat) : Int) := by
  have h := bits_or_u64_nat (X * 256) y (by omega) (by omega)
  rw [Int.natCast_mul] at h
  have h2 := Nat.shiftLeft_add_eq_or_of_lt (show y < 2 ^ 8 by omega) X
  rw [Nat.shiftLeft_eq] at h2
  rw [show ((256 : Int)) = ((256 : Nat) : Int) from rfl, h, ← h2]

/-- what a call that reads makes of a Reader: it stepped on, or has failed, or had an error. -/
def takes (l : List Nat) (at_ : Nat) (er : Int) (n : Nat) : List Nat × Nat × Int :=
  if (er != 0) = true then ([], at_, er) else if at_ + n ≤ l.length then ((l.drop at_).take n, at_ + n, 0) else ([], at_, 7)
theorem takes_err {l : List Nat} {at_ : Nat} {er : Int} {n : Nat} (h : (er != 0) = true) : takes l at_ er n = ([], at_, er) := by unfold takes; rw [if_pos h]
theorem takes_ok {l : List Nat} {at_ : Nat} {n : Nat} (h : at_ + n ≤ l.length) : takes l at_ 0 n = ((l.drop at_).take n, at_ + n, 0) := by unfold takes; rw [if_neg (by simp), if_pos h]
theorem takes_short {l : List Nat} {at_ : Nat} {n : Nat} (h : ¬ at_ + n ≤ l.length) : takes l at_ 0 n = ([], at_, 7) := by unfold takes; rw [if_neg (by simp), if_neg h]
theorem takes_len {l : List Nat} {at_ : Nat} {er : Int} {n : Nat} : (takes l at_ er n).1.length ≤ n := by
  unfold takes
  split
  · simp
  · split
    · simp [List.length_take]; omega
    · simp
theorem er_zero {er : Int} (h : ¬ (er != 0) = true) : er = 0 := by simpa using h
theorem row_nil (w : World) (a : Option Addr) : Row w a [] := ⟨by simp, by simp, fun h => absurd h (by simp)⟩

/-- next, whichever way. -/
theorem next_any (w : World) (p q : Nat) (l : List Nat) (at_ : Nat) (er : Int) (n : Nat) (h : Rd w p q l at_ er) (hz : l.length ≤ 140737488351232) :
    Calls Try.prog 77 #[.pointer (some ⟨p, 0, none⟩), .int .i64 n] w fun e w' => ∃ a c, e = .returned (.slice a (takes l at_ er n).1.length c) ∧ Hid (Rd w' p q l (takes l at_ er n).2.1 (takes l at_ er n).2.2 ∧ Row w' a (takes l at_ er n).1 ∧ Off (fun k => k = p) w w') := by
  by_cases he : (er != 0) = true
  · rw [takes_err he]
    refine (next_err w p q l at_ er n h he).mono ?_
    rintro e w' ⟨rfl, rfl⟩
    exact ⟨none, 0, rfl, h, row_nil _ _, Off.refl _ _⟩
  · obtain rfl := er_zero he
    by_cases hn : at_ + n ≤ l.length
    · rw [takes_ok hn]
      have hl : ((l.drop at_).take n).length = n := by rw [List.length_take, List.length_drop]; omega
      simp only [hl]
      exact next_ok w p q l at_ n h hz hn
    · rw [takes_short hn]
      refine (next_short w p q l at_ n h hz (by have := h.le; omega)).mono ?_
      rintro e w' ⟨rfl, hq⟩
      exact ⟨none, 0, rfl, hq.out.1, row_nil _ _, hq.out.2⟩

/-- what Reader's calls that answer a value leave. -/
def Reads (w : World) (p q : Nat) (l : List Nat) (t : List Nat × Nat × Int) (w' : World) : Prop := Rd w' p q l t.2.1 t.2.2 ∧ Off (fun k => k = p) w w'

set_option maxHeartbeats 2000000 in
theorem number_any (w : World) (p q : Nat) (l : List Nat) (at_ : Nat) (er : Int) (n : Nat) (h : Rd w p q l at_ er) (hz : l.length ≤ 140737488351232) (hn : n ≤ 8) :
    Calls Try.prog 65 #[.pointer (some ⟨p, 0, none⟩), .int .i64 n] w fun e w' => e = .returned (.int .u64 (numN (takes l at_ er n).1 : Nat)) ∧ Hid (Reads w p q l (takes l at_ er n) w') := by
  have HN := next_any w p q l at_ er n h hz
  have hl := takes_len (l := l) (at_ := at_) (er := er) (n := n)
  unfold Reads
  generalize takes l at_ er n = t at HN hl ⊢
  obtain ⟨m, at2, er2⟩ := t
  simp only at HN hl ⊢
  clear h
  go_enter Try.func65, Try.ntmps65
  go_wp2_with (go_at_call 77; refine HN.mono ?_; rintro e w1 ⟨a, c, rfl, hq⟩)
  go_loop [5, 12] (fun x i => ∃ k : Nat, k ≤ m.length ∧ i = .int .i64 k ∧ x = .int .u64 (numN (m.take k) : Nat)) (fun _ i => m.length - (intOf i).toNat)
  case atStart => exact ⟨0, Nat.zero_le _, rfl, rfl⟩
  case round =>
    obtain ⟨k, hk, rfl, rfl⟩ := hrel
    by_cases hkl : k < m.length
    · obtain ⟨b, o, rfl, hc⟩ := hq.out.2.1.2.2 (by omega)
      have hcell := hc k hkl
      have HS : Hid (numN (m.take (k + 1)) = numN (m.take k) * 256 + m.getD k 0) := by
        show _ = _
        rw [List.take_succ_eq_append_getElem hkl, numN_snoc, List.getD_eq_getElem?_getD, List.getElem?_eq_getElem hkl]; rfl
      have hx : numN (m.take k) < 72057594037927936 := by
        have h1 := numN_lt (m.take k) (fun x hx => hq.out.2.1.1 x (List.mem_of_mem_take hx))
        have h2 : (m.take k).length ≤ 7 := by rw [List.length_take]; omega
        exact Nat.lt_of_lt_of_le h1 (Nat.pow_le_pow_right (by omega) h2)
      have hb : m.getD k 0 < 256 := by
        rw [List.getD_eq_getElem?_getD, List.getElem?_eq_getElem hkl]
        exact hq.out.2.1.1 _ (List.getElem_mem hkl)
      have hi1 : (k : Int) < (m.length : Int) := by omega
      clear hc
      generalize m.getD k 0 = y at hcell HS hb
      generalize numN (m.take k) = X at HS hx ⊢
      have HOR : Hid (bits .or .u64 ((X : Int) * 256) (y : Int) = ((X * 256 + y : Nat) : Int)) := or_low X y hx hb
      go_wp2
      refine ⟨⟨k + 1, by omega, by go_num, by rw [HS.out, HOR.out]⟩, by simp [intOf]; omega⟩
    · obtain rfl : k = m.length := by omega
      rw [List.take_length]
      go_wp2
      go_ret
      exact ⟨rfl, hq.out.1, hq.out.2.2⟩

theorem u8_any (w : World) (p q : Nat) (l : List Nat) (at_ : Nat) (er : Int) (h : Rd w p q l at_ er) (hz : l.length ≤ 140737488351232) :
    Calls Try.prog 66 #[.pointer (some ⟨p, 0, none⟩)] w fun e w' => e = .returned (.int .u8 (numN (takes l at_ er 1).1 : Nat)) ∧ Hid (Reads w p q l (takes l at_ er 1) w') := by
  have HN := number_any w p q l at_ er 1 h hz (by omega)
  have hb : numN (takes l at_ er 1).1 < 256 := by
    have h1 := numN_lt (takes l at_ er 1).1 (by
      unfold takes
      split
      · simp
      · split
        · intro x hx; exact h.all.byte x (List.mem_of_mem_drop (List.mem_of_mem_take hx))
        · simp)
    have h2 := takes_len (l := l) (at_ := at_) (er := er) (n := 1)
    exact Nat.lt_of_lt_of_le h1 (Nat.pow_le_pow_right (n := 256) (by omega) h2)
  generalize takes l at_ er 1 = t at HN hb ⊢
  generalize numN t.1 = X at HN hb ⊢
  go_enter Try.func66, Try.ntmps66
  go_wp2_with (go_at_call 65; refine HN.mono ?_; rintro e w1 ⟨rfl, hq⟩)
  go_ret
  exact ⟨rfl, hq⟩
theorem u16_any (w : World) (p q : Nat) (l : List Nat) (at_ : Nat) (er : Int) (h : Rd w p q l at_ er) (hz : l.length ≤ 140737488351232) :
    Calls Try.prog 46 #[.pointer (some ⟨p, 0, none⟩)] w fun e w' => e = .returned (.int .u16 (numN (takes l at_ er 2).1 : Nat)) ∧ Hid (Reads w p q l (takes l at_ er 2) w') := by
  have HN := number_any w p q l at_ er 2 h hz (by omega)
  have hb : numN (takes l at_ er 2).1 < 65536 := by
    have h1 := numN_lt (takes l at_ er 2).1 (by
      unfold takes
      split
      · simp
      · split
        · intro x hx; exact h.all.byte x (List.mem_of_mem_drop (List.mem_of_mem_take hx))
        · simp)
    have h2 := takes_len (l := l) (at_ := at_) (er := er) (n := 2)
    exact Nat.lt_of_lt_of_le h1 (Nat.pow_le_pow_right (n := 256) (by omega) h2)
  generalize takes l at_ er 2 = t at HN hb ⊢
  generalize numN t.1 = X at HN hb ⊢
  go_enter Try.func46, Try.ntmps46
  go_wp2_with (go_at_call 65; refine HN.mono ?_; rintro e w1 ⟨rfl, hq⟩)
  go_ret
  exact ⟨rfl, hq⟩

theorem raw_any (w : World) (p q : Nat) (l : List Nat) (at_ : Nat) (er : Int) (n : Nat) (h : Rd w p q l at_ er) (hz : l.length ≤ 140737488351232) (hn : n ≤ 140737488351232) :
    Calls Try.prog 76 #[.pointer (some ⟨p, 0, none⟩), .int .i64 n] w fun e w' => ∃ g, e = .returned (.slice (some ⟨g, 0, none⟩) (takes l at_ er n).1.length (takes l at_ er n).1.length) ∧ Hid (Bs w' g (takes l at_ er n).1 ∧ w.heap.size ≤ g ∧ Reads w p q l (takes l at_ er n) w') := by
  have HN := next_any w p q l at_ er n h hz
  have hl := takes_len (l := l) (at_ := at_) (er := er) (n := n)
  unfold Reads
  generalize takes l at_ er n = t at HN hl ⊢
  go_enter Try.func76, Try.ntmps76
  go_wp2_with (first | (go_at_call 77; refine HN.mono ?_; rintro e w1 ⟨a, c, rfl, hq⟩) | (go_at_call 62; refine (fresh_any a c t.1 w1 hq.out.2.1 (by omega)).mono ?_; rintro e w2 ⟨rfl, hbs, hbw⟩))
  go_ret
  exact ⟨_, rfl, hbs, hq.out.2.2.size, hq.out.1.later hbw, hq.out.2.2.trans (Off.of_below (S := fun _ => False) hbw) (fun _ _ t => t.elim)⟩

theorem read_any (w : World) (a : Option Addr) (c : Nat) (l : List Nat) (hr : Row w a l) (hz : l.length ≤ 140737488351232) :
    Calls Try.prog 39 #[.slice a l.length c] w fun e w' => ∃ p q, e = .returned (.pointer (some ⟨p, 0, none⟩)) ∧ Hid (Rd w' p q l 0 0 ∧ w.heap.size ≤ p ∧ w.heap.size ≤ q ∧ Below w.heap.size w w') := by
  have HF := fresh_any a c l w hr hz
  go_enter Try.func39, Try.ntmps39
  go_wp2_with (go_at_call 62; refine HF.mono ?_; rintro e w1 ⟨rfl, hbs, hbw⟩)
  go_ret
  have hlt := (Array.getElem?_eq_some_iff.1 hbs.here).1
  exact ⟨w1.heap.size, w.heap.size, rfl, ⟨heap_alloc_new w1 _, hbs.later ((Below.refl _ w1).alloc (Nat.le_refl _) _), Nat.zero_le _, by omega⟩, hbw.size, Nat.le_refl _, hbw.alloc hbw.size _⟩
end Go.Proofs.Ytfocejmfmnijpaa
