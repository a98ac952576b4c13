/- The walk of the law SumBack, out of its callees' contracts. -/
import Derived.Test.YtnnaegeicffebaaOpen
import Derived.Test.YtnnaegeicffebaaWakes
namespace Go.Proofs.Ytnnaegeicffebaa
open Go.RowKit

theorem back16 (l : List Nat) : (seal16 l).take ((seal16 l).length - 2) = l := by
  rw [seal16_length, Nat.add_sub_cancel]
  unfold seal16
  exact List.take_left
theorem back32 (l : List Nat) : (seal32 l).take ((seal32 l).length - 4) = l := by
  rw [seal32_length, Nat.add_sub_cancel]
  unfold seal32
  exact List.take_left

/-- what was sealed is opened. -/
theorem openSealed16 (a : Option Addr) (n cap : Nat) (l : List Nat) (hn : (seal16 l).length = n) (w : World) (hr : Row w a (seal16 l)) (hc : n ≤ cap) (hcm : cap ≤ maxLen) (hz : l.length ≤ 140737488351232) :
    Calls Try.prog 18 #[.slice a n cap] w fun e w' => ∃ a', e = .returned (.tuple #[.slice a' l.length l.length, .int .i64 0]) ∧ Row w' a' l ∧ Below w.heap.size w w' := by
  subst hn
  refine (open16_any a cap (seal16 l) w hr hc hcm (by rw [seal16_length]; omega)).mono ?_
  rintro e w' ⟨hb, ⟨h1, rfl⟩ | ⟨h1, h2, rfl⟩ | ⟨h1, h2, a1, rfl, r1⟩⟩
  · rw [seal16_length] at h1; omega
  · exact absurd (by rw [back16]) h2
  · rw [back16] at r1
    rw [seal16_length, Nat.add_sub_cancel]
    exact ⟨a1, rfl, r1, hb⟩
theorem openSealed32 (a : Option Addr) (n cap : Nat) (l : List Nat) (hn : (seal32 l).length = n) (w : World) (hr : Row w a (seal32 l)) (hc : n ≤ cap) (hcm : cap ≤ maxLen) (hz : l.length ≤ 140737488351232) :
    Calls Try.prog 19 #[.slice a n cap] w fun e w' => ∃ a', e = .returned (.tuple #[.slice a' l.length l.length, .int .i64 0]) ∧ Row w' a' l ∧ Below w.heap.size w w' := by
  subst hn
  refine (open32_any a cap (seal32 l) w hr hc hcm (by rw [seal32_length]; omega)).mono ?_
  rintro e w' ⟨hb, ⟨h1, rfl⟩ | ⟨h1, h2, rfl⟩ | ⟨h1, h2, a1, rfl, r1⟩⟩
  · rw [seal32_length] at h1; omega
  · exact absurd (by rw [back32]) h2
  · rw [back32] at r1
    rw [seal32_length, Nat.add_sub_cancel]
    exact ⟨a1, rfl, r1, hb⟩

set_option maxRecDepth 100000 in
set_option maxHeartbeats 1000000 in
theorem sumBack_walk (a : Option Addr) (cap : Nat) (l : List Nat) (w : World) (hr : Row w a l) (hc : l.length ≤ cap) (hcm : cap ≤ maxLen) (hz : l.length ≤ 140737488351232) :
    Calls Try.prog 6 #[.slice a l.length cap] w fun e w' => e = .returned (.bool true) ∧ Below w.heap.size w w' := by
  have HR : Hid (Row w a l) := hr
  have HM : Hid (cap ≤ maxLen) := hcm
  clear hr hcm
  go_enter Try.func6, Try.ntmps6
  go_wp2_with fail
  refine (wakes_any _).mono ?_
  rintro e w1 ⟨rfl, hb1⟩
  have R1 : Hid (Row w1 a l) := HR.out.later hb1
  have B1 : Hid (Below w.heap.size w w1) := hb1
  clear hb1
  go_wp2_with fail
  refine (seal16_any _ _ _ _ R1.out hc HM.out hz).mono ?_
  rintro e w2 ⟨a2, c2, rfl, h1, h2, r2, hb2⟩
  have R2 : Hid (Row w2 a l) := R1.out.later hb2
  have B2 : Hid (Below w.heap.size w w2) := below_of B1.out hb2
  have S2 : Hid (Row w2 a2 (seal16 l)) := r2
  have C2 : Hid ((seal16 l).length ≤ c2) := h1
  have D2 : Hid (c2 ≤ maxLen) := h2
  clear hb2 r2 h1 h2
  go_wp2_with fail
  refine (openSealed16 _ _ _ l rfl _ S2.out C2.out D2.out hz).mono ?_
  rintro e w3 ⟨a3, rfl, r3, hb3⟩
  have R3 : Hid (Row w3 a l) := R2.out.later hb3
  have B3 : Hid (Below w.heap.size w w3) := below_of B2.out hb3
  have S3 : Hid (Row w3 a3 l) := r3
  clear hb3 r3
  go_wp2_with fail
  refine (seal32_any _ _ _ _ R3.out hc HM.out hz).mono ?_
  rintro e w4 ⟨a4, c4, rfl, h1, h2, r4, hb4⟩
  have R4 : Hid (Row w4 a l) := R3.out.later hb4
  have B4 : Hid (Below w.heap.size w w4) := below_of B3.out hb4
  have S4 : Hid (Row w4 a3 l) := S3.out.later hb4
  have T4 : Hid (Row w4 a4 (seal32 l)) := r4
  have C4 : Hid ((seal32 l).length ≤ c4) := h1
  have D4 : Hid (c4 ≤ maxLen) := h2
  clear hb4 r4 h1 h2
  go_wp2_with fail
  refine (openSealed32 _ _ _ l rfl _ T4.out C4.out D4.out hz).mono ?_
  rintro e w5 ⟨a5, rfl, r5, hb5⟩
  have R5 : Hid (Row w5 a l) := R4.out.later hb5
  have B5 : Hid (Below w.heap.size w w5) := below_of B4.out hb5
  have S5 : Hid (Row w5 a3 l) := S4.out.later hb5
  have T5 : Hid (Row w5 a5 l) := r5
  clear hb5 r5
  go_wp2_with fail
  refine (equal_at _ _ _ _ _ _ l l rfl rfl true (by simp) _ S5.out R5.out).mono ?_
  rintro e w6 ⟨rfl, rfl⟩
  go_wp2_with fail
  refine (equal_at _ _ _ _ _ _ l l rfl rfl true (by simp) _ T5.out R5.out).mono ?_
  rintro e w6 ⟨rfl, rfl⟩
  go_wp2
  go_ret
  exact ⟨rfl, B5.out⟩
end Go.Proofs.Ytnnaegeicffebaa
