/- The walk of the law SumSeals, out of its callees' contracts. -/
import Derived.Test.YtnnaegeicffebaaRefSeal
import Derived.Test.YtnnaegeicffebaaWakes
import Derived.Test.YtnnaegeicffebaaSame
namespace Go.Proofs.Ytnnaegeicffebaa
open Go.RowKit

/-- two rows that hold the same bytes. -/
theorem same_yes (a b : Option Addr) (c d : Nat) (l : List Nat) (w : World) (hr : Row w a l) (hs : Row w b l) :
    Calls Try.prog 14 #[.slice a l.length c, .slice b l.length d] w fun e w' => e = .returned (.bool true) ∧ Below w.heap.size w w' := by
  refine (same_any a b c d l l w hr hs).mono ?_
  rintro e w' ⟨rfl, hb⟩
  exact ⟨by simp, hb⟩

set_option maxRecDepth 100000 in
set_option maxHeartbeats 1000000 in
theorem sumSeals_walk (a : Option Addr) (cap : Nat) (l : List Nat) (w : World) (hr : Row w a l) (hc : l.length ≤ cap) (hcm : cap ≤ maxLen) :
    Calls Try.prog 4 #[.slice a l.length cap] w fun e w' => e = .returned (.bool true) ∧ Below w.heap.size w w' := by
  have hm := hr.2.1
  unfold maxLen at hm
  have HR : Hid (Row w a l) := hr
  have HM : Hid (cap ≤ maxLen) := hcm
  clear hr hcm
  by_cases hl : (20000 : Int) < (l.length : Int)
  · go_enter Try.func4, Try.ntmps4
    go_wp2_with fail
    refine (wakes_any _).mono ?_
    rintro e w1 ⟨rfl, hb⟩
    go_wp2_with fail
    go_ret
    exact ⟨rfl, hb⟩
  · go_enter Try.func4, Try.ntmps4
    go_wp2_with fail
    refine (wakes_any _).mono ?_
    rintro e w1 ⟨rfl, hb1⟩
    have R1 : Hid (Row w1 a l) := HR.out.later hb1
    have B1 : Hid (Below w.heap.size w w1) := hb1
    clear hb1
    go_wp2_with fail
    refine (both_any _ _ _ _ R1.out (by omega)).mono ?_
    rintro e w2 ⟨v, rfl, hown2, hb2⟩
    obtain ⟨a2, c2, hv, h1, h2, r2⟩ := own_row hown2 HR.out.1 (le_maxLen (by omega))
    rw [hv]
    have R2 : Hid (Row w2 a l) := R1.out.later hb2
    have S2 : Hid (Row w2 a2 l) := r2
    have B2 : Hid (Below w.heap.size w w2) := below_of B1.out hb2
    clear hb2 hown2 hv r2 h1 h2
    go_wp2_with fail
    refine (seal16_any _ _ _ _ R2.out hc HM.out (by omega)).mono ?_
    rintro e w3 ⟨a3, c3, rfl, h1, h2, r3, hb3⟩
    have R3 : Hid (Row w3 a l) := R2.out.later hb3
    have S3 : Hid (Row w3 a2 l) := S2.out.later hb3
    have T3 : Hid (Row w3 a3 (seal16 l)) := r3
    have B3 : Hid (Below w.heap.size w w3) := below_of B2.out hb3
    clear hb3 r3 h1 h2
    go_wp2_with fail
    refine (refSeal16_any _ _ _ _ S3.out (by omega)).mono ?_
    rintro e w4 ⟨a4, c4, rfl, h1, h2, r4, hb4⟩
    have R4 : Hid (Row w4 a l) := R3.out.later hb4
    have S4 : Hid (Row w4 a2 l) := S3.out.later hb4
    have T4 : Hid (Row w4 a3 (seal16 l)) := T3.out.later hb4
    have U4 : Hid (Row w4 a4 (seal16 l)) := r4
    have B4 : Hid (Below w.heap.size w w4) := below_of B3.out hb4
    clear hb4 r4 h1 h2
    go_wp2_with fail
    refine (same_yes _ _ _ _ _ _ T4.out U4.out).mono ?_
    rintro e w5 ⟨rfl, hb5⟩
    have R5 : Hid (Row w5 a l) := R4.out.later hb5
    have S5 : Hid (Row w5 a2 l) := S4.out.later hb5
    have B5 : Hid (Below w.heap.size w w5) := below_of B4.out hb5
    clear hb5
    go_wp2_with fail
    refine (seal32_any _ _ _ _ R5.out hc HM.out (by omega)).mono ?_
    rintro e w6 ⟨a6, c6, rfl, h1, h2, r6, hb6⟩
    have R6 : Hid (Row w6 a l) := R5.out.later hb6
    have S6 : Hid (Row w6 a2 l) := S5.out.later hb6
    have T6 : Hid (Row w6 a6 (seal32 l)) := r6
    have B6 : Hid (Below w.heap.size w w6) := below_of B5.out hb6
    clear hb6 r6 h1 h2
    go_wp2_with fail
    refine (refSeal32_any _ _ _ _ S6.out (by omega)).mono ?_
    rintro e w7 ⟨a7, c7, rfl, h1, h2, r7, hb7⟩
    have R7 : Hid (Row w7 a l) := R6.out.later hb7
    have S7 : Hid (Row w7 a2 l) := S6.out.later hb7
    have T7 : Hid (Row w7 a6 (seal32 l)) := T6.out.later hb7
    have U7 : Hid (Row w7 a7 (seal32 l)) := r7
    have B7 : Hid (Below w.heap.size w w7) := below_of B6.out hb7
    clear hb7 r7 h1 h2
    go_wp2_with fail
    refine (same_yes _ _ _ _ _ _ T7.out U7.out).mono ?_
    rintro e w8 ⟨rfl, hb8⟩
    have R8 : Hid (Row w8 a l) := R7.out.later hb8
    have S8 : Hid (Row w8 a2 l) := S7.out.later hb8
    have B8 : Hid (Below w.heap.size w w8) := below_of B7.out hb8
    clear hb8
    go_wp2_with fail
    refine (same_yes _ _ _ _ _ _ R8.out S8.out).mono ?_
    rintro e w9 ⟨rfl, hb9⟩
    go_wp2_with fail
    go_ret
    exact ⟨rfl, below_of B8.out hb9⟩
end Go.Proofs.Ytnnaegeicffebaa
