/- The walk of the law SumBursts, out of its callees' contracts. -/
import Derived.Test.YtnnaegeicffebaaOpenTurned
import Derived.Test.YtnnaegeicffebaaWakes
namespace Go.Proofs.Ytnnaegeicffebaa
open Go.RowKit

theorem burst16 (mask r k n : Nat) : decide (Crc.mk mask 16 r ≠ 0) = decide (Crc.stn 33800 n (Crc.mk mask 16 r * 2 ^ k) ≠ 0) := by
  by_cases h : Crc.mk mask 16 r = 0
  · rw [h, Nat.zero_mul, Crc.stn_zero]
  · rw [decide_eq_true h, decide_eq_true (Crc.burst_ne 33800 15 n k _ Crc.top16 (by omega) (Crc.mk_lt mask 16 r) h)]
theorem burst32 (mask r k n : Nat) : decide (Crc.mk mask 32 r ≠ 0) = decide (Crc.stn 2197175160 n (Crc.mk mask 32 r * 2 ^ k) ≠ 0) := by
  by_cases h : Crc.mk mask 32 r = 0
  · rw [h, Nat.zero_mul, Crc.stn_zero]
  · rw [decide_eq_true h, decide_eq_true (Crc.burst_ne 2197175160 31 n k _ Crc.top32 (by omega) (Crc.mk_lt mask 32 r) h)]
theorem code_is (b : Bool) : (code b == 130) = b := by cases b <;> rfl

set_option maxRecDepth 100000 in
set_option maxHeartbeats 1000000 in
theorem sumBursts_walk (a : Option Addr) (cap : Nat) (l : List Nat) (at0 : Int) (mask : Nat) (w : World) (hr : Row w a l) (hc : l.length ≤ cap) (hcm : cap ≤ maxLen) (ha : -9223372036854775808 ≤ at0) (hb : at0 ≤ 9223372036854775807) (hmask : mask < 18446744073709551616) :
    Calls Try.prog 7 #[.slice a l.length cap, .int .i64 at0, .int .u64 mask] w fun e w' => e = .returned (.bool true) ∧ Below w.heap.size w w' := by
  have hm := hr.2.1
  unfold maxLen at hm
  have HR : Hid (Row w a l) := hr
  have HM : Hid (cap ≤ maxLen) := hcm
  have HL : Hid (∀ x ∈ l, x < 256) := hr.1
  clear hr hcm
  by_cases hl : (5000 : Int) < (l.length : Int)
  · go_enter Try.func7, Try.ntmps7
    go_wp2_with fail
    refine (wakes_any _).mono ?_
    rintro e w1 ⟨rfl, hb⟩
    go_wp2_with fail
    go_ret
    exact ⟨rfl, hb⟩
  · have L16 : Hid ((seal16 l).length = l.length + 2) := seal16_length l
    have L32 : Hid ((seal32 l).length = l.length + 4) := seal32_length l
    obtain ⟨k16, hk⟩ := spot at0 (seal16 l).length (by rw [L16.out]; omega)
    have K16 : Hid ((k16 : Int) = max at0 0 % (8 * ((seal16 l).length : Int))) := hk
    clear hk
    obtain ⟨k32, hk⟩ := spot at0 (seal32 l).length (by rw [L32.out]; omega)
    have K32 : Hid ((k32 : Int) = max at0 0 % (8 * ((seal32 l).length : Int))) := hk
    clear hk
    obtain ⟨b16, hb16⟩ : ∃ b, b = decide (Crc.mk mask 16 (8 * (seal16 l).length - k16) ≠ 0) := ⟨_, rfl⟩
    obtain ⟨b32, hb32⟩ : ∃ b, b = decide (Crc.mk mask 32 (8 * (seal32 l).length - k32) ≠ 0) := ⟨_, rfl⟩
    have Q16 : Hid (b16 = decide (Crc.mk mask 16 (8 * (seal16 l).length - k16) ≠ 0)) := hb16
    have Q32 : Hid (b32 = decide (Crc.mk mask 32 (8 * (seal32 l).length - k32) ≠ 0)) := hb32
    clear hb16 hb32
    go_enter Try.func7, Try.ntmps7
    go_wp2_with fail
    refine (wakes_any _).mono ?_
    rintro e w1 ⟨rfl, hb1⟩
    have R1 : Hid (Row w1 a l) := HR.out.later hb1
    have B1 : Hid (Below w.heap.size w w1) := hb1
    clear hb1
    go_wp2_with fail
    refine (seal16_any _ _ _ _ R1.out hc HM.out (by omega)).mono ?_
    rintro e w2 ⟨a2, c2, rfl, h1, h2, r2, hb2⟩
    have R2 : Hid (Row w2 a l) := R1.out.later hb2
    have B2 : Hid (Below w.heap.size w w2) := below_of B1.out hb2
    have S2 : Hid (Row w2 a2 (seal16 l)) := r2
    clear hb2 r2 h1 h2
    go_wp2_with fail
    refine (turned_at _ _ _ (seal16 l) at0 mask 16 b16 _ rfl S2.out (by rw [L16.out]; omega) (by rw [L16.out]; omega) (by omega) hmask ha hb k16 K16.out Q16.out).mono ?_
    rintro e w3 ⟨a3, c3, m3, rfl, g1, g2, h1, h2, r3, hb3⟩
    have R3 : Hid (Row w3 a l) := R2.out.later hb3
    have B3 : Hid (Below w.heap.size w w3) := below_of B2.out hb3
    have S3 : Hid (Row w3 a3 m3) := r3
    have G3 : Hid (m3.length = (seal16 l).length) := g1
    have V3 : Hid (Crc.val m3 = Crc.val (seal16 l) ^^^ (Crc.mk mask 16 (8 * (seal16 l).length - k16) * 2 ^ k16)) := g2
    have C3 : Hid ((seal16 l).length ≤ c3) := h1
    have D3 : Hid (c3 ≤ maxLen) := h2
    clear hb3 r3 g1 g2 h1 h2
    go_wp2_with fail
    refine (seal32_any _ _ _ _ R3.out hc HM.out (by omega)).mono ?_
    rintro e w4 ⟨a4, c4, rfl, h1, h2, r4, hb4⟩
    have B4 : Hid (Below w.heap.size w w4) := below_of B3.out hb4
    have S4 : Hid (Row w4 a3 m3) := S3.out.later hb4
    have T4 : Hid (Row w4 a4 (seal32 l)) := r4
    clear hb4 r4 h1 h2
    go_wp2_with fail
    refine (turned_at _ _ _ (seal32 l) at0 mask 32 b32 _ rfl T4.out (by rw [L32.out]; omega) (by rw [L32.out]; omega) (by omega) hmask ha hb k32 K32.out Q32.out).mono ?_
    rintro e w5 ⟨a5, c5, m5, rfl, g1, g2, h1, h2, r5, hb5⟩
    have B5 : Hid (Below w.heap.size w w5) := below_of B4.out hb5
    have S5 : Hid (Row w5 a3 m3) := S4.out.later hb5
    have T5 : Hid (Row w5 a5 m5) := r5
    have G5 : Hid (m5.length = (seal32 l).length) := g1
    have V5 : Hid (Crc.val m5 = Crc.val (seal32 l) ^^^ (Crc.mk mask 32 (8 * (seal32 l).length - k32) * 2 ^ k32)) := g2
    have C5 : Hid ((seal32 l).length ≤ c5) := h1
    have D5 : Hid (c5 ≤ maxLen) := h2
    clear hb5 r5 g1 g2 h1 h2
    go_wp2_with fail
    refine (openTurned16 _ _ _ l m3 _ b16 _ S5.out G3.out C3.out D3.out (by omega) HL.out G3.out V3.out (Q16.out.trans (burst16 _ _ _ _))).mono ?_
    rintro e w6 ⟨x6, rfl, hb6⟩
    have B6 : Hid (Below w.heap.size w w6) := below_of B5.out hb6
    have T6 : Hid (Row w6 a5 m5) := T5.out.later hb6
    clear hb6
    go_wp2_with fail
    refine (openTurned32 _ _ _ l m5 _ b32 _ T6.out G5.out C5.out D5.out (by omega) HL.out G5.out V5.out (Q32.out.trans (burst32 _ _ _ _))).mono ?_
    rintro e w7 ⟨x7, rfl, hb7⟩
    have B7 : Hid (Below w.heap.size w w7) := below_of B6.out hb7
    clear hb7
    have hc16 := code_is b16
    have hc32 := code_is b32
    go_wp2
    all_goals go_ret
    all_goals exact ⟨rfl, B7.out⟩
end Go.Proofs.Ytnnaegeicffebaa
