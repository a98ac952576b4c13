/- sum.Open16, Open32 of bytes with whatever room behind them. -/
import Derived.Test.YtjfmgokpnpmdpaaDoorKSum
namespace Go.Proofs.YtjfmgokpnpmdpaaDoor
open Go.RowKit
set_option linter.unusedVariables false
set_option maxHeartbeats 1000000 in
theorem openWith16_free (a : Option Addr) (cap : Nat) (l : List Nat) (w : World) (hr : Row w a l) (hc : l.length ≤ cap) (hz : l.length ≤ 140737488351234) :
    Calls Tryd.prog 58 #[.slice a l.length cap, .int .i64 2, .func (.func 30) #[] #[]] w (Opened w 2 seal16 l) := by
  have HR : Hid (Row w a l) := hr
  have hm := hr.2.1
  unfold maxLen at hm
  clear hr
  by_cases hl : l.length < 2
  · go_enter Tryd.func58, Tryd.ntmps58
    go_wp2
    go_ret2
    exact ⟨Below.refl _ _, .inl ⟨hl, rfl⟩⟩
  · have hkl : 2 ≤ l.length := by omega
    clear hl
    go_enter Tryd.func58, Tryd.ntmps58
    go_wp2_with fail
    refine (seal16_at _ _ _ (l.take (l.length - 2)) (take_len l 2) _ (HR.out.take _) (Nat.le_refl _) (le_maxLen (by omega)) (by omega)).mono ?_
    rintro e w1 ⟨a1, c1, rfl, h1, h2, r1, hb1⟩
    rw [head16 hkl] at h1 ⊢
    have R1 : Hid (Row w1 a l) := HR.out.later hb1
    have S1 : Hid (Row w1 a1 (seal16 (l.take (l.length - 2)))) := r1
    have B1 : Hid (Below w.heap.size w w1) := hb1
    have C1 : Hid (l.length ≤ c1) := h1
    unfold maxLen at h2
    clear r1 hb1
    by_cases hs : seal16 (l.take (l.length - 2)) = l
    · have HS : Hid (seal16 (l.take (l.length - 2)) = l) := hs
      have HE : Hid (decide (seal16 (l.take (l.length - 2)) = l) = true) := decide_eq_true hs
      clear hs
      go_wp2_with fail
      refine (equal_at _ _ _ _ _ _ (seal16 (l.take (l.length - 2))) l (head16 hkl) rfl true HE.out _ S1.out R1.out).mono ?_
      rintro e w2 ⟨rfl, rfl⟩
      go_wp2
      go_ret2
      refine ⟨B1.out, .inr (.inr ⟨hkl, HS.out, a1, rfl, ?_⟩)⟩
      have h3 : Row w1 a1 l := by rw [← HS.out]; exact S1.out
      exact h3.take _
    · have HS : Hid (seal16 (l.take (l.length - 2)) ≠ l) := hs
      have HE : Hid (decide (seal16 (l.take (l.length - 2)) = l) = false) := decide_eq_false hs
      clear hs
      go_wp2_with fail
      refine (equal_at _ _ _ _ _ _ (seal16 (l.take (l.length - 2))) l (head16 hkl) rfl false HE.out _ S1.out R1.out).mono ?_
      rintro e w2 ⟨rfl, rfl⟩
      go_wp2
      go_ret2
      exact ⟨B1.out, .inr (.inl ⟨hkl, HS.out, rfl⟩)⟩

set_option maxHeartbeats 400000 in
theorem open16_free (a : Option Addr) (cap : Nat) (l : List Nat) (w : World) (hr : Row w a l) (hc : l.length ≤ cap) (hz : l.length ≤ 140737488351234) :
    Calls Tryd.prog 40 #[.slice a l.length cap] w (Opened w 2 seal16 l) := by
  have HR : Hid (Row w a l) := hr
  clear hr
  go_enter Tryd.func40, Tryd.ntmps40
  go_wp2_with fail
  refine (openWith16_free _ _ _ _ HR.out hc hz).mono ?_
  rintro e w1 ⟨hb, ⟨h1, rfl⟩ | ⟨h1, h2, rfl⟩ | ⟨h1, h2, a1, rfl, r1⟩⟩
  · go_wp2
    go_ret2
    exact ⟨hb, .inl ⟨h1, rfl⟩⟩
  · have H2 : Hid (seal16 (l.take (l.length - 2)) ≠ l) := h2
    clear h2
    go_wp2
    go_ret2
    exact ⟨hb, .inr (.inl ⟨h1, H2.out, rfl⟩)⟩
  · have H2 : Hid (seal16 (l.take (l.length - 2)) = l) := h2
    have R1 : Hid (Row w1 a1 (l.take (l.length - 2))) := r1
    clear h2 r1
    go_wp2
    go_ret2
    exact ⟨hb, .inr (.inr ⟨h1, H2.out, a1, rfl, R1.out⟩)⟩

set_option maxHeartbeats 1000000 in
theorem openWith32_free (a : Option Addr) (cap : Nat) (l : List Nat) (w : World) (hr : Row w a l) (hc : l.length ≤ cap) (hz : l.length ≤ 140737488351236) :
    Calls Tryd.prog 58 #[.slice a l.length cap, .int .i64 4, .func (.func 32) #[] #[]] w (Opened w 4 seal32 l) := by
  have HR : Hid (Row w a l) := hr
  have hm := hr.2.1
  unfold maxLen at hm
  clear hr
  by_cases hl : l.length < 4
  · go_enter Tryd.func58, Tryd.ntmps58
    go_wp2
    go_ret2
    exact ⟨Below.refl _ _, .inl ⟨hl, rfl⟩⟩
  · have hkl : 4 ≤ l.length := by omega
    clear hl
    go_enter Tryd.func58, Tryd.ntmps58
    go_wp2_with fail
    refine (seal32_at _ _ _ (l.take (l.length - 4)) (take_len l 4) _ (HR.out.take _) (Nat.le_refl _) (le_maxLen (by omega)) (by omega)).mono ?_
    rintro e w1 ⟨a1, c1, rfl, h1, h2, r1, hb1⟩
    rw [head32 hkl] at h1 ⊢
    have R1 : Hid (Row w1 a l) := HR.out.later hb1
    have S1 : Hid (Row w1 a1 (seal32 (l.take (l.length - 4)))) := r1
    have B1 : Hid (Below w.heap.size w w1) := hb1
    have C1 : Hid (l.length ≤ c1) := h1
    unfold maxLen at h2
    clear r1 hb1
    by_cases hs : seal32 (l.take (l.length - 4)) = l
    · have HS : Hid (seal32 (l.take (l.length - 4)) = l) := hs
      have HE : Hid (decide (seal32 (l.take (l.length - 4)) = l) = true) := decide_eq_true hs
      clear hs
      go_wp2_with fail
      refine (equal_at _ _ _ _ _ _ (seal32 (l.take (l.length - 4))) l (head32 hkl) rfl true HE.out _ S1.out R1.out).mono ?_
      rintro e w2 ⟨rfl, rfl⟩
      go_wp2
      go_ret2
      refine ⟨B1.out, .inr (.inr ⟨hkl, HS.out, a1, rfl, ?_⟩)⟩
      have h3 : Row w1 a1 l := by rw [← HS.out]; exact S1.out
      exact h3.take _
    · have HS : Hid (seal32 (l.take (l.length - 4)) ≠ l) := hs
      have HE : Hid (decide (seal32 (l.take (l.length - 4)) = l) = false) := decide_eq_false hs
      clear hs
      go_wp2_with fail
      refine (equal_at _ _ _ _ _ _ (seal32 (l.take (l.length - 4))) l (head32 hkl) rfl false HE.out _ S1.out R1.out).mono ?_
      rintro e w2 ⟨rfl, rfl⟩
      go_wp2
      go_ret2
      exact ⟨B1.out, .inr (.inl ⟨hkl, HS.out, rfl⟩)⟩

set_option maxHeartbeats 400000 in
theorem open32_free (a : Option Addr) (cap : Nat) (l : List Nat) (w : World) (hr : Row w a l) (hc : l.length ≤ cap) (hz : l.length ≤ 140737488351236) :
    Calls Tryd.prog 41 #[.slice a l.length cap] w (Opened w 4 seal32 l) := by
  have HR : Hid (Row w a l) := hr
  clear hr
  go_enter Tryd.func41, Tryd.ntmps41
  go_wp2_with fail
  refine (openWith32_free _ _ _ _ HR.out hc hz).mono ?_
  rintro e w1 ⟨hb, ⟨h1, rfl⟩ | ⟨h1, h2, rfl⟩ | ⟨h1, h2, a1, rfl, r1⟩⟩
  · go_wp2
    go_ret2
    exact ⟨hb, .inl ⟨h1, rfl⟩⟩
  · have H2 : Hid (seal32 (l.take (l.length - 4)) ≠ l) := h2
    clear h2
    go_wp2
    go_ret2
    exact ⟨hb, .inr (.inl ⟨h1, H2.out, rfl⟩)⟩
  · have H2 : Hid (seal32 (l.take (l.length - 4)) = l) := h2
    have R1 : Hid (Row w1 a1 (l.take (l.length - 4))) := r1
    clear h2 r1
    go_wp2
    go_ret2
    exact ⟨hb, .inr (.inr ⟨h1, H2.out, a1, rfl, R1.out⟩)⟩
end Go.Proofs.YtjfmgokpnpmdpaaDoor
