/- The walks of the reference's Opens, of the law's own opened, and of the law SumOpens. -/
import Derived.Test.YtnnaegeicffebaaOpen
import Derived.Test.YtnnaegeicffebaaRefSeal
import Derived.Test.YtnnaegeicffebaaWakes
namespace Go.Proofs.Ytnnaegeicffebaa
open Go.RowKit

theorem same_at (a b : Option Addr) (c d n k : Nat) (l m : List Nat) (hn : l.length = n) (hk : m.length = k) (r : Bool) (he : decide (l = m) = r) (w : World) (hr : Row w a l) (hs : Row w b m) :
    Calls Try.prog 14 #[.slice a n c, .slice b k d] w fun e w' => e = .returned (.bool r) ∧ Below w.heap.size w w' := by
  subst hn hk he
  exact same_any a b c d l m w hr hs

theorem refSeal16_at (a : Option Addr) (n cap : Nat) (l : List Nat) (hn : l.length = n) (w : World) (hr : Row w a l) (hz : n ≤ 140737488351232) :
    Calls Try.prog 16 #[.slice a n cap, .int .i64 16] w (Sealed w (seal16 l)) := by
  subst hn
  exact refSeal16_any a cap l w hr hz

set_option maxHeartbeats 1000000 in
theorem refOpens16_any (a : Option Addr) (cap : Nat) (l : List Nat) (w : World) (hr : Row w a l) (hc : l.length ≤ cap) (_hcm : cap ≤ maxLen) (hz : l.length ≤ 140737488351232) (hkl : 2 ≤ l.length) (r : Bool) (he : decide (seal16 (l.take (l.length - 2)) = l) = r) :
    Calls Try.prog 27 #[.slice a l.length cap, .int .i64 16] w fun e w' => e = .returned (.bool r) ∧ Below w.heap.size w w' := by
  have HR : Hid (Row w a l) := hr
  have hm := hr.2.1
  have HE : Hid (decide (seal16 (l.take (l.length - 2)) = l) = r) := he
  unfold maxLen at _hcm hm
  clear hr he
  go_enter Try.func27, Try.ntmps27
  go_wp2_with fail
  refine (refSeal16_at _ _ _ (l.take (l.length - 2)) (take_len l 2) _ (HR.out.take _) (by omega)).mono ?_
  rintro e w1 ⟨a1, c1, rfl, h1, h2, r1, hb1⟩
  rw [head16 hkl]
  have R1 : Hid (Row w1 a l) := HR.out.later hb1
  have S1 : Hid (Row w1 a1 (seal16 (l.take (l.length - 2)))) := r1
  have B1 : Hid (Below w.heap.size w w1) := hb1
  clear r1 hb1 h1 h2
  go_wp2_with fail
  refine (same_at _ _ _ _ _ _ (seal16 (l.take (l.length - 2))) l (head16 hkl) rfl r HE.out _ S1.out R1.out).mono ?_
  rintro e w2 ⟨rfl, hb2⟩
  go_wp2
  go_ret
  exact ⟨rfl, below_of B1.out hb2⟩

set_option maxHeartbeats 1000000 in
theorem opened16_short (a : Option Addr) (cap : Nat) (l : List Nat) (w : World) (hm : l.length ≤ 20000) (h : l.length < 2) :
    Calls Try.prog 20 #[.slice none 0 0, .int .i64 7, .slice a l.length cap, .int .i64 16] w fun e w' => e = .returned (.bool true) ∧ Below w.heap.size w w' := by
  go_enter Try.func20, Try.ntmps20
  go_wp2
  go_ret
  exact ⟨rfl, Below.refl _ _⟩

set_option maxHeartbeats 1000000 in
theorem opened16_not (a : Option Addr) (cap : Nat) (l : List Nat) (w : World) (hr : Row w a l) (hc : l.length ≤ cap) (hcm : cap ≤ maxLen) (hz : l.length ≤ 20000) (hkl : 2 ≤ l.length) (he : seal16 (l.take (l.length - 2)) ≠ l) :
    Calls Try.prog 20 #[.slice none 0 0, .int .i64 130, .slice a l.length cap, .int .i64 16] w fun e w' => e = .returned (.bool true) ∧ Below w.heap.size w w' := by
  have HR : Hid (Row w a l) := hr
  have HM : Hid (cap ≤ maxLen) := hcm
  have HE : Hid (decide (seal16 (l.take (l.length - 2)) = l) = false) := decide_eq_false he
  clear hr he hcm
  go_enter Try.func20, Try.ntmps20
  go_wp2_with fail
  refine (refOpens16_any _ _ _ _ HR.out hc HM.out (by omega) hkl false HE.out).mono ?_
  rintro e w1 ⟨rfl, hb⟩
  go_wp2
  go_ret
  exact ⟨rfl, hb⟩

set_option maxHeartbeats 1000000 in
theorem opened16_yes (a a1 : Option Addr) (cap : Nat) (l : List Nat) (w : World) (hr : Row w a l) (hs : Row w a1 (l.take (l.length - 2))) (hc : l.length ≤ cap) (hcm : cap ≤ maxLen) (hz : l.length ≤ 20000) (hkl : 2 ≤ l.length) (he : seal16 (l.take (l.length - 2)) = l) :
    Calls Try.prog 20 #[.slice a1 (l.length - 2) (l.length - 2), .int .i64 0, .slice a l.length cap, .int .i64 16] w fun e w' => e = .returned (.bool true) ∧ Below w.heap.size w w' := by
  have HR : Hid (Row w a l) := hr
  have HS : Hid (Row w a1 (l.take (l.length - 2))) := hs
  have HM : Hid (cap ≤ maxLen) := hcm
  have HE : Hid (decide (seal16 (l.take (l.length - 2)) = l) = true) := decide_eq_true he
  unfold maxLen at hcm
  clear hr he hs
  go_enter Try.func20, Try.ntmps20
  go_wp2_with fail
  refine (refOpens16_any _ _ _ _ HR.out hc HM.out (by omega) hkl true HE.out).mono ?_
  rintro e w1 ⟨rfl, hb⟩
  have R1 : Hid (Row w1 a (l.take (l.length - 2))) := (HR.out.later hb).take _
  have S1 : Hid (Row w1 a1 (l.take (l.length - 2))) := HS.out.later hb
  have B1 : Hid (Below w.heap.size w w1) := hb
  clear hb
  go_wp2_with fail
  refine (same_at _ _ _ _ _ _ (l.take (l.length - 2)) (l.take (l.length - 2)) (take_len l 2) (take_len l 2) true (by simp) _ S1.out R1.out).mono ?_
  rintro e w2 ⟨rfl, hb2⟩
  go_wp2
  go_ret
  exact ⟨rfl, below_of B1.out hb2⟩

theorem refSeal32_at (a : Option Addr) (n cap : Nat) (l : List Nat) (hn : l.length = n) (w : World) (hr : Row w a l) (hz : n ≤ 140737488351232) :
    Calls Try.prog 16 #[.slice a n cap, .int .i64 32] w (Sealed w (seal32 l)) := by
  subst hn
  exact refSeal32_any a cap l w hr hz

set_option maxHeartbeats 1000000 in
theorem refOpens32_any (a : Option Addr) (cap : Nat) (l : List Nat) (w : World) (hr : Row w a l) (hc : l.length ≤ cap) (_hcm : cap ≤ maxLen) (hz : l.length ≤ 140737488351232) (hkl : 4 ≤ l.length) (r : Bool) (he : decide (seal32 (l.take (l.length - 4)) = l) = r) :
    Calls Try.prog 27 #[.slice a l.length cap, .int .i64 32] w fun e w' => e = .returned (.bool r) ∧ Below w.heap.size w w' := by
  have HR : Hid (Row w a l) := hr
  have hm := hr.2.1
  have HE : Hid (decide (seal32 (l.take (l.length - 4)) = l) = r) := he
  unfold maxLen at _hcm hm
  clear hr he
  go_enter Try.func27, Try.ntmps27
  go_wp2_with fail
  refine (refSeal32_at _ _ _ (l.take (l.length - 4)) (take_len l 4) _ (HR.out.take _) (by omega)).mono ?_
  rintro e w1 ⟨a1, c1, rfl, h1, h2, r1, hb1⟩
  rw [head32 hkl]
  have R1 : Hid (Row w1 a l) := HR.out.later hb1
  have S1 : Hid (Row w1 a1 (seal32 (l.take (l.length - 4)))) := r1
  have B1 : Hid (Below w.heap.size w w1) := hb1
  clear r1 hb1 h1 h2
  go_wp2_with fail
  refine (same_at _ _ _ _ _ _ (seal32 (l.take (l.length - 4))) l (head32 hkl) rfl r HE.out _ S1.out R1.out).mono ?_
  rintro e w2 ⟨rfl, hb2⟩
  go_wp2
  go_ret
  exact ⟨rfl, below_of B1.out hb2⟩

set_option maxHeartbeats 1000000 in
theorem opened32_short (a : Option Addr) (cap : Nat) (l : List Nat) (w : World) (hm : l.length ≤ 20000) (h : l.length < 4) :
    Calls Try.prog 20 #[.slice none 0 0, .int .i64 7, .slice a l.length cap, .int .i64 32] w fun e w' => e = .returned (.bool true) ∧ Below w.heap.size w w' := by
  go_enter Try.func20, Try.ntmps20
  go_wp2
  go_ret
  exact ⟨rfl, Below.refl _ _⟩

set_option maxHeartbeats 1000000 in
theorem opened32_not (a : Option Addr) (cap : Nat) (l : List Nat) (w : World) (hr : Row w a l) (hc : l.length ≤ cap) (hcm : cap ≤ maxLen) (hz : l.length ≤ 20000) (hkl : 4 ≤ l.length) (he : seal32 (l.take (l.length - 4)) ≠ l) :
    Calls Try.prog 20 #[.slice none 0 0, .int .i64 130, .slice a l.length cap, .int .i64 32] w fun e w' => e = .returned (.bool true) ∧ Below w.heap.size w w' := by
  have HR : Hid (Row w a l) := hr
  have HM : Hid (cap ≤ maxLen) := hcm
  have HE : Hid (decide (seal32 (l.take (l.length - 4)) = l) = false) := decide_eq_false he
  clear hr he hcm
  go_enter Try.func20, Try.ntmps20
  go_wp2_with fail
  refine (refOpens32_any _ _ _ _ HR.out hc HM.out (by omega) hkl false HE.out).mono ?_
  rintro e w1 ⟨rfl, hb⟩
  go_wp2
  go_ret
  exact ⟨rfl, hb⟩

set_option maxHeartbeats 1000000 in
theorem opened32_yes (a a1 : Option Addr) (cap : Nat) (l : List Nat) (w : World) (hr : Row w a l) (hs : Row w a1 (l.take (l.length - 4))) (hc : l.length ≤ cap) (hcm : cap ≤ maxLen) (hz : l.length ≤ 20000) (hkl : 4 ≤ l.length) (he : seal32 (l.take (l.length - 4)) = l) :
    Calls Try.prog 20 #[.slice a1 (l.length - 4) (l.length - 4), .int .i64 0, .slice a l.length cap, .int .i64 32] w fun e w' => e = .returned (.bool true) ∧ Below w.heap.size w w' := by
  have HR : Hid (Row w a l) := hr
  have HS : Hid (Row w a1 (l.take (l.length - 4))) := hs
  have HM : Hid (cap ≤ maxLen) := hcm
  have HE : Hid (decide (seal32 (l.take (l.length - 4)) = l) = true) := decide_eq_true he
  unfold maxLen at hcm
  clear hr he hs
  go_enter Try.func20, Try.ntmps20
  go_wp2_with fail
  refine (refOpens32_any _ _ _ _ HR.out hc HM.out (by omega) hkl true HE.out).mono ?_
  rintro e w1 ⟨rfl, hb⟩
  have R1 : Hid (Row w1 a (l.take (l.length - 4))) := (HR.out.later hb).take _
  have S1 : Hid (Row w1 a1 (l.take (l.length - 4))) := HS.out.later hb
  have B1 : Hid (Below w.heap.size w w1) := hb
  clear hb
  go_wp2_with fail
  refine (same_at _ _ _ _ _ _ (l.take (l.length - 4)) (l.take (l.length - 4)) (take_len l 4) (take_len l 4) true (by simp) _ S1.out R1.out).mono ?_
  rintro e w2 ⟨rfl, hb2⟩
  go_wp2
  go_ret
  exact ⟨rfl, below_of B1.out hb2⟩
end Go.Proofs.Ytnnaegeicffebaa
