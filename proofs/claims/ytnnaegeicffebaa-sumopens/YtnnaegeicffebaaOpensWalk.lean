/- The walk of the law SumOpens, out of its callees' contracts. -/
import Derived.Test.YtnnaegeicffebaaOpened
namespace Go.Proofs.Ytnnaegeicffebaa
open Go.RowKit

/-- what was answered of bytes l: a slice and an error. -/
def Ans (w : World) (k : Nat) (f : List Nat → List Nat) (l : List Nat) (x : Value) (n : Int) : Prop :=
  (l.length < k ∧ x = .slice none 0 0 ∧ n = 7) ∨
  (k ≤ l.length ∧ f (l.take (l.length - k)) ≠ l ∧ x = .slice none 0 0 ∧ n = 130) ∨
  (k ≤ l.length ∧ f (l.take (l.length - k)) = l ∧ ∃ a, x = .slice a (l.length - k) (l.length - k) ∧ n = 0 ∧ Row w a (l.take (l.length - k)))

theorem Ans.later {w w' : World} {k : Nat} {f : List Nat → List Nat} {l : List Nat} {x : Value} {n : Int} (h : Ans w k f l x n) (hb : Below w.heap.size w w') : Ans w' k f l x n := by
  rcases h with h | h | ⟨h1, h2, a, h3, h4, h5⟩
  · exact .inl h
  · exact .inr (.inl h)
  · exact .inr (.inr ⟨h1, h2, a, h3, h4, h5.later hb⟩)

theorem Opened.ans {w w' : World} {k : Nat} {f : List Nat → List Nat} {l : List Nat} {e : Ending} (h : Opened w k f l e w') : ∃ x n, e = .returned (.tuple #[x, .int .i64 n]) ∧ Ans w' k f l x n ∧ Below w.heap.size w w' := by
  obtain ⟨hb, ⟨h1, rfl⟩ | ⟨h1, h2, rfl⟩ | ⟨h1, h2, a1, rfl, r1⟩⟩ := h
  · exact ⟨_, _, rfl, .inl ⟨h1, rfl, rfl⟩, hb⟩
  · exact ⟨_, _, rfl, .inr (.inl ⟨h1, h2, rfl, rfl⟩), hb⟩
  · exact ⟨_, _, rfl, .inr (.inr ⟨h1, h2, a1, rfl, rfl, r1⟩), hb⟩

theorem opened16_any (a : Option Addr) (cap : Nat) (l : List Nat) (x : Value) (n : Int) (w : World) (hr : Row w a l) (ha : Ans w 2 seal16 l x n) (hc : l.length ≤ cap) (hcm : cap ≤ maxLen) (hz : l.length ≤ 20000) :
    Calls Try.prog 20 #[x, .int .i64 n, .slice a l.length cap, .int .i64 16] w fun e w' => e = .returned (.bool true) ∧ Below w.heap.size w w' := by
  rcases ha with ⟨h1, rfl, rfl⟩ | ⟨h1, h2, rfl, rfl⟩ | ⟨h1, h2, a1, rfl, rfl, h5⟩
  · exact opened16_short a cap l w hz h1
  · exact opened16_not a cap l w hr hc hcm hz h1 h2
  · exact opened16_yes a a1 cap l w hr h5 hc hcm hz h1 h2

theorem opened32_any (a : Option Addr) (cap : Nat) (l : List Nat) (x : Value) (n : Int) (w : World) (hr : Row w a l) (ha : Ans w 4 seal32 l x n) (hc : l.length ≤ cap) (hcm : cap ≤ maxLen) (hz : l.length ≤ 20000) :
    Calls Try.prog 20 #[x, .int .i64 n, .slice a l.length cap, .int .i64 32] w fun e w' => e = .returned (.bool true) ∧ Below w.heap.size w w' := by
  rcases ha with ⟨h1, rfl, rfl⟩ | ⟨h1, h2, rfl, rfl⟩ | ⟨h1, h2, a1, rfl, rfl, h5⟩
  · exact opened32_short a cap l w hz h1
  · exact opened32_not a cap l w hr hc hcm hz h1 h2
  · exact opened32_yes a a1 cap l w hr h5 hc hcm hz h1 h2

set_option maxRecDepth 100000 in
set_option maxHeartbeats 1000000 in
theorem sumOpens_walk (a : Option Addr) (cap : Nat) (l : List Nat) (w : World) (hr : Row w a l) (hc : l.length ≤ cap) (hcm : cap ≤ maxLen) :
    Calls Try.prog 5 #[.slice a l.length cap] w fun e w' => e = .returned (.bool true) ∧ Below w.heap.size w w' := by
  have hm := hr.2.1
  unfold maxLen at hm
  have HR : Hid (Row w a l) := hr
  have HM : Hid (cap ≤ maxLen) := hcm
  clear hr hcm
  by_cases hl : (20000 : Int) < (l.length : Int)
  · go_enter Try.func5, Try.ntmps5
    go_wp2_with fail
    refine (wakes_any _).mono ?_
    rintro e w1 ⟨rfl, hb⟩
    go_wp2_with fail
    go_ret
    exact ⟨rfl, hb⟩
  · go_enter Try.func5, Try.ntmps5
    go_wp2_with fail
    refine (wakes_any _).mono ?_
    rintro e w1 ⟨rfl, hb1⟩
    have R1 : Hid (Row w1 a l) := HR.out.later hb1
    have B1 : Hid (Below w.heap.size w w1) := hb1
    clear hb1
    go_wp2_with fail
    refine (open16_any _ _ _ _ R1.out hc HM.out (by omega)).mono ?_
    intro e w2 ho
    obtain ⟨x, n, rfl, ha, hb2⟩ := ho.ans
    have R2 : Hid (Row w2 a l) := R1.out.later hb2
    have A2 : Hid (Ans w2 2 seal16 l x n) := ha
    have B2 : Hid (Below w.heap.size w w2) := below_of B1.out hb2
    clear ho ha hb2
    go_wp2_with fail
    refine (open32_any _ _ _ _ R2.out hc HM.out (by omega)).mono ?_
    intro e w3 ho
    obtain ⟨y, m, rfl, ha, hb3⟩ := ho.ans
    have R3 : Hid (Row w3 a l) := R2.out.later hb3
    have A3 : Hid (Ans w3 2 seal16 l x n) := A2.out.later hb3
    have C3 : Hid (Ans w3 4 seal32 l y m) := ha
    have B3 : Hid (Below w.heap.size w w3) := below_of B2.out hb3
    clear ho ha hb3
    go_wp2_with fail
    refine (opened16_any _ _ _ _ _ _ R3.out A3.out hc HM.out (by omega)).mono ?_
    rintro e w4 ⟨rfl, hb4⟩
    have R4 : Hid (Row w4 a l) := R3.out.later hb4
    have C4 : Hid (Ans w4 4 seal32 l y m) := C3.out.later hb4
    have B4 : Hid (Below w.heap.size w w4) := below_of B3.out hb4
    clear hb4
    go_wp2_with fail
    refine (opened32_any _ _ _ _ _ _ R4.out C4.out hc HM.out (by omega)).mono ?_
    rintro e w5 ⟨rfl, hb5⟩
    go_wp2
    go_ret
    exact ⟨rfl, below_of B4.out hb5⟩
end Go.Proofs.Ytnnaegeicffebaa
