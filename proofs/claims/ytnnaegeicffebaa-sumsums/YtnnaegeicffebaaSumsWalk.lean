/- The walk of the law SumSums, out of its callees' contracts. -/
import Derived.Test.YtnnaegeicffebaaRow
import Derived.Test.YtnnaegeicffebaaRefs
import Derived.Test.YtnnaegeicffebaaWakes
namespace Go.Proofs.Ytnnaegeicffebaa
open Go.RowKit

set_option maxRecDepth 100000 in
set_option maxHeartbeats 400000 in
theorem sumSums_walk (a : Option Addr) (cap : Nat) (l : List Nat) (w : World) (hr : Row w a l) :
    Calls Try.prog 3 #[.slice a l.length cap] w fun e w' => e = .returned (.bool true) ∧ Below w.heap.size w w' := by
  have hm := hr.2.1
  unfold maxLen at hm
  have h16 := Crc.sum16_lt l hr.1
  have h32 := Crc.sum32_lt l hr.1
  by_cases hl : (20000 : Int) < (l.length : Int)
  · go_enter Try.func3, Try.ntmps3
    go_wp2_with fail
    refine (wakes_any _).mono ?_
    rintro e w1 ⟨rfl, hb⟩
    go_wp2_with fail
    go_ret
    exact ⟨rfl, hb⟩
  · go_enter Try.func3, Try.ntmps3
    go_wp2_with fail
    refine (wakes_any _).mono ?_
    rintro e w1 ⟨rfl, hb⟩
    have hr1 := hr.later hb
    have H1 : Hid (Row w1 a l) := hr1
    clear hr1
    go_wp2_with fail
    refine (sum16_any _ _ _ _ H1.out).mono ?_
    rintro e w2 ⟨rfl, rfl⟩
    go_wp2_with fail
    refine (ref16_any _ _ _ _ H1.out).mono ?_
    rintro e w2 ⟨rfl, rfl⟩
    go_wp2_with fail
    refine (sum32_any _ _ _ _ H1.out).mono ?_
    rintro e w2 ⟨rfl, rfl⟩
    go_wp2_with fail
    refine (ref32_any _ _ _ _ H1.out).mono ?_
    rintro e w2 ⟨rfl, rfl⟩
    go_wp2_with fail
    go_ret
    exact ⟨rfl, hb⟩
end Go.Proofs.Ytnnaegeicffebaa
