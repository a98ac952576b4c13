/- pdu.Check. -/
import Derived.Test.YtfkkaihnmnjadaaPSame
import Derived.Test.YtfkkaihnmnjadaaPCount
import Derived.Test.YtfkkaihnmnjadaaPRight
import Derived.Deep.RegionWith
namespace Go.Proofs.Ytfkkaihnmnjadaa
open Go.RowKit
set_option linter.unusedVariables false
/-- what came in: a message, how it lies. -/
structure Came (w : World) (m : Ms) (a : Option Addr) (c : Nat) : Prop where
  fit : Sz m
  row : Row w a m.bts
  le : m.bts.length ≤ c
  cap : c ≤ maxLen
theorem Came.later {w w' : World} {m : Ms} {a : Option Addr} {c : Nat} (h : Came w m a c) (hb : Below w.heap.size w w') : Came w' m a c := ⟨h.fit, h.row.later hb, h.le, h.cap⟩
def Chk (w : World) (R : Int) (e : Ending) (w' : World) : Prop := e = .returned (.int .i64 R) ∧ Hid (Below w.heap.size w w')
set_option maxRecDepth 20000 in
set_option maxHeartbeats 4000000 in
theorem check_1 (m : Ms) (a : Option Addr) (c : Nat) (w : World) (hf : fld m.knd = 0) : Calls Try.prog 12 #[mv m a c] w fun e w' => Chk w 210 e w' := by
  have HB : Hid (∀ X : Obj, Below w.heap.size w (w.alloc X)) := fun X => (Below.refl _ w).alloc (Nat.le_refl _) X
  have HF : ∀ W, Calls Try.prog 20 #[.int .i64 m.knd] W fun e w' => e = .returned (.int .u8 0) ∧ W = w' := fun W => by have := fieldsOf_any m.knd W; rw [hf] at this; exact this
  clear hf
  go_enter Try.func12, Try.ntmps12
  go_wp2_with (go_at_call 20; refine (HF _).mono ?_; rintro e w1 ⟨rfl, rfl⟩)
  first
  | go_quiet (fail)
  | fail
  go_wp2
  go_ret
  exact ⟨rfl, below_drewN (HB.out _) _⟩
set_option maxRecDepth 20000 in
set_option maxHeartbeats 4000000 in
theorem check_2 (m : Ms) (a : Option Addr) (c : Nat) (w : World) (hf : fld m.knd ≠ 0) (hn : m.num = 0) : Calls Try.prog 12 #[mv m a c] w fun e w' => Chk w 210 e w' := by
  have HB : Hid (∀ X : Obj, Below w.heap.size w (w.alloc X)) := fun X => (Below.refl _ w).alloc (Nat.le_refl _) X
  have HF : ∀ W, Calls Try.prog 20 #[.int .i64 m.knd] W fun e w' => e = .returned (.int .u8 (fld m.knd : Nat)) ∧ W = w' := fun W => fieldsOf_any m.knd W
  have hq : (((fld m.knd : Nat) : Int) == 0) = false := by simpa using hf
  have hn2 : (((m.num : Nat) : Int) == 0) = true := by simpa using hn
  generalize ((fld m.knd : Nat) : Int) = F at HF hq
  clear hf hn
  go_enter Try.func12, Try.ntmps12
  go_wp2_with (go_at_call 20; refine (HF _).mono ?_; rintro e w1 ⟨rfl, rfl⟩)
  first
  | go_quiet (fail)
  | fail
  go_wp2
  go_ret
  exact ⟨rfl, below_drewN (HB.out _) _⟩
set_option maxRecDepth 20000 in
set_option maxHeartbeats 4000000 in
theorem check_3 (m : Ms) (a : Option Addr) (c : Nat) (w : World) (hc : Came w m a c) (hf : fld m.knd ≠ 0) (hn : m.num ≠ 0) (hs : sameM m (cntM m) = false) : Calls Try.prog 12 #[mv m a c] w fun e w' => Chk w 210 e w' := by
  have HB : Hid (∀ X : Obj, Below w.heap.size w (w.alloc X)) := fun X => (Below.refl _ w).alloc (Nat.le_refl _) X
  have HF : ∀ W, Calls Try.prog 20 #[.int .i64 m.knd] W fun e w' => e = .returned (.int .u8 (fld m.knd : Nat)) ∧ W = w' := fun W => fieldsOf_any m.knd W
  have HK : Hid (∀ W, Below w.heap.size w W → Calls Try.prog 26 #[mv m a c, .int .u8 (fld m.knd : Nat)] W fun e w' => Cnt W m e w') := fun W hb => counted_any m a c W (hc.row.later hb) hf
  have HS : Hid (∀ W b d, Below w.heap.size w W → Row W b (cntM m).bts → Calls Try.prog 18 #[mv m a c, mv (cntM m) b d] W fun e w' => e = .returned (.bool false) ∧ Hid (Below W.heap.size W w')) := fun W b d hb h1 => by have := Go.Proofs.Ytfkkaihnmnjadaa.same_any m (cntM m) a c b d W (hc.row.later hb) h1; rw [hs] at this; exact this
  have HP : Hid ((w.alloc (mc m a c)).heap[w.heap.size]? = some (mc m a c)) := heap_alloc_new w _
  unfold Cnt at HK
  have hq : (((fld m.knd : Nat) : Int) == 0) = false := by simpa using hf
  have hn2 : (((m.num : Nat) : Int) == 0) = false := by simpa using hn
  generalize ((fld m.knd : Nat) : Int) = F at HF hq HK
  generalize cntM m = t at HK HS
  clear hf hn hs hc
  go_enter Try.func12, Try.ntmps12
  go_wp2_with (go_at_call 20; refine (HF _).mono ?_; rintro e w1 ⟨rfl, rfl⟩)
  first
  | go_region_with (first
      | (go_at_call 26; refine (HK.out _ ((HB.out _).drew)).mono ?_; rintro e w3 ⟨b, d, rfl, hq3⟩; have hW3 : Below w.heap.size w w3 := below_of ((HB.out _).drew) hq3.out.1; have hP3 : w3.heap[w.heap.size]? = some (mc m a c) := old_block (below_of ((Below.refl _ _).drew) hq3.out.1) HP.out; obtain ⟨g0, g1, g2, g3, g4, g5, g6, g7⟩ := mcells hP3)
      | (go_at_call 18; refine (HS.out w3 b d hW3 (hq3.out.2.later hq3.out.1)).mono ?_; rintro e w4 ⟨rfl, hb4⟩; have hW4 : Below w.heap.size w w4 := below_of hW3 hb4.out))
  | fail
  all_goals
    go_wp2
    go_ret
    exact ⟨rfl, hW4⟩
set_option maxRecDepth 20000 in
set_option maxHeartbeats 4000000 in
theorem check_4 (m : Ms) (a : Option Addr) (c : Nat) (w : World) (hc : Came w m a c) (hf : fld m.knd ≠ 0) (hn : m.num ≠ 0) (hs : sameM m (cntM m) = true) : Calls Try.prog 12 #[mv m a c] w fun e w' => Chk w (if rightM m = true then 0 else 210) e w' := by
  have HB : Hid (∀ X : Obj, Below w.heap.size w (w.alloc X)) := fun X => (Below.refl _ w).alloc (Nat.le_refl _) X
  have HF : ∀ W, Calls Try.prog 20 #[.int .i64 m.knd] W fun e w' => e = .returned (.int .u8 (fld m.knd : Nat)) ∧ W = w' := fun W => fieldsOf_any m.knd W
  have HK : Hid (∀ W, Below w.heap.size w W → Calls Try.prog 26 #[mv m a c, .int .u8 (fld m.knd : Nat)] W fun e w' => Cnt W m e w') := fun W hb => counted_any m a c W (hc.row.later hb) hf
  have HS : Hid (∀ W b d, Below w.heap.size w W → Row W b (cntM m).bts → Calls Try.prog 18 #[mv m a c, mv (cntM m) b d] W fun e w' => e = .returned (.bool true) ∧ Hid (Below W.heap.size W w')) := fun W b d hb h1 => by have := Go.Proofs.Ytfkkaihnmnjadaa.same_any m (cntM m) a c b d W (hc.row.later hb) h1; rw [hs] at this; exact this
  have HR : Hid (∀ W, Calls Try.prog 27 #[mv m a c, .int .u8 (fld m.knd : Nat)] W fun e w' => e = .returned (.bool (rightM m)) ∧ Hid (Below W.heap.size W w')) := fun W => right_any m a c W hc.fit.bts
  have HP : Hid ((w.alloc (mc m a c)).heap[w.heap.size]? = some (mc m a c)) := heap_alloc_new w _
  unfold Cnt at HK
  have hq : (((fld m.knd : Nat) : Int) == 0) = false := by simpa using hf
  have hn2 : (((m.num : Nat) : Int) == 0) = false := by simpa using hn
  generalize ((fld m.knd : Nat) : Int) = F at HF hq HK HR
  generalize cntM m = t at HK HS
  generalize rightM m = R at HR ⊢
  clear hf hn hs hc
  cases R
  all_goals
    go_enter Try.func12, Try.ntmps12
    go_wp2_with (go_at_call 20; refine (HF _).mono ?_; rintro e w1 ⟨rfl, rfl⟩)
    first
    | go_region_with (first
        | (go_at_call 26; refine (HK.out _ ((HB.out _).drew)).mono ?_; rintro e w3 ⟨b, d, rfl, hq3⟩; have hW3 : Below w.heap.size w w3 := below_of ((HB.out _).drew) hq3.out.1; have hP3 : w3.heap[w.heap.size]? = some (mc m a c) := old_block (below_of ((Below.refl _ _).drew) hq3.out.1) HP.out; obtain ⟨g0, g1, g2, g3, g4, g5, g6, g7⟩ := mcells hP3)
        | (go_at_call 18; refine (HS.out w3 b d hW3 (hq3.out.2.later hq3.out.1)).mono ?_; rintro e w4 ⟨rfl, hb4⟩; have hW4 : Below w.heap.size w w4 := below_of hW3 hb4.out; have hP4 : w4.heap[w.heap.size]? = some (mc m a c) := old_block hb4.out hP3; obtain ⟨j0, j1, j2, j3, j4, j5, j6, j7⟩ := mcells hP4)
        | (go_at_call 27; refine (HR.out _).mono ?_; rintro e w5 ⟨rfl, hb5⟩; have hW5 : Below w.heap.size w w5 := below_of hW4 hb5.out))
    | fail
    all_goals
      go_wp2
      go_ret
      exact ⟨rfl, hW5⟩
theorem check_any (m : Ms) (a : Option Addr) (c : Nat) (w : World) (hc : Came w m a c) : Calls Try.prog 12 #[mv m a c] w fun e w' => e = .returned (.int .i64 (chkM m)) ∧ Hid (Below w.heap.size w w') := by
  unfold chkM okM
  by_cases hf : fld m.knd = 0
  · rw [decide_eq_false (by simpa using hf)]
    exact check_1 m a c w hf
  · by_cases hn : m.num = 0
    · rw [decide_eq_false (show ¬ m.num ≠ 0 by simpa using hn)]
      simp only [Bool.false_and, Bool.and_false]
      exact check_2 m a c w hf hn
    · rw [decide_eq_true hf, decide_eq_true hn]
      cases hs : sameM m (cntM m) with
      | false => exact check_3 m a c w hc hf hn hs
      | true =>
        simp only [Bool.true_and]
        exact check_4 m a c w hc hf hn hs
end Go.Proofs.Ytfkkaihnmnjadaa
