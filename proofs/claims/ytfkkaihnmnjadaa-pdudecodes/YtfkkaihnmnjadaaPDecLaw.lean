/- PduDecodes: whatever bytes are decoded, or refused, as the document says. -/
import Derived.Test.YtfkkaihnmnjadaaPWakes
import Derived.Test.YtfkkaihnmnjadaaPCopy
import Derived.Test.YtfkkaihnmnjadaaPRSame
import Derived.Test.YtfkkaihnmnjadaaPRDecAll
import Derived.Test.YtfkkaihnmnjadaaPOpen
namespace Go.Proofs.Ytfkkaihnmnjadaa
open Go.RowKit
set_option linter.unusedVariables false
set_option maxRecDepth 20000 in
set_option maxHeartbeats 4000000 in
theorem decl_big (w : World) (a : Option Addr) (c : Nat) (l : List Nat) (h : 5000 < l.length) : Calls Try.prog 4 #[.slice a l.length c] w fun e w' => e = .returned (.bool true) ∧ Hid (Below w.heap.size w w') := by
  have h3 : (5000 : Int) < (l.length : Int) := by omega
  go_enter Try.func4, Try.ntmps4
  go_wp2_with (go_at_call 8; refine (wakes_any _).mono ?_; rintro e w1 ⟨rfl, hb1⟩)
  go_ret
  exact ⟨rfl, hb1.out⟩
set_option maxRecDepth 20000 in
set_option maxHeartbeats 8000000 in
theorem decl_small (w : World) (a : Option Addr) (c : Nat) (l : List Nat) (hr : Row w a l) (hlc : l.length ≤ c) (hcm : c ≤ 140737488355327) (h : ¬ 5000 < l.length) : Calls Try.prog 4 #[.slice a l.length c] w fun e w' => e = .returned (.bool true) ∧ Hid (Below w.heap.size w w') := by
  have HB : Hid (∀ (w : World) (X : Obj), Below w.heap.size w (w.alloc X)) := fun w X => (Below.refl _ w).alloc (Nat.le_refl _) X
  have HR : Hid (∀ W, Below w.heap.size w W → Row W a l) := fun W hb => hr.later hb
  have HDE : Hid (∀ W g cc, Row W (some ⟨g, 0, none⟩) l → Calls Try.prog 15 #[.slice (some ⟨g, 0, none⟩) l.length cc] W fun e w' => ∃ a' c', e = .returned (.tuple #[mv (decM l).1 a' c', .int .i64 (decM l).2]) ∧ Hid (Row w' a' (decM l).1.bts ∧ Below W.heap.size W w')) := fun W g cc h => (decode_any W (some ⟨g, 0, none⟩) cc l h (by omega)).mono (by rintro e w' ⟨a', c', rfl, hq⟩; exact ⟨a', c', rfl, hq.out.1.row, hq.out.2.1⟩)
  have HRD : Hid (∀ W, Below w.heap.size w W → Calls Try.prog 16 #[.slice a l.length c] W fun e w' => ∃ a' c', e = .returned (.tuple #[mv (decM l).1 a' c', .int .i64 (decM l).2]) ∧ Hid (Row w' a' (decM l).1.bts ∧ Below W.heap.size W w')) := fun W hb => rdec_any W a c l (hr.later hb) (by omega) hlc hcm
  have HSA : Hid (∀ W a' c' a2 c2, Row W a' (decM l).1.bts → Row W a2 (decM l).1.bts → Calls Try.prog 17 #[mv (decM l).1 a' c', mv (decM l).1 a2 c2] W fun e w' => e = .returned (.bool true) ∧ Hid (Below W.heap.size W w')) := fun W a' c' a2 c2 r1 r2 => by
    have := rsameM_any (decM l).1 (decM l).1 a' c' a2 c2 W r1 r2
    rw [sameM_self] at this
    exact this
  have HBY : Hid ((∀ x ∈ l, x < 256) ∧ l.length ≤ maxLen) := ⟨hr.1, hr.2.1⟩
  generalize (decM l).1 = M at HDE HRD HSA
  generalize (decM l).2 = E at HDE HRD
  have h3 : ¬ (5000 : Int) < (l.length : Int) := by omega
  have hz : l.length ≤ 5000 := by omega
  clear hr hlc hcm h
  go_enter Try.func4, Try.ntmps4
  go_wp2_with (first
    | (go_at_call 8; refine (wakes_any _).mono ?_; rintro e w1 ⟨rfl, hb1⟩)
    | (at_builtin; go_must (refine wpList_append_some rfl _ _ rfl w1.heap.size w1.heap.size 0 [] 0 l.length rfl (made_none w1) _ _ l rfl rfl (HR.out _ (below_of hb1.out (HB.out _ _))) (by omega) (by simp) ?_); intro g4 c4 w4 ho4 hg4 hc4; have HW4 : Hid (Below w.heap.size w w4) := below_of hb1.out (app_below (made_none w1) hg4); have HO4 : Hid (Row w4 (some ⟨g4, 0, none⟩) l) := (own_some (by rw [Nat.zero_add] at ho4; exact ho4) HBY.out.1 HBY.out.2).1; clear ho4 hg4 hc4)
    | (go_at_call 15; refine (HDE.out w4 g4 c4 HO4.out).mono ?_; rintro e w5 ⟨a5, c5, rfl, hq5⟩; have HW5 : Hid (Below w.heap.size w (w5.alloc (mc M a5 c5)) ∧ (w5.alloc (mc M a5 c5)).heap[w5.heap.size]? = some (mc M a5 c5) ∧ Row (w5.alloc (mc M a5 c5)) a5 M.bts) := ⟨below_of (below_of HW4.out hq5.out.2) (HB.out _ _), heap_alloc_new w5 _, hq5.out.1.later (HB.out _ _)⟩)
    | (go_at_call 16; refine (HRD.out _ HW5.out.1).mono ?_; rintro e w6 ⟨a6, c6, rfl, hq6⟩; have f := (fun X => mcells (old_block (below_of hq6.out.2 (HB.out w6 X)) HW5.out.2.1)); have f0 := (fun X => (f X).1); have f1 := (fun X => (f X).2.1); have f2 := (fun X => (f X).2.2.1); have f3 := (fun X => (f X).2.2.2.1); have f4 := (fun X => (f X).2.2.2.2.1); have f5 := (fun X => (f X).2.2.2.2.2.1); have f6 := (fun X => (f X).2.2.2.2.2.2.1); have f7 := (fun X => (f X).2.2.2.2.2.2.2); clear f)
    | (go_at_call 17; refine (HSA.out _ a5 c5 a6 c6 (HW5.out.2.2.later (below_of hq6.out.2 (HB.out _ _))) (hq6.out.1.later (HB.out _ _))).mono ?_; rintro e w7 ⟨rfl, hb7⟩))
  go_ret
  exact ⟨rfl, below_of (below_of HW5.out.1 (below_of hq6.out.2 (HB.out _ _))) hb7.out⟩
theorem pdecodes_any (w : World) (a : Option Addr) (c : Nat) (l : List Nat) (hr : Row w a l) (hz : l.length ≤ 140737488351232) (hlc : l.length ≤ c) (hcm : c ≤ 140737488355327) : Calls Try.prog 4 #[.slice a l.length c] w fun e w' => e = .returned (.bool true) ∧ Hid (Below w.heap.size w w') := by
  by_cases h : 5000 < l.length
  · exact decl_big w a c l h
  · exact decl_small w a c l hr hlc hcm h
section
open Go.Deep Go.ChangeShapes Go.WideShapes
variable {H : Type} {enc : TypeId × Value → H} {w : World} {base : Nat} {held : Bool}
/-- bytes that came in: their room, too, lies within the reach. -/
theorem open_bytesC {fuel : Nat} {cs : List Value} {x : DataW H × List MemPlace} (h : DataW.trod enc Try.prog w base (fun _ => true) held fuel 23 cs = some x) (hf : Fit 23 x.1) :
    ∃ a c l, cs = [.slice a (l : List Nat).length c] ∧ l.length ≤ c ∧ c ≤ 140737488355327 ∧ l.length ≤ 140737488351232 ∧ Row w a l := by
  rcases open_ints Try.underlying23 Try.underlying5 cellsU8 h with ⟨rfl, _⟩ | ⟨a, len, cap, zs, rfl, _, hl, hm, hz, hx, hcell, hwz⟩
  · exact ⟨none, 0, [], rfl, Nat.le_refl _, Nat.zero_le _, Nat.zero_le _, by simp, by simp, fun h => absurd h (by simp)⟩
  · simp only [if_true] at hz
    obtain ⟨l, rfl, hr⟩ := row_of hl hm hz hcell hwz
    rw [hx] at hf
    have hb := (fit_slice Try.underlying23 hf).1
    rw [bytesU8] at hb
    simp only [lits, List.length_map, List.length_take, List.length_drop, reachBytes] at hb
    exact ⟨some a, cap, l, rfl, hl, by omega, by omega, hr⟩
end
end Go.Proofs.Ytfkkaihnmnjadaa
