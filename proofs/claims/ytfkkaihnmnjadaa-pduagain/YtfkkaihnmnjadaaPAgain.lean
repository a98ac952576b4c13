/- PduAgain: what was decoded is encoded into the same bytes. -/
import Derived.Test.YtfkkaihnmnjadaaPWakes
import Derived.Test.YtfkkaihnmnjadaaPOpen
namespace Go.Proofs.Ytfkkaihnmnjadaa
open Go.RowKit
set_option linter.unusedVariables false
set_option maxRecDepth 20000 in
set_option maxHeartbeats 4000000 in
theorem again_no (w : World) (a : Option Addr) (c : Nat) (l : List Nat) (hr : Row w a l) (hz : l.length ≤ 140737488351232) (hd : (decM l).2 ≠ 0) : Calls Try.prog 7 #[.slice a l.length c] w fun e w' => e = .returned (.bool true) ∧ Hid (Below w.heap.size w w') := by
  have HB : Hid (∀ (w : World) (X : Obj), Below w.heap.size w (w.alloc X)) := fun w X => (Below.refl _ w).alloc (Nat.le_refl _) X
  have HDE : Hid (∀ W, Below w.heap.size w W → Calls Try.prog 15 #[.slice a l.length c] W fun e w' => ∃ a' c', e = .returned (.tuple #[mv zeroM a' c', .int .i64 (decM l).2]) ∧ Hid (Row w' a' zeroM.bts ∧ Below W.heap.size W w')) := fun W hb => by
    have := decode_any W a c l (hr.later hb) hz
    unfold Dec1 at this
    rw [dec_zero hd] at this
    exact this.mono (by rintro e w' ⟨a', c', rfl, hq⟩; exact ⟨a', c', rfl, hq.out.1.row, hq.out.2.1⟩)
  have HSA : Hid (∀ W a' c', Row W a' zeroM.bts → Calls Try.prog 18 #[mv zeroM a' c', mv zeroM none 0] W fun e w' => e = .returned (.bool true) ∧ Hid (Below W.heap.size W w')) := fun W a' c' h => by
    have := Go.Proofs.Ytfkkaihnmnjadaa.same_any zeroM zeroM a' c' none 0 W h (row_nil _ _)
    rw [sameM_self] at this
    exact this
  have hE : ((decM l).2 != 0) = true := by simpa using hd
  generalize (decM l).2 = E at HDE hE
  generalize l.length = n at HDE ⊢
  clear hr hz hd
  go_enter Try.func7, Try.ntmps7
  go_wp2_with (first
    | (go_at_call 8; refine (wakes_any _).mono ?_; rintro e w1 ⟨rfl, hb1⟩)
    | (go_at_call 15; refine (HDE.out _ hb1.out).mono ?_; rintro e w2 ⟨a2, c2, rfl, hq2⟩)
    | (go_at_call 18; refine (HSA.out _ a2 c2 (hq2.out.1.later (HB.out _ _))).mono ?_; rintro e w3 ⟨rfl, hb3⟩))
  go_ret
  exact ⟨rfl, below_of (below_of (below_of hb1.out hq2.out.2) (HB.out _ _)) hb3.out⟩
set_option maxRecDepth 20000 in
set_option maxHeartbeats 4000000 in
theorem again_ok (w : World) (a : Option Addr) (c : Nat) (l : List Nat) (hr : Row w a l) (hz : l.length ≤ 140737488351232) (hd : (decM l).2 = 0) : Calls Try.prog 7 #[.slice a l.length c] w fun e w' => e = .returned (.bool true) ∧ Hid (Below w.heap.size w w') := by
  have HB : Hid (∀ (w : World) (X : Obj), Below w.heap.size w (w.alloc X)) := fun w X => (Below.refl _ w).alloc (Nat.le_refl _) X
  obtain ⟨hok, henc⟩ := dec_enc hr.1 hd
  have HDE : Hid (∀ W, Below w.heap.size w W → Calls Try.prog 15 #[.slice a l.length c] W fun e w' => ∃ a' c', e = .returned (.tuple #[mv (decM l).1 a' c', .int .i64 0]) ∧ Hid (Came w' (decM l).1 a' c' ∧ Below W.heap.size W w')) := fun W hb => by
    have := decode_any W a c l (hr.later hb) hz
    unfold Dec1 at this
    rw [hd] at this
    exact this.mono (by rintro e w' ⟨a', c', rfl, hq⟩; exact ⟨a', c', rfl, hq.out.1, hq.out.2.1⟩)
  have HEN : Hid (∀ W a' c', Came W (decM l).1 a' c' → Calls Try.prog 9 #[mv (decM l).1 a' c'] W fun e w' => ∃ g c, e = .returned (.tuple #[.slice (some ⟨g, 0, none⟩) l.length c, .int .i64 0]) ∧ Hid (Row w' (some ⟨g, 0, none⟩) l ∧ Below W.heap.size W w')) := fun W a' c' h => by
    have := encode_ok (decM l).1 a' c' W h hok
    unfold EncY at this
    rw [henc] at this
    exact this.mono (by rintro e w' ⟨g, c, rfl, hq⟩; exact ⟨g, c, rfl, (own_some hq.out.1 hr.1 hr.2.1).1, hq.out.2⟩)
  have HEQ : Hid (∀ W g c2, Below w.heap.size w W → Row W (some ⟨g, 0, none⟩) l → Calls Try.prog 19 #[.slice a l.length c, .slice (some ⟨g, 0, none⟩) l.length c2] W fun e w' => e = .returned (.bool true) ∧ W = w') := fun W g c2 hb h => by
    have := equal_any a (some ⟨g, 0, none⟩) c c2 l l W (hr.later hb) h
    rw [decide_eq_true rfl] at this
    exact this
  generalize (decM l).1 = M at HDE HEN
  generalize l.length = n at HDE HEN HEQ ⊢
  clear hr hz hd hok henc
  go_enter Try.func7, Try.ntmps7
  go_wp2_with (first
    | (go_at_call 8; refine (wakes_any _).mono ?_; rintro e w1 ⟨rfl, hb1⟩)
    | (go_at_call 15; refine (HDE.out _ hb1.out).mono ?_; rintro e w2 ⟨a2, c2, rfl, hq2⟩; have hW2 : Hid (Below w.heap.size w (w2.alloc (mc M a2 c2))) := below_of (below_of hb1.out hq2.out.2) (HB.out _ _))
    | (go_at_call 9; refine (HEN.out _ a2 c2 (hq2.out.1.later (HB.out _ _))).mono ?_; rintro e w3 ⟨g, c3, rfl, hq3⟩)
    | (go_at_call 19; refine (HEQ.out _ g c3 (below_of hW2.out hq3.out.2) hq3.out.1).mono ?_; rintro e w4 ⟨rfl, rfl⟩))
  go_ret
  exact ⟨rfl, below_of hW2.out hq3.out.2⟩
theorem pagain_any (w : World) (a : Option Addr) (c : Nat) (l : List Nat) (hr : Row w a l) (hz : l.length ≤ 140737488351232) : Calls Try.prog 7 #[.slice a l.length c] w fun e w' => e = .returned (.bool true) ∧ Hid (Below w.heap.size w w') := by
  by_cases hd : (decM l).2 = 0
  · exact again_ok w a c l hr hz hd
  · exact again_no w a c l hr hz hd
end Go.Proofs.Ytfkkaihnmnjadaa
