/- PduEncodes: whatever message is encoded into the document's bytes, or refused. -/
import Derived.Test.YtfkkaihnmnjadaaPWakes
import Derived.Test.YtfkkaihnmnjadaaPCopy
import Derived.Test.YtfkkaihnmnjadaaPRAll
namespace Go.Proofs.Ytfkkaihnmnjadaa
open Go.RowKit
set_option linter.unusedVariables false
set_option maxRecDepth 20000 in
set_option maxHeartbeats 4000000 in
theorem encl_big (w : World) (m : Ms) (a : Option Addr) (c : Nat) (h : decide ((5000 : Int) < (m.bts.length : Int)) = true ∨ (decide ((5000 : Int) < (m.bts.length : Int)) = false ∧ decide ((5000 : Int) < (m.nam.size : Int)) = true)) : Calls Try.prog 3 #[mv m a c] w fun e w' => e = .returned (.bool true) ∧ Hid (Below w.heap.size w w') := by
  have HB : Hid (∀ (w : World) (X : Obj), Below w.heap.size w (w.alloc X)) := fun w X => (Below.refl _ w).alloc (Nat.le_refl _) X
  have HP : Hid ((w.alloc (mc m a c)).heap[w.heap.size]? = some (mc m a c)) := heap_alloc_new w _
  rcases h with h | ⟨h, h2⟩
  · have h3 : (5000 : Int) < (m.bts.length : Int) := by simpa using h
    clear h
    go_enter Try.func3, Try.ntmps3
    go_wp2_with (go_at_call 8; refine (wakes_any _).mono ?_; rintro e w1 ⟨rfl, hb1⟩; obtain ⟨e0, e1, e2, e3, e4, e5, e6, e7⟩ := mcells (old_block hb1.out HP.out))
    go_ret
    exact ⟨rfl, below_of (HB.out _ _) hb1.out⟩
  · have h3 : ¬ (5000 : Int) < (m.bts.length : Int) := by simpa using h
    have h4 : (5000 : Int) < (m.nam.size : Int) := by simpa using h2
    clear h h2
    go_enter Try.func3, Try.ntmps3
    go_wp2_with (go_at_call 8; refine (wakes_any _).mono ?_; rintro e w1 ⟨rfl, hb1⟩; obtain ⟨e0, e1, e2, e3, e4, e5, e6, e7⟩ := mcells (old_block hb1.out HP.out))
    go_ret
    exact ⟨rfl, below_of (HB.out _ _) hb1.out⟩
set_option maxRecDepth 20000 in
set_option maxHeartbeats 8000000 in
theorem encl_no (w : World) (m : Ms) (a : Option Addr) (c : Nat) (hc : Came w m a c) (hok : okM m = false) (h3 : ¬ (5000 : Int) < (m.bts.length : Int)) (h4 : ¬ (5000 : Int) < (m.nam.size : Int)) : Calls Try.prog 3 #[mv m a c] w fun e w' => e = .returned (.bool true) ∧ Hid (Below w.heap.size w w') := by
  have HB : Hid (∀ (w : World) (X : Obj), Below w.heap.size w (w.alloc X)) := fun w X => (Below.refl _ w).alloc (Nat.le_refl _) X
  have HP : Hid ((w.alloc (mc m a c)).heap[w.heap.size]? = some (mc m a c)) := heap_alloc_new w _
  have HCP : Hid (∀ W, Below w.heap.size w W → Calls Try.prog 10 #[mv m a c] W fun e w' => ∃ a' c', e = .returned (mv m a' c') ∧ Hid (Came w' m a' c' ∧ Below W.heap.size W w')) := fun W hb => copied_any m a c W (hc.later hb)
  have HEN : Hid (∀ W a' c', Came W m a' c' → Calls Try.prog 9 #[mv m a' c'] W fun e w' => e = .returned (.tuple #[.slice none 0 0, .int .i64 210]) ∧ Hid (Below W.heap.size W w')) := fun W a' c' h => enc_no m a' c' W h hok
  have HRI : Hid (∀ W, Calls Try.prog 11 #[mv m a c] W fun e w' => e = .returned (.bool false) ∧ Hid (Below W.heap.size W w')) := fun W => by have := rright_any m a c W hc.fit.bts; rw [hok] at this; exact this
  have HCK : Hid (∀ W a' c', Came W m a' c' → Calls Try.prog 12 #[mv m a' c'] W fun e w' => e = .returned (.int .i64 210) ∧ Hid (Below W.heap.size W w')) := fun W a' c' h => by have := check_any m a' c' W h; rw [chk_no hok] at this; exact this
  clear hc hok
  go_enter Try.func3, Try.ntmps3
  go_wp2_with (first
    | (have gd := hR; go_at_call 10; refine (HCP.out _ HW4.out).mono ?_; rintro e w5 ⟨a5, c5, rfl, hq5⟩)
    | (go_at_call 8; refine (wakes_any _).mono ?_; rintro e w1 ⟨rfl, hb1⟩; have HW1 : Hid (Below w.heap.size w w1) := below_of (HB.out _ _) hb1.out; have HP1 : Hid (w1.heap[w.heap.size]? = some (mc m a c)) := (show _ = _ from old_block hb1.out HP.out); obtain ⟨e0, e1, e2, e3, e4, e5, e6, e7⟩ := mcells HP1.out)
    | (go_at_call 10; refine (HCP.out w1 HW1.out).mono ?_; rintro e w2 ⟨a2, c2, rfl, hq2⟩)
    | (go_at_call 9; refine (HEN.out w2 a2 c2 hq2.out.1).mono ?_; rintro e w3 ⟨rfl, hb3⟩; have HP3 : Hid (w3.heap[w.heap.size]? = some (mc m a c)) := (show _ = _ from old_block (below_of hq2.out.2 hb3.out) HP1.out); obtain ⟨f0, f1, f2, f3, f4, f5, f6, f7⟩ := mcells HP3.out)
    | (go_at_call 11; refine (HRI.out w3).mono ?_; rintro e w4 ⟨rfl, hb4⟩; have hR : True := trivial; have HW4 : Hid (Below w.heap.size w w4) := below_of (below_of (below_of HW1.out hq2.out.2) hb3.out) hb4.out; obtain ⟨g0, g1, g2, g3, g4, g5, g6, g7⟩ := mcells (old_block hb4.out HP3.out))
    | (go_at_call 12; refine (HCK.out w5 a5 c5 hq5.out.1).mono ?_; rintro e w6 ⟨rfl, hb6⟩))
  go_ret
  exact ⟨rfl, below_of (below_of HW4.out hq5.out.2) hb6.out⟩
set_option maxRecDepth 20000 in
set_option maxHeartbeats 8000000 in
theorem encl_ok (w : World) (m : Ms) (a : Option Addr) (c : Nat) (hc : Came w m a c) (hok : okM m = true) (h3 : ¬ (5000 : Int) < (m.bts.length : Int)) (h4 : ¬ (5000 : Int) < (m.nam.size : Int)) : Calls Try.prog 3 #[mv m a c] w fun e w' => e = .returned (.bool true) ∧ Hid (Below w.heap.size w w') := by
  have HB : Hid (∀ (w : World) (X : Obj), Below w.heap.size w (w.alloc X)) := fun w X => (Below.refl _ w).alloc (Nat.le_refl _) X
  have HP : Hid ((w.alloc (mc m a c)).heap[w.heap.size]? = some (mc m a c)) := heap_alloc_new w _
  obtain ⟨hl5, hl300⟩ := enc_len hok
  have HBY : Hid (∀ x ∈ encM m, x < 256) := enc_byte hok hc.row.1
  have HCP : Hid (∀ W, Below w.heap.size w W → Calls Try.prog 10 #[mv m a c] W fun e w' => ∃ a' c', e = .returned (mv m a' c') ∧ Hid (Came w' m a' c' ∧ Below W.heap.size W w')) := fun W hb => copied_any m a c W (hc.later hb)
  have HEN : Hid (∀ W a' c', Came W m a' c' → Calls Try.prog 9 #[mv m a' c'] W fun e w' => ∃ g c2, e = .returned (.tuple #[.slice (some ⟨g, 0, none⟩) (encM m).length c2, .int .i64 0]) ∧ Hid (Row w' (some ⟨g, 0, none⟩) (encM m) ∧ Below W.heap.size W w')) := fun W a' c' h => (encode_ok m a' c' W h hok).mono (by rintro e w' ⟨g, c2, rfl, hq⟩; exact ⟨g, c2, rfl, (own_some hq.out.1 HBY.out (by unfold maxLen; omega)).1, hq.out.2⟩)
  have HRI : Hid (∀ W, Calls Try.prog 11 #[mv m a c] W fun e w' => e = .returned (.bool true) ∧ Hid (Below W.heap.size W w')) := fun W => by have := rright_any m a c W hc.fit.bts; rw [hok] at this; exact this
  have HCK : Hid (∀ W a' c', Came W m a' c' → Calls Try.prog 12 #[mv m a' c'] W fun e w' => e = .returned (.int .i64 0) ∧ Hid (Below W.heap.size W w')) := fun W a' c' h => by have := check_any m a' c' W h; rw [chk_ok hok] at this; exact this
  have HBS : Hid (∀ W, Below w.heap.size w W → Calls Try.prog 14 #[mv m a c] W fun e w' => ∃ a' c', e = .returned (.slice a' (encM m).length c') ∧ Hid (Row w' a' (encM m) ∧ Below W.heap.size W w')) := fun W hb => rbytes_any m a c W (hc.later hb) hok
  have HSA : Hid (∀ W g a' c2 c', Row W (some ⟨g, 0, none⟩) (encM m) → Row W a' (encM m) → Calls Try.prog 13 #[.slice (some ⟨g, 0, none⟩) (encM m).length c2, .slice a' (encM m).length c'] W fun e w' => e = .returned (.bool true) ∧ ∃ n, w' = W.drewN n) := fun W g a' c2 c' r1 r2 => by
    have := rsame_any (some ⟨g, 0, none⟩) a' c2 c' (encM m) (encM m) W r1 r2
    rw [decide_eq_true rfl] at this
    exact this
  clear hc hok HBY
  generalize encM m = L at HEN HBS HSA hl5 hl300
  have hl4 : (L.length : Int) ≤ 400 := by omega
  generalize L.length = n at HEN HBS HSA hl4
  clear hl5 hl300
  go_enter Try.func3, Try.ntmps3
  go_wp2_with (first
    | (have gd := hR; go_at_call 10; refine (HCP.out _ HW4.out).mono ?_; rintro e w5 ⟨a5, c5, rfl, hq5⟩)
    | (go_at_call 8; refine (wakes_any _).mono ?_; rintro e w1 ⟨rfl, hb1⟩; have HW1 : Hid (Below w.heap.size w w1) := below_of (HB.out _ _) hb1.out; have HP1 : Hid (w1.heap[w.heap.size]? = some (mc m a c)) := (show _ = _ from old_block hb1.out HP.out); obtain ⟨e0, e1, e2, e3, e4, e5, e6, e7⟩ := mcells HP1.out)
    | (go_at_call 10; refine (HCP.out w1 HW1.out).mono ?_; rintro e w2 ⟨a2, c2, rfl, hq2⟩)
    | (go_at_call 9; refine (HEN.out w2 a2 c2 hq2.out.1).mono ?_; rintro e w3 ⟨g, c3, rfl, hq3⟩; have HP3 : Hid (w3.heap[w.heap.size]? = some (mc m a c)) := (show _ = _ from old_block (below_of hq2.out.2 hq3.out.2) HP1.out); obtain ⟨f0, f1, f2, f3, f4, f5, f6, f7⟩ := mcells HP3.out)
    | (go_at_call 11; refine (HRI.out w3).mono ?_; rintro e w4 ⟨rfl, hb4⟩; have hR : True := trivial; have HW4 : Hid (Below w.heap.size w w4) := below_of (below_of (below_of HW1.out hq2.out.2) hq3.out.2) hb4.out; have HP4 : Hid (w4.heap[w.heap.size]? = some (mc m a c)) := (show _ = _ from old_block hb4.out HP3.out); obtain ⟨g0, g1, g2, g3, g4, g5, g6, g7⟩ := mcells HP4.out)
    | (go_at_call 12; refine (HCK.out w5 a5 c5 hq5.out.1).mono ?_; rintro e w6 ⟨rfl, hb6⟩; have HW6 : Hid (Below w4.heap.size w4 w6) := below_of hq5.out.2 hb6.out; obtain ⟨j0, j1, j2, j3, j4, j5, j6, j7⟩ := mcells (old_block HW6.out HP4.out))
    | (go_at_call 14; refine (HBS.out w6 (below_of HW4.out HW6.out)).mono ?_; rintro e w7 ⟨a7, c7, rfl, hq7⟩)
    | (go_at_call 13; refine (HSA.out w7 g a7 c3 c7 (hq3.out.1.later (below_of (below_of hb4.out HW6.out) hq7.out.2)) hq7.out.1).mono ?_; rintro e w8 ⟨rfl, n8, rfl⟩))
  go_ret
  exact ⟨rfl, below_drewN (below_of (below_of HW4.out HW6.out) hq7.out.2) _⟩
theorem pencodes_any (w : World) (m : Ms) (a : Option Addr) (c : Nat) (hc : Came w m a c) : Calls Try.prog 3 #[mv m a c] w fun e w' => e = .returned (.bool true) ∧ Hid (Below w.heap.size w w') := by
  by_cases h3 : (5000 : Int) < (m.bts.length : Int)
  · exact encl_big w m a c (.inl (by simpa using h3))
  · by_cases h4 : (5000 : Int) < (m.nam.size : Int)
    · exact encl_big w m a c (.inr ⟨by simpa using h3, by simpa using h4⟩)
    · cases hok : okM m with
      | false => exact encl_no w m a c hc hok h3 h4
      | true => exact encl_ok w m a c hc hok h3 h4
end Go.Proofs.Ytfkkaihnmnjadaa
