/- The walk of SdnvGets. -/
import Derived.Test.YthhoafhkdioboaaSOwn
import Derived.Test.YthhoafhkdioboaaHRows
namespace Go.Proofs.Ythhoafhkdioboaa
open Go.RowKit
set_option linter.unusedVariables false

set_option maxRecDepth 20000 in
set_option maxHeartbeats 2000000 in
theorem gets_any (w : World) (a : Option Addr) (c : Nat) (l : List (List Nat)) (hr : BytesAt w a l) (hz : l.length ≤ 140737488351232) :
    Calls Try.prog 4 #[.slice a l.length c] w fun e w' => e = .returned (.bool true) ∧ Hid (Below w.heap.size w w') := by
  have HWK := wakes_any w
  have HR : Hid (BytesAt w a l) := hr
  clear hr
  go_enter Try.func4, Try.ntmps4
  go_wp2_with (go_at_call 9; refine HWK.mono ?_; rintro e w1 ⟨rfl, hb1⟩)
  go_loopw [16] (fun i wr => ∃ k : Nat, k ≤ l.length ∧ i = .int .i64 k ∧ Hid (Below w.heap.size w wr)) (fun i _ => l.length - (intOf i).toNat)
  case atStart => exact ⟨0, by omega, rfl, hb1.out⟩
  case round =>
    obtain ⟨k, hk, rfl, HD⟩ := hrel
    by_cases hlt : k < l.length
    · obtain ⟨b0, o0, e0, hc⟩ := (HR.out.later HD.out).2 (by omega)
      obtain ⟨a1, c1, d1, g1, g2, g3⟩ := hc k hlt
      subst e0
      clear hc
      generalize l[k] = s at d1 g1 g2 g3
      by_cases h40 : k = 40
      · have hbk : ((k : Int) == 40) = true := by simp; omega
        clear h40 g1
        go_wp2
        go_ret
        exact ⟨rfl, HD.out⟩
      · have hbk : ((k : Int) == 40) = false := by simp; omega
        clear h40
        obtain ⟨M, L, HL, HM, hMc, hML⟩ : ∃ M L, Hid (Row wr a1 L) ∧ Hid (L.length = M) ∧ M ≤ c1 ∧ ((300 < s.length ∧ M = 300) ∨ (¬ 300 < s.length ∧ M = s.length)) := by
          by_cases hbig : 300 < s.length
          · exact ⟨300, s.take 300, row_take g1 300, by show _ = _; rw [List.length_take]; omega, by omega, .inl ⟨hbig, rfl⟩⟩
          · exact ⟨s.length, s, g1, rfl, by omega, .inr ⟨hbig, rfl⟩⟩
        have hM3 : M ≤ 300 := by omega
        clear g1
        have HOW : Calls Try.prog 10 #[.slice a1 M c1] wr fun e w' => ∃ g cap, e = .returned (.slice (some ⟨g, 0, none⟩) M cap) ∧ Hid (Own wr w' g cap L) := by
          have := own_any wr a1 c1 L HL.out (by have := HM.out; omega)
          rw [HM.out] at this
          exact this
        obtain ⟨x, y, E, HXY⟩ : ∃ x y E, Hid (getS L = (x, y, E)) := ⟨_, _, _, rfl⟩
        have HG : ∀ w2 g cap, Own wr w2 g cap L → Calls Try.prog 16 #[.slice (some ⟨g, 0, none⟩) M cap] w2 fun e w' => e = .returned (.tuple #[.int .u64 (x : Nat), .int .i64 (y : Nat), .int .i64 E]) ∧ w2 = w' := fun w2 g cap h => by
          have hrow : Row w2 (some ⟨g, 0, none⟩) L := by have := row_take h.row L.length; rw [List.take_left] at this; exact this
          have := get_any w2 _ cap L hrow (by have := HM.out; omega)
          rw [HM.out, HXY.out] at this
          exact this
        have HF : ∀ w2, Below wr.heap.size wr w2 → Calls Try.prog 17 #[.slice a1 M c1] w2 fun e w' => e = .returned (.tuple #[.int .u64 (x : Nat), .int .i64 (y : Nat), .int .i64 E]) ∧ w2 = w' := fun w2 h => by
          have := rget_any w2 a1 c1 L (HL.out.later h) (by have := HM.out; omega)
          rw [HM.out, HXY.out] at this
          exact this
        have HE : ∀ w2 g cap, Own wr w2 g cap L → Calls Try.prog 13 #[.slice (some ⟨g, 0, none⟩) M cap, .slice a1 M c1] w2 fun e w' => e = .returned (.bool true) ∧ w' = w2 := fun w2 g cap h => by
          have hrow : Row w2 (some ⟨g, 0, none⟩) L := by have := row_take h.row L.length; rw [List.take_left] at this; exact this
          have := bytesEqual_any (some ⟨g, 0, none⟩) a1 cap c1 L L w2 hrow (HL.out.later h.below)
          rw [HM.out] at this
          simpa using this
        have hx : ((x : Int) != (x : Int)) = false := by simp
        have hy : ((y : Int) != (y : Int)) = false := by simp
        have hE : (E != E) = false := by simp
        rcases hML with ⟨hbig, rfl⟩ | ⟨hbig, rfl⟩
        all_goals
          go_wp2_with (first | (go_at_call 10; refine HOW.mono ?_; rintro e w2 ⟨g, cap, rfl, HO⟩) | (go_at_call 16; refine (HG _ _ _ HO.out).mono ?_; rintro e w3 ⟨rfl, rfl⟩) | (go_at_call 17; refine (HF _ HO.out.below).mono ?_; rintro e w3 ⟨rfl, rfl⟩) | (go_at_call 13; refine (HE _ _ _ HO.out).mono ?_; rintro e w3 ⟨rfl, rfl⟩))
          go_roundw
          case rel => exact ⟨k + 1, by omega, by go_num, below_of HD.out HO.out.below⟩
          case measure => simp [intOf]; omega
    · go_wp2
      go_ret
      exact ⟨rfl, HD.out⟩
end Go.Proofs.Ythhoafhkdioboaa
