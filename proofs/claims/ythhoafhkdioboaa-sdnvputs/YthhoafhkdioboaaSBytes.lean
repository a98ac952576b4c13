/- The walk of the reference's Bytes. -/
import Derived.Test.YthhoafhkdioboaaSOwn
namespace Go.Proofs.Ythhoafhkdioboaa
open Go.RowKit
set_option linter.unusedVariables false

theorem made_one {w : World} {base : Nat} (x : Nat) (hx : x < 256) (hb : base ≤ w.heap.size) : (w.alloc (.cells #[.int .u8 (x : Nat)] 5)).ownsRow base 5 1 (.slice (some ⟨w.heap.size, 0, none⟩) 1 1) 1 (cells [x]) :=
  ⟨rfl, .inr ⟨w.heap.size, 1, _, rfl, hb, heap_alloc_new w _, Nat.le_refl _, by simp [maxLen], rfl, rfl⟩⟩
set_option maxRecDepth 20000 in
set_option maxHeartbeats 1000000 in
theorem rbytes_any (w : World) (n : Nat) (hn : n < 18446744073709551616) :
    Calls Try.prog 11 #[.int .u64 n] w fun e w' => ∃ g c, e = .returned (.slice (some ⟨g, 0, none⟩) (sz n) c) ∧ Hid (Row w' (some ⟨g, 0, none⟩) (sd n) ∧ Below w.heap.size w w') := by
  have hsz := sd_len n hn
  have HSZ : Hid (sz n = (hi (n / 128)).length + 1) := sz_eq n
  have hm : n % 128 < 256 := by omega
  have HO0 : Hid (∀ {w : World}, Row (w.alloc (.cells #[.int .u8 ((n : Int) % 128)] 5)) (some ⟨w.heap.size, 0, none⟩) [n % 128]) := fun {w} => by
    have := row_one (w := w) (n % 128) hm
    rw [show ((n % 128 : Nat) : Int) = (n : Int) % 128 by omega] at this
    exact this
  generalize sz n = Z at *
  go_enter Try.func11, Try.ntmps11
  go_wp2
  go_loopw [0, 3] (fun u v wr => ∃ (q j g c : Nat) (T : List Nat), u = .int .u64 q ∧ v = .slice (some ⟨g, 0, none⟩) (j + 1) c ∧ q < 18446744073709551616 ∧ j ≤ 10 ∧ Hid (T.length = j ∧ hi q ++ T = hi (n / 128) ∧ Row wr (some ⟨g, 0, none⟩) (T ++ [n % 128]) ∧ Below w.heap.size w wr)) (fun u _ _ => (intOf u).toNat)
  case atStart => exact ⟨n / 128, 0, w.heap.size, 1, [], by simp, rfl, by omega, by omega, rfl, by simp, HO0.out, (Below.refl _ _).alloc (Nat.le_refl _) _⟩
  case round =>
    obtain ⟨q, j, g, c, T, rfl, rfl, hq, hj, HD⟩ := hrel
    by_cases h0 : 0 < q
    · have HQ : Hid (hi (q / 128) ++ ((q % 128 + 128) :: T) = hi (n / 128)) := by
        show _ = _
        rw [← HD.out.2.1, hi_step q hq (by omega), List.append_assoc]; rfl
      have hj2 : j + 1 ≤ 10 := by
        have h1 := congrArg List.length HQ.out
        have h3 := HD.out.1
        have h4 := HSZ.out
        simp at h1
        omega
      have hd : q % 128 + 128 < 256 := by omega
      have HMO : Hid (∀ {w : World} {base : Nat}, base ≤ w.heap.size → (w.alloc (.cells #[.int .u8 ((q : Int) % 128 + 128)] 5)).ownsRow base 5 1 (.slice (some ⟨w.heap.size, 0, none⟩) 1 1) 1 (cells [q % 128 + 128])) := fun {w base} hb => by
        have := made_one (w := w) (q % 128 + 128) hd hb
        rw [show ((q % 128 + 128 : Nat) : Int) = (q : Int) % 128 + 128 by omega] at this
        exact this
      have hbw := HD.out.2.2.2.size
      go_wp2_with (at_builtin; refine wpList_append_some rfl _ _ rfl w.heap.size wr.heap.size 1 [q % 128 + 128] 1 (j + 1) rfl (HMO.out hbw) _ _ (T ++ [n % 128]) (by simp [HD.out.1]) rfl (HD.out.2.2.1.later ((Below.refl _ _).alloc (Nat.le_refl _) _)) (by omega) (by simp; omega) ?_; intro g2 c2 w2 ho2 hg2 hc2)
      obtain ⟨h1, h2, h3⟩ := own_some ho2 (fun x hx => by
        rcases List.mem_append.1 hx with h | h
        · rw [List.mem_singleton.1 h]; omega
        · exact HD.out.2.2.1.1 x h) (by simp [maxLen]; have := HD.out.1; omega)
      have HF : Hid (Row w2 (some ⟨g2, 0, none⟩) (((q % 128 + 128) :: T) ++ [n % 128]) ∧ Below w.heap.size w w2) := ⟨by simpa using h1, (HD.out.2.2.2.alloc HD.out.2.2.2.size _).trans (hg2.below (HMO.out hbw) (by simp; omega))⟩
      clear ho2 hg2 h1 h2 h3
      go_roundw
      case rel => exact ⟨q / 128, j + 1, g2, c2, (q % 128 + 128) :: T, by simp, by rw [Nat.add_comm 1 (j + 1)], by omega, hj2, by simp [HD.out.1], HQ.out, HF.out.1, HF.out.2⟩
      case measure => simp [intOf]; omega
    · obtain rfl : q = 0 := by omega
      have HT : Hid (T = hi (n / 128)) := by show _ = _; have := HD.out.2.1; rw [hi_zero] at this; simpa using this
      have HZ : Hid (Z = j + 1) := by show _ = _; have h1 := HD.out.1; rw [HT.out] at h1; have := HSZ.out; omega
      go_wp2
      go_ret
      refine ⟨g, c, by rw [HZ.out]; rfl, ?_, HD.out.2.2.2⟩
      have := HD.out.2.2.1
      rw [HT.out] at this
      exact this
end Go.Proofs.Ythhoafhkdioboaa
