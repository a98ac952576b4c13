/- The walk of SdnvOnce. -/
import Derived.Test.YthhoafhkdioboaaSWakes
namespace Go.Proofs.Ythhoafhkdioboaa
open Go.RowKit
set_option linter.unusedVariables false

theorem row_take {w : World} {a : Option Addr} {l : List Nat} (h : Row w a l) (n : Nat) : Row w a (l.take n) := by
  refine ⟨fun x hx => h.1 x (List.mem_of_mem_take hx), by have := h.2.1; rw [List.length_take]; omega, fun h0 => ?_⟩
  rw [List.length_take] at h0
  obtain ⟨b, o, rfl, hc⟩ := h.2.2 (by omega)
  refine ⟨b, o, rfl, fun i hi => ?_⟩
  rw [List.length_take] at hi
  rw [hc i (by omega), List.getD_eq_getElem?_getD, List.getD_eq_getElem?_getD, List.getElem?_take_of_lt (by omega)]
theorem row_nil (w : World) (a : Option Addr) : Row w a [] := ⟨by simp, by simp, fun h => absurd h (by simp)⟩
/-- what Get tells of the first M bytes. -/
def Gets (w : World) (a : Option Addr) (c M : Nat) (n k e : Int) : Prop := ∀ w1, Below w.heap.size w w1 → Calls Try.prog 16 #[.slice a M c] w1 fun en w' => en = .returned (.tuple #[.int .u64 n, .int .i64 k, .int .i64 e]) ∧ w1 = w'
theorem gets_of {w : World} {a : Option Addr} {c M : Nat} {L : List Nat} (hr : Row w a L) (hM : L.length = M) (hz : M ≤ 140737488351232) : Gets w a c M ((getS L).1 : Nat) ((getS L).2.1 : Nat) (getS L).2.2 := by
  subst hM
  exact fun w1 hb => get_any w1 a c L (hr.later hb) hz
theorem gets_no {w : World} {a : Option Addr} {c M : Nat} {L : List Nat} {e : Int} (hr : Row w a L) (hM : L.length = M) (hz : M ≤ 140737488351232) (h : getS L = (0, 0, e)) : Gets w a c M 0 0 e := by
  have := gets_of (c := c) hr hM hz
  rw [h] at this
  exact this
set_option maxRecDepth 20000 in
set_option maxHeartbeats 1000000 in
theorem once_err (w : World) (a : Option Addr) (c : Nat) (l : List Nat) (M : Nat) (E : Int) (hE : (E == 7) = true ∨ (E == 7) = false ∧ ((E == 3) = true ∨ (E == 3) = false ∧ (E == 180) = true)) (h0 : (E != 0) = true) (hML : (300 < l.length ∧ M = 300) ∨ (¬ 300 < l.length ∧ M = l.length)) (hcap : l.length ≤ c) (HG : Gets w a c M 0 0 E) :
    Calls Try.prog 7 #[.slice a l.length c] w fun e w' => e = .returned (.bool true) ∧ Hid (Below w.heap.size w w') := by
  have HWK := wakes_any w
  rcases hML with ⟨hbig, rfl⟩ | ⟨hbig, rfl⟩
  all_goals
    rcases hE with h7 | ⟨h7, h3 | ⟨h3, h1⟩⟩
    all_goals
      go_enter Try.func7, Try.ntmps7
      go_wp2_with (first | (go_at_call 9; refine HWK.mono ?_; rintro e w1 ⟨rfl, hb1⟩) | (go_at_call 16; refine (HG _ hb1.out).mono ?_; rintro e w2 ⟨rfl, rfl⟩))
      go_ret
      exact ⟨rfl, hb1.out⟩
set_option maxRecDepth 20000 in
set_option maxHeartbeats 1000000 in
theorem once_ok (w : World) (a : Option Addr) (c : Nat) (l L : List Nat) (M n k : Nat) (hR : Hid (Row w a L)) (k1 : 1 ≤ k) (k2 : k ≤ M) (k4 : n < 18446744073709551616) (HK3 : Hid (L.take k = sd n)) (hML : (300 < l.length ∧ M = 300) ∨ (¬ 300 < l.length ∧ M = l.length)) (hcap : l.length ≤ c) (HG : Gets w a c M (n : Nat) (k : Nat) 0)
    (HP : ∀ w1, Calls Try.prog 12 #[.slice none 0 0, .int .u64 n] w1 fun e w' => e = .returned (.slice (some ⟨w1.heap.size, 0, none⟩) k k) ∧ Hid (Bs w' w1.heap.size (sd n) ∧ Below w1.heap.size w1 w'))
    (HE : ∀ w1 g c1 w2, Row w1 (some ⟨g, 0, none⟩) (sd n) → Row w1 a L → w1 = w2 → Calls Try.prog 13 #[.slice (some ⟨g, 0, none⟩) k c1, .slice a k c] w1 fun e w' => e = .returned (.bool true) ∧ w' = w2) :
    Calls Try.prog 7 #[.slice a l.length c] w fun e w' => e = .returned (.bool true) ∧ Hid (Below w.heap.size w w') := by
  have HWK := wakes_any w
  have hk1 : decide ((1 : Int) ≤ (k : Int)) = true := by simp; omega
  have hk5 : (0 : Int) ≤ (k : Int) := by omega
  have hk6 : (k : Int) ≤ (c : Int) := by omega
  have hk7 : k ≤ c := by omega
  rcases hML with ⟨hbig, rfl⟩ | ⟨hbig, rfl⟩
  · have hk2 : decide ((k : Int) ≤ 300) = true := by simp; omega
    go_enter Try.func7, Try.ntmps7
    go_wp2_with (first | (go_at_call 9; refine HWK.mono ?_; rintro e w1 ⟨rfl, hb1⟩) | (go_at_call 16; refine (HG _ hb1.out).mono ?_; rintro e w2 ⟨rfl, rfl⟩))
    have hX : Below w.heap.size w w1.drew := hb1.out.drew
    go_region_held3 (fun W => True) (trivial) (first
      | (go_at_call 12; refine (HP _).mono ?_; rintro e w3 ⟨rfl, HQ⟩; have hX := hX.trans (HQ.out.2.mono hX.size))
      | (go_at_call 13; refine (HE _ _ _ _ HQ.out.1.row (hR.out.later hX) rfl).mono ?_; rintro e w4 ⟨rfl, rfl⟩))
    all_goals
      go_wp2
      go_ret
      exact ⟨rfl, hX⟩
  · have hk2 : decide ((k : Int) ≤ (l.length : Int)) = true := by simp; omega
    go_enter Try.func7, Try.ntmps7
    go_wp2_with (first | (go_at_call 9; refine HWK.mono ?_; rintro e w1 ⟨rfl, hb1⟩) | (go_at_call 16; refine (HG _ hb1.out).mono ?_; rintro e w2 ⟨rfl, rfl⟩))
    have hX : Below w.heap.size w w1.drew := hb1.out.drew
    go_region_held3 (fun W => True) (trivial) (first
      | (go_at_call 12; refine (HP _).mono ?_; rintro e w3 ⟨rfl, HQ⟩; have hX := hX.trans (HQ.out.2.mono hX.size))
      | (go_at_call 13; refine (HE _ _ _ _ HQ.out.1.row (hR.out.later hX) rfl).mono ?_; rintro e w4 ⟨rfl, rfl⟩))
    all_goals
      go_wp2
      go_ret
      exact ⟨rfl, hX⟩
theorem once_any (w : World) (a : Option Addr) (c : Nat) (l : List Nat) (hr : Row w a l) (hz : l.length ≤ 140737488351232) (hcap : l.length ≤ c) :
    Calls Try.prog 7 #[.slice a l.length c] w fun e w' => e = .returned (.bool true) ∧ Hid (Below w.heap.size w w') := by
  obtain ⟨M, L, HR, HM, hMc, hML⟩ : ∃ M L, Hid (Row w a L) ∧ Hid (L.length = M) ∧ M ≤ c ∧ ((300 < l.length ∧ M = 300) ∨ (¬ 300 < l.length ∧ M = l.length)) := by
    by_cases hbig : 300 < l.length
    · exact ⟨300, l.take 300, row_take hr 300, by show _ = _; rw [List.length_take]; omega, by omega, .inl ⟨hbig, rfl⟩⟩
    · exact ⟨l.length, l, hr, rfl, by omega, .inr ⟨hbig, rfl⟩⟩
  have hM3 : M ≤ 300 := by omega
  rcases get_err L with ⟨n, k, hg⟩ | hg | hg | hg
  · obtain ⟨k1, k2, k3, k4⟩ := get_sound L n k HR.out.1 hg
    have HG : Gets w a c M (n : Nat) (k : Nat) 0 := by have := gets_of (c := c) HR.out HM.out (by omega); rw [hg] at this; exact this
    have hzk : sz n = k := by
      unfold sz
      rw [← k3, List.length_take]
      omega
    rw [HM.out] at k2
    refine once_ok w a c l L M n k HR k1 k2 k4 k3 hML hcap HG (fun w1 => ?_) (fun w1 g c1 w2 h1 h2 e => ?_)
    · have := put_any w1 none 0 [] n (row_nil _ _) (by simp) k4
      rw [hzk] at this
      simpa using this
    · subst e
      have := bytesEqual_any (some ⟨g, 0, none⟩) a c1 c (sd n) (L.take k) w1 h1 (row_take h2 k)
      rw [k3, show (sd n).length = k from hzk] at this
      simpa using this
  · exact once_err w a c l M 7 (.inl rfl) rfl hML hcap (gets_no HR.out HM.out (by omega) hg)
  · exact once_err w a c l M 3 (.inr ⟨rfl, .inl rfl⟩) rfl hML hcap (gets_no HR.out HM.out (by omega) hg)
  · exact once_err w a c l M 180 (.inr ⟨rfl, .inr ⟨rfl, rfl⟩⟩) rfl hML hcap (gets_no HR.out HM.out (by omega) hg)
end Go.Proofs.Ythhoafhkdioboaa
