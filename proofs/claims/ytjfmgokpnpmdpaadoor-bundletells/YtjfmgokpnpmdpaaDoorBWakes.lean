/- the laws' own: one, wakes, copied. -/
import Derived.Test.YtjfmgokpnpmdpaaDoorBDec
namespace Go.Proofs.YtjfmgokpnpmdpaaDoor
open Go.RowKit
set_option linter.unusedVariables false
def oneB : Bn := ⟨1, 2, 1, 0, 10, 4, 0, 1, 0, 2, [5, 6]⟩
theorem one_ok : okB oneB = true := by decide
theorem one_len : (encB oneB).length = 23 := by decide +kernel
theorem one_head : (encB oneB).getD 0 0 = 131 := by decide +kernel
theorem one_exp : expB oneB 10 = true := by decide
theorem one_row {w : World} {h : Nat} (e : w.heap.size = h) : Row (w.alloc (.cells #[.int .u8 5, .int .u8 6] 5)) (some ⟨h, 0, none⟩) [5, 6] := by
  subst e
  have hg := heap_alloc_new w (.cells #[.int .u8 5, .int .u8 6] 5)
  refine ⟨by simp, by simp [maxLen], fun _ => ⟨_, _, rfl, fun i hi => ?_⟩⟩
  rw [cell_of hg, Nat.zero_add]
  match i, hi with
  | 0, _ => rfl
  | 1, _ => rfl
  | i + 2, hi => simp at hi; omega
theorem one_fit : Bz oneB := by
  refine ⟨?_, ?_, ?_, ?_, ?_, ?_, ?_, ?_, ?_, ?_, ?_⟩
  all_goals first | (unfold in64; decide) | decide
set_option maxRecDepth 20000 in
set_option maxHeartbeats 2000000 in
theorem one_any (w : World) : Calls Tryd.prog 25 #[] w fun e w' => ∃ a, e = .returned (bv oneB a 2) ∧ Hid (Row w' a oneB.pay ∧ Below w.heap.size w w') := by
  go_enter Tryd.func25, Tryd.ntmps25
  go_wp2
  refine bodyPost_ret (v := bv oneB (some ⟨w.heap.size + 1, 0, none⟩) 2) (by simp [results, Tryd.results25, go_sem, oneB]) rfl ?_
  exact ⟨_, rfl, one_row (by simp), ((Below.refl _ w).alloc (Nat.le_refl _) _).alloc (by simp) _⟩
set_option maxRecDepth 20000 in
set_option maxHeartbeats 4000000 in
theorem wakes_any (V : List Nat → Bool) (TB : World → Prop) (hT : Txt V TB) (w : World) (hw : TB w) (h1 : 1 < w.heap.size) :
    Calls Tryd.prog 9 #[] w fun e w' => e = .returned (.bool true) ∧ Hid (Below w.heap.size w w') := by
  have HTX : Hid (Txt V TB) := hT
  have HW : Hid (∀ w1, Below w.heap.size w w1 → TB w1) := fun w1 hb => hT.later _ _ hw hb
  have HB : Hid (∀ (w : World) (X : Obj), Below w.heap.size w (w.alloc X)) := fun w X => (Below.refl _ w).alloc (Nat.le_refl _) X
  have HEN : Hid (∀ W a, Below w.heap.size w W → Row W a oneB.pay → Calls Tryd.prog 10 #[bv oneB a 2] W fun e w' => ∃ g o c, e = .returned (.tuple #[.slice (some ⟨g, o, none⟩) 23 c, .int .i64 0]) ∧ Hid (Row w' (some ⟨g, o, none⟩) (encB oneB) ∧ w'.cell? ⟨g, o, none⟩ = some (.int .u8 131) ∧ Below W.heap.size W w')) := fun W a hb hr => by
    refine (encode9_any V TB hT oneB W a 2 one_fit (HW.out W hb) hr (by decide) (by decide)).mono ?_
    rintro e w' (⟨_, a', c', rfl, hq⟩ | ⟨hno, _⟩)
    · rw [one_len]
      obtain ⟨g, o, rfl, hc⟩ := hq.out.1.2.2 (by rw [one_len]; omega)
      refine ⟨g, o, c', rfl, hq.out.1, ?_, hq.out.2.2.2.2⟩
      have := hc 0 (by rw [one_len]; omega)
      rw [one_head] at this
      exact this
    · rw [one_ok] at hno; cases hno
  have HDE : Hid (∀ W a c, Below w.heap.size w W → Row W a (encB oneB) → Calls Tryd.prog 17 #[.slice a 23 c] W fun e w' => ∃ a' c', e = .returned (.tuple #[bv oneB a' c', .int .i64 0]) ∧ Hid (Below W.heap.size W w')) := fun W a c hb hr => by
    have h2 := decode9_any V TB hT W a c (encB oneB) (HW.out W hb) hr (by rw [one_len]; omega) (by have := hb.size; omega)
    rw [one_len] at h2
    refine h2.mono ?_
    have h3 : decBn V (encB oneB) = (0, oneB) := dec_encB V oneB one_ok (by decide) (by decide)
    unfold Dec9
    rw [h3]
    rintro e w' (⟨_, a', c', rfl, hq⟩ | ⟨hno, _⟩)
    · exact ⟨a', c', rfl, hq.out.2.2.2.2⟩
    · rcases hno with h | h <;> cases h
  have HEX : Hid (∀ W a, Calls Tryd.prog 23 #[bv oneB a 2, .int .i64 10] W fun e w' => e = .returned (.bool true) ∧ Hid (Below W.heap.size W w')) := fun W a => by
    rw [← one_exp]; exact expired_any oneB a 2 10 W (by decide)
  clear hT hw
  go_enter Tryd.func9, Tryd.ntmps9
  go_wp2_with (first
    | (go_at_call 23; refine (HEX.out _ a6).mono ?_; rintro e w7 ⟨rfl, hq7⟩)
    | (go_at_call 25; have hq3' := hq3; refine (one_any _).mono ?_; rintro e w6 ⟨a6, rfl, hq6⟩)
    | (go_at_call 17; refine (HDE.out _ _ _ (below_of hq1.out.2 hq2.out.2.2) hq2.out.1).mono ?_; rintro e w3 ⟨a3, c3, rfl, hq3⟩; have k0 : ∀ X, (w3.alloc X).cell? ⟨g, o, none⟩ = some (.int .u8 131) := (fun X => cell_later (below_of hq3.out (HB.out w3 X)) hq2.out.2.1))
    | (go_at_call 10; refine (HEN.out _ a1 hq1.out.2 hq1.out.1).mono ?_; rintro e w2 ⟨g, o, c2, rfl, hq2⟩)
    | (go_at_call 25; refine (one_any _).mono ?_; rintro e w1 ⟨a1, rfl, hq1⟩))
  go_ret
  exact ⟨rfl, below_of (below_of (below_of (below_of (below_of hq1.out.2 hq2.out.2.2) hq3.out) (HB.out w3 _)) hq6.out.2) hq7.out⟩
end Go.Proofs.YtjfmgokpnpmdpaaDoor
