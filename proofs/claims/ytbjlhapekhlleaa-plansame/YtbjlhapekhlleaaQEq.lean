/- The walks of slices.Equal at contacts, and of Same. -/
import Derived.Test.YtbjlhapekhlleaaQSame
namespace Go.Proofs.Ytbjlhapekhlleaa
open Go.RowKit
set_option linter.unusedVariables false
attribute [local go_sem ↓] neqC eqlC
theorem bne_len (m n : Nat) : ((m : Int) != (n : Int)) = !decide (m = n) := by
  by_cases h : m = n <;> simp [h]
  omega
set_option maxHeartbeats 4000000 in
theorem equal_any (m1 m2 k1 k2 : Nat) (a b : Option Addr) (X Y : List Ct) (w : World) (h1 : X.length = m1) (h2 : Y.length = m2) (hm1 : m1 ≤ 9223372036854775806) (hm2 : m2 ≤ 9223372036854775806) (hX : CtAt (fun _ => False) w a X) (hY : CtAt (fun _ => False) w b Y) :
    Calls Try.prog 28 #[.slice a m1 k1, .slice b m2 k2] w fun e w' => e = .returned (.bool (decide (X.length = Y.length) && eqK X Y X.length)) ∧ Below w.heap.size w w' := by
  have HX : Hid (CtAt (fun _ => False) w a X) := hX
  have HY : Hid (CtAt (fun _ => False) w b Y) := hY
  clear hX hY
  by_cases hl : m1 = m2
  · have hb : ((m1 : Int) != (m2 : Int)) = false := by simp [hl]
    have HL : Hid (m1 = m2) := hl
    clear hl
    go_enter Try.func28, Try.ntmps28
    go_wp2
    go_loopw [13] (fun i wr => ∃ k : Nat, k ≤ m1 ∧ i = .int .i64 k ∧ Hid (eqK X Y k = true ∧ Below w.heap.size w wr)) (fun i _ => m1 - (intOf i).toNat)
    case atStart => exact ⟨0, Nat.zero_le _, rfl, rfl, Below.refl _ _⟩
    case round =>
      obtain ⟨k, hk, rfl, HK⟩ := hrel
      by_cases hlt : k < m1
      · obtain ⟨c, hc⟩ : ∃ c, X[k]? = some c := ⟨_, List.getElem?_eq_getElem (by omega)⟩
        obtain ⟨d, hd⟩ : ∃ d, Y[k]? = some d := ⟨_, List.getElem?_eq_getElem (by have := HL.out; omega)⟩
        have hlt2 : k < m2 := by have := HL.out; omega
        obtain ⟨b1, o1, rfl, c0, c1, c2, c3, c4, c5⟩ := (HX.out.later HK.out.2).cells6 hc
        obtain ⟨b2, o2, rfl, d0, d1, d2, d3, d4, d5⟩ := (HY.out.later HK.out.2).cells6 hd
        have HE : Hid (eqK X Y (k + 1) = eqC c d) := by
          show _ = _
          rw [eqK_succ hc hd, HK.out.1, Bool.true_and]
        clear hc hd
        cases he : eqC c d with
        | true =>
          go_wp2_with fail
          go_region
          go_wp2
          go_roundw
          case rel => exact ⟨k + 1, by omega, by go_num, HE.out.trans he, HK.out.2.drew⟩
          case measure => simp [intOf]; omega
        | false =>
          have HF : Hid ((decide (X.length = Y.length) && eqK X Y X.length) = false) := by
            show _ = false
            rw [eqK_le (by omega) (HE.out.trans he), Bool.and_false]
          go_wp2_with fail
          go_region
          go_wp2
          go_ret
          exact ⟨by rw [HF.out]; rfl, HK.out.2.drew⟩
      · have HF : Hid ((decide (X.length = Y.length) && eqK X Y X.length) = true) := by
          show _ = true
          have := HL.out
          obtain rfl : k = X.length := by omega
          rw [HK.out.1, decide_eq_true (by omega)]
          rfl
        go_wp2
        go_ret
        exact ⟨by rw [HF.out]; rfl, HK.out.2⟩
  · have hb : ((m1 : Int) != (m2 : Int)) = true := by simp; omega
    have HF : Hid ((decide (X.length = Y.length) && eqK X Y X.length) = false) := by
      show _ = false
      rw [decide_eq_false (by omega)]
      rfl
    clear hl
    go_enter Try.func28, Try.ntmps28
    go_wp2
    go_ret
    exact ⟨by rw [HF.out]; rfl, Below.refl _ _⟩
set_option maxHeartbeats 4000000 in
theorem same_any (nn mm : Int) (m1 m2 k1 k2 : Nat) (a b : Option Addr) (X Y : List Ct) (w : World) (h1 : X.length = m1) (h2 : Y.length = m2) (hm1 : m1 ≤ 9223372036854775806) (hm2 : m2 ≤ 9223372036854775806) (hX : CtAt (fun _ => False) w a X) (hY : CtAt (fun _ => False) w b Y) :
    Calls Try.prog 17 #[pv nn a m1 k1, pv mm b m2 k2] w fun e w' => e = .returned (.bool (sameP nn mm X Y)) ∧ Below w.heap.size w w' := by
  unfold pv
  have HB : Hid (∀ A B : Obj, Below w.heap.size w ((w.alloc A).alloc B)) := fun A B => ((Below.refl _ w).alloc (Nat.le_refl _) A).alloc (by simp) B
  have HE : Hid (∀ A B : Obj, Calls Try.prog 28 #[.slice a m1 k1, .slice b m2 k2] ((w.alloc A).alloc B) fun e w' => e = .returned (.bool (decide (X.length = Y.length) && eqK X Y X.length)) ∧ Hid (Below w.heap.size w w')) := fun A B => by
    refine (equal_any m1 m2 k1 k2 a b X Y _ h1 h2 hm1 hm2 (hX.later (HB.out A B)) (hY.later (HB.out A B))).mono ?_
    rintro e w' ⟨rfl, hq⟩
    exact ⟨rfl, below_of (HB.out A B) hq⟩
  clear hX hY h1 h2
  by_cases hl : nn = mm
  · have hb : (nn == mm) = true := by simp [hl]
    have HF : Hid (sameP nn mm X Y = (decide (X.length = Y.length) && eqK X Y X.length)) := by
      show _ = _
      rw [sameP, decide_eq_true hl, Bool.true_and]
    clear hl
    go_enter Try.func17, Try.ntmps17
    go_wp2_with (go_at_call 28; refine (HE.out _ _).mono ?_; rintro e w' ⟨rfl, hq⟩)
    go_ret
    exact ⟨by rw [HF.out]; rfl, hq.out⟩
  · have hb : (nn == mm) = false := by simp [hl]
    have HF : Hid (sameP nn mm X Y = false) := by
      show _ = _
      rw [sameP, decide_eq_false hl, Bool.false_and]
    clear hl
    go_enter Try.func17, Try.ntmps17
    go_wp2
    go_ret
    exact ⟨by rw [HF.out]; rfl, HB.out _ _⟩
end Go.Proofs.Ytbjlhapekhlleaa
