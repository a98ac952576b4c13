/- The walk of CborAgain. -/
import Derived.Test.YtheeinlhmbogiaaDoorCWakes
import Derived.Test.YtheeinlhmbogiaaDoorCSame
namespace Go.Proofs.YtheeinlhmbogiaaDoor
open Go.RowKit
set_option linter.unusedVariables false

theorem row_take {w : World} {a : Option Addr} {l : List Nat} (h : Row w a l) (n : Nat) : Row w a (l.take n) := by
  refine ⟨fun x hx => h.1 x (List.mem_of_mem_take hx), by have := h.2.1; rw [List.length_take]; omega, fun h0 => ?_⟩
  rw [List.length_take] at h0
  obtain ⟨b, o, rfl, hc⟩ := h.2.2 (by omega)
  refine ⟨b, o, rfl, fun i hi => ?_⟩
  rw [List.length_take] at hi
  rw [hc i (by omega), List.getD_eq_getElem?_getD, List.getD_eq_getElem?_getD, List.getElem?_take_of_lt (by omega)]

set_option maxRecDepth 20000 in
set_option maxHeartbeats 4000000 in
theorem again_any (V : List Nat → Bool) (TB : World → Prop) (hT : Txt V TB) (w : World) (a : Option Addr) (c : Nat) (l : List Nat) (hw : TB w) (h1 : 1 < w.heap.size) (hr : Row w a l) (hz : l.length ≤ 140737488351232) (hcap : l.length ≤ c) :
    Calls Tryd.prog 6 #[.slice a l.length c] w fun e w' => e = .returned (.bool true) ∧ Hid (Below w.heap.size w w') := by
  have HTX : Hid (Txt V TB) := hT
  have HW : Hid (∀ w1, Below w.heap.size w w1 → TB w1) := fun w1 hb => hT.later _ _ hw hb
  have HWK := wakes_any V TB hT w hw h1
  have HR : Hid (Row w a l) := hr
  clear hT hw hr
  by_cases hbig : 50000 < l.length
  · go_enter Tryd.func6, Tryd.ntmps6
    go_wp2_with (go_at_call 8; refine HWK.mono ?_; rintro e w1 ⟨rfl, hb1⟩)
    go_ret
    exact ⟨rfl, hb1.out⟩
  obtain ⟨D, hD⟩ : ∃ D, dec V 4 l = D := ⟨_, rfl⟩
  by_cases h0 : D.1 = 0
  · obtain ⟨e1, e2, e3⟩ := dec_of V 4 l D.2.1 D.2.2 HR.out.1 (by rw [hD, ← h0])
    have HDEC : Hid (∀ w1, Below w.heap.size w w1 → Calls Tryd.prog 20 #[.slice a l.length c] w1 fun e w' => ∃ a1 c1 a2 c2, e = .returned (.tuple #[iv D.2.1 a1 c1 a2 c2, .int .i64 (((enc 4 D.2.1).length : Nat) : Int), .int .i64 0]) ∧ Hid (Lie (fun k => k < w1.heap.size) w' 4 a1 D.2.1 a2 ∧ (bs D.2.1).length ≤ c1 ∧ Below w1.heap.size w1 w')) := fun w1 hb => by
      have := decode_any V TB HTX.out w1 a c l (HW.out w1 hb) (HR.out.later hb) (by omega) (by have := hb.size; omega)
      rw [hD] at this
      refine this.mono ?_
      rintro e w' (⟨_, a1, c1, a2, c2, rfl, hq⟩ | ⟨hno, _⟩)
      · refine ⟨a1, c1, a2, c2, ?_, hq⟩
        have : l.length - D.2.2.length = (enc 4 D.2.1).length := by
          have := congrArg List.length e1
          rw [List.length_append] at this
          omega
        rw [this]
      · exact absurd h0 hno
    have HENC : Hid (∀ w1 A a1 c1 a2 c2, Below w.heap.size w w1 → Lie A w1 4 a1 D.2.1 a2 → (bs D.2.1).length ≤ c1 → Calls Tryd.prog 10 #[iv D.2.1 a1 c1 a2 c2] w1 fun e w' => ∃ a c, e = .returned (.tuple #[.slice a (enc 4 D.2.1).length c, .int .i64 0]) ∧ Hid (Row w' a (enc 4 D.2.1) ∧ Below w1.heap.size w1 w')) := fun w1 A a1 c1 a2 c2 hb hx hc => by
      refine (encode_any V TB HTX.out A w1 4 (Nat.le_refl _) _ a1 a2 c1 c2 (HW.out w1 hb) hx hc).mono ?_
      rintro e w' (⟨_, a, c, rfl, hq⟩ | ⟨hno, _⟩)
      · exact ⟨a, c, rfl, hq.out.1, hq.out.2.2.2.2⟩
      · rw [e2] at hno; cases hno
    have HTK : Hid (l.take (enc 4 D.2.1).length = enc 4 D.2.1) := by
      show _ = _
      conv => lhs; rw [e1]
      exact List.take_left' rfl
    have hle : (enc 4 D.2.1).length ≤ l.length := by have := congrArg List.length e1; rw [List.length_append] at this; omega
    have HEQ : Hid (∀ w1 a3 c3, Row w1 a3 (enc 4 D.2.1) → Row w1 a l → Calls Tryd.prog 21 #[.slice a3 (enc 4 D.2.1).length c3, .slice a (enc 4 D.2.1).length c] w1 fun e w' => e = .returned (.bool true) ∧ w1 = w') := fun w1 a3 c3 hr3 hrl => by
      have hrt : Row w1 a (enc 4 D.2.1) := by
        rw [← HTK.out]
        exact row_take hrl _
      have := equal_any a3 a c3 c (enc 4 D.2.1) (enc 4 D.2.1) w1 hr3 hrt
      rw [decide_eq_true rfl] at this
      exact this
    clear e1 e2 e3 h0 hD
    generalize hNN : (enc 4 D.2.1).length = N at *
    have HNN : Hid ((enc 4 D.2.1).length = N) := hNN
    clear hNN
    go_enter Tryd.func6, Tryd.ntmps6
    go_wp2_with (first | (go_at_call 8; refine HWK.mono ?_; rintro e w1 ⟨rfl, hb1⟩) | (go_at_call 20; refine (HDEC.out _ hb1.out).mono ?_; rintro e w2 ⟨a1, c1, a2, c2, rfl, hq2⟩; have hbw2 : Below w.heap.size w w2 := below_of hb1.out hq2.out.2.2) | (go_at_call 10; refine (HENC.out _ _ a1 c1 a2 c2 (below_of hbw2 ((Below.refl _ w2).alloc (Nat.le_refl _) _)) (hq2.out.1.later ((Below.refl _ w2).alloc (Nat.le_refl _) _)) hq2.out.2.1).mono ?_; rintro e w3 ⟨a3, c3, rfl, hq3⟩; have hbw3 : Below w.heap.size w w3 := below_of (below_of hbw2 ((Below.refl _ w2).alloc (Nat.le_refl _) _)) hq3.out.2))
    refine (HEQ.out w3 a3 c3 hq3.out.1 (HR.out.later hbw3)).mono ?_
    rintro e w4 ⟨rfl, rfl⟩
    go_wp2
    go_ret
    exact ⟨rfl, hbw3⟩
  · have hcode := dec_code V 4 l
    rw [hD] at hcode
    have HDEC : Hid (∀ w1, Below w.heap.size w w1 → Calls Tryd.prog 20 #[.slice a l.length c] w1 fun e w' => e = .returned (.tuple #[.agg #[.int .i64 0, .int .u64 0, .slice none 0 0, .slice none 0 0], .int .i64 0, .int .i64 D.1]) ∧ Hid (Below w1.heap.size w1 w')) := fun w1 hb => by
      have := decode_any V TB HTX.out w1 a c l (HW.out w1 hb) (HR.out.later hb) (by omega) (by have := hb.size; omega)
      rw [hD] at this
      refine this.mono ?_
      rintro e w' (⟨hno, _⟩ | ⟨_, rfl, hq⟩)
      · exact absurd hno h0
      · exact ⟨rfl, hq⟩
    have HSM : Hid (∀ w1, Calls Tryd.prog 11 #[.agg #[.int .i64 0, .int .u64 0, .slice none 0 0, .slice none 0 0], .agg #[.int .i64 0, .int .u64 0, .slice none 0 0, .slice none 0 0]] w1 fun e w' => e = .returned (.bool true) ∧ Hid (Below w1.heap.size w1 w')) := fun w1 =>
      same_any 1 (fun _ => False) (fun _ => False) w1 (mkI 0 0 [] []) (mkI 0 0 [] []) none none none none 0 0 0 0 (Lie.flat 0 0 [] 0 none (by omega) (by omega) (by simp) ⟨by simp, by simp, fun h => absurd h (by simp)⟩ (fun h => absurd h (by simp))) (Lie.flat 0 0 [] 0 none (by omega) (by omega) (by simp) ⟨by simp, by simp, fun h => absurd h (by simp)⟩ (fun h => absurd h (by simp)))
    have hne : (D.1 != 0) = true := by simpa using h0
    generalize D.1 = E at HDEC hne
    clear h0 hcode hD
    go_enter Tryd.func6, Tryd.ntmps6
    go_wp2_with (first | (go_at_call 8; refine HWK.mono ?_; rintro e w1 ⟨rfl, hb1⟩) | (go_at_call 20; refine (HDEC.out _ hb1.out).mono ?_; rintro e w2 ⟨rfl, hq2⟩; have hbw2 : Below w.heap.size w w2 := below_of hb1.out hq2.out) | (go_at_call 11; refine (HSM.out _).mono ?_; rintro e w3 ⟨rfl, hq3⟩))
    go_ret
    exact ⟨rfl, below_of (below_of hbw2 ((Below.refl _ w2).alloc (Nat.le_refl _) _)) hq3.out⟩
end Go.Proofs.YtheeinlhmbogiaaDoor
