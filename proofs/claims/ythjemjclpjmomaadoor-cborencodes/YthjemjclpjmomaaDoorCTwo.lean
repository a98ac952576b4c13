/- The walk of CborTwo. -/
import Derived.Test.YthjemjclpjmomaaDoorCBuilt
import Derived.Test.YthjemjclpjmomaaDoorCFlats
import Derived.Test.YthjemjclpjmomaaDoorCWakes
import Derived.Test.YthjemjclpjmomaaDoorCSame
import Derived.RegionTactic
import Derived.Deep.RegionLaw
import Derived.Deep.RegionWith
namespace Go.Proofs.YthjemjclpjmomaaDoor
open Go.RowKit
set_option linter.unusedVariables false

theorem FlatsAt.later {w w' : World} {a : Option Addr} {L : List FT} (h : FlatsAt w a L) (hb : Below w.heap.size w w') : FlatsAt w' a L := by
  refine ⟨h.1, fun h0 => ?_⟩
  obtain ⟨fb, fo, e, hc⟩ := h.2 h0
  refine ⟨fb, fo, e, fun i hi => ?_⟩
  obtain ⟨a1, c1, a2, n2, c2, ⟨f0, f1, f2, f3, f4, f5⟩, fB, fR, fC⟩ := hc i hi
  exact ⟨a1, c1, a2, n2, c2, ⟨cell_later hb f0, cell_later hb f1, cell_later hb f2, cell_later hb f3, cell_later hb f4, cell_later hb f5⟩, fB, fR.later hb, fC⟩

set_option maxRecDepth 20000 in
set_option maxHeartbeats 8000000 in
theorem two_any (V : List Nat → Bool) (TB : World → Prop) (hT : Txt V TB) (w : World) (a : Option Addr) (c : Nat) (L : List FT) (b : Option Addr) (d : Nat) (M : List FT) (hw : TB w) (h1 : 1 < w.heap.size) (hL : FlatsAt w a L) (hM : FlatsAt w b M) :
    Calls Tryd.prog 6 #[.slice a L.length c, .slice b M.length d] w fun e w' => e = .returned (.bool true) ∧ Hid (Below w.heap.size w w') := by
  have HTX : Hid (Txt V TB) := hT
  have HW : Hid (∀ w1, Below w.heap.size w w1 → TB w1) := fun w1 hb => hT.later _ _ hw hb
  have HWK := wakes_any V TB hT w hw h1
  have HBU : Hid (∀ w1, Below w.heap.size w w1 → Calls Tryd.prog 8 #[.slice a L.length c] w1 fun e w' => ∃ x a1 c1 a2 c2, e = .returned (iv x a1 c1 a2 c2) ∧ Hid (Lie (fun _ => False) w' 9 a1 x a2 ∧ (bs x).length ≤ c1 ∧ Below w1.heap.size w1 w')) := fun w1 hb => built_any w1 a c L (hL.later hb)
  have HBV : Hid (∀ w1, Below w.heap.size w w1 → Calls Tryd.prog 8 #[.slice b M.length d] w1 fun e w' => ∃ x a1 c1 a2 c2, e = .returned (iv x a1 c1 a2 c2) ∧ Hid (Lie (fun _ => False) w' 9 a1 x a2 ∧ (bs x).length ≤ c1 ∧ Below w1.heap.size w1 w')) := fun w1 hb => built_any w1 b d M (hM.later hb)
  clear hT hw hL hM
  go_enter Tryd.func6, Tryd.ntmps6
  go_wp2_with (first | (go_at_call 7; refine HWK.mono ?_; rintro e w1 ⟨rfl, hb1⟩) | (go_at_call 8; first | (refine (HBV.out w2 hbw2).mono ?_; rintro e w3 ⟨y, e1, f1, e2, f2, rfl, hq3⟩; have hbw3 : Below w.heap.size w w3 := below_of hbw2 hq3.out.2.2) | (refine (HBU.out w1 hb1.out).mono ?_; rintro e w2 ⟨x, a1, c1, a2, c2, rfl, hq2⟩; have hbw2 : Below w.heap.size w w2 := below_of hb1.out hq2.out.2.2)))
  obtain ⟨W4, hW4⟩ : ∃ W4, (w3.alloc (ic x a1 c1 a2 c2)).alloc (ic y e1 f1 e2 f2) = W4 := ⟨_, rfl⟩
  have hb4 : Below w3.heap.size w3 W4 := by rw [← hW4]; exact ((Below.refl _ w3).alloc (Nat.le_refl _) _).alloc (by simp) _
  have l5 : W4.heap[w3.heap.size]? = some (ic x a1 c1 a2 c2) := by
    rw [← hW4, Below.heap_alloc _ _ _ (by simp)]; exact heap_alloc_new _ _
  have l6 : W4.heap[w3.heap.size + 1]? = some (ic y e1 f1 e2 f2) := by
    rw [← hW4]
    have := heap_alloc_new (w3.alloc (ic x a1 c1 a2 c2)) (ic y e1 f1 e2 f2)
    simpa using this
  rw [hW4]
  clear hW4
  have hbw4 : Below w.heap.size w W4 := below_of hbw3 hb4
  have HLX : Hid (Lie (fun _ => False) W4 9 a1 x a2) := (hq2.out.1.later hq3.out.2.2).later hb4
  have HLY : Hid (Lie (fun _ => False) W4 9 e1 y e2) := hq3.out.1.later hb4
  have x0 := cell_of l5 0
  have x1 := cell_of l5 1
  have x2 := cell_of l5 2
  have x3 := cell_of l5 3
  have y0 := cell_of l6 0
  have y1 := cell_of l6 1
  have y2 := cell_of l6 2
  have y3 := cell_of l6 3
  simp at x0 x1 x2 x3 y0 y1 y2 y3
  clear l5 l6
  refine (encode_any V TB HTX.out _ W4 9 (by omega) x a1 a2 c1 c2 (HW.out W4 hbw4) HLX.out hq2.out.2.1).mono ?_
  rintro e w5 (⟨okx, a5, c5, rfl, hq5⟩ | ⟨nox, rfl, hq5⟩)
  · have hb5 := hq5.out.2.2.2.2
    have hbw5 := below_of hbw4 hb5
    have x0 := cell_later hb5 x0
    have x1 := cell_later hb5 x1
    have x2 := cell_later hb5 x2
    have x3 := cell_later hb5 x3
    have y0 := cell_later hb5 y0
    have y1 := cell_later hb5 y1
    have y2 := cell_later hb5 y2
    have y3 := cell_later hb5 y3
    go_wp2_with (go_at_call 7)
    refine (encode_any V TB HTX.out _ w5 9 (by omega) y e1 e2 f1 f2 (HW.out w5 hbw5) (HLY.out.later hb5) hq3.out.2.1).mono ?_
    rintro e w6 (⟨oky, a6, c6, rfl, hq6⟩ | ⟨noy, rfl, hq6⟩)
    · have hb6 := hq6.out.2.2.2.2
      have hbw6 := below_of hbw5 hb6
      have x0 := cell_later hb6 x0
      have x1 := cell_later hb6 x1
      have x2 := cell_later hb6 x2
      have x3 := cell_later hb6 x3
      have y0 := cell_later hb6 y0
      have y1 := cell_later hb6 y1
      have y2 := cell_later hb6 y2
      have y3 := cell_later hb6 y3
      obtain ⟨B, hB⟩ : ∃ B, sameT 9 x y = B := ⟨_, rfl⟩
      have htwo : decide (enc 9 x = enc 9 y) = B := (enc_two V 4 9 x y okx oky (by omega) (Lie.fit 9 HLX.out) (Lie.fit 9 HLY.out)).trans hB
      have HEQ : Hid (∀ W, Below w6.heap.size w6 W → Calls Tryd.prog 20 #[.slice a5 (enc 9 x).length c5, .slice a6 (enc 9 y).length c6] W fun e w' => e = .returned (.bool B) ∧ W = w') := fun W hb => by
        have := equal_any a5 a6 c5 c6 (enc 9 x) (enc 9 y) W ((hq5.out.1.later hb6).later hb) (hq6.out.1.later hb)
        rw [htwo] at this
        exact this
      have HSM : Hid (∀ W, Below w6.heap.size w6 W → Calls Tryd.prog 10 #[iv x a1 c1 a2 c2, iv y e1 f1 e2 f2] W fun e w' => e = .returned (.bool B) ∧ Hid (Below W.heap.size W w')) := fun W hb => by
        have := same_any 9 (fun _ => False) (fun _ => False) W x y a1 a2 e1 e2 c1 c2 f1 f2 (((HLX.out.later hb5).later hb6).later hb) (((HLY.out.later hb5).later hb6).later hb)
        rw [hB] at this
        exact this
      clear htwo hB
      go_wp2
      go_region_with (first | (go_at_call 20; refine (HEQ.out _ (by repeat (first | exact Below.refl _ _ | apply Below.drew | apply below_drewN))).mono ?_; rintro e w' ⟨rfl, rfl⟩) | (go_at_call 10; refine (HSM.out _ (by repeat (first | exact Below.refl _ _ | apply Below.drew | apply below_drewN))).mono ?_; rintro e w7 ⟨rfl, hq7⟩))
      all_goals
        go_wp2
        go_ret
        exact ⟨by first | rfl | simp [Act.put], below_of (below_of hbw6 (by repeat (first | exact Below.refl _ _ | apply Below.drew | apply below_drewN))) hq7.out⟩
    · go_wp2
      go_ret
      exact ⟨rfl, below_of hbw5 hq6.out⟩
  · have hb5 := hq5.out
    have hbw5 := below_of hbw4 hb5
    have x0 := cell_later hb5 x0
    have x1 := cell_later hb5 x1
    have x2 := cell_later hb5 x2
    have x3 := cell_later hb5 x3
    have y0 := cell_later hb5 y0
    have y1 := cell_later hb5 y1
    have y2 := cell_later hb5 y2
    have y3 := cell_later hb5 y3
    go_wp2_with (go_at_call 7)
    refine (encode_any V TB HTX.out _ w5 9 (by omega) y e1 e2 f1 f2 (HW.out w5 hbw5) (HLY.out.later hb5) hq3.out.2.1).mono ?_
    rintro e w6 (⟨oky, a6, c6, rfl, hq6⟩ | ⟨noy, rfl, hq6⟩)
    · go_wp2
      go_ret
      exact ⟨rfl, below_of hbw5 hq6.out.2.2.2.2⟩
    · go_wp2
      go_ret
      exact ⟨rfl, below_of hbw5 hq6.out⟩
end Go.Proofs.YthjemjclpjmomaaDoor
