/- The walk of the laws' wakes. -/
import Derived.Test.YthjemjclpjmomaaDoorCMake
import Derived.Test.YthjemjclpjmomaaDoorCDecode
import Derived.Test.YthjemjclpjmomaaDoorCPut
namespace Go.Proofs.YthjemjclpjmomaaDoor
open Go.RowKit
set_option linter.unusedVariables false

theorem enc_wakes : enc 4 (mkI 4 0 [] [mkI 1 1 [] [], mkI 2 0 [] []]) = [130, 1, 64] := by decide
theorem ok_wakes (V : List Nat → Bool) : okT V 4 (mkI 4 0 [] [mkI 1 1 [] [], mkI 2 0 [] []]) = true := by rfl
theorem dec_wakes (V : List Nat → Bool) : dec V 4 [26, 0, 1, 0, 0] = (0, mkI 1 65536 [] [], []) := by rfl

theorem two_items {w : World} {a2 : Option Addr} {c2 : Nat} :
    LieL (fun _ => False) (w.alloc (.cells #[.int .i64 1, .int .u64 1, .slice none 0 0, .slice none 0 0, .int .i64 2, .int .u64 0, .slice a2 0 c2, .slice none 0 0] 28)) 1 (some ⟨w.heap.size, 0, none⟩) [mkI 1 1 [] [], mkI 2 0 [] []] := by
  have hg := heap_alloc_new w (.cells #[.int .i64 1, .int .u64 1, .slice none 0 0, .slice none 0 0, .int .i64 2, .int .u64 0, .slice a2 0 c2, .slice none 0 0] 28)
  refine ⟨by simp, fun _ => ⟨_, _, rfl, id, fun i hi => ?_⟩⟩
  have hn : ∀ (W : World) (a : Option Addr), Row W a [] := fun W a => ⟨by simp, by simp, fun h => absurd h (by simp)⟩
  match i, hi with
  | 0, _ => exact ⟨none, 0, none, 0, ⟨by rw [cell_of hg]; rfl, by rw [cell_of hg]; rfl, by rw [cell_of hg]; rfl, by rw [cell_of hg]; rfl⟩, Lie.flat 1 1 [] 0 none (by omega) (by omega) (by simp) (hn _ _) (fun h => absurd h (by simp)), Nat.le_refl _⟩
  | 1, _ => exact ⟨a2, c2, none, 0, ⟨by rw [cell_of hg]; rfl, by rw [cell_of hg]; rfl, by rw [cell_of hg]; rfl, by rw [cell_of hg]; rfl⟩, Lie.flat 2 0 [] 0 none (by omega) (by omega) (by simp) (hn _ _) (fun h => absurd h (by simp)), Nat.zero_le _⟩
  | i + 2, hi => simp at hi; omega

theorem wakes_encode (V : List Nat → Bool) (TB : World → Prop) (hT : Txt V TB) (A : Nat → Prop) (w : World) (a2 : Option Addr) (c2 : Nat) (hw : TB w) (hx : Lie A w 2 none (mkI 4 0 [] [mkI 1 1 [] [], mkI 2 0 [] []]) a2) :
    Calls Tryd.prog 9 #[iv (mkI 4 0 [] [mkI 1 1 [] [], mkI 2 0 [] []]) none 0 a2 c2] w fun e w' => ∃ a c, e = .returned (.tuple #[.slice a 3 c, .int .i64 0]) ∧ Hid (Row w' a [130, 1, 64] ∧ Below w.heap.size w w') := by
  refine (encode_any V TB hT A w 4 (Nat.le_refl _) _ none a2 0 c2 hw (hx.le (by omega)) (Nat.zero_le _)).mono ?_
  rintro e w' (⟨_, a, c, rfl, hq⟩ | ⟨hno, _⟩)
  · rw [enc_wakes] at hq ⊢
    exact ⟨a, c, rfl, hq.out.1, hq.out.2.2.2.2⟩
  · rw [ok_wakes] at hno; cases hno
theorem wakes_decode (V : List Nat → Bool) (TB : World → Prop) (hT : Txt V TB) (w : World) (a : Option Addr) (c : Nat) (hw : TB w) (h1 : 1 < w.heap.size) (hr : Row w a [26, 0, 1, 0, 0]) :
    Calls Tryd.prog 19 #[.slice a 5 c] w fun e w' => ∃ a1 c1 a2 c2, e = .returned (.tuple #[.agg #[.int .i64 1, .int .u64 65536, .slice a1 0 c1, .slice a2 0 c2], .int .i64 5, .int .i64 0]) ∧ Hid (Below w.heap.size w w') := by
  have := decode_any V TB hT w a c [26, 0, 1, 0, 0] hw hr (by simp) h1
  rw [dec_wakes] at this
  refine this.mono ?_
  rintro e w' (⟨_, a1, c1, a2, c2, rfl, hq⟩ | ⟨hno, _⟩)
  · exact ⟨a1, c1, a2, c2, rfl, hq.out.2.2⟩
  · exact absurd rfl hno
theorem five_row {w : World} : Row (w.alloc (.cells #[.int .u8 26, .int .u8 0, .int .u8 1, .int .u8 0, .int .u8 0] 5)) (some ⟨w.heap.size, 0, none⟩) [26, 0, 1, 0, 0] := by
  have hg := heap_alloc_new w (.cells #[.int .u8 26, .int .u8 0, .int .u8 1, .int .u8 0, .int .u8 0] 5)
  refine ⟨by simp, by simp [maxLen], fun _ => ⟨_, _, rfl, fun i hi => ?_⟩⟩
  rw [cell_of hg, Nat.zero_add]
  match i, hi with
  | 0, _ => rfl
  | 1, _ => rfl
  | 2, _ => rfl
  | 3, _ => rfl
  | 4, _ => rfl
  | i + 5, hi => simp at hi; omega

set_option maxRecDepth 20000 in
set_option maxHeartbeats 4000000 in
theorem wakes_any (V : List Nat → Bool) (TB : World → Prop) (hT : Txt V TB) (w : World) (hw : TB w) (h1 : 1 < w.heap.size) :
    Calls Tryd.prog 7 #[] w fun e w' => e = .returned (.bool true) ∧ Hid (Below w.heap.size w w') := by
  have HTX : Hid (Txt V TB) := hT
  have HW : Hid (∀ w1, Below w.heap.size w w1 → TB w1) := fun w1 hb => hT.later _ _ hw hb
  clear hT hw
  go_enter Tryd.func7, Tryd.ntmps7
  go_wp2_with (first | (go_at_call 15; refine (number_made _ 1 (by omega)).mono ?_; rintro e w1 ⟨rfl, hb1⟩) | (go_at_call 16; refine (bytes_made _ none 0 [] ⟨by simp, by simp, fun h => absurd h (by simp)⟩ (by simp)).mono ?_; rintro e w2 ⟨a2, c2, rfl, hb2⟩) | (go_at_call 17; refine (list_made 1 _ _ _ 2 [mkI 1 1 [] [], mkI 2 0 [] []] two_items).mono ?_; rintro e w3 ⟨a3, c3, rfl, hb3⟩; have hbw3 : Below w.heap.size w w3 := below_of (below_of (below_of hb1.out hb2.out.2.2) ((Below.refl _ w2).alloc (Nat.le_refl _) _)) hb3.out.2) | (go_at_call 9; refine (wakes_encode V TB HTX.out _ _ a3 c3 (HW.out _ hbw3) hb3.out.1).mono ?_; rintro e w4 ⟨a4, c4, rfl, hq4⟩; obtain ⟨b4, o4, rfl, hc4⟩ := hq4.out.1.2.2 (by simp); have HC4 : Hid (w4.cell? ⟨b4, o4, none⟩ = some (.int .u8 130)) := hc4 0 (by simp); clear hc4; have hbw4 : Below w.heap.size w w4 := below_of hbw3 hq4.out.2) | (go_at_call 19; refine (wakes_decode V TB HTX.out _ _ 5 (HW.out _ (below_of hbw4 ((Below.refl _ w4).alloc (Nat.le_refl _) _))) (by have := hbw4.size; simp; omega) five_row).mono ?_; rintro e w5 ⟨a5, c5, a6, c6, rfl, hq5⟩; have hbw5 : Below w4.heap.size w4 w5 := below_of ((Below.refl _ w4).alloc (Nat.le_refl _) _) hq5.out; have k0 : ∀ X, (w5.alloc X).cell? ⟨b4, o4, none⟩ = some (.int .u8 130) := (fun X => cell_later ((Below.refl _ w5).alloc (Nat.le_refl _) X) (cell_later hbw5 HC4.out))))
  go_ret
  exact ⟨rfl, below_of (below_of hbw4 hbw5) ((Below.refl _ w5).alloc (Nat.le_refl _) _)⟩
end Go.Proofs.YthjemjclpjmomaaDoor
