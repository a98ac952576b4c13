/- The walk of SegmentBits. -/
import Derived.Test.YtidmkcnoncanbaaZWakes
import Derived.Test.YtidmkcnoncanbaaZShortW
import Derived.Deep.Cut
namespace Go.Proofs.Ytidmkcnoncanbaa
open Go.RowKit
set_option linter.unusedVariables false
theorem bit_place (bit : Int) (n : Nat) (h : 0 < n) (hn : n ≤ 1000) : ∃ k : Nat, wrap64 ((IntKind.u64.wrap bit).tmod (8 * (n : Int))) = (k : Int) ∧ k < 8 * n := by
  have h0 : 0 ≤ IntKind.u64.wrap bit := by rw [IntKind.wrap_u64]; omega
  have h1 : 0 ≤ (IntKind.u64.wrap bit).tmod (8 * (n : Int)) := Int.tmod_nonneg _ h0
  have h2 : (IntKind.u64.wrap bit).tmod (8 * (n : Int)) < 8 * (n : Int) := Int.tmod_lt_of_pos _ (by omega)
  refine ⟨((IntKind.u64.wrap bit).tmod (8 * (n : Int))).toNat, ?_, by omega⟩
  rw [Int.toNat_of_nonneg h1]
  unfold wrap64
  omega
theorem bit_form (x k : Nat) (hx : x < 256) : bits BinOp.xor IntKind.u8 (x : Int) (128 / 2 ^ (k % 8)) = ((x ^^^ 2 ^ (7 - k % 8) : Nat) : Int) := by
  have h : k % 8 < 8 := Nat.mod_lt _ (by omega)
  have h2 : ((128 : Int) / 2 ^ (k % 8)) = ((2 ^ (7 - k % 8) : Nat) : Int) := by
    generalize k % 8 = j at h
    have : j = 0 ∨ j = 1 ∨ j = 2 ∨ j = 3 ∨ j = 4 ∨ j = 5 ∨ j = 6 ∨ j = 7 := by omega
    rcases this with rfl | rfl | rfl | rfl | rfl | rfl | rfl | rfl <;> decide
  rw [h2]
  exact u8_xor_nat x _ hx (pow_lt8 (by omega))
theorem bs_turned {W : World} {g q r : Nat} {L : List Nat} (h : Bs W g L) (hr : r < 8) : Bs (W.setCell ⟨g, q, none⟩ (.int .u8 ((L.getD q 0 ^^^ 2 ^ r : Nat) : Int))) g (turn1 L q r) := by
  refine ⟨?_, turn1_byte h.byte q r hr, by rw [turn1_len]; exact h.len⟩
  rw [heap_setCell_same _ _ _ _ _ _ h.here, cells_set]
  rfl
set_option maxRecDepth 20000 in
set_option maxHeartbeats 8000000 in
theorem bits_any (w : World) (s : Sg) (a : Option Addr) (c : Nat) (a2 : Option Addr) (c2 : Nat) (bit : Int) (hbit : in64 bit) (hc : Came w s a c a2 c2) :
    Calls Try.prog 7 #[sv s a c a2 c2, .int .i64 bit] w fun e w' => e = .returned (.bool true) ∧ Hid (Below w.heap.size w w') := by
  have HB : Hid (∀ (w : World) (X : Obj), Below w.heap.size w (w.alloc X)) := fun w X => (Below.refl _ w).alloc (Nat.le_refl _) X
  have HC : Hid (Came w s a c a2 c2) := hc
  have HWK : Hid (∀ W, Calls Try.prog 9 #[] W fun e w' => e = .returned (.bool true) ∧ Hid (Below W.heap.size W w')) := fun W => wakes_any W
  have HSH : Hid (∀ W, Below w.heap.size w W → Calls Try.prog 15 #[sv s a c a2 c2] W fun e w' => ∃ a' c' a2' c2', e = .returned (sv (shortS s) a' c' a2' c2') ∧ Hid (Below W.heap.size W w' ∧ Came w' (shortS s) a' c' a2' c2')) := fun W hb => short_any s a c a2 c2 W (hc.later hb)
  clear hc
  generalize shortS s = S at HSH
  go_enter Try.func7, Try.ntmps7
  go_wp2_with (first | (go_at_call 9; refine (HWK.out _).mono ?_; rintro e w1 ⟨rfl, hb1⟩; obtain ⟨e0, e1, e2, e3, e4, e5, e6, e7, e8, e9, e10, e11, e12⟩ := scells (old_block hb1.out (made_at rfl))) | (go_at_call 15; refine (HSH.out _ (below_of (HB.out _ _) hb1.out)).mono ?_; rintro e w2 ⟨b, d, b2, d2, rfl, hq2⟩; clear e0 e1 e2 e3 e4 e5 e6 e7 e8 e9 e10 e11 e12))
  have HW2 : Hid (Below w.heap.size w w2) := below_of (below_of (HB.out _ _) hb1.out) hq2.out.1
  refine (encode_any S b d b2 d2 w2 hq2.out.2).mono ?_
  rintro e w3 (⟨hok, g, rfl, hq3⟩ | ⟨hok, rfl, hq3⟩)
  rotate_left
  · clear hok
    go_wp2
    go_ret
    exact ⟨rfl, below_of HW2.out hq3.out⟩
  · have hl := body_len S hok hq2.out.2.fit.szd
    have hl2 := enc_len S
    obtain ⟨L, hL⟩ : ∃ L, encS S = L := ⟨_, rfl⟩
    have HDT : Hid (∀ q r, q < L.length → r < 8 → decS (turn1 L q r) = (130, zeroS)) := fun q r hq hr => by rw [← hL]; exact dec_turned S hok hq2.out.2.fit.szd hq2.out.2.row.1 q r (by rw [hL]; exact hq) hr
    rw [hL] at hq3 hl2 ⊢
    have hLn : 7 ≤ L.length ∧ L.length ≤ 130 := by omega
    clear hok hl hl2 hL
    go_wp2_with fail
    obtain ⟨k, hk1, hk2⟩ := bit_place bit L.length (by omega) (by omega)
    rw [hk1]
    have hq : k / 8 < L.length := by omega
    have hrow := hq3.out.1.row
    obtain ⟨_, _, he, hcs⟩ := hrow.2.2 (by omega)
    cases he
    have hcell := hcs (k / 8) hq
    rw [Nat.zero_add] at hcell
    have hx8 : L.getD (k / 8) 0 < 256 := getD_lt hq3.out.1.byte _
    have hfr := frozen_of hq3.out.1.here (k / 8)
    have hqi : (k : Int) / 8 < (L.length : Int) := by omega
    clear hcs hrow hk1
    have HBS : Hid (Bs (w3.setCell ⟨g, k / 8, none⟩ (.int .u8 (bits BinOp.xor IntKind.u8 ((L.getD (k / 8) 0 : Nat) : Int) (128 / 2 ^ (k % 8))))) g (turn1 L (k / 8) (7 - k % 8))) := by
      show Bs _ _ _
      rw [bit_form _ _ hx8]
      exact bs_turned hq3.out.1 (by omega)
    have HDE : Hid (∀ W, Bs W g (turn1 L (k / 8) (7 - k % 8)) → Calls Try.prog 12 #[.slice (some ⟨g, 0, none⟩) L.length L.length] W fun e w' => ∃ a' c' a2' c2', e = .returned (.tuple #[sv zeroS a' c' a2' c2', .int .i64 130]) ∧ Hid (Below W.heap.size W w' ∧ Came w' zeroS a' c' a2' c2')) := fun W hb => by
      have := decode_any W (some ⟨g, 0, none⟩) L.length (turn1 L (k / 8) (7 - k % 8)) hb.row (by rw [turn1_len]; omega) (by rw [turn1_len]; omega) (by unfold maxLen; omega)
      unfold Dec1 at this
      rw [HDT.out (k / 8) (7 - k % 8) hq (by omega), turn1_len] at this
      exact this
    have HSA : Hid (∀ W a' c' a2' c2', Came W zeroS a' c' a2' c2' → Calls Try.prog 16 #[sv zeroS a' c' a2' c2', sv zeroS none 0 none 0] W fun e w' => e = .returned (.bool true) ∧ Hid (Below W.heap.size W w')) := fun W a' c' a2' c2' h => by
      have := Go.Proofs.Ytidmkcnoncanbaa.same_any zeroS zeroS a' c' a2' c2' none 0 none 0 W h.row h.rowc (row_nil _ _) (rowC_nil _ _) (by decide) (by decide)
      rw [same_self] at this
      exact this
    have HGE : Hid (w.heap.size ≤ g) := Nat.le_trans HW2.out.size hq3.out.2.1
    clear HDT
    generalize L.getD (k / 8) 0 = x at hcell hx8 HBS
    generalize turn1 L (k / 8) (7 - k % 8) = TL at HBS HDE
    go_region
    have HBW : Hid (∀ v, Below w.heap.size w (w3.setCell ⟨g, k / 8, none⟩ v).drew) := fun v => (((below_of HW2.out hq3.out.2.2).setCell (p := ⟨g, k / 8, none⟩) HGE.out v)).drew
    have HD2 : Hid (∀ v, v = bits BinOp.xor IntKind.u8 (x : Int) (128 / 2 ^ (k % 8)) → Bs (w3.setCell ⟨g, k / 8, none⟩ (.int .u8 v)).drew g TL) := fun v hv => by
      subst hv
      exact HBS.out.later ((Below.refl _ _).drew)
    go_wp2_with (first | (go_at_call 12; refine (HDE.out _ (HD2.out _ rfl)).mono ?_; rintro e w4 ⟨a', c', a2', c2', rfl, hq4⟩) | (go_at_call 16; refine (HSA.out _ a' c' a2' c2' (hq4.out.2.later (HB.out _ _))).mono ?_; rintro e w5 ⟨rfl, hb5⟩))
    go_ret
    exact ⟨rfl, below_of (below_of (below_of (HBW.out _) hq4.out.1) (HB.out _ _)) hb5.out⟩
end Go.Proofs.Ytidmkcnoncanbaa
