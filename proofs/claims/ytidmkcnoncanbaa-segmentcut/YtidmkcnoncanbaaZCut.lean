/- The walk of SegmentCut. -/
import Derived.Test.YtidmkcnoncanbaaZWakes
import Derived.Test.YtidmkcnoncanbaaZShortW
import Derived.Test.YtidmkcnoncanbaaZCutP
import Derived.Test.YtidmkcnoncanbaaZBits
import Derived.Deep.Cut
namespace Go.Proofs.Ytidmkcnoncanbaa
open Go.RowKit
set_option linter.unusedVariables false
theorem at_place (at0 : Int) (n : Nat) (h : 0 < n) (hn : n ≤ 1000) : ∃ k : Nat, wrap64 ((IntKind.u64.wrap at0).tmod (n : Int)) = (k : Int) ∧ k < n := by
  have h0 : 0 ≤ IntKind.u64.wrap at0 := by rw [IntKind.wrap_u64]; omega
  have h1 : 0 ≤ (IntKind.u64.wrap at0).tmod (n : Int) := Int.tmod_nonneg _ h0
  have h2 : (IntKind.u64.wrap at0).tmod (n : Int) < (n : Int) := Int.tmod_lt_of_pos _ (by omega)
  refine ⟨((IntKind.u64.wrap at0).tmod (n : Int)).toNat, ?_, by omega⟩
  rw [Int.toNat_of_nonneg h1]
  unfold wrap64
  omega
/-- bytes that may be written. -/
def Wy (w : World) (g : Nat) (l : List Nat) : Prop := (∀ x ∈ l, x < 256) ∧ ∀ i, i < l.length → w.cell? ⟨g, i, none⟩ = some (.int .u8 ((l.getD i 0 : Nat) : Int)) ∧ w.frozen? ⟨g, i, none⟩ = false
theorem own_wr {w : World} {base n : Nat} {v : Value} {l : List Nat} (h : w.ownsRow base 5 1 v n (cells l)) (hb : ∀ x ∈ l, x < 256) (hm : l.length ≤ maxLen) (h0 : 0 < l.length) :
    ∃ g c, v = .slice (some ⟨g, 0, none⟩) l.length c ∧ Wy w g l ∧ base ≤ g ∧ l.length ≤ c ∧ c ≤ maxLen := by
  obtain ⟨a, c, rfl, h1, h2, h3⟩ := own_row h hb hm
  obtain ⟨hl, h⟩ := h
  rcases h with ⟨he, hn⟩ | ⟨g, cap, cur, he, hge, hg, hnc, hcm, hcs, ht⟩
  · rw [cells_length] at hl; omega
  · cases he
    refine ⟨g, _, rfl, ⟨hb, fun i hi => ⟨?_, frozen_of hg i⟩⟩, hge, h1, h2⟩
    obtain ⟨b, o, e, hc⟩ := h3.2.2 h0
    cases e
    have := hc i hi
    rwa [Nat.zero_add] at this
set_option maxRecDepth 20000 in
set_option maxHeartbeats 1000000 in
theorem bclone_wr (w : World) (ad : Addr) (cap : Nat) (l : List Nat) (hr : Row w (some ad) l) (hz : l.length ≤ 140737488351232) (h0 : 0 < l.length) :
    Calls Try.prog 21 #[.slice (some ad) l.length cap] w fun e w' => ∃ g c', e = .returned (.slice (some ⟨g, 0, none⟩) l.length c') ∧ Hid (Wy w' g l ∧ w.heap.size ≤ g ∧ Below w.heap.size w w' ∧ l.length ≤ c' ∧ c' ≤ maxLen) := by
  have q := eqlBytes
  obtain ⟨i0, hi, hz0, hz1, hz2⟩ := info_parts Try.info5
  have HI : Hid _ := hi
  have HR : Hid (Row w (some ad) l) := hr
  clear hi hr
  go_enter Try.func21, Try.ntmps21
  go_wp2_with (at_builtin; go_must (refine wpList_append_own _ rfl _ _ 25 rfl w.heap.size 5 i0 (.int .u8 0) 1 1 Try.underlying25 HI.out hz0 hz1 hz2 rfl (by decide) _ _ _ rfl (World.ownsRow_made w #[] 0 (Nat.le_refl _) (Nat.zero_le _) rfl) ad l.length cap (cells l) rfl (by rw [cells_length, Nat.mul_one]) (row_cells (HR.out.later ((Below.refl _ w).alloc (Nat.le_refl _) _)) _ rfl) (one_cell l) (by unfold maxLen; omega) (by omega) (by simp) ?_); intro v' w1 hown hgrow hnil)
  have HO : Hid (w1.ownsRow w.heap.size 5 1 v' l.length (cells l) ∧ Below w.heap.size w w1) := ⟨by simpa using hown, ((Below.refl _ w).alloc (Nat.le_refl _) _).grown hgrow (by simp) (by intro k hk; cases hk; exact Nat.le_refl _)⟩
  clear hown hgrow hnil
  go_wp2
  go_ret
  obtain ⟨g, c', he, h1, h2, h3, h4⟩ := own_wr HO.out.1 HR.out.1 HR.out.2.1 h0
  exact ⟨g, c', by rw [← he]; rfl, h1, h2, HO.out.2, h3, h4⟩
theorem cell_set_off {w : World} {p q : Addr} {v : Value} (h : p ≠ q) : (w.setCell p v).cell? q = w.cell? q := by simp [go_sem, h]
theorem Wy.later {w w' : World} {g : Nat} {l : List Nat} (h : Wy w g l) (hb : Below w.heap.size w w') : Wy w' g l := by
  refine ⟨h.1, fun i hi => ?_⟩
  obtain ⟨h1, h2⟩ := h.2 i hi
  have hlt : g < w.heap.size := by
    rcases Nat.lt_or_ge g w.heap.size with h | h
    · exact h
    · simp [World.cell?, Array.getElem?_eq_none h] at h1
  exact ⟨cell_later hb h1, by rw [hb.frozen (p := ⟨g, i, none⟩) hlt]; exact h2⟩
theorem Wy.row {w : World} {g : Nat} {l : List Nat} (h : Wy w g l) (hm : l.length ≤ maxLen) : Row w (some ⟨g, 0, none⟩) l := ⟨h.1, hm, fun _ => ⟨g, 0, rfl, fun i hi => by rw [Nat.zero_add]; exact (h.2 i hi).1⟩⟩
theorem Wy.set {w : World} {g : Nat} {l : List Nat} (h : Wy w g l) (q x : Nat) (hx : x < 256) : Wy (w.setCell ⟨g, q, none⟩ (.int .u8 (x : Int))) g (l.set q x) := by
  refine ⟨Crc.set_byte _ h.1 _ _ hx, fun i hi => ?_⟩
  rw [List.length_set] at hi
  obtain ⟨h1, h2⟩ := h.2 i hi
  refine ⟨?_, by simp [go_sem, h2]⟩
  by_cases hq : q = i
  · subst hq
    rw [List.getD_eq_getElem?_getD, List.getElem?_set_self hi]
    simp [go_sem, h1]
  · rw [List.getD_eq_getElem?_getD, List.getElem?_set_ne hq, ← List.getD_eq_getElem?_getD]
    rw [cell_set_off (by intro e; cases e; exact hq rfl)]
    exact h1
set_option maxRecDepth 20000 in
set_option maxHeartbeats 8000000 in
theorem scut_any (w : World) (s : Sg) (a : Option Addr) (c : Nat) (a2 : Option Addr) (c2 : Nat) (at0 : Int) (hat : in64 at0) (bh : Nat) (hbh : bh < 256) (hc : Came w s a c a2 c2) :
    Calls Try.prog 8 #[sv s a c a2 c2, .int .i64 at0, .int .u8 bh] w fun e w' => e = .returned (.bool true) ∧ Hid (Below w.heap.size w w') := by
  have HB : Hid (∀ (w : World) (X : Obj), Below w.heap.size w (w.alloc X)) := fun w X => (Below.refl _ w).alloc (Nat.le_refl _) X
  have HWK : Hid (∀ W, Calls Try.prog 9 #[] W fun e w' => e = .returned (.bool true) ∧ Hid (Below W.heap.size W w')) := fun W => wakes_any W
  have HSH : Hid (∀ W, Below w.heap.size w W → Calls Try.prog 15 #[sv s a c a2 c2] W fun e w' => ∃ a' c' a2' c2', e = .returned (sv (shortS s) a' c' a2' c2') ∧ Hid (Below W.heap.size W w' ∧ Came w' (shortS s) a' c' a2' c2')) := fun W hb => short_any s a c a2 c2 W (hc.later hb)
  clear hc
  generalize shortS s = S at HSH
  go_enter Try.func8, Try.ntmps8
  go_wp2_with (first | (go_at_call 9; refine (HWK.out _).mono ?_; rintro e w1 ⟨rfl, hb1⟩; obtain ⟨e0, e1, e2, e3, e4, e5, e6, e7, e8, e9, e10, e11, e12⟩ := scells (old_block hb1.out (made_at rfl))) | (go_at_call 15; refine (HSH.out _ (below_of (HB.out _ _) hb1.out)).mono ?_; rintro e w2 ⟨b, d, b2, d2, rfl, hq2⟩; clear e0 e1 e2 e3 e4 e5 e6 e7 e8 e9 e10 e11 e12))
  have HW2 : Hid (Below w.heap.size w w2) := below_of (below_of (HB.out _ _) hb1.out) hq2.out.1
  refine (encode_any S b d b2 d2 w2 hq2.out.2).mono ?_
  rintro e w3 (⟨hok, g, rfl, hq3⟩ | ⟨hok, rfl, hq3⟩)
  rotate_left
  · clear hok
    go_wp2
    go_ret
    exact ⟨rfl, below_of HW2.out hq3.out⟩
  · have hl := body_len S hok hq2.out.2.fit.szd
    have hl2 := enc_len S
    obtain ⟨L, hL⟩ : ∃ L, encS S = L := ⟨_, rfl⟩
    have HDT : Hid (∀ k J, k < L.length → J = min 4 (L.length - k) → decS (turnC L k bh J) = (130, zeroS) ∨ (turnC L k bh J = L ∧ decS L = (0, S))) := fun k J hk hJ => by
      have hby := body_byte S hok hq2.out.2.row.1
      by_cases he : be (Crc.sum32 ((turnC L k bh J).take (bodyS S).length)) 4 = (turnC L k bh J).drop (bodyS S).length
      · rw [← hL] at he ⊢
        refine .inr ⟨cut_told (bodyS S) hby k bh J (by rw [← hL] at hk; omega) (by rw [hJ, ← hL, hl2]) he, dec_enc S hok hq2.out.2.fit.szd⟩
      · refine .inl (dec_130 _ (by rw [turnC_len, ← hL]; omega) ?_)
        rw [turnC_len, ← hL, hl2, Nat.add_sub_cancel, hL]
        exact he
    rw [hL] at hq3 hl2 ⊢
    have hLn : 7 ≤ L.length ∧ L.length ≤ 130 := by omega
    clear hok hl hl2 hL
    have HCL : Hid (∀ W, Below w3.heap.size w3 W → Calls Try.prog 21 #[.slice (some ⟨g, 0, none⟩) L.length L.length] W fun e w' => ∃ y c', e = .returned (.slice (some ⟨y, 0, none⟩) L.length c') ∧ Hid (Wy w' y L ∧ W.heap.size ≤ y ∧ Below W.heap.size W w' ∧ L.length ≤ c' ∧ c' ≤ maxLen)) := fun W hb => bclone_wr W ⟨g, 0, none⟩ L.length L (hq3.out.1.row.later hb) (by omega) (by omega)
    obtain ⟨k, hk1, hk2⟩ := at_place at0 L.length (by omega) (by omega)
    go_wp2_with (go_at_call 21; refine (HCL.out _ (Below.refl _ _)).mono ?_; rintro e w4 ⟨y, c', rfl, hq4⟩; rw [hk1])
    have HX : Hid (∀ W, Below w3.heap.size w3 W → Row W (some ⟨g, 0, none⟩) L) := fun W hb => hq3.out.1.row.later hb
    have HB3 : Hid (Below w.heap.size w w3) := below_of HW2.out hq3.out.2.2
    clear HCL HWK HSH hk1
    go_loopw [11] (fun i wr => ∃ j : Nat, j ≤ 4 ∧ k + j ≤ L.length ∧ i = .int .i64 ((k + j : Nat) : Int) ∧ Hid (Wy wr y (turnC L k bh j) ∧ Below w3.heap.size w3 wr)) (fun i _ => L.length - (intOf i).toNat)
    case atStart => exact ⟨0, by omega, by omega, rfl, hq4.out.1, hq4.out.2.2.1⟩
    case round =>
      obtain ⟨j, hj4, hjl, rfl, HJ⟩ := hrel
      by_cases hlt : j < 4 ∧ k + j < L.length
      · obtain ⟨hlt, hq⟩ := hlt
        obtain ⟨hc, hf⟩ := HJ.out.1.2 (k + j) (by rw [turnC_len]; exact hq)
        have hx8 : (turnC L k bh j).getD (k + j) 0 < 256 := getD_lt HJ.out.1.1 _
        have HST : Hid (Wy (wr.setCell ⟨y, k + j, none⟩ (.int .u8 (((turnC L k bh j).getD (k + j) 0 ^^^ ((bh + (k + j)) % 256) : Nat) : Int))) y (turnC L k bh (j + 1))) := HJ.out.1.set _ _ (Nat.xor_lt_two_pow (n := 8) hx8 (by omega))
        generalize (turnC L k bh j).getD (k + j) 0 = x at hc hx8 HST
        obtain ⟨q, hqe⟩ : ∃ q, k + j = q := ⟨_, rfl⟩
        rw [hqe] at hc hf HST hq ⊢
        have hqi : (q : Int) < (L.length : Int) := by omega
        have hqk : (q : Int) < (k : Int) + 4 := by omega
        have hxo : bits BinOp.xor IntKind.u8 (x : Int) (((bh : Int) + (q : Int)) % 256) = ((x ^^^ ((bh + q) % 256) : Nat) : Int) := by
          rw [show ((bh : Int) + (q : Int)) % 256 = (((bh + q) % 256 : Nat) : Int) by omega]
          exact u8_xor_nat x _ hx8 (by omega)
        go_wp2
        refine ⟨⟨j + 1, by omega, by omega, by rw [← hqe]; rfl, ?_, ?_⟩, by simp [intOf]; omega⟩
        · exact HST.out
        · exact HJ.out.2.setCell (p := ⟨y, q, none⟩) hq4.out.2.1 _
      · have hDT := HDT.out k j hk2 (by omega)
        have hTl := turnC_len L k bh j
        have HXR := HX.out wr HJ.out.2
        have HYR : Hid (Wy wr y (turnC L k bh j)) := HJ.out.1
        have HWR : Hid (Below w.heap.size w wr) := HB3.out.trans (HJ.out.2.mono HB3.out.size)
        generalize turnC L k bh j = TL at hDT hTl HYR
        have HDE : Hid (Calls Try.prog 12 #[.slice (some ⟨y, 0, none⟩) L.length c'] wr fun e w' => ∃ a' c1 a2' c2', e = .returned (.tuple #[sv (decS TL).2 a' c1 a2' c2', .int .i64 (decS TL).1]) ∧ Hid (Below wr.heap.size wr w' ∧ Came w' (decS TL).2 a' c1 a2' c2')) := by
          have := decode_any wr (some ⟨y, 0, none⟩) c' TL (HYR.out.row (by rw [hTl]; unfold maxLen; omega)) (by rw [hTl]; omega) (by rw [hTl]; exact hq4.out.2.2.2.1) hq4.out.2.2.2.2
          unfold Dec1 at this
          rw [hTl] at this
          exact this
        have HEQ : Hid (∀ W, Below wr.heap.size wr W → Calls Try.prog 14 #[.slice (some ⟨g, 0, none⟩) L.length L.length, .slice (some ⟨y, 0, none⟩) L.length c'] W fun e w' => e = .returned (.bool (decide (L = TL))) ∧ w' = W) := fun W hb => by
          have := bytesEqual_any (some ⟨g, 0, none⟩) (some ⟨y, 0, none⟩) L.length c' L TL W (HXR.later hb) ((HYR.out.row (by rw [hTl]; unfold maxLen; omega)).later hb)
          rw [hTl] at this
          exact this
        obtain ⟨q, hqe⟩ : ∃ q, k + j = q := ⟨_, rfl⟩
        rw [hqe] at hlt ⊢
        have hqn : ¬ ((q : Int) < (k : Int) + 4 ∧ (q : Int) < (L.length : Int)) := by omega
        clear HDT HJ
        rcases hDT with hDT | ⟨hTL, hDT⟩
        · rw [hDT] at HDE
          replace HDE : Hid (Calls Try.prog 12 #[.slice (some ⟨y, 0, none⟩) L.length c'] wr fun e w' => ∃ a' c1 a2' c2', e = .returned (.tuple #[sv zeroS a' c1 a2' c2', .int .i64 130]) ∧ Hid (Below wr.heap.size wr w' ∧ Came w' zeroS a' c1 a2' c2')) := HDE
          cases hbe : decide (L = TL)
          all_goals
            rw [hbe] at HEQ
            go_wp2_with (first | (go_at_call 12; refine HDE.out.mono ?_; rintro e w5 ⟨a', c1, a2', c2', rfl, hq5⟩) | (go_at_call 14; refine (HEQ.out _ (below_of hq5.out.1 (HB.out _ _))).mono ?_; rintro e w6 ⟨rfl, rfl⟩))
            all_goals
              go_ret
              exact ⟨rfl, below_of (below_of HWR.out hq5.out.1) (HB.out _ _)⟩
        · have hbe : decide (L = TL) = true := decide_eq_true hTL.symm
          rw [hbe] at HEQ
          rw [hTL, hDT] at HDE
          replace HDE : Hid (Calls Try.prog 12 #[.slice (some ⟨y, 0, none⟩) L.length c'] wr fun e w' => ∃ a' c1 a2' c2', e = .returned (.tuple #[sv S a' c1 a2' c2', .int .i64 0]) ∧ Hid (Below wr.heap.size wr w' ∧ Came w' S a' c1 a2' c2')) := HDE
          clear hDT hTL hbe
          go_wp2_with (first | (go_at_call 12; refine HDE.out.mono ?_; rintro e w5 ⟨a', c1, a2', c2', rfl, hq5⟩) | (go_at_call 14; refine (HEQ.out _ (below_of hq5.out.1 (HB.out _ _))).mono ?_; rintro e w6 ⟨rfl, rfl⟩))
          all_goals
            go_ret
            exact ⟨rfl, below_of (below_of HWR.out hq5.out.1) (HB.out _ _)⟩
theorem scut_int (w : World) (s : Sg) (a : Option Addr) (c : Nat) (a2 : Option Addr) (c2 : Nat) (at0 : Int) (hat : in64 at0) (b : Int) (hb : 0 ≤ b ∧ b < 256) (hc : Came w s a c a2 c2) :
    Calls Try.prog 8 #[sv s a c a2 c2, .int .i64 at0, .int .u8 b] w fun e w' => e = .returned (.bool true) ∧ Hid (Below w.heap.size w w') := by
  obtain ⟨n, rfl⟩ : ∃ n : Nat, b = (n : Int) := ⟨b.toNat, by omega⟩
  exact scut_any w s a c a2 c2 at0 hat n (by omega) hc
end Go.Proofs.Ytidmkcnoncanbaa
