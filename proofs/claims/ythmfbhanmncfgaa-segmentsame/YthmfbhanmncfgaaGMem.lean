/- bytes.Clone, octet.fresh, octet.Equal, over HMem. -/
import Derived.Test.YthmfbhanmncfgaaHMem
namespace Go.Proofs.Ythmfbhanmncfgaa
open Go.RowKit
set_option maxRecDepth 20000 in
set_option maxHeartbeats 1000000 in
theorem bclone_any (w : World) (a : Option Addr) (cap : Nat) (l : List Nat) (hr : Row w a l) (hz : l.length ≤ 140737488351232) :
    Calls Try.prog 49 #[.slice a l.length cap] w fun e w' => ∃ a' c', e = .returned (.slice a' l.length c') ∧ Hid (Fresh w w' a' c' l ∧ Below w.heap.size w w') := by
  have q := eqlBytes
  cases a with
  | none =>
    obtain rfl := row_none hr
    go_enter Try.func49, Try.ntmps49
    go_wp2
    go_ret
    exact ⟨none, 0, rfl, ⟨hr, Nat.le_refl _, Nat.zero_le _, fun b hb => by cases hb⟩, Below.refl _ _⟩
  | some ad =>
    obtain ⟨i0, hi, hz0, hz1, hz2⟩ := info_parts Try.info5
    have HI : Hid _ := hi
    have HR : Hid (Row w (some ad) l) := hr
    clear hi hr
    go_enter Try.func49, Try.ntmps49
    go_wp2_with (at_builtin; go_must (refine wpList_append_own _ rfl _ _ 23 rfl w.heap.size 5 i0 (.int .u8 0) 1 1 Try.underlying23 HI.out hz0 hz1 hz2 rfl (by decide) _ _ _ rfl (World.ownsRow_made w #[] 0 (Nat.le_refl _) (Nat.zero_le _) rfl) ad l.length cap (cells l) rfl (by rw [cells_length, Nat.mul_one]) (row_cells (HR.out.later ((Below.refl _ w).alloc (Nat.le_refl _) _)) _ rfl) (one_cell l) (by unfold maxLen; omega) (by omega) (by simp) ?_); intro v' w1 hown hgrow hnil)
    have HO : Hid (w1.ownsRow w.heap.size 5 1 v' l.length (cells l) ∧ Below w.heap.size w w1) := ⟨by simpa using hown, ((Below.refl _ w).alloc (Nat.le_refl _) _).grown hgrow (by simp) (by intro k hk; cases hk; exact Nat.le_refl _)⟩
    clear hown hgrow hnil
    go_wp2
    go_ret
    obtain ⟨a', c', he, hf⟩ := fresh_of HO.out.1 HR.out.1 HR.out.2.1
    exact ⟨a', c', by rw [← he]; rfl, hf, HO.out.2⟩

set_option maxRecDepth 20000 in
set_option maxHeartbeats 1000000 in
theorem fresh_any (a : Option Addr) (cap : Nat) (l : List Nat) (w : World) (hr : Row w a l) (hz : l.length ≤ 140737488351232) :
    Calls Try.prog 30 #[.slice a l.length cap] w fun e w' => e = .returned (.slice (some ⟨w.heap.size, 0, none⟩) l.length l.length) ∧ Bs w' w.heap.size l ∧ Below w.heap.size w w' := by
  obtain ⟨i0, hi, hz0, hz1, hz2⟩ := info_parts Try.info5
  have HI : Hid _ := hi
  have HR : Hid (Row w a l) := hr
  clear hi hr
  have hb2 : i0.bytes * l.length ≤ 281474976710656 := by rw [hz2]; omega
  go_enter Try.func30, Try.ntmps30
  go_wp2_with (first | (at_make; refine wpList_make_full _ rfl _ _ 23 rfl w.heap.size 5 i0 _ 1 Try.underlying23 HI.out hz0 hz1 .i64 .i64 _ _ l.length (by rfl) (by rfl) rfl rfl hb2 (by unfold maxLen; omega) (Nat.le_refl _) ?_; intro w1 hown hgrow; obtain ⟨hm1, hm2⟩ := made_bytes hown hgrow; have HM1 : Hid _ := hm1; have HM2 : Hid _ := hm2; clear hown hgrow hm1 hm2) | ((refine wpList_copy_splice rfl _ _ 23 23 rfl 5 Try.underlying23 Try.size5 _ _ _ _ _ _ (by rfl) (by rfl) w.heap.size 0 _ 5 HM1.out (cells l) (by simp [cells_length]) (fun h0 => ⟨rfl, row_src (HR.out.later HM2.out) h0⟩) (by simp [cells_length]) (one_cell l) w.heap.size w HM2.out (Nat.le_refl _) ?_); intro w2 HC HB; have HB2 : Hid _ := HB; clear HB))
  go_ret
  refine ⟨rfl, ⟨?_, HR.out.1, HR.out.2.1⟩, HB2.out⟩
  rw [HC.out]
  simp [splice, cells_length]

set_option maxHeartbeats 400000 in
theorem equal_any (a b : Option Addr) (c d : Nat) (l m : List Nat) (w : World) (hr : Row w a l) (hs : Row w b m) :
    Calls Try.prog 13 #[.slice a l.length c, .slice b m.length d] w fun e w' => e = .returned (.bool (decide (l = m))) ∧ w = w' := by
  have HR : Hid (Row w a l) := hr
  have HS : Hid (Row w b m) := hs
  clear hr hs
  go_enter Try.func13, Try.ntmps13
  go_wp2_with fail
  refine (bytesEqual_any _ _ _ _ _ _ _ HR.out HS.out).mono ?_
  rintro e w' ⟨rfl, rfl⟩
  go_wp2
  go_ret
  exact ⟨rfl, rfl⟩

end Go.Proofs.Ythmfbhanmncfgaa
