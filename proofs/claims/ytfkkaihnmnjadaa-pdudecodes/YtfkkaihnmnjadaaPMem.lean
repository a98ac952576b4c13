/- octet.fresh, octet.Equal, over HMem. -/
import Derived.Test.YtfkkaihnmnjadaaHMem
namespace Go.Proofs.Ytfkkaihnmnjadaa
open Go.RowKit
set_option linter.unusedVariables false
set_option maxRecDepth 20000 in
set_option maxHeartbeats 1000000 in
theorem fresh_any (a : Option Addr) (cap : Nat) (l : List Nat) (w : World) (hr : Row w a l) (hz : l.length ≤ 140737488351232) :
    Calls Try.prog 39 #[.slice a l.length cap] w fun e w' => e = .returned (.slice (some ⟨w.heap.size, 0, none⟩) l.length l.length) ∧ Bs w' w.heap.size l ∧ Below w.heap.size w w' := by
  obtain ⟨i0, hi, hz0, hz1, hz2⟩ := info_parts Try.info5
  have HI : Hid _ := hi
  have HR : Hid (Row w a l) := hr
  clear hi hr
  have hb2 : i0.bytes * l.length ≤ 281474976710656 := by rw [hz2]; omega
  go_enter Try.func39, Try.ntmps39
  go_wp2_with (first | (at_make; refine wpList_make_full _ rfl _ _ 23 rfl w.heap.size 5 i0 _ 1 Try.underlying23 HI.out hz0 hz1 .i64 .i64 _ _ l.length (by rfl) (by rfl) rfl rfl hb2 (by unfold maxLen; omega) (Nat.le_refl _) ?_; intro w1 hown hgrow; obtain ⟨hm1, hm2⟩ := made_bytes hown hgrow; have HM1 : Hid _ := hm1; have HM2 : Hid _ := hm2; clear hown hgrow hm1 hm2) | ((refine wpList_copy_splice rfl _ _ 23 23 rfl 5 Try.underlying23 Try.size5 _ _ _ _ _ _ (by rfl) (by rfl) w.heap.size 0 _ 5 HM1.out (cells l) (by simp [cells_length]) (fun h0 => ⟨rfl, row_src (HR.out.later HM2.out) h0⟩) (by simp [cells_length]) (one_cell l) w.heap.size w HM2.out (Nat.le_refl _) ?_); intro w2 HC HB; have HB2 : Hid _ := HB; clear HB))
  go_ret
  refine ⟨rfl, ⟨?_, HR.out.1, HR.out.2.1⟩, HB2.out⟩
  rw [HC.out]
  simp [splice, cells_length]
set_option maxHeartbeats 400000 in
theorem equal_any (a b : Option Addr) (c d : Nat) (l m : List Nat) (w : World) (hr : Row w a l) (hs : Row w b m) :
    Calls Try.prog 19 #[.slice a l.length c, .slice b m.length d] w fun e w' => e = .returned (.bool (decide (l = m))) ∧ w = w' := by
  have HR : Hid (Row w a l) := hr
  have HS : Hid (Row w b m) := hs
  clear hr hs
  go_enter Try.func19, Try.ntmps19
  go_wp2_with fail
  refine (bytesEqual_any _ _ _ _ _ _ _ HR.out HS.out).mono ?_
  rintro e w' ⟨rfl, rfl⟩
  go_wp2
  go_ret
  exact ⟨rfl, rfl⟩
end Go.Proofs.Ytfkkaihnmnjadaa
