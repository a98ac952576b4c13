/- The walks of sdnv.Put and sdnv.Get. -/
import Derived.Test.YthhoafhkdioboaaSWalk
namespace Go.Proofs.Ythhoafhkdioboaa
open Go.RowKit
set_option linter.unusedVariables false

set_option maxRecDepth 20000 in
set_option maxHeartbeats 1000000 in
theorem put_any (w : World) (a : Option Addr) (cap : Nat) (l : List Nat) (n : Nat) (hr : Row w a l) (hz : l.length ≤ 140737488351000) (hn : n < 18446744073709551616) :
    Calls Try.prog 12 #[.slice a l.length cap, .int .u64 n] w fun e w' => e = .returned (.slice (some ⟨w.heap.size, 0, none⟩) (l.length + sz n) (l.length + sz n)) ∧ Hid (Bs w' w.heap.size (l ++ sd n) ∧ Below w.heap.size w w') := by
  obtain ⟨i0, hi, hz0, hz1, hz2⟩ := info_parts Try.info5
  have HI : Hid _ := hi
  have HR : Hid (Row w a l) := hr
  clear hi hr
  have hsz := sd_len n hn
  have HSZ := size_any w n hn
  have HL := fun w g cap L h1 h2 h3 h4 => lay_any w g (l.length + sz n) cap L n hn h1 h2 h3 h4
  have HSD : Hid ((sd n).length = sz n) := rfl
  generalize sz n = Z at hsz HSZ HL HSD ⊢
  have hb2 : i0.bytes * (l.length + Z) ≤ 281474976710656 := by rw [hz2]; omega
  go_enter Try.func12, Try.ntmps12
  go_wp2_with (first | (go_at_call 14; refine HSZ.mono ?_; rintro e w' ⟨rfl, rfl⟩) | (at_make; refine wpList_make_full _ rfl _ _ 22 rfl w.heap.size 5 i0 _ 1 Try.underlying22 HI.out hz0 hz1 .i64 .i64 _ _ (l.length + Z) (by rfl) (by rfl) (by omega) (by omega) hb2 (by unfold maxLen; omega) (Nat.le_refl _) ?_; intro w1 hown hgrow; obtain ⟨hm1, hm2⟩ := made_bytes hown hgrow; have HM1 : Hid _ := hm1; have HM2 : Hid _ := hm2; clear hown hgrow hm1 hm2) | ((refine wpList_copy_splice rfl _ _ 22 22 rfl 5 Try.underlying22 Try.size5 _ _ _ _ _ _ (by rfl) (by rfl) w.heap.size 0 _ 5 HM1.out (cells l) (by simp [cells_length]) (fun h0 => ⟨rfl, row_src (HR.out.later HM2.out) h0⟩) (by simp [cells_length]) (one_cell l) w.heap.size w HM2.out (Nat.le_refl _) ?_); intro w2 HC HB; have HB2 : Hid _ := HB; clear HB; have HS : Hid (Bs w2 w.heap.size (l ++ List.replicate Z 0)) := by {
      refine ⟨?_, ?_, ?_⟩
      · rw [HC.out]
        simp only [splice, List.take_zero, List.nil_append, Nat.zero_add, cells_length]
        have h1 : (cells (List.replicate (l.length + Z) 0)).drop l.length = cells (List.replicate Z 0) := by simp [cells, List.map_replicate]
        rw [h1, cells_append]
      · intro x hx
        rcases List.mem_append.1 hx with h | h
        · exact HR.out.1 x h
        · rw [(List.mem_replicate.1 h).2]; omega
      · simp [maxLen]; omega}) | (go_at_call 22; refine (HL _ _ _ _ HS.out (by simp) (by omega) (by omega)).mono ?_; rintro e w3 ⟨rfl, HQ⟩))
  go_ret
  refine ⟨rfl, ?_, ?_⟩
  · have h1 := HQ.out.1
    rw [show l.length + Z - Z = l.length by omega, List.take_left, List.drop_of_length_le (by simp), List.append_nil] at h1
    exact h1
  · exact HB2.out.trans (HQ.out.2.below HB2.out.size (fun i e => by omega))
end Go.Proofs.Ythhoafhkdioboaa
