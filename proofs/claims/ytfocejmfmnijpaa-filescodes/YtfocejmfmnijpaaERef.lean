/- The walks of the references' own High, named, counted and Bytes. -/
import Derived.Test.YtfocejmfmnijpaaEEncode
import Derived.Test.YtfocejmfmnijpaaFBoth
import Derived.Test.YtfocejmfmnijpaaFWakes
import Derived.Test.YtfocejmfmnijpaaFLaw
import Derived.Laws.IdiomStrings
namespace Go.Proofs.Ytfocejmfmnijpaa
open Go.RowKit

set_option maxRecDepth 20000 in
set_option maxHeartbeats 2000000 in
theorem high_any (x k : Nat) (w : World) (hx : x < 18446744073709551616) (hk : k ≤ 8) :
    Calls Try.prog 35 #[.int .u64 x, .int .i64 k] w fun e w' => e = .returned (.slice (some ⟨w.heap.size, 0, none⟩) k k) ∧ Hid (Bs w' w.heap.size (be x k) ∧ Below w.heap.size w w') := by
  obtain ⟨i0, hi, hz0, hz1, hz2⟩ := info_parts Try.info5
  have HI : Hid _ := hi
  clear hi
  have hb2 : i0.bytes * k ≤ 281474976710656 := by rw [hz2]; omega
  go_enter Try.func35, Try.ntmps35
  go_wp2_with (at_make; refine wpList_make_full _ rfl _ _ 35 rfl w.heap.size 5 i0 _ 1 Try.underlying35 HI.out hz0 hz1 .i64 .i64 _ _ k (by rfl) (by rfl) rfl rfl hb2 (by unfold maxLen; omega) (Nat.le_refl _) ?_; intro w1 hown hgrow; obtain ⟨hm1, hm2⟩ := made_bytes hown hgrow; have HM : Hid (w1.heap[w.heap.size]? = some (.cells (cells ([] ++ List.replicate k 0 ++ be x 0)).toArray 5 (0, 0)) ∧ Below w.heap.size w w1) := ⟨by rw [hm1]; simp [be, leN], hm2⟩; clear hown hgrow hm1 hm2)
  go_loopw [0, 6] (fun u i wr => ∃ j : Nat, j ≤ k ∧ u = .int .u64 (x / 256 ^ j : Nat) ∧ i = .int .i64 ((k : Int) - 1 - (j : Int)) ∧ Hid (wr.heap[w.heap.size]? = some (.cells (cells ([] ++ List.replicate (k - j) 0 ++ be x j)).toArray 5 (0, 0)) ∧ Below w.heap.size w wr))
    (fun _ i _ => (intOf i + 1).toNat)
  case atStart => exact ⟨0, by omega, by simp, by simp, HM.out⟩
  case round =>
    clear HM
    obtain ⟨j, hj, rfl, rfl, HJ⟩ := hrel
    have hq : x / 256 ^ j < 18446744073709551616 := Nat.lt_of_le_of_lt (Nat.div_le_self _ _) hx
    have HD : Hid (x / 256 ^ (j + 1) = x / 256 ^ j / 256) := div_succ x j
    have HL : Hid (be x (j + 1) = x / 256 ^ j % 256 :: be x j) := be_succ x j
    generalize x / 256 ^ j = q at hq HD HL ⊢
    by_cases hjk : j < k
    · obtain ⟨m, hm⟩ : ∃ m, k = m + 1 + j := ⟨k - 1 - j, by omega⟩
      have HM : Hid (k = m + 1 + j) := hm
      rw [show (k : Int) - 1 - (j : Int) = ((m : Nat) : Int) by omega]
      have i1 : (0 : Int) ≤ ((m : Nat) : Int) := Int.natCast_nonneg _
      have i2 : ((m : Nat) : Int) < ((k : Nat) : Int) := by omega
      have i3 : m < k := by omega
      have hblk : wr.heap[w.heap.size]? = some (.cells (cells ([] ++ List.replicate (m + 1) 0 ++ be x j)).toArray 5 (0, 0)) := by
        rw [show m + 1 = k - j by omega]; exact HJ.out.1
      have hcell : ∃ u, wr.cell? ⟨w.heap.size, m, none⟩ = some u := by
        rw [cell_of hblk]
        exact ⟨_, Array.getElem?_eq_getElem (by simp [cells_length]; omega)⟩
      obtain ⟨u, hcell⟩ := hcell
      have hfr := frozen_of hblk m
      have HN : Hid ((wr.setCell ⟨w.heap.size, m, none⟩ (.int .u8 ((q % 256 : Nat) : Int))).heap[w.heap.size]? = some (.cells (cells ([] ++ List.replicate (k - (j + 1)) 0 ++ be x (j + 1))).toArray 5 (0, 0)) ∧ Below w.heap.size w (wr.setCell ⟨w.heap.size, m, none⟩ (.int .u8 ((q % 256 : Nat) : Int)))) := by
        refine ⟨?_, HJ.out.2.setCell (p := ⟨w.heap.size, m, none⟩) (Nat.le_refl _) _⟩
        have hps := put_set [] m (be x j) (q % 256)
        rw [List.length_nil, Nat.zero_add] at hps
        rw [heap_setCell_same _ _ _ _ _ _ hblk, HL.out, show k - (j + 1) = m by omega, hps]
      clear hm hblk i2
      go_wp2
      have hm := HM.out
      refine ⟨⟨j + 1, by omega, ?_, ?_, HN⟩, ?_⟩
      · rw [HD.out]; congr 1
      · congr 1; omega
      · simp only [intOf]; omega
    · obtain rfl : j = k := by omega
      rw [show (j : Int) - 1 - (j : Int) = -1 by omega]
      go_wp2
      go_ret
      refine ⟨rfl, ⟨?_, be_byte _ _, ?_⟩, HJ.out.2⟩
      · have := HJ.out.1
        rw [Nat.sub_self, List.replicate_zero, List.append_nil, List.nil_append] at this
        exact this
      · rw [be_length]; unfold maxLen; omega

/-- a text as bytes, in new memory. -/
theorem conv_bytes (w : World) (s : ByteArray) (hs : s.size ≤ 140737488351232) : ∃ c w', (convert 9 35 (.string s)).run Try.prog w = .ok (.slice (some ⟨w.heap.size, 0, none⟩) s.size c) w' ∧ Row w' (some ⟨w.heap.size, 0, none⟩) (nbytes s) ∧ Below w.heap.size w w' := by
  refine ⟨_, _, run_bytes_of_string w 9 35 5 s Try.underlying9 Try.underlying35 Try.underlying5, ⟨nbytes_byte s, by rw [nbytes_length]; unfold maxLen; omega, fun _ => ⟨w.heap.size, 0, rfl, fun i hi => ?_⟩⟩, ((Below.refl _ w).drew).alloc (Nat.le_refl _) _⟩
  rw [nbytes_length] at hi
  have hh : (w.drew.alloc (.cells (bytesRow s (grownCap w s.size 0 5)) 5 ((bytesRow s (grownCap w s.size 0 5)).size, (bytesRow s (grownCap w s.size 0 5)).size + 1))).heap[w.heap.size]? = some (.cells (bytesRow s (grownCap w s.size 0 5)) 5 ((bytesRow s (grownCap w s.size 0 5)).size, (bytesRow s (grownCap w s.size 0 5)).size + 1)) := heap_alloc_new w.drew _
  have hi2 : i < s.data.size := hi
  unfold World.cell?
  simp only [hh, Nat.zero_add]
  unfold bytesRow nbytes
  rw [Array.getElem?_append_left (by simpa using hi2)]
  simp
  exact ⟨s.data[i], Array.getElem?_eq_getElem hi2, by rw [Array.getElem?_eq_getElem hi2]; rfl⟩

set_option maxRecDepth 20000 in
set_option maxHeartbeats 2000000 in
theorem named_any (w : World) (s : ByteArray) (hs : s.size < 256) :
    Calls Try.prog 37 #[.string s] w fun e w' => ∃ a' c', e = .returned (.slice a' (encName s).length c') ∧ Hid (Fresh w w' a' c' (encName s) ∧ Below w.heap.size w w') := by
  obtain ⟨c, w2, hcv, hrow, hb⟩ := conv_bytes (w.alloc (.cells #[.int .u8 (s.size : Nat)] 5)) s (by omega)
  have hb2 : Below w.heap.size w w2 := ((Below.refl _ w).alloc (Nat.le_refl _) _).trans (hb.mono (by simp))
  have hr1 : Row w2 (some ⟨w.heap.size, 0, none⟩) [s.size] := (row_one (heap_alloc_new w _) hs).later hb
  have HBT := both_at w2 _ _ 1 c 1 s.size [s.size] (nbytes s) rfl (nbytes_length s) hr1 hrow (by omega)
  have hl : (encName s).length = 1 + s.size := by simp [encName, nbytes_length]; omega
  have hsz : (w.alloc (.cells #[.int .u8 (s.size : Nat)] 5)).heap.size = w.heap.size + 1 := by simp
  rw [hsz] at HBT hcv
  have HB2 : Hid (Below w.heap.size w w2) := hb2
  rw [hl]
  clear hb hb2 hr1 hrow hsz hl
  go_enter Try.func37, Try.ntmps37
  go_wp2_with (go_at_call 36; refine HBT.mono ?_; rintro e w3 ⟨a', c', rfl, hq⟩)
  go_ret
  exact ⟨a', c', rfl, ⟨hq.out.1.row, hq.out.1.le, hq.out.1.cap, fun b hb => Nat.le_trans HB2.out.size (hq.out.1.new b hb)⟩, below_of HB2.out hq.out.2⟩

set_option maxRecDepth 20000 in
set_option maxHeartbeats 2000000 in
theorem counted_any (w : World) (a : Option Addr) (c : Nat) (l : List Nat) (hr : Row w a l) (hl : l.length ≤ 4096) :
    Calls Try.prog 38 #[.slice a l.length c] w fun e w' => ∃ a' c', e = .returned (.slice a' (encBytes l).length c') ∧ Hid (Fresh w w' a' c' (encBytes l) ∧ Below w.heap.size w w') := by
  have HH := high_any l.length 2 w (by omega) (by omega)
  have HR : Hid (Row w a l) := hr
  have hle : (encBytes l).length = 2 + l.length := by simp [encBytes, be_length]
  rw [hle]
  clear hr hle
  go_enter Try.func38, Try.ntmps38
  go_wp2_with (first | (go_at_call 35; refine HH.mono ?_; rintro e w1 ⟨rfl, hq1⟩) | (go_at_call 36; refine (both_at w1 _ a 2 c 2 l.length (be l.length 2) l (be_length _ _) rfl hq1.out.1.row (HR.out.later hq1.out.2) (by omega)).mono ?_; rintro e w3 ⟨a', c', rfl, hq⟩))
  go_ret
  exact ⟨a', c', rfl, ⟨hq.out.1.row, hq.out.1.le, hq.out.1.cap, fun b hb => Nat.le_trans hq1.out.2.size (hq.out.1.new b hb)⟩, below_of hq1.out.2 hq.out.2⟩

set_option maxRecDepth 100000 in
set_option maxHeartbeats 8000000 in
theorem rbytes_any (w : World) (a : Option Addr) (c : Nat) (L : List Fil) (h : ListAt w a L) (hr : rightB L = true) :
    Calls Try.prog 16 #[.agg #[.slice a L.length c]] w fun e w' => ∃ a' c', e = .returned (.slice a' (encFiles L).length c') ∧ Hid (Row w' a' (encFiles L) ∧ Below w.heap.size w w') := by
  have hov := right_over hr
  have HL : Hid (ListAt w a L) := h
  have HNM : Hid (∀ x ∈ L, x.name.size ≤ 24) := right_names hr
  have HBY : Hid (∀ x ∈ L, x.bytes.length ≤ 4096) := right_bytes hr
  have HH := high_any L.length 2 (w.alloc (.cells #[.slice a L.length c] 24)) (by omega) (by omega)
  clear h hr
  go_enter Try.func16, Try.ntmps16
  go_wp2_with (go_at_call 35; refine HH.mono ?_; rintro e w1 ⟨rfl, hq1⟩)
  go_loopw [3, 4] (fun v i wr => ∃ (k : Nat) (av : Option Addr) (cv : Nat), k ≤ L.length ∧ i = .int .i64 k ∧ v = .slice av (encTake L k).length cv ∧ Hid (Row wr av (encTake L k) ∧ wr.heap[w.heap.size]? = some (.cells #[.slice a L.length c] 24 (0, 0)) ∧ Below w.heap.size w wr)) (fun _ i _ => L.length - (intOf i).toNat)
  case atStart => exact ⟨0, some ⟨w.heap.size + 1, 0, none⟩, 2, Nat.zero_le _, rfl, by simp [encTake, be_length], by have := hq1.out.1.row; simpa [encTake] using this, old_block hq1.out.2 (heap_alloc_new w _), below_of ((Below.refl _ w).alloc (Nat.le_refl _) _) hq1.out.2⟩
  case round =>
    clear hq1 HH
    obtain ⟨k, av, cv, hk, rfl, rfl, hq⟩ := hrel
    have d0 := cell_of hq.out.2.1 0
    simp only [List.getElem?_toArray, List.getElem?_cons_zero] at d0
    by_cases hkl : k < L.length
    · obtain ⟨b, o, rfl, hc⟩ := HL.out.2.2 (by omega)
      obtain ⟨f1, a2, c2, f2, _, _, f5⟩ := (hc k hkl).later hq.out.2.2
      have hn24 := HNM.out _ (List.getElem_mem hkl)
      have hl96 := HBY.out _ (List.getElem_mem hkl)
      have HS : Hid _ := encTake_succ L k hkl
      have htl := encTake_length L k
      have HROW : Hid (Row wr a2 L[k].bytes) := f5
      have hi1 : (k : Int) < (L.length : Int) := by omega
      clear hc f5
      generalize L[k] = x at f1 f2 hn24 hl96 HS HROW
      have hX : Below wr.heap.size wr wr.drew := (Below.refl _ wr).drew
      have HN := hn24
      clear hn24
      have hn256 : x.name.size < 256 := by omega
      have htl2 : (encTake L k).length ≤ 40000 := by omega
      have hle1 : (encName x.name).length ≤ 300 := by simp [encName, nbytes_length]; omega
      have hle2 : (encBytes x.bytes).length ≤ 5000 := by simp [encBytes, be_length]; omega
      have hL64 : L.length ≤ 64 := hov.1
      clear htl HN hov
      go_wp2
      go_region_held3 (fun W => W.cell? ⟨w.heap.size, 0, none⟩ = some (.slice (some ⟨b, o, none⟩) L.length c) ∧ W.cell? ⟨b, o + k * 2, none⟩ = some (.string x.name) ∧ W.cell? ⟨b, o + k * 2 + 1, none⟩ = some (.slice a2 x.bytes.length c2)) (first | exact ⟨cell_later hX d0, cell_later hX f1, cell_later hX f2⟩ | exact ⟨d0, f1, f2⟩) (first
        | (go_at_call 37; refine (named_any _ x.name hn256).mono ?_; rintro e w3 ⟨a3, c3, rfl, hq3⟩; have hX := below_of hX hq3.out.2)
        | (go_at_call 38; refine (counted_any _ a2 c2 x.bytes (HROW.out.later hX) hl96).mono ?_; rintro e w4 ⟨a4, c4, rfl, hq4⟩; have hX := below_of hX hq4.out.2)
        | (go_at_call 36; refine (both_at _ av a5 cv c5 (encTake L k).length ((encName x.name).length + (encBytes x.bytes).length) (encTake L k) (encName x.name ++ encBytes x.bytes) rfl List.length_append (hq.out.1.later hX) hq5.out.1.row (by omega)).mono ?_; rintro e w6 ⟨a6, c6, rfl, hq6⟩; have hX := below_of hX hq6.out.2)
        | (go_at_call 36; refine (both_at _ a3 a4 c3 c4 (encName x.name).length (encBytes x.bytes).length (encName x.name) (encBytes x.bytes) rfl rfl (hq3.out.1.row.later hq4.out.2) hq4.out.1.row (by omega)).mono ?_; rintro e w5 ⟨a5, c5, rfl, hq5⟩; have hX := below_of hX hq5.out.2))
      have HF : Hid (Row w6 a6 (encTake L (k + 1))) := by
        have := hq6.out.1.row
        rw [← List.append_assoc, ← HS.out] at this
        exact this
      have HLN : Hid ((encTake L (k + 1)).length = (encTake L k).length + ((encName x.name).length + (encBytes x.bytes).length)) := by show _ = _; rw [HS.out, List.length_append, List.length_append, Nat.add_assoc]
      have HX : Hid (Below wr.heap.size wr w6) := hX
      clear hq3 hq4 hq5 hq6 hX
      go_wp2
      go_roundw
      case rel => exact ⟨k + 1, a6, c6, by omega, by go_num, by rw [HLN.out], HF.out, old_block HX.out hq.out.2.1, below_of hq.out.2.2 HX.out⟩
      case measure => simp [intOf]; omega
    · obtain rfl : k = L.length := by omega
      have HE : Hid (encTake L L.length = encFiles L) := encTake_all L
      go_wp2
      go_ret
      exact ⟨av, cv, by rw [← HE.out]; rfl, by rw [← HE.out]; exact hq.out.1, hq.out.2.2⟩
end Go.Proofs.Ytfocejmfmnijpaa
