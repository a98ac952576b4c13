/- The law's wakes: its walk. -/
import Derived.Test.YtnjcaolkcmpdcaaUWakes
namespace Go.Proofs.Ytnjcaolkcmpdcaa
open Go.RowKit
set_option linter.unusedVariables false
theorem s_stored (w1 : World) (s : Sn) (p : Pt) (cs : List Value) (h : cs = sncells s p) :
    Hid ((w1.alloc (snc zeroU zeroP)).there w1.heap.size 0 cs.toArray.size) ∧ Hid (cs.toArray.all (·.oneCell') = true) ∧ Hid (((w1.alloc (snc zeroU zeroP)).setCells w1.heap.size 0 cs).heap[w1.heap.size]? = some (snc s p)) ∧ Hid (Below w1.heap.size w1 ((w1.alloc (snc zeroU zeroP)).setCells w1.heap.size 0 cs)) := by
  subst h
  have hb0 : Below w1.heap.size w1 (w1.alloc (snc zeroU zeroP)) := (Below.refl _ w1).alloc (Nat.le_refl _) _
  have h0 : (w1.alloc (snc zeroU zeroP)).heap[w1.heap.size]? = some (snc zeroU zeroP) := heap_alloc_new w1 _
  have ho := setC_off (w1.alloc (snc zeroU zeroP)) w1.heap.size 0 (sncells s p)
  exact ⟨sn_there h0 0 24 (Nat.le_refl _), sn_one _ _, block_stored (zs := sncells zeroU zeroP) h0 rfl, hb0.trans (ho.below hb0.size (fun i e => by have : i = w1.heap.size := e; omega))⟩
theorem rowC_lit (w : World) (x y : Int) : RowC (w.alloc (.cells #[.int .i64 x, .int .i64 y] 56)) (some ⟨w.heap.size, 0, none⟩) [(x, y)] := by
  refine ⟨by unfold maxLen; simp, fun _ => ⟨w.heap.size, 0, rfl, fun i hi => ?_⟩⟩
  have h0 : i = 0 := by simp at hi; omega
  subst h0
  exact ⟨by rw [cell_of (heap_alloc_new w _)]; rfl, by rw [cell_of (heap_alloc_new w _)]; rfl⟩
theorem came_zeroU (w : World) : CameS w zeroU zeroP := by
  have z64 : in64 0 := by unfold in64; omega
  exact ⟨row_nil _ _, rowC_nil _ _, ⟨⟨z64, z64, Nat.zero_lt_succ _, Nat.zero_lt_succ _, Nat.zero_lt_succ _, z64, z64, z64, z64, z64, Nat.zero_le _, Nat.zero_le _, fun c hc => absurd hc List.not_mem_nil⟩, row_nil _ _, rowC_nil _ _, Nat.zero_le _, Nat.zero_le _, Nat.zero_le _, Nat.zero_le _⟩, ⟨fun x hx => absurd hx List.not_mem_nil, Nat.zero_le _, fun h => absurd h (Nat.lt_irrefl 0)⟩, ⟨Nat.zero_le _, Nat.zero_le _⟩, ⟨Nat.zero_le _, Nat.zero_le _⟩, ⟨Nat.zero_le _, Nat.zero_le _⟩, Nat.zero_le _, Nat.zero_le _, Nat.zero_le _, fun c hc => absurd hc List.not_mem_nil, z64, Nat.zero_lt_succ _, z64, z64, z64, z64, z64, z64⟩
theorem check_zero (w : World) : Calls Try.prog 14 #[snv zeroU zeroP] w fun e w' => e = .returned (.int .i64 240) ∧ Hid (Below w.heap.size w w') := by
  have := ucheck_any zeroU zeroP w (came_zeroU w)
  rw [chkU_no (by decide +kernel)] at this
  exact this
set_option maxRecDepth 20000 in
set_option maxHeartbeats 8000000 in
theorem wakes_any (w : World) : Calls Try.prog 9 #[] w fun e w' => e = .returned (.bool true) ∧ Hid (Below w.heap.size w w') := by
  obtain ⟨i0, hi, hz0, hz1, hz2⟩ := info_parts Try.info5
  have HI : Hid (Try.prog.info? 5 = some i0) := hi
  have hb2 : i0.bytes * 250 ≤ 281474976710656 := by rw [hz2]; omega
  have HNW : Hid (∀ W a, Row W (some a) (List.replicate 250 0) → Calls Try.prog 10 #[.agg #[.int .i64 1, .int .u32 5, .slice (some a) 250 250, .int .i64 10, .int .i64 2], .int .i64 0] W fun e w' => ∃ cs g cap p1, e = .returned (.tuple #[.agg cs.toArray, .slice (some ⟨g, 0, none⟩) 3 cap, .int .i64 0]) ∧ Hid (WkN W w' cs g p1)) := wk_new
  have hs24 : (Try.prog.info? 32).map (·.size) = some 24 := by kernel_rfl
  clear hi
  go_enter Try.func9, Try.ntmps9
  go_upto_region 2 with (first | (at_make; refine wpList_make_full _ rfl _ _ 23 rfl w.heap.size 5 i0 _ 1 Try.underlying23 HI.out hz0 hz1 .i64 .i64 _ _ 250 (by rfl) (by rfl) rfl rfl hb2 (by unfold maxLen; omega) (Nat.le_refl _) ?_; intro w1 hown hgrow; obtain ⟨hm1, hm2⟩ := made_bytes hown hgrow; have HM1 : Hid (Row w1 (some ⟨w.heap.size, 0, none⟩) (List.replicate 250 0)) := (Bs.row ⟨hm1, (fun x hx => by rw [List.mem_replicate] at hx; omega), by unfold maxLen; simp⟩); have HM2 : Hid (Below w.heap.size w w1) := hm2; clear hown hgrow hm1 hm2) | (go_at_call 10; refine (HNW.out _ _ HM1.out).mono ?_; rintro e w2 ⟨cs, g, cap, p1, rfl, HQ⟩; obtain ⟨HT2, HO2, HX3, HB3⟩ := s_stored w2 wkS p1 cs HQ.out.cs; have hl24 : (Try.prog.info? 32).map (·.size) = some cs.toArray.size := (by rw [show cs.toArray.size = 24 by rw [HQ.out.cs]; rfl]; exact hs24)) | (refine wpList_store_mid rfl 32 _ _ rfl w2.heap.size 0 cs.toArray (by rfl) (by rfl) HT2.out hl24 HO2.out ?_))
  obtain ⟨w3, hw3⟩ : ∃ w3, (w2.alloc (snc zeroU zeroP)).setCells w2.heap.size 0 cs = w3 := ⟨_, rfl⟩
  change Code.wp Try.prog _ _ _ ((w2.alloc (snc zeroU zeroP)).setCells w2.heap.size 0 cs)
  rw [hw3] at HX3 HB3 ⊢
  have hchk : w3.cell? ⟨g, 36, none⟩ = some (.bool true) := cell_later HB3.out HQ.out.chk
  have hoff : w3.cell? ⟨g, 31, none⟩ = some (.int .i64 200) := cell_later HB3.out HQ.out.off
  have hsta : w3.cell? ⟨w2.heap.size, 5, none⟩ = some (.int .i64 1) := by rw [cell_of HX3.out]; rfl
  have HR3 : Hid (w3.rangeAt w2.heap.size 0 cs) := by rw [HQ.out.cs]; exact sn_range HX3.out
  have hsz1 : (Try.prog.info? 32).map (·.size) = some cs.length := by rw [show cs.length = 24 by rw [HQ.out.cs]; rfl]; exact hs24
  have HTK : Hid (∀ W b, Below w3.heap.size w3 W → RowC W (some ⟨b, 0, none⟩) [(0, 250)] → Calls Try.prog 18 #[.agg cs.toArray, .agg #[.int .i64 2, .int .i64 1, .int .u32 5, .int .u32 1, .int .u32 1, .int .i64 0, .int .i64 0, .int .i64 0, .int .i64 250, .int .i64 0, .bool false, .slice none 0 0, .slice (some ⟨b, 0, none⟩) 1 1], .int .i64 3] W fun e w' => ∃ cs a2 c2 p2, e = .returned (.tuple #[.agg cs.toArray, .slice a2 1 c2, .int .i64 0]) ∧ Hid (Below W.heap.size W w' ∧ cs = sncells wkT p2)) := fun W b hb hr => by
    rw [HQ.out.cs]
    exact wk_take W p1 b ((HQ.out.came.later HB3.out).later hb) hr
  have HBW : Hid (Below w.heap.size w w3) := below_of (below_of HM2.out HQ.out.bel) HB3.out
  clear hw3 HNW HX3 HT2 HO2 hl24 HM1
  go_upto_region 5 with (first | (refine wpList_load_mid rfl 32 _ rfl w2.heap.size 0 (by rfl) cs _ HR3.out Try.underlying32 rfl hsz1 ?_) | (go_at_call 18; refine (HTK.out _ _ ((Below.refl _ w3).alloc (Nat.le_refl _) _) (rowC_lit w3 0 250)).mono ?_; rintro e w4 ⟨cs4, a4, c4, p4, rfl, HQ4⟩; obtain ⟨HT4, HO4, HX4, HB4⟩ := s_stored w4 wkT p4 cs4 HQ4.out.2; have hl24 : (Try.prog.info? 32).map (·.size) = some cs4.toArray.size := (by rw [show cs4.toArray.size = 24 by rw [HQ4.out.2]; rfl]; exact hs24)) | (refine wpList_store_mid rfl 32 _ _ rfl w4.heap.size 0 cs4.toArray (by rfl) (by rfl) HT4.out hl24 HO4.out ?_))
  obtain ⟨w5, hw5⟩ : ∃ w5, (w4.alloc (snc zeroU zeroP)).setCells w4.heap.size 0 cs4 = w5 := ⟨_, rfl⟩
  change Code.wp Try.prog _ _ _ ((w4.alloc (snc zeroU zeroP)).setCells w4.heap.size 0 cs4)
  rw [hw5] at HX4 HB4 ⊢
  have hst2 : w5.cell? ⟨w4.heap.size, 5, none⟩ = some (.int .i64 2) := by rw [cell_of HX4.out]; rfl
  have HB5 : Hid (Below w.heap.size w w5) := below_of (below_of (below_of HBW.out ((Below.refl _ w3).alloc (Nat.le_refl _) _)) HQ4.out.1) HB4.out
  have HCZ : Hid (∀ W, Calls Try.prog 14 #[snv zeroU zeroP] W fun e w' => e = .returned (.int .i64 240) ∧ Hid (Below W.heap.size W w')) := check_zero
  clear hw5 HX4 HT4 HO4 hl24 HTK HR3 hchk hoff hsta
  go_wp2_with (go_at_call 14; refine (HCZ.out _).mono ?_; rintro e w6 ⟨rfl, hb6⟩)
  go_ret
  exact ⟨rfl, below_of HB5.out hb6.out⟩
end Go.Proofs.Ytnjcaolkcmpdcaa
