/- The walk of the reference's own Ops. -/
import Derived.Test.YtfocejmfmnijpaaEEncOps
import Derived.Test.YtfocejmfmnijpaaERef
namespace Go.Proofs.Ytfocejmfmnijpaa
open Go.RowKit

set_option maxRecDepth 100000 in
set_option maxHeartbeats 16000000 in
theorem rops_any (w : World) (a : Option Addr) (c : Nat) (l : List OpS) (h : OpsAt w a l) (hall : ∀ x ∈ l, sayB x = true) (h200 : l.length ≤ 200) :
    Calls Try.prog 21 #[.slice a l.length c] w fun e w' => ∃ a' c', e = .returned (.slice a' (encOps l).length c') ∧ Hid (Row w' a' (encOps l) ∧ Below w.heap.size w w') := by
  have HL : Hid (OpsAt w a l) := h
  have HALL : Hid (∀ x ∈ l, sayB x = true) := hall
  have HH := high_any l.length 2 w (by omega) (by omega)
  have HHI : Hid (∀ W (t : Nat), t ≤ 4096 → Calls Try.prog 35 #[.int .u64 t, .int .i64 2] W fun e w' => e = .returned (.slice (some ⟨W.heap.size, 0, none⟩) 2 2) ∧ Hid (Bs w' W.heap.size (be t 2) ∧ Below W.heap.size W w')) := fun W t ht => high_any t 2 W (by omega) (by omega)
  clear h hall
  go_enter Try.func21, Try.ntmps21
  go_wp2_with (go_at_call 35; refine HH.mono ?_; rintro e w1 ⟨rfl, hq1⟩)
  go_loopw [3, 4] (fun v i wr => ∃ (k : Nat) (av : Option Addr) (cv : Nat), k ≤ l.length ∧ i = .int .i64 k ∧ v = .slice av (encOpsT l k).length cv ∧ Hid (Row wr av (encOpsT l k) ∧ Below w.heap.size w wr)) (fun _ i _ => l.length - (intOf i).toNat)
  case atStart => exact ⟨0, some ⟨w.heap.size, 0, none⟩, 2, Nat.zero_le _, rfl, by simp [encOpsT, be_length], by have := hq1.out.1.row; simpa [encOpsT] using this, hq1.out.2⟩
  case round =>
    clear hq1 HH
    obtain ⟨k, av, cv, hk, rfl, rfl, hq⟩ := hrel
    by_cases hkl : k < l.length
    · obtain ⟨b, o, rfl, hc⟩ := HL.out.2.2 (by omega)
      obtain ⟨g0, g1, g2, g3, ab, cb, g4, _, _, f7⟩ := (hc k hkl).later hq.out.2
      have HS : Hid _ := encOpsT_succ l k hkl
      have htl := encOpsT_length l k (fun x hx => HALL.out x (List.mem_of_mem_take hx))
      have HROW : Hid (Row wr ab l[k].bytes) := f7
      have hi1 : (k : Int) < (l.length : Int) := by omega
      have hsay := HALL.out _ (List.getElem_mem hkl)
      clear hc f7
      obtain ⟨x, hx⟩ : ∃ x, x = l[k] := ⟨_, rfl⟩
      rw [← hx] at g0 g1 g2 g3 g4 HS HROW hsay
      clear hx
      obtain ⟨hn, h4, hkk⟩ := say_is hsay
      have hns := name_size hn
      clear hn hsay
      obtain ⟨xk, xn, xm, xt, xb⟩ := x
      simp only at *
      obtain ⟨kn, rfl⟩ : ∃ kn : Nat, xk = (kn : Int) := ⟨xk.toNat, by rcases hkk with h | h | h | h <;> omega⟩
      have hkn : 1 ≤ kn ∧ kn ≤ 4 := by rcases hkk with h | h | h | h <;> omega
      have hk256 : kn < 256 := by omega
      have hwk : IntKind.u8.wrap ((kn : Nat) : Int) = (kn : Int) := by
        have h := hkn
        have : kn = 1 ∨ kn = 2 ∨ kn = 3 ∨ kn = 4 := by omega
        rcases this with rfl | rfl | rfl | rfl <;> decide
      have hT : (encOpsT l k).length ≤ 900000 := by omega
      obtain ⟨T, hTT⟩ : ∃ T, T = encOpsT l k := ⟨_, rfl⟩
      have HTT : Hid (T = encOpsT l k) := hTT
      rw [← hTT] at hT hq ⊢
      clear hTT htl
      have hle1 : (encName xn).length ≤ 30 := by simp [encName, nbytes_length]; omega
      have hX0 : Below wr.heap.size wr wr.drew := (Below.refl _ wr).drew
      have hXA : Below wr.heap.size wr (wr.alloc (.cells #[.int .u8 (kn : Nat)] 5)).drew := ((Below.refl _ wr).alloc (Nat.le_refl _) _).drew
      have HNM : Hid (∀ W, Below wr.heap.size wr W → Calls Try.prog 37 #[.string xn] W fun e w' => ∃ a' c', e = .returned (.slice a' (encName xn).length c') ∧ Hid (Fresh W w' a' c' (encName xn) ∧ Below W.heap.size W w')) := fun W _ => named_any W xn (by omega)
      have HSW : Hid (∀ W, Below wr.heap.size wr W → W.cell? ⟨b, o + k * 5, none⟩ = some (.int .i64 (kn : Nat)) ∧ W.cell? ⟨b, o + k * 5 + 1, none⟩ = some (.string xn)) := fun W hW => ⟨cell_later hW g0, cell_later hW g1⟩
      have HB1 : Hid (∀ W kb a3 c3, Below wr.heap.size wr W → W.heap[kb]? = some (.cells #[.int .u8 (kn : Nat)] 5 (0, 0)) → Row W a3 (encName xn) → Calls Try.prog 36 #[.slice (some ⟨kb, 0, none⟩) 1 1, .slice a3 (encName xn).length c3] W fun e w' => ∃ a' c', e = .returned (.slice a' (1 + (encName xn).length) c') ∧ Hid (Fresh W w' a' c' ([kn] ++ encName xn) ∧ Below W.heap.size W w')) := fun W kb a3 c3 _ hk h3 => both_at W _ a3 1 c3 1 _ [kn] (encName xn) rfl rfl (row_one hk hk256) h3 (by omega)
      have HB2 : Hid (∀ W a5 c5, Below wr.heap.size wr W → Row W a5 ([kn] ++ encName xn) → Calls Try.prog 36 #[.slice av T.length cv, .slice a5 (1 + (encName xn).length) c5] W fun e w' => ∃ a' c', e = .returned (.slice a' (T.length + (1 + (encName xn).length)) c') ∧ Hid (Fresh W w' a' c' (T ++ ([kn] ++ encName xn)) ∧ Below W.heap.size W w')) := fun W a5 c5 hW h5 => both_at W av a5 cv c5 _ _ T ([kn] ++ encName xn) rfl (by simp; omega) (hq.out.1.later hW) h5 (by omega)
      go_wp2
      go_region_held3 (fun W => W.cell? ⟨b, o + k * 5, none⟩ = some (.int .i64 (kn : Nat)) ∧ W.cell? ⟨b, o + k * 5 + 1, none⟩ = some (.string xn)) (first | exact HSW.out _ hX6 | exact HSW.out _ hX5 | exact HSW.out _ (hX3.alloc hX3.size _) | exact HSW.out _ hX3 | exact HSW.out _ hX0 | exact HSW.out _ hXA | exact HSW.out _ (Below.refl _ _)) (first
        | (go_at_call 37; refine (HNM.out _ hX0).mono ?_; rintro e w3 ⟨a3, c3, rfl, hq3⟩; have hX3 := below_of hX0 hq3.out.2)
        | (go_at_call 37; refine (HNM.out _ hXA).mono ?_; rintro e w3 ⟨a3, c3, rfl, hq3⟩; have hX3 := below_of hXA hq3.out.2; have kA : w3.heap[wr.heap.size]? = some (.cells #[.int .u8 (kn : Nat)] 5 (0, 0)) := old_block hq3.out.2 (heap_alloc_new wr _))
        | (go_at_call 36; refine (HB2.out _ a5 c5 hX5 hq5.out.1.row).mono ?_; rintro e w6 ⟨a6, c6, rfl, hq6⟩; have hX6 := below_of hX5 hq6.out.2)
        | (go_at_call 36; refine (HB1.out _ wr.heap.size a3 c3 hX3 kA hq3.out.1.row).mono ?_; rintro e w5 ⟨a5, c5, rfl, hq5⟩; have hX5 := below_of hX3 hq5.out.2)
        | (go_at_call 36; refine (HB1.out _ w3.heap.size a3 c3 (hX3.alloc hX3.size _) (heap_alloc_new w3 _) (hq3.out.1.row.later ((Below.refl _ w3).alloc (Nat.le_refl _) _))).mono ?_; rintro e w5 ⟨a5, c5, rfl, hq5⟩; have hX5 := below_of (hX3.alloc hX3.size _) hq5.out.2))
      all_goals
        have HX6 : Hid (Below wr.heap.size wr w6 ∧ Row w6 a6 (T ++ ([kn] ++ encName xn))) := ⟨hX6, hq6.out.1.row⟩
        have e0 := cell_later hX6 g0
        have e2 := cell_later hX6 g2
        have e3 := cell_later hX6 g3
        have e4 := cell_later hX6 g4
        have hleb : (encBytes xb).length ≤ 4098 := by simp [encBytes, be_length]; omega
        clear hq3 hq5 hq6 hX3 hX5 hX6 hX0 hXA HNM HSW HB1 HB2 g0 g1 g2 g3 g4 hwk
        rcases hkk with ⟨h1, h5, h6⟩ | ⟨h1, h5, h6, h7⟩ | ⟨h1, h5, h6, h7⟩ | ⟨h1, h5, h6, h7⟩
        · obtain rfl : kn = 1 := by omega
          subst h6
          clear h1 hkn hk256 h5
          go_wp2_with fail
          refine (counted_any w6 ab cb xb (HROW.out.later HX6.out.1) h4).mono ?_
          rintro e w7 ⟨a7, c7, rfl, hq7⟩
          go_wp2_with fail
          refine (both_at w7 a6 a7 c6 c7 (T.length + (1 + (encName xn).length)) (encBytes xb).length (T ++ ([1] ++ encName xn)) (encBytes xb) (by simp; omega) rfl (HX6.out.2.later hq7.out.2) hq7.out.1.row (by omega)).mono ?_
          rintro e w8 ⟨a8, c8, rfl, hq8⟩
          have z0 := cell_later (below_of hq7.out.2 hq8.out.2) e0
          have HEQ : Hid (encOpsT l (k + 1) = T ++ ([1] ++ encName xn) ++ encBytes xb) := by show _ = _; rw [HS.out, ← HTT.out]; simp [encOp, encTail]
          have HLN : Hid ((encOpsT l (k + 1)).length = T.length + (1 + (encName xn).length) + (encBytes xb).length) := by show _ = _; rw [HEQ.out]; simp only [List.length_append, List.length_cons, List.length_nil]
          have HBW : Hid (Below wr.heap.size wr w8) := below_of HX6.out.1 (below_of hq7.out.2 hq8.out.2)
          have HRW : Hid (Row w8 a8 (encOpsT l (k + 1))) := by show Row _ _ _; rw [HEQ.out]; exact hq8.out.1.row
          go_wp2
          go_roundw
          case rel => exact ⟨k + 1, a8, c8, by omega, by go_num, by rw [HLN.out], HRW.out, below_of hq.out.2 HBW.out⟩
          case measure => simp [intOf]; omega
        · obtain rfl : kn = 2 := by omega
          obtain ⟨t0, rfl⟩ : ∃ t0 : Nat, xt = (t0 : Int) := ⟨xt.toNat, by omega⟩
          clear h1 hkn hk256 h5 h6
          go_wp2_with fail
          refine (HHI.out w6 t0 (by omega)).mono ?_
          rintro e w7 ⟨rfl, hq7⟩
          go_wp2_with fail
          refine (both_at w7 a6 _ c6 2 (T.length + (1 + (encName xn).length)) 2 (T ++ ([2] ++ encName xn)) (be t0 2) (by simp; omega) (be_length _ _) (HX6.out.2.later hq7.out.2) hq7.out.1.row (by omega)).mono ?_
          rintro e w8 ⟨a8, c8, rfl, hq8⟩
          have z0 := cell_later (below_of hq7.out.2 hq8.out.2) e0
          have z4 := cell_later (below_of hq7.out.2 hq8.out.2) e4
          go_wp2_with fail
          refine (counted_any w8 ab cb xb (HROW.out.later (below_of HX6.out.1 (below_of hq7.out.2 hq8.out.2))) h4).mono ?_
          rintro e w9 ⟨a9, c9, rfl, hq9⟩
          go_wp2_with fail
          refine (both_at w9 a8 a9 c8 c9 (T.length + (1 + (encName xn).length) + 2) (encBytes xb).length (T ++ ([2] ++ encName xn) ++ be t0 2) (encBytes xb) (by simp only [List.length_append, be_length, List.length_cons, List.length_nil]) rfl (hq8.out.1.row.later hq9.out.2) hq9.out.1.row (by omega)).mono ?_
          rintro e w10 ⟨a10, c10, rfl, hq10⟩
          have y0 := cell_later (below_of hq9.out.2 hq10.out.2) z0
          have HEQ : Hid (encOpsT l (k + 1) = T ++ ([2] ++ encName xn) ++ be t0 2 ++ encBytes xb) := by show _ = _; rw [HS.out, ← HTT.out]; simp [encOp, encTail]
          have HLN : Hid ((encOpsT l (k + 1)).length = T.length + (1 + (encName xn).length) + 2 + (encBytes xb).length) := by show _ = _; rw [HEQ.out]; simp only [List.length_append, List.length_cons, List.length_nil, be_length]
          have HBW : Hid (Below wr.heap.size wr w10) := below_of HX6.out.1 (below_of (below_of hq7.out.2 hq8.out.2) (below_of hq9.out.2 hq10.out.2))
          have HRW : Hid (Row w10 a10 (encOpsT l (k + 1))) := by show Row _ _ _; rw [HEQ.out]; exact hq10.out.1.row
          go_wp2
          go_roundw
          case rel => exact ⟨k + 1, a10, c10, by omega, by go_num, by rw [HLN.out], HRW.out, below_of hq.out.2 HBW.out⟩
          case measure => simp [intOf]; omega
        · obtain rfl : kn = 3 := by omega
          have hms := name_size h5
          have hle2 : (encName xm).length ≤ 30 := by simp [encName, nbytes_length]; omega
          subst h6
          obtain rfl : xb = [] := List.eq_nil_of_length_eq_zero h7
          clear h1 hkn hk256 h5 h7
          go_wp2_with fail
          refine (named_any w6 xm (by omega)).mono ?_
          rintro e w7 ⟨a7, c7, rfl, hq7⟩
          go_wp2_with fail
          refine (both_at w7 a6 a7 c6 c7 (T.length + (1 + (encName xn).length)) (encName xm).length (T ++ ([3] ++ encName xn)) (encName xm) (by simp; omega) rfl (HX6.out.2.later hq7.out.2) hq7.out.1.row (by omega)).mono ?_
          rintro e w8 ⟨a8, c8, rfl, hq8⟩
          have HEQ : Hid (encOpsT l (k + 1) = T ++ ([3] ++ encName xn) ++ encName xm) := by show _ = _; rw [HS.out, ← HTT.out]; simp [encOp, encTail]
          have HLN : Hid ((encOpsT l (k + 1)).length = T.length + (1 + (encName xn).length) + (encName xm).length) := by show _ = _; rw [HEQ.out]; simp only [List.length_append, List.length_cons, List.length_nil]
          have HBW : Hid (Below wr.heap.size wr w8) := below_of HX6.out.1 (below_of hq7.out.2 hq8.out.2)
          have HRW : Hid (Row w8 a8 (encOpsT l (k + 1))) := by show Row _ _ _; rw [HEQ.out]; exact hq8.out.1.row
          go_wp2
          go_roundw
          case rel => exact ⟨k + 1, a8, c8, by omega, by go_num, by rw [HLN.out], HRW.out, below_of hq.out.2 HBW.out⟩
          case measure => simp [intOf]; omega
        · obtain rfl : kn = 4 := by omega
          subst h6
          obtain rfl : xb = [] := List.eq_nil_of_length_eq_zero h7
          clear h1 hkn hk256 h5 h7
          have HEQ : Hid (encOpsT l (k + 1) = T ++ ([4] ++ encName xn)) := by show _ = _; rw [HS.out, ← HTT.out]; simp [encOp, encTail]
          have HLN : Hid ((encOpsT l (k + 1)).length = T.length + (1 + (encName xn).length)) := by show _ = _; rw [HEQ.out]; simp only [List.length_append, List.length_cons, List.length_nil]
          have HBW : Hid (Below wr.heap.size wr w6) := HX6.out.1
          have HRW : Hid (Row w6 a6 (encOpsT l (k + 1))) := by show Row _ _ _; rw [HEQ.out]; exact HX6.out.2
          go_wp2
          go_roundw
          case rel => exact ⟨k + 1, a6, c6, by omega, by go_num, by rw [HLN.out], HRW.out, below_of hq.out.2 HBW.out⟩
          case measure => simp [intOf]; omega
    · obtain rfl : k = l.length := by omega
      have HE : Hid (encOpsT l l.length = encOps l) := encOpsT_all l
      go_wp2
      go_ret
      exact ⟨av, cv, by rw [← HE.out]; rfl, by rw [← HE.out]; exact hq.out.1, hq.out.2⟩
end Go.Proofs.Ytfocejmfmnijpaa
