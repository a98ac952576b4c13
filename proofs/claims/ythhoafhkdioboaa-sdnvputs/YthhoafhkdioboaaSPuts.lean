/- The walk of SdnvPuts. -/
import Derived.Test.YthhoafhkdioboaaSBytes
namespace Go.Proofs.Ythhoafhkdioboaa
open Go.RowKit
set_option linter.unusedVariables false

/-- what stands in a round: the bytes c and b, and what was put so far. -/
structure Pt (w2 wr : World) (v : Value) (n : Nat) (P : List Nat) : Prop where
  below : Below w2.heap.size w2 wr
  own : wr.ownsRow w2.heap.size 5 1 v n (cells P)
/-- one byte written over. -/
theorem over_step {w wr : World} {g j : Nat} {X : List Nat} (h : Bs wr g X) (ho : Off (fun k => k = g) w wr) (hj : j < X.length) :
    Bs (wr.setCell ⟨g, j, none⟩ (.int .u8 238)) g (X.set j 238) ∧ Off (fun k => k = g) w (wr.setCell ⟨g, j, none⟩ (.int .u8 238)) := by
  refine ⟨⟨?_, ?_, by rw [List.length_set]; exact h.len⟩, ho.setCell (p := ⟨g, j, none⟩) (.inr rfl) _⟩
  · have := heap_setCell_same wr g j _ _ (.int .u8 ((238 : Nat) : Int)) h.here
    rw [cells_set] at this
    exact this
  · intro x hx
    rcases List.mem_or_eq_of_mem_set hx with h1 | h1
    · exact h.byte x h1
    · rw [h1]; omega
theorem over_cell {wr : World} {g j : Nat} {X : List Nat} (h : Bs wr g X) (hj : j < X.length) : (∃ u, wr.cell? ⟨g, j, none⟩ = some u) ∧ wr.frozen? ⟨g, j, none⟩ = false := by
  refine ⟨?_, frozen_of h.here j⟩
  rw [cell_of h.here]
  exact ⟨_, Array.getElem?_eq_getElem (by simp [cells_length]; omega)⟩
theorem Pt.off {w2 wr w' : World} {v : Value} {n g : Nat} {P : List Nat} (h : Pt w2 wr v n P) (hg : wr.heap.size ≤ g) (ho : Off (fun k => k = g) wr w') : Pt w2 w' v n P :=
  ⟨h.below.trans (ho.below h.below.size (fun i e => by have := h.below.size; omega)), ho.owns h.own (fun k hk e => by have := (World.ownsRow.lt h.own k hk).2; omega)⟩
theorem equal_same {w : World} {a b : Option Addr} {c d m : Nat} {L : List Nat} (h1 : Row w a L) (h2 : Row w b L) (hm : L.length = m) : Calls Try.prog 13 #[.slice a m c, .slice b m d] w fun e w' => e = .returned (.bool true) ∧ w' = w := by
  subst hm
  have := bytesEqual_any a b c d L L w h1 h2
  simpa using this
theorem row_left {w : World} {a : Option Addr} {L m : List Nat} (h : Row w a (L ++ m)) : Row w a L := by have := row_take h L.length; rw [List.take_left] at this; exact this
theorem row_last {w : World} {g : Nat} {L : List Nat} {m : Nat} (h : Row w (some ⟨g, 0, none⟩) (L ++ [7])) (hm : L.length = m) : w.cell? ⟨g, m, none⟩ = some (.int .u8 7) := by
  subst hm
  obtain ⟨b, o, e, hc⟩ := row_at h L.length (by simp)
  cases e
  simpa using hc

set_option maxRecDepth 20000 in
set_option maxHeartbeats 2000000 in
theorem puts_any (w : World) (a a1 : Option Addr) (c c1 : Nat) (b l : List Nat) (hr : Row w a b) (hz : b.length ≤ 140737488351232) (hcap : b.length ≤ c) (hr1 : Row64 w a1 l) (hz1 : l.length ≤ 140737488351232) (hcap1 : l.length ≤ c1) :
    Calls Try.prog 3 #[.slice a b.length c, .slice a1 l.length c1] w fun e w' => e = .returned (.bool true) ∧ Hid (Below w.heap.size w w') := by
  have HWK := wakes_any w
  obtain ⟨M, L, HR, HM, hMc, hM3, hML⟩ : ∃ M L, Hid (Row w a L) ∧ Hid (L.length = M) ∧ M ≤ c ∧ M ≤ 300 ∧ ((300 < b.length ∧ M = 300) ∨ (¬ 300 < b.length ∧ M = b.length)) := by
    by_cases hbig : 300 < b.length
    · exact ⟨300, b.take 300, row_take hr 300, by show _ = _; rw [List.length_take]; omega, by omega, by omega, .inl ⟨hbig, rfl⟩⟩
    · exact ⟨b.length, b, hr, rfl, by omega, by omega, .inr ⟨hbig, rfl⟩⟩
  obtain ⟨N, B, HR1, HN, hNc, hN3, hNL⟩ : ∃ N B, Hid (Row64 w a1 B) ∧ Hid (B.length = N) ∧ N ≤ c1 ∧ N ≤ 100 ∧ ((100 < l.length ∧ N = 100) ∨ (¬ 100 < l.length ∧ N = l.length)) := by
    by_cases hbig : 100 < l.length
    · exact ⟨100, l.take 100, row64_take hr1 100, by show _ = _; rw [List.length_take]; omega, by omega, by omega, .inl ⟨hbig, rfl⟩⟩
    · exact ⟨l.length, l, hr1, rfl, by omega, by omega, .inr ⟨hbig, rfl⟩⟩
  clear hr hr1
  have HOW : Hid (∀ w1, Below w.heap.size w w1 → Calls Try.prog 10 #[.slice a M c] w1 fun e w' => ∃ g cap, e = .returned (.slice (some ⟨g, 0, none⟩) M cap) ∧ Hid (Own w1 w' g cap L)) := fun w1 h => by
    have := own_any w1 a c L (HR.out.later h) (by have := HM.out; omega)
    rw [HM.out] at this
    exact this
  have HRW : Hid (∀ w1, Below w.heap.size w w1 → Calls Try.prog 15 #[.slice a1 N c1] w1 fun e w' => e = .returned (.slice (some ⟨w1.heap.size, 0, none⟩) (rowL B).length (rowL B).length) ∧ Hid (Bs w' w1.heap.size (rowL B) ∧ Below w1.heap.size w1 w')) := fun w1 hb => by
    have := row_any w1 a1 c1 B (HR1.out.later hb) (by have := HN.out; omega)
    rw [HN.out] at this
    exact this
  have HJ3 : Hid (∀ j, j < B.length → (j : Int) < (N : Int) ∧ j < N) := fun j hj => by have := HN.out; omega
  have HJ4 : Hid (∀ j, ¬ j < B.length → ¬ ((j : Int) < (N : Int)) ∧ ¬ j < N) := fun j hj => by have := HN.out; omega
  have HCAP : Hid (∀ w1 w2 g cap, Own w1 w2 g cap L → M + 1 ≤ cap) := fun w1 w2 g cap h => by have := h.cap; have := HM.out; omega
  have HPT : Hid (∀ (w1 : World) (g cap n : Nat), n < 18446744073709551616 → Row w1 (some ⟨g, 0, none⟩) (L ++ [7]) → Calls Try.prog 12 #[.slice (some ⟨g, 0, none⟩) M cap, .int .u64 n] w1 fun e w' => e = .returned (.slice (some ⟨w1.heap.size, 0, none⟩) (M + sz n) (M + sz n)) ∧ Hid (Bs w' w1.heap.size (L ++ sd n) ∧ Below w1.heap.size w1 w')) := fun w1 g cap n hn h => by
    have := put_any w1 (some ⟨g, 0, none⟩) cap L n (row_left h) (by have := HM.out; omega) hn
    rw [HM.out] at this
    exact this
  have HEB : Hid (∀ w1 g cap, Row w1 (some ⟨g, 0, none⟩) (L ++ [7]) → Row w1 a L → Calls Try.prog 13 #[.slice (some ⟨g, 0, none⟩) M cap, .slice a M c] w1 fun e w' => e = .returned (.bool true) ∧ w' = w1) := fun w1 g cap h1 h2 => equal_same (row_left h1) h2 HM.out
  have HEG : Hid (∀ (w1 : World) (g k n c1 c2 : Nat), Row w1 (some ⟨g, 0, none⟩) (L ++ sd n) → Row w1 (some ⟨k, 0, none⟩) (L ++ sd n) → Calls Try.prog 13 #[.slice (some ⟨g, 0, none⟩) (M + sz n) c1, .slice (some ⟨k, 0, none⟩) (M + sz n) c2] w1 fun e w' => e = .returned (.bool true) ∧ w' = w1) := fun w1 g k n c1 c2 h1 h2 => equal_same h1 h2 (by rw [List.length_append, HM.out]; rfl)
  have HLS : Hid (∀ w1 g, Row w1 (some ⟨g, 0, none⟩) (L ++ [7]) → w1.cell? ⟨g, M, none⟩ = some (.int .u8 7)) := fun w1 g h => row_last h HM.out
  have HLB : Hid (∀ x ∈ L, x < 256) := HR.out.1
  have HTJ : Hid (∀ y j, j < (L ++ sd y).length → j < M + sz y) := fun y j h => by rw [List.length_append, HM.out] at h; exact h
  have HTN : Hid (∀ y j, ¬ j < (L ++ sd y).length → ¬ j < M + sz y) := fun y j h => by rw [List.length_append, HM.out] at h; exact h
  rcases hML with ⟨hbig, rfl⟩ | ⟨hbig, rfl⟩
  all_goals
    rcases hNL with ⟨hbig1, rfl⟩ | ⟨hbig1, rfl⟩
    all_goals
      go_enter Try.func3, Try.ntmps3
      go_wp2_with (first | (go_at_call 9; refine HWK.mono ?_; rintro e w1 ⟨rfl, hb1⟩))
      go_region
      have HBD : Hid (Below w.heap.size w w1.drew) := hb1.out.drew
      generalize w1.drew = wd at HBD ⊢
      go_wp2_with (go_at_call 10; refine (HOW.out _ HBD.out).mono ?_; rintro e w2 ⟨g, cap, rfl, HO⟩)
      have hcp := HCAP.out _ _ _ _ HO.out
      have HB2 : Hid (Below w.heap.size w w2) := below_of HBD.out HO.out.below
      have HRA : Hid (Row w2 a L) := HR.out.later HB2.out
      have HRC : Hid (Row w2 (some ⟨g, 0, none⟩) (L ++ [7])) := HO.out.row
      have HRB : Hid (Row64 w2 a1 B) := HR1.out.later HB2.out
      clear HOW HCAP HWK HBD hb1
      go_loopw [6, 28] (fun u i wr => ∃ k n : Nat, k ≤ B.length ∧ i = .int .i64 k ∧ n ≤ 10 * k ∧ Hid (Pt w2 wr u n (rowL (B.take k)))) (fun _ i _ => B.length - (intOf i).toNat)
      case atStart => exact ⟨0, 0, by omega, rfl, by omega, Below.refl _ _, rfl, .inl ⟨rfl, rfl⟩⟩
      case round =>
        obtain ⟨k, n, hk, rfl, hnk, HD⟩ := hrel
        by_cases hlt : k < B.length
        · obtain ⟨i1, i2⟩ := HJ3.out k hlt
          obtain ⟨b0, o0, rfl, d1, hy⟩ := row64_at (HRB.out.later HD.out.below) k hlt
          have hys := sd_len B[k] hy
          have HNX : Hid (rowL (B.take k) ++ sd B[k] = rowL (B.take (k + 1))) := (rowL_take B k hlt).symm
          generalize B[k] = y at d1 hy hys HNX
          have HBY := rbytes_any wr y hy
          have HPY := fun w1 g cap h => HPT.out w1 g cap y hy h
          have HSZ := fun w1 => size_any w1 y hy
          have HEY := fun w1 g k c1 c2 h1 h2 => HEG.out w1 g k y c1 c2 h1 h2
          have HSL : Hid ((sd y).length = sz y) := rfl
          have HTY := HTJ.out y
          have HTZ := HTN.out y
          generalize sz y = Y at hys HBY HPY HSZ HEY HSL HTY HTZ
          have HTY' : Hid _ := HTY
          have HTZ' : Hid _ := HTZ
          clear HTY HTZ
          have hYY : ((Y : Int) != (Y : Int)) = false := by simp
          have h77 : ((7 : Int) != 7) = false := by simp
          go_wp2_with (first
            | (go_at_call 11; refine HBY.mono ?_; rintro e w3 ⟨gx, cx, rfl, HX⟩)
            | (go_at_call 12; refine (HPY _ _ _ (HRC.out.later (HD.out.below.trans (HX.out.2.mono HD.out.below.size)))).mono ?_; rintro e w4 ⟨rfl, HP⟩; have HB4 : Hid (Below wr.heap.size wr w4) := below_of HX.out.2 HP.out.2; have HC4 : Hid (Below w2.heap.size w2 w4) := HD.out.below.trans (HB4.out.mono HD.out.below.size))
            | (at_builtin; refine wpList_append_some rfl _ _ rfl w4.heap.size g5 c5 L _ Y rfl HO5.out _ _ (sd y) HSL.out rfl (HX.out.1.later (below_of HP.out.2 HB5.out)) (by omega) HB5.out.size ?_; intro g6 c6 w6 ho6 hg6 hc6; have HB6 : Hid (Below w4.heap.size w4 w6) := app_more HB5.out HO5.out hg6; have HC6 : Hid (Below w2.heap.size w2 w6) := HC4.out.trans (HB6.out.mono HC4.out.size); have HR6 : Hid (Row w6 (some ⟨g6, 0, none⟩) (L ++ sd y)) := (own_some ho6 (fun x hx => (List.mem_append.1 hx).elim (HLB.out x) (sd_byte y x)) (by have h1 := HSL.out; have h2 := HM.out; simp only [List.length_append, h1, h2]; unfold maxLen; omega)).1; clear ho6 hg6 hc6; have hls := HLS.out w6 g (HRC.out.later HC6.out))
            | (at_builtin; refine wpList_append_some rfl _ _ rfl w4.heap.size w4.heap.size 0 [] 0 _ rfl (made_none w4) _ _ L HM.out rfl (HRA.out.later (HC4.out.alloc HC4.out.size _)) (by omega) (by simp) ?_; intro g5 c5 w5 ho5 hg5 hc5; have HO5 : Hid (w5.ownsRow w4.heap.size 5 1 (.slice (some ⟨g5, 0, none⟩) _ c5) _ (cells L)) := (by show World.ownsRow _ _ _ _ _ _ _; simpa using ho5); have HB5 : Hid (Below w4.heap.size w4 w5) := app_below (made_none w4) hg5; clear ho5 hg5 hc5)
            | (go_at_call 13; have hh := FL; clear hh; refine (HEB.out _ _ _ (HRC.out.later HC6.out) (HRA.out.later HC6.out)).mono ?_; rintro e w7 ⟨rfl, rfl⟩)
            | (go_at_call 13; refine (HEY _ _ _ _ _ (HP.out.1.later HB6.out).row HR6.out).mono ?_; rintro e w7 ⟨rfl, rfl⟩; have FL : Hid (0 = 0) := rfl)
            | (go_at_call 14; refine (HSZ _).mono ?_; rintro e w7 ⟨rfl, rfl⟩))
          obtain ⟨T, HT⟩ : ∃ T, Hid ((L ++ sd y).length = T) := ⟨_, rfl⟩
          rw [HT.out] at HTY' HTZ'
          have HW : Hid (Bs w7 w3.heap.size (L ++ sd y) ∧ ∀ wq, Off (fun k => k = w3.heap.size) w7 wq → Pt w2 wq u6 n (rowL (B.take k)) ∧ Row wq (some ⟨gx, 0, none⟩) (sd y)) := by
            have h1 := HX.out.1.lt (by have := HSL.out; omega) _ rfl
            refine ⟨HP.out.1.later HB6.out, fun wq ho => ⟨?_, ?_⟩⟩
            · refine HD.out.off HX.out.2.size ((Off.of_below (S := fun k => k = w3.heap.size) (below_of HB4.out HB6.out)).trans ho (fun _ _ h => h))
            · refine (HX.out.1.later (below_of HP.out.2 HB6.out)).off ho (fun _ b e => ?_)
              cases e
              intro e2
              simp only at h1 e2
              omega
          clear HB4 HC4 HO5 HB5 HB6 HR6 HX HP HBY HPY HSZ HEY FL hls h77
          generalize w3.heap.size = G3 at HW ⊢
          go_loopw [72] (fun i wq => ∃ (j : Nat) (X : List Nat), j ≤ T ∧ i = .int .i64 j ∧ Hid (X.length = T ∧ Bs wq G3 X ∧ Off (fun k => k = G3) w7 wq)) (fun i _ => T - (intOf i).toNat)
          case atStart => exact ⟨0, L ++ sd y, by omega, rfl, HT.out, HW.out.1, Off.refl _ _⟩
          case round =>
            obtain ⟨j, X, hj, rfl, HI⟩ := hrel
            by_cases hjl : j < T
            · have hjT := HTY'.out j hjl
              have hjX : j < X.length := by rw [HI.out.1]; exact hjl
              obtain ⟨⟨u, hcu⟩, hfu⟩ := over_cell HI.out.2.1 hjX
              have HS : Hid _ := over_step HI.out.2.1 HI.out.2.2 hjX
              clear hjX
              go_wp2
              go_roundw
              case rel => exact ⟨j + 1, X.set j 238, by omega, by go_num, by rw [List.length_set]; exact HI.out.1, HS.out.1, HS.out.2⟩
              case measure => simp [intOf]; omega
            · have hjT := HTZ'.out j hjl
              have HQ : Hid _ := HW.out.2 _ HI.out.2.2
              go_wp2_with (first
                | (go_at_call 13; refine (HEB.out _ _ _ (HRC.out.later HQ.out.1.below) (HRA.out.later HQ.out.1.below)).mono ?_; rintro e w8 ⟨rfl, rfl⟩)
                | (at_builtin; refine wpList_append_row_at rfl _ _ rfl w2.heap.size u6 (rowL (B.take k)) n Y rfl HQ.out.1.own _ _ (sd y) HSL.out rfl HQ.out.2 (.inr (by omega)) (by omega) HQ.out.1.below.size ?_; intro v9 w9 ho9 hg9; have HF : Hid (Pt w2 w9 v9 (n + Y) (rowL (B.take (k + 1)))) := ⟨HQ.out.1.below.trans (hg9.below HQ.out.1.own HQ.out.1.below.size), by rw [← HNX.out]; exact ho9⟩; clear ho9 hg9))
              go_roundw
              case rel => exact ⟨k + 1, n + Y, by omega, by go_num, by omega, HF.out⟩
              case measure => simp [intOf]; omega
        · obtain ⟨i1, i2⟩ := HJ4.out k hlt
          obtain rfl : k = B.length := by omega
          obtain ⟨a6, c6, rfl, _, _⟩ := own_form HD.out.own
          have HLN : Hid (n = (rowL B).length) := by show _ = _; have := HD.out.own.1; rw [cells_length, List.take_length] at this; omega
          have HEF : ∀ w1 g cp, Row w1 (some ⟨g, 0, none⟩) (rowL B) → Row w1 a6 (rowL B) → Calls Try.prog 13 #[.slice (some ⟨g, 0, none⟩) (rowL B).length cp, .slice a6 n c6] w1 fun e w' => e = .returned (.bool true) ∧ w' = w1 := fun w1 g cp h1 h2 => by
            rw [HLN.out]
            exact equal_same h1 h2 rfl
          have HR6 : Hid (Row wr a6 (rowL B)) := by
            have h1 := HD.out.own
            rw [List.take_length] at h1
            obtain ⟨_, _, e, _, _, h2⟩ := own_row h1 (rowL_byte B) (by rw [← HLN.out]; unfold maxLen; have := HN.out; omega)
            cases e
            exact h2
          have HRW2 := HRW.out wr (HB2.out.trans (HD.out.below.mono HB2.out.size))
          have hbl := rowL_len B HRB.out.1
          generalize (rowL B).length = Z at HRW2 HEF hbl
          go_wp2_with (first
            | (go_at_call 15; refine HRW2.mono ?_; rintro e w8 ⟨rfl, HQ⟩)
            | (go_at_call 13; refine (HEF _ _ _ HQ.out.1.row (HR6.out.later HQ.out.2)).mono ?_; rintro e w9 ⟨rfl, rfl⟩))
          go_ret
          exact ⟨rfl, below_of (HB2.out.trans (HD.out.below.mono HB2.out.size)) HQ.out.2⟩
end Go.Proofs.Ythhoafhkdioboaa
