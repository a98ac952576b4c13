/- The law FilesBack: true. -/
import Derived.Test.YtfocejmfmnijpaaDDecWalk
import Derived.Test.YtfocejmfmnijpaaDPureF
import Derived.Test.YtfocejmfmnijpaaFSmall
import Derived.Test.YtfocejmfmnijpaaFWakes
import Derived.Test.YtfocejmfmnijpaaFSame
import Derived.Deep.CutRange
namespace Go.Proofs.Ytfocejmfmnijpaa
open Go.RowKit

/-- what EncodeOps answers, in one form. -/
theorem enc_two {w : World} {l : List OpS} {e : Ending} {w' : World} (h : EncOps w l e w') : ∃ X a' c' r, e = .returned (.tuple #[.slice a' (X : List Nat).length c', .int .i64 r]) ∧ Hid (Below w.heap.size w w' ∧ Row w' a' X ∧ ((X = [] ∧ 0 < r) ∨ (X.length ≤ 300000 ∧ decO X = some l ∧ r = 0))) := by
  rcases h with ⟨h1, rfl, h3⟩ | ⟨h1, h2, rfl, h3⟩ | ⟨h1, h2, a', c', rfl, h3⟩
  · exact ⟨[], none, 0, 3, rfl, h3.out, ⟨by simp, by simp, fun h => absurd h (by simp)⟩, .inl ⟨rfl, by decide⟩⟩
  · exact ⟨[], none, 0, 151, rfl, h3.out, ⟨by simp, by simp, fun h => absurd h (by simp)⟩, .inl ⟨rfl, by decide⟩⟩
  · have h4 := List.all_eq_true.1 h2
    have h5 := encOpsT_length l l.length (fun x hx => h4 x (List.mem_of_mem_take hx))
    rw [encOpsT_all] at h5
    exact ⟨_, a', c', 0, rfl, h3.out.2, h3.out.1.row, .inr ⟨by omega, decO_of h4 h1, rfl⟩⟩
theorem dec_done {w : World} {l : List OpS} {e : Ending} {w' : World} (h : DecOps w (some l) e w') : ∃ a' c', e = .returned (.tuple #[.slice a' l.length c', .int .i64 0]) ∧ Hid (OpsAt w' a' l ∧ Below w.heap.size w w') := by
  rcases h with ⟨m, a', c', h1, rfl, h3⟩ | ⟨h1, _⟩
  · cases h1; exact ⟨a', c', rfl, h3⟩
  · cases h1
theorem decoded_ok {w : World} {L : List Fil} {e : Ending} {w' : World} (h : Decoded w (.ok L) e w') : ∃ a' c', e = .returned (.tuple #[.agg #[.slice a' L.length c'], .int .i64 0]) ∧ Hid (ListAt w' a' L ∧ Below w.heap.size w w') := by
  rcases h with ⟨m, a', c', h1, rfl, h3⟩ | ⟨r, h1, _⟩
  · cases h1; exact ⟨a', c', rfl, h3⟩
  · cases h1
theorem decoded_err {w : World} {r : Int} {e : Ending} {w' : World} (h : Decoded w (.error r) e w') : e = .returned (.tuple #[.agg #[.slice none 0 0], .int .i64 r]) ∧ Hid (Below w.heap.size w w') := by
  rcases h with ⟨m, a', c', h1, _⟩ | ⟨r, h1, rfl, h3⟩
  · cases h1
  · cases h1; exact ⟨rfl, h3⟩
theorem Row.part {w : World} {a : Option Addr} {l : List Nat} (h : Row w a l) (k : Nat) : Row w a (l.take k) := by
  refine ⟨fun x hx => h.1 x (List.mem_of_mem_take hx), by have := h.2.1; rw [List.length_take]; omega, fun h0 => ?_⟩
  rw [List.length_take] at h0
  obtain ⟨b, off, he, hc⟩ := h.2.2 (by omega)
  refine ⟨b, off, he, fun i hi => ?_⟩
  rw [List.length_take] at hi
  rw [hc i (by omega), List.getD_eq_getElem?_getD, List.getD_eq_getElem?_getD, List.getElem?_take_of_lt (by omega)]
theorem encFiles_pos (L : List Fil) : 2 ≤ (encFiles L).length := by unfold encFiles; rw [List.length_append, be_length]; omega

set_option maxHeartbeats 8000000 in
set_option maxRecDepth 100000 in
theorem back_walk (w : World) (a a2 : Option Addr) (c c2 : Nat) (L : List Fil) (l : List OpS) (x : Int) (hL : ListAt w a L) (hs : ∀ x ∈ L, x.bytes.length ≤ 140737488351232) (ho : OpsAt w a2 l) :
    Calls Try.prog 6 #[.agg #[.slice a L.length c], .slice a2 l.length c2, .int .i64 x] w fun e w' => e = .returned (.bool true) ∧ Hid (Below w.heap.size w w') := by
  have HL : Hid (ListAt w a L) := hL
  have HS : Hid (∀ x ∈ L, x.bytes.length ≤ 140737488351232) := hs
  have HO : Hid (OpsAt w a2 l) := ho
  have hln := ho.2.1
  clear hL hs ho
  go_enter Try.func6, Try.ntmps6
  go_wp2_with (first | (go_at_call 7; refine (wakes_any _).mono ?_; rintro e w1 ⟨rfl, hq1⟩; obtain ⟨h1, h3⟩ := two_of hq1.out; have d1 := cell_of h1 0; simp only [List.getElem?_toArray, List.getElem?_cons_zero] at d1; clear hq1))
  refine (large_any _ a c L (HL.out.later h3)).mono ?_
  rintro e w2 ⟨bl, rfl, hq2⟩
  have hb2 : Below w.heap.size w w2 := below_of h3 hq2.out.2
  have k1 := old_block hq2.out.2 h1
  clear h1 h3 d1
  cases bl with
  | true =>
    clear k1
    go_wp2
    go_ret
    exact ⟨rfl, hb2⟩
  | false =>
    have h500 : L.length ≤ 500 := hq2.out.1 rfl
    have HCOST : Hid (costS L ≤ 4611686018427387904) := by
      have := cost_small HL.out.1 HS.out
      show _ ≤ _
      omega
    have HB2 : Hid (Below w.heap.size w w2) := hb2
    have d0 := cell_of k1 0
    simp only [List.getElem?_toArray, List.getElem?_cons_zero] at d0
    clear k1 hb2 hq2
    have HLA : Hid (∀ W, Below w2.heap.size w2 W → ListAt W a L) := fun W hW => (HL.out.later HB2.out).later hW
    have HOA : Hid (∀ W, Below w2.heap.size w2 W → OpsAt W a2 l) := fun W hW => (HO.out.later HB2.out).later hW
    have HK : Hid (∀ W, Below w2.heap.size w2 W → W.cell? ⟨w.heap.size, 0, none⟩ = some (.slice a L.length c)) := fun W hW => cell_later hW d0
    cases hr : rightB L with
    | false =>
      have HEN := encode_no w2 a c L (HLA.out w2 (Below.refl _ _)) HCOST.out hr
      clear hr
      go_upto_region 11 with (first
        | (go_at_call 14; refine HEN.mono ?_; rintro e w3 ⟨rfl, hq3⟩))
      have K5 : Hid (Below w2.heap.size w2 w3) := hq3.out
      clear hq3
      have HEO := encodeOps_any w3 a2 c2 l (HOA.out _ K5.out)
      go_upto_region 12 with (first
        | (go_at_call 19; refine HEO.mono ?_; intro e w6 hd6; obtain ⟨X, a6, c6, r6, rfl, hq6⟩ := enc_two hd6; clear hd6; have HX6 : Hid (Below w2.heap.size w2 w6 ∧ Row w6 a6 X) := ⟨below_of K5.out hq6.out.1, hq6.out.2.1⟩))
      have hcs := hq6.out.2.2
      clear hq6
      rcases hcs with ⟨rfl, hr6⟩ | ⟨hz6, hd, rfl⟩
      · simp only [List.length_nil] at *
        go_wp2
        go_ret
        exact ⟨ret_bool (by simp), below_of HB2.out HX6.out.1⟩
      · have HDO := decodeOps_any w6 a6 c6 X HX6.out.2 (by omega)
        rw [hd] at HDO
        clear hd
        go_wp2_with (first
          | (go_at_call 22; refine HDO.mono ?_; intro e w7 hd7; obtain ⟨a7, c7, rfl, hq7⟩ := dec_done hd7; clear hd7))
        have HX7 : Hid (Below w2.heap.size w2 w7 ∧ OpsAt w7 a7 l) := ⟨below_of HX6.out.1 hq7.out.2, hq7.out.1⟩
        clear hq7
        go_loopw [83] (fun i wr => ∃ k : Nat, k ≤ l.length ∧ i = .int .i64 k ∧ Hid (Below w7.heap.size w7 wr)) (fun i _ => l.length - (intOf i).toNat)
        case atStart => exact ⟨0, Nat.zero_le _, rfl, Below.refl _ _⟩
        case round =>
          obtain ⟨k, hk, rfl, hq⟩ := hrel
          by_cases hkl : k < l.length
          · obtain ⟨b, o, rfl, hc⟩ := HX7.out.2.2.2 (by omega)
            obtain ⟨b2, o2, rfl, hc2⟩ := (HOA.out _ HX7.out.1).2.2 (by omega)
            obtain ⟨g0, g1, g2, g3, ab, cb, g4, _, _, rb⟩ := (hc k hkl).later hq.out
            obtain ⟨f0, f1, f2, f3, ab2, cb2, f4, _, _, rb2⟩ := (hc2 k hkl).later hq.out
            have hi1 : (k : Int) < (l.length : Int) := by omega
            clear hc hc2
            obtain ⟨y, hy⟩ : ∃ y, y = l[k] := ⟨_, rfl⟩
            rw [← hy] at g0 g1 g2 g3 g4 rb f0 f1 f2 f3 f4 rb2
            clear hy
            have HQE : Hid (∀ n, Calls Try.prog 24 #[.slice ab y.bytes.length cb, .slice ab2 y.bytes.length cb2] (wr.drewN n) fun e w' => e = .returned (.bool true) ∧ w' = wr.drewN n) := fun n => by
              refine (equal_any ab ab2 cb cb2 y.bytes y.bytes (wr.drewN n) (rb.later (below_drewN (Below.refl _ _) n)) (rb2.later (below_drewN (Below.refl _ _) n))).mono ?_
              rintro e w' ⟨rfl, rfl⟩
              exact ⟨by rw [decide_eq_true rfl], rfl⟩
            clear rb rb2
            obtain ⟨yk, yn, ym, yt, yb⟩ := y
            simp only at *
            go_wp2_with fail
            go_quiet ((go_at_call 24; exact Calls.quiet_of_same (HQE.out _)))
            go_wp2
            go_roundw
            case rel => exact ⟨k + 1, by omega, by go_num, below_drewN hq.out _⟩
            case measure => simp [intOf]; omega
          · obtain rfl : k = l.length := by omega
            go_wp2
            go_ret
            exact ⟨rfl, below_of HB2.out (below_of HX7.out.1 hq.out)⟩
    | true =>
      have HEN := encode_yes w2 a c L (HLA.out w2 (Below.refl _ _)) hr
      have hov := right_over hr
      have hbt := right_bytes hr
      have HDG : Hid (decG (encFiles L) = .ok L) := decG_of (by omega) (fun x hx => by have := hbt x hx; omega) hr
      have HDP : Hid (∀ k, k < (encFiles L).length → decG ((encFiles L).take k) = .error 7) := fun k hk => decG_part (by omega) (fun x hx => by have := hbt x hx; omega) hk
      have hE2 := encFiles_pos L
      have hE1 : (encFiles L).length ≤ 300000 := by have := encTake_length L L.length; rw [encTake_all] at this; omega
      clear hr hov hbt
      generalize encFiles L = E at *
      go_upto_region 8 with (first
        | (go_at_call 14; refine HEN.mono ?_; rintro e w3 ⟨a3, c3, rfl, hq3⟩; have HX3 : Hid (Below w2.heap.size w2 w3) := hq3.out.2; have HR3 : Hid (Row w3 a3 E) := hq3.out.1.row; have hle3 := hq3.out.1.le; have hcp3 := hq3.out.1.cap; clear hq3)
        | (go_at_call 17; refine (decode_any w3 a3 c3 E HR3.out (by omega)).mono ?_; rw [HDG.out]; intro e w4 hd4; obtain ⟨a4, c4, rfl, hq4⟩ := decoded_ok hd4; clear hd4))
      have HX4 : Hid (Below w2.heap.size w2 w4) := below_of HX3.out hq4.out.2
      obtain ⟨b3, o3, rfl, _⟩ := HR3.out.2.2 (by omega)
      have HD2 : Hid (∀ W k, Below w4.heap.size w4 W → k < E.length → Calls Try.prog 17 #[.slice (some ⟨b3, o3, none⟩) k c3] W fun e w' => e = .returned (.tuple #[.agg #[.slice none 0 0], .int .i64 7]) ∧ Hid (Below W.heap.size W w')) := fun W k hW hk => by
        have h := decode_any W (some ⟨b3, o3, none⟩) c3 (E.take k) (((HR3.out.later hq4.out.2).later hW).part k) (by rw [List.length_take]; omega)
        rw [List.length_take, Nat.min_eq_left (by omega), HDP.out k hk] at h
        exact h.mono fun e w' he => decoded_err he
      obtain ⟨j, hj, hjl⟩ : ∃ j : Nat, max x 0 % (E.length : Int) = (j : Int) ∧ j < E.length := ⟨(max x 0 % (E.length : Int)).toNat, (Int.toNat_of_nonneg (Int.emod_nonneg _ (by omega))).symm, by have := Int.emod_lt_of_pos (max x 0) (show (0 : Int) < (E.length : Int) by omega); have := Int.emod_nonneg (max x 0) (show (E.length : Int) ≠ 0 by omega); omega⟩
      have hjc : (j : Int) ≤ (c3 : Int) := by omega
      have HB4 : Hid (∀ A, Below w4.heap.size w4 (w4.alloc A)) := fun A => (Below.refl _ w4).alloc (Nat.le_refl _) A
      have HN4 : Hid ((w4.alloc (.cells #[.slice a4 L.length c4] 24)).heap[w4.heap.size]? = some (.cells #[.slice a4 L.length c4] 24 (0, 0))) := heap_alloc_new w4 _
      go_wp2_with fail
      refine (HD2.out _ j (HB4.out _) hjl).mono ?_
      rintro e w5 ⟨rfl, hq5⟩
      have hY5 : Below w4.heap.size w4 w5 := below_of (HB4.out _) hq5.out
      have HY5 : Hid (∀ A, Below w4.heap.size w4 (w5.alloc A)) := fun A => hY5.alloc hY5.size A
      have e4 : ∀ A, (w5.alloc A).cell? ⟨w4.heap.size, 0, none⟩ = some (.slice a4 L.length c4) := fun A => by
        rw [cell_of (old_block (below_of hq5.out ((Below.refl _ w5).alloc (Nat.le_refl _) A)) HN4.out)]
        rfl
      have e0 : ∀ A, (w5.alloc A).cell? ⟨w.heap.size, 0, none⟩ = some (.slice a L.length c) := fun A => HK.out _ (below_of HX4.out (HY5.out A))
      clear hY5 hq5 hj hjc hjl
      have HSM : Hid (∀ A, Calls Try.prog 23 #[.agg #[.slice a L.length c], .agg #[.slice a4 L.length c4]] (w5.alloc A) fun e w' => e = .returned (.bool true) ∧ Hid (Below (w5.alloc A).heap.size (w5.alloc A) w')) := fun A => by
        have := same_any (w5.alloc A) a a4 c c4 L L (HLA.out _ (below_of HX4.out (HY5.out _))) (hq4.out.1.later (HY5.out _))
        rw [(sameB_iff L L).2 rfl] at this
        exact this
      go_upto_region 11 with (first
        | (go_at_call 23; refine (HSM.out _).mono ?_; rintro e w9 ⟨rfl, hq9⟩))
      have K5 : Hid (Below w2.heap.size w2 w9) := below_of HX4.out (below_of (HY5.out _) hq9.out)
      clear hq9 e4 e0 HEN HD2 HN4 HB4 HY5
      have HEO := encodeOps_any w9 a2 c2 l (HOA.out _ K5.out)
      go_upto_region 12 with (first
        | (go_at_call 19; refine HEO.mono ?_; intro e w6 hd6; obtain ⟨X, a6, c6, r6, rfl, hq6⟩ := enc_two hd6; clear hd6; have HX6 : Hid (Below w2.heap.size w2 w6 ∧ Row w6 a6 X) := ⟨below_of K5.out hq6.out.1, hq6.out.2.1⟩))
      have hcs := hq6.out.2.2
      clear hq6
      rcases hcs with ⟨rfl, hr6⟩ | ⟨hz6, hd, rfl⟩
      · simp only [List.length_nil] at *
        go_wp2
        go_ret
        exact ⟨ret_bool (by simp), below_of HB2.out HX6.out.1⟩
      · have HDO := decodeOps_any w6 a6 c6 X HX6.out.2 (by omega)
        rw [hd] at HDO
        clear hd
        go_wp2_with (first
          | (go_at_call 22; refine HDO.mono ?_; intro e w7 hd7; obtain ⟨a7, c7, rfl, hq7⟩ := dec_done hd7; clear hd7))
        have HX7 : Hid (Below w2.heap.size w2 w7 ∧ OpsAt w7 a7 l) := ⟨below_of HX6.out.1 hq7.out.2, hq7.out.1⟩
        clear hq7
        go_loopw [83] (fun i wr => ∃ k : Nat, k ≤ l.length ∧ i = .int .i64 k ∧ Hid (Below w7.heap.size w7 wr)) (fun i _ => l.length - (intOf i).toNat)
        case atStart => exact ⟨0, Nat.zero_le _, rfl, Below.refl _ _⟩
        case round =>
          obtain ⟨k, hk, rfl, hq⟩ := hrel
          by_cases hkl : k < l.length
          · obtain ⟨b, o, rfl, hc⟩ := HX7.out.2.2.2 (by omega)
            obtain ⟨b2, o2, rfl, hc2⟩ := (HOA.out _ HX7.out.1).2.2 (by omega)
            obtain ⟨g0, g1, g2, g3, ab, cb, g4, _, _, rb⟩ := (hc k hkl).later hq.out
            obtain ⟨f0, f1, f2, f3, ab2, cb2, f4, _, _, rb2⟩ := (hc2 k hkl).later hq.out
            have hi1 : (k : Int) < (l.length : Int) := by omega
            clear hc hc2
            obtain ⟨y, hy⟩ : ∃ y, y = l[k] := ⟨_, rfl⟩
            rw [← hy] at g0 g1 g2 g3 g4 rb f0 f1 f2 f3 f4 rb2
            clear hy
            have HQE : Hid (∀ n, Calls Try.prog 24 #[.slice ab y.bytes.length cb, .slice ab2 y.bytes.length cb2] (wr.drewN n) fun e w' => e = .returned (.bool true) ∧ w' = wr.drewN n) := fun n => by
              refine (equal_any ab ab2 cb cb2 y.bytes y.bytes (wr.drewN n) (rb.later (below_drewN (Below.refl _ _) n)) (rb2.later (below_drewN (Below.refl _ _) n))).mono ?_
              rintro e w' ⟨rfl, rfl⟩
              exact ⟨by rw [decide_eq_true rfl], rfl⟩
            clear rb rb2
            obtain ⟨yk, yn, ym, yt, yb⟩ := y
            simp only at *
            go_wp2_with fail
            go_quiet ((go_at_call 24; exact Calls.quiet_of_same (HQE.out _)))
            go_wp2
            go_roundw
            case rel => exact ⟨k + 1, by omega, by go_num, below_drewN hq.out _⟩
            case measure => simp [intOf]; omega
          · obtain rfl : k = l.length := by omega
            go_wp2
            go_ret
            exact ⟨rfl, below_of HB2.out (below_of HX7.out.1 hq.out)⟩
end Go.Proofs.Ytfocejmfmnijpaa
