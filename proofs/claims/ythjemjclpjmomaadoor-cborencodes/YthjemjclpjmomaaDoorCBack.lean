/- The walk of CborBack. -/
import Derived.Test.YthjemjclpjmomaaDoorCTwo
import Derived.Test.YthjemjclpjmomaaDoorHAppend
namespace Go.Proofs.YthjemjclpjmomaaDoor
open Go.RowKit
set_option linter.unusedVariables false

theorem cn_cn : ∀ (m : Nat) (x : T), cn m (cn m x) = cn m x
  | 0, _ => rfl
  | m + 1, x => by
    rw [cn, cn, kd_mk, nm_mk, bs_mk, its_mk, List.map_map]
    congr 1
    exact List.map_congr_left (fun y _ => cn_cn m y)
theorem same_cn (m : Nat) (x : T) : sameT m x (cn m x) = true := (same_iff m x (cn m x)).2 (cn_cn m x).symm
theorem hd_le (t k : Nat) : (hd t k).length ≤ 9 := by
  unfold hd
  repeat' split
  all_goals simp [be_length]
theorem flatten_le (f : T → List Nat) (B : Nat) : ∀ (l : List T), (∀ y ∈ l, (f y).length ≤ B) → ((l.map f).flatten).length ≤ l.length * B
  | [], _ => by simp
  | y :: r, h => by
    have h1 := h y List.mem_cons_self
    have h2 := flatten_le f B r (fun z hz => h z (List.mem_cons_of_mem _ hz))
    simp only [List.map_cons, List.flatten_cons, List.length_append, List.length_cons, Nat.add_mul, Nat.one_mul]
    omega
theorem enc_bound (V : List Nat → Bool) : ∀ (m n : Nat) (x : T), okT V m x = true → (enc n x).length ≤ 521 * 65 ^ m
  | 0, _, _, h => by cases h
  | m + 1, 0, _, _ => by simp [enc]
  | m + 1, n + 1, x, h => by
    have hp : 1 ≤ 65 ^ m := Nat.pow_pos (by omega)
    have hq : 65 ^ (m + 1) = 65 ^ m * 65 := Nat.pow_succ ..
    rw [okT] at h
    rw [enc]
    have hh := hd_le
    repeat' split
    · have := hh 0 (nm x); omega
    · rename_i h1 h2
      rw [if_neg h1, if_pos h2] at h
      simp only [Bool.and_eq_true, decide_eq_true_eq] at h
      have := hh 2 (bs x).length
      rw [List.length_append]; omega
    · rename_i h1 h2 h3
      rw [if_neg h1, if_neg h2, if_pos h3] at h
      simp only [Bool.and_eq_true, decide_eq_true_eq] at h
      have := hh 3 (bs x).length
      rw [List.length_append]; omega
    · rename_i h1 h2 h3 h4
      rw [if_neg h1, if_neg h2, if_neg h3, if_pos h4] at h
      simp only [Bool.and_eq_true, decide_eq_true_eq, List.all_eq_true] at h
      have h5 := hh 4 (its x).length
      have h6 := flatten_le (enc n) (521 * 65 ^ m) (its x) (fun y hy => enc_bound V m n y (h.2.2.2 y hy))
      have h7 : (its x).length * (521 * 65 ^ m) ≤ 64 * (521 * 65 ^ m) := Nat.mul_le_mul_right _ h.2.2.1
      rw [List.length_append]
      omega
    · simp
theorem enc_small (V : List Nat → Bool) (n : Nat) (x : T) (h : okT V 4 x = true) : (enc n x).length ≤ 9300175625 := by
  have := enc_bound V 4 n x h
  simpa using this
set_option maxRecDepth 20000 in
set_option maxHeartbeats 8000000 in
theorem back_no (V : List Nat → Bool) (TB : World → Prop) (hT : Txt V TB) (w : World) (a : Option Addr) (c : Nat) (L : List FT) (b : Option Addr) (d : Nat) (tl : List Nat) (cut : Int) (hw : TB w) (h1 : 1 < w.heap.size) (hL : FlatsAt w a L) (hr : Row w b tl) (hno : 50000 < tl.length ∨ okT V 4 (bltS L) = false) :
    Calls Tryd.prog 5 #[.slice a L.length c, .slice b tl.length d, .int .i64 cut] w fun e w' => e = .returned (.bool true) ∧ Hid (Below w.heap.size w w') := by
  have HWK := wakes_any V TB hT w hw h1
  have hlm := hr.2.1
  unfold maxLen at hlm
  by_cases hbig : 50000 < tl.length
  · clear hno hr hL
    go_enter Tryd.func5, Tryd.ntmps5
    go_wp2_with (go_at_call 7; refine HWK.mono ?_; rintro e w1 ⟨rfl, hb1⟩)
    go_ret
    exact ⟨rfl, hb1.out⟩
  · have hok : okT V 4 (bltS L) = false := hno.elim (fun h => absurd h hbig) id
    have HBU : Hid (∀ w1, Below w.heap.size w w1 → Calls Tryd.prog 8 #[.slice a L.length c] w1 fun e w' => ∃ a1 c1 a2 c2, e = .returned (iv (bltS L) a1 c1 a2 c2) ∧ Hid (Lie (fun _ => False) w' 9 a1 (bltS L) a2 ∧ (bs (bltS L)).length ≤ c1 ∧ Below w1.heap.size w1 w')) := fun w1 hb => built_is w1 a c L (hL.later hb)
    have HENC : Hid (∀ w1 a1 c1 a2 c2, Below w.heap.size w w1 → Lie (fun _ => False) w1 9 a1 (bltS L) a2 → (bs (bltS L)).length ≤ c1 → Calls Tryd.prog 9 #[iv (bltS L) a1 c1 a2 c2] w1 fun e w' => e = .returned (.tuple #[.slice none 0 0, .int .i64 170]) ∧ Hid (Below w1.heap.size w1 w')) := fun w1 a1 c1 a2 c2 hb hx hc => by
      refine (encode_any V TB hT _ w1 9 (by omega) (bltS L) a1 a2 c1 c2 (hT.later _ _ hw hb) hx hc).mono ?_
      rintro e w' (⟨hok', _⟩ | ⟨_, rfl, hq⟩)
      · rw [hok] at hok'; cases hok'
      · exact ⟨rfl, hq⟩
    generalize bltS L = x at HBU HENC
    clear hno hr hL hok
    go_enter Tryd.func5, Tryd.ntmps5
    go_wp2_with (first
      | (go_at_call 7; refine HWK.mono ?_; rintro e w1 ⟨rfl, hb1⟩)
      | (go_at_call 8; refine (HBU.out w1 hb1.out).mono ?_; rintro e w2 ⟨a1, c1, a2, c2, rfl, hq2⟩)
      | (go_at_call 9; refine (HENC.out _ a1 c1 a2 c2 (below_of (below_of hb1.out hq2.out.2.2) ((Below.refl _ w2).alloc (Nat.le_refl _) _)) (hq2.out.1.later ((Below.refl _ w2).alloc (Nat.le_refl _) _)) hq2.out.2.1).mono ?_; rintro e w3 ⟨rfl, hq3⟩))
    go_ret
    exact ⟨rfl, below_of (below_of (below_of hb1.out hq2.out.2.2) ((Below.refl _ w2).alloc (Nat.le_refl _) _)) hq3.out⟩
set_option maxRecDepth 20000 in
set_option maxHeartbeats 8000000 in
theorem back_yes (V : List Nat → Bool) (TB : World → Prop) (hT : Txt V TB) (w : World) (a : Option Addr) (c : Nat) (L : List FT) (b : Option Addr) (d : Nat) (tl : List Nat) (cut : Int) (hw : TB w) (h1 : 1 < w.heap.size) (hL : FlatsAt w a L) (hr : Row w b tl) (hsm : tl.length ≤ 50000) (hok : okT V 4 (bltS L) = true) (hcut : -9223372036854775808 ≤ cut ∧ cut ≤ 9223372036854775807) :
    Calls Tryd.prog 5 #[.slice a L.length c, .slice b tl.length d, .int .i64 cut] w fun e w' => e = .returned (.bool true) ∧ Hid (Below w.heap.size w w') := by
  have HWK := wakes_any V TB hT w hw h1
  have HR : Hid (Row w b tl) := hr
  have HBU : Hid (∀ w1, Below w.heap.size w w1 → Calls Tryd.prog 8 #[.slice a L.length c] w1 fun e w' => ∃ a1 c1 a2 c2, e = .returned (iv (bltS L) a1 c1 a2 c2) ∧ Hid (Lie (fun _ => False) w' 9 a1 (bltS L) a2 ∧ (bs (bltS L)).length ≤ c1 ∧ Below w1.heap.size w1 w')) := fun w1 hb => built_is w1 a c L (hL.later hb)
  have hK1 := enc_len 4 9 (bltS L) hok (by omega)
  have hK2 := enc_small V 9 (bltS L) hok
  have HENC : Hid (∀ w1 a1 c1 a2 c2, Below w.heap.size w w1 → Lie (fun _ => False) w1 9 a1 (bltS L) a2 → (bs (bltS L)).length ≤ c1 → Calls Tryd.prog 9 #[iv (bltS L) a1 c1 a2 c2] w1 fun e w' => ∃ a c, e = .returned (.tuple #[.slice a (enc 9 (bltS L)).length c, .int .i64 0]) ∧ (enc 9 (bltS L)).length ≤ c ∧ Hid (Row w' a (enc 9 (bltS L)) ∧ fitT 9 (bltS L) ∧ Below w1.heap.size w1 w')) := fun w1 a1 c1 a2 c2 hb hx hc => by
    refine (encode_any V TB hT _ w1 9 (by omega) (bltS L) a1 a2 c1 c2 (hT.later _ _ hw hb) hx hc).mono ?_
    rintro e w' (⟨_, a, c, rfl, hq⟩ | ⟨hno, _⟩)
    · exact ⟨a, c, rfl, hq.out.2.1, hq.out.1, Lie.fit 9 hx, hq.out.2.2.2.2⟩
    · rw [hok] at hno; cases hno
  have HDE : Hid (∀ w1 base g n cp, Below w.heap.size w w1 → fitT 9 (bltS L) → w1.ownsRow base 5 1 (.slice (some ⟨g, 0, none⟩) n cp) n (cells (enc 9 (bltS L) ++ tl)) → Calls Tryd.prog 19 #[.slice (some ⟨g, 0, none⟩) n cp] w1 fun e w' => ∃ e1 f1 e2 f2, e = .returned (.tuple #[iv (cn 9 (bltS L)) e1 f1 e2 f2, .int .i64 ((enc 9 (bltS L)).length : Nat), .int .i64 0]) ∧ Hid (Lie (fun k => k < w1.heap.size) w' 9 e1 (cn 9 (bltS L)) e2 ∧ Below w1.heap.size w1 w')) := fun w1 base g n cp hb hf ho => by
    obtain ⟨hrow, hlen, _⟩ := own_some ho (fun x hx => (List.mem_append.1 hx).elim (enc_byte 9 _ hf x) (HR.out.1 x)) (by unfold maxLen; rw [List.length_append]; omega)
    have h2 := decode_any V TB hT w1 (some ⟨g, 0, none⟩) cp (enc 9 (bltS L) ++ tl) (hT.later _ _ hw hb) hrow (by rw [List.length_append]; omega) (by have := hb.size; omega)
    rw [dec_enc V 4 9 (bltS L) tl hok (by omega) hf, hlen] at h2
    refine h2.mono ?_
    rintro e w' (⟨_, e1, f1, e2, f2, rfl, hq⟩ | ⟨hno, _⟩)
    · refine ⟨e1, f1, e2, f2, ?_, hq.out.1.le (by omega), hq.out.2.2⟩
      have : (enc 9 (bltS L) ++ tl).length - tl.length = (enc 9 (bltS L)).length := by rw [List.length_append]; omega
      rw [this]
    · exact absurd rfl hno
  obtain ⟨E, hE⟩ : ∃ E : Int, E = 7 := ⟨7, rfl⟩
  have HDS : Hid (∀ w1 a j cp, Below w.heap.size w w1 → fitT 9 (bltS L) → Row w1 a (enc 9 (bltS L)) → j < (enc 9 (bltS L)).length → Calls Tryd.prog 19 #[.slice a j cp] w1 fun e w' => e = .returned (.tuple #[.agg #[.int .i64 0, .int .u64 0, .slice none 0 0, .slice none 0 0], .int .i64 0, .int .i64 E]) ∧ Hid (Below w1.heap.size w1 w')) := fun w1 a j cp hb hf hrow hj => by
    have hl : ((enc 9 (bltS L)).take j).length = j := by rw [List.length_take]; omega
    have h2 := decode_any V TB hT w1 a cp ((enc 9 (bltS L)).take j) (hT.later _ _ hw hb) (row_take hrow j) (by omega) (by have := hb.size; omega)
    have h3 := dec_short V 4 9 (bltS L) j hok (by omega) hf hj
    rw [hl] at h2
    refine h2.mono ?_
    rintro e w' (⟨hno, _⟩ | ⟨_, rfl, hq⟩)
    · rw [h3] at hno; cases hno
    · exact ⟨by rw [h3, hE], hq⟩
  have HSM : Hid (∀ w1 B a1 c1 a2 c2 e1 f1 e2 f2, Lie (fun _ => False) w1 9 a1 (bltS L) a2 → Lie B w1 9 e1 (cn 9 (bltS L)) e2 → Calls Tryd.prog 10 #[iv (bltS L) a1 c1 a2 c2, iv (cn 9 (bltS L)) e1 f1 e2 f2] w1 fun e w' => e = .returned (.bool true) ∧ Hid (Below w1.heap.size w1 w')) := fun w1 B a1 c1 a2 c2 e1 f1 e2 f2 hx hy => by
    have := same_any 9 (fun _ => False) B w1 (bltS L) (cn 9 (bltS L)) a1 a2 e1 e2 c1 c2 f1 f2 hx hy
    rw [same_cn] at this
    exact this
  have hE7 : (E == 7) = true := by rw [hE]; rfl
  clear hE hok hL hr
  generalize cn 9 (bltS L) = y at HDE HSM
  generalize enc 9 (bltS L) = X at HENC HDE HDS hK1 hK2
  obtain ⟨K, HK⟩ : ∃ K, Hid (X.length = K) := ⟨_, rfl⟩
  rw [HK.out] at HENC HDE HDS hK1 hK2
  obtain ⟨F, HF⟩ : ∃ F : Prop, Hid (F = fitT 9 (bltS L)) := ⟨_, rfl⟩
  rw [← HF.out] at HENC HDE HDS
  generalize bltS L = x at HBU HENC HSM
  obtain ⟨j, hj, hjl⟩ : ∃ j : Nat, max cut 0 % (K : Int) = (j : Int) ∧ j < K := ⟨(max cut 0 % (K : Int)).toNat, (Int.toNat_of_nonneg (Int.emod_nonneg _ (by omega))).symm, by have := Int.emod_lt_of_pos (max cut 0) (show (0 : Int) < (K : Int) by omega); have := Int.emod_nonneg (max cut 0) (show (K : Int) ≠ 0 by omega); omega⟩
  have hKK : ((K : Int) == (K : Int)) = true := by simp
  have HBA : Hid (∀ (w : World) X, Below w.heap.size w (w.alloc X)) := fun w X => (Below.refl _ w).alloc (Nat.le_refl _) X
  go_enter Tryd.func5, Tryd.ntmps5
  go_wp2_with (first
    | (go_at_call 7; refine HWK.mono ?_; rintro e w1 ⟨rfl, hb1⟩)
    | (go_at_call 8; refine (HBU.out w1 hb1.out).mono ?_; rintro e w2 ⟨a1, c1, a2, c2, rfl, hq2⟩)
    | (go_at_call 9; refine (HENC.out _ a1 c1 a2 c2 (below_of (below_of hb1.out hq2.out.2.2) (HBA.out w2 _)) (hq2.out.1.later (HBA.out w2 _)) hq2.out.2.1).mono ?_; rintro e w3 ⟨a3, c3, rfl, hc3, hq3⟩; have HW2 : Hid (Below w.heap.size w w2) := below_of hb1.out hq2.out.2.2; have HC3 : Hid (Below w2.heap.size w2 w3) := below_of (HBA.out w2 _) hq3.out.2.2; have HB3 : Hid (Below w.heap.size w w3) := below_of HW2.out HC3.out; have HLX : Hid (w3.heap[w2.heap.size]? = some (ic x a1 c1 a2 c2)) := old_block hq3.out.2.2 (heap_alloc_new w2 _))
    | (at_builtin; (refine wpList_append_some rfl _ _ rfl w3.heap.size g4 c4 X K _ rfl HO4.out _ _ tl rfl rfl (HR.out.later (below_of HB3.out HX4.out)) (by omega) HX4.out.size ?_); intro g5 c5 w5 ho5 hg5 hc5; have HX5 : Hid (Below w3.heap.size w3 w5) := app_more HX4.out HO4.out hg5; clear hg5)
    | (at_builtin; (refine wpList_append_some rfl _ _ rfl w3.heap.size w3.heap.size 0 [] 0 K rfl (made_none w3) _ _ X HK.out rfl (hq3.out.1.later (HBA.out w3 _)) (by omega) (by simp) ?_); intro g4 c4 w4 ho4 hg4 hc4; have HO4 : Hid (w4.ownsRow w3.heap.size 5 1 (.slice (some ⟨g4, 0, none⟩) K c4) K (cells X)) := (by show World.ownsRow _ _ _ _ _ _ _; simpa using ho4); have HX4 : Hid (Below w3.heap.size w3 w4) := app_below (made_none w3) hg4; clear ho4 hg4 hc4))
  refine (HDE.out w5 _ g5 _ c5 (below_of HB3.out HX5.out) hq3.out.2.1 ho5).mono ?_
  rintro e w6 ⟨e1, f1, e2, f2, rfl, hq6⟩
  have HX6 : Hid (Below w3.heap.size w3 w6) := below_of HX5.out hq6.out.2
  have HLY : Hid (∀ h : True, (w6.alloc (ic y e1 f1 e2 f2)).heap[w6.heap.size]? = some (ic y e1 f1 e2 f2)) := (fun _ => heap_alloc_new w6 _)
  clear HX4 HO4 ho5 hc5 HBU HENC HDE HWK
  go_wp2_with fail
  refine (HDS.out _ a3 j c3 (below_of HB3.out (below_of HX6.out (HBA.out w6 _))) hq3.out.2.1 (hq3.out.1.later (below_of HX6.out (HBA.out w6 _))) hjl).mono ?_
  rintro e w7 ⟨rfl, hq7⟩
  have HX7 : Hid (Below w3.heap.size w3 w7) := below_of (below_of HX6.out (HBA.out w6 _)) hq7.out
  have HL7 : Hid (∀ Z, (w7.alloc Z).heap[w2.heap.size]? = some (ic x a1 c1 a2 c2) ∧ (w7.alloc Z).heap[w6.heap.size]? = some (ic y e1 f1 e2 f2)) := fun Z => ⟨old_block (HBA.out w7 Z) (old_block HX7.out HLX.out), old_block (HBA.out w7 Z) (old_block hq7.out (HLY.out trivial))⟩
  have p0 : ∀ Z, (w7.alloc Z).cell? ⟨w2.heap.size, 0, none⟩ = some (.int .i64 (kd x)) := fun Z => by rw [cell_of (HL7.out Z).1 0]; rfl
  have p1 : ∀ Z, (w7.alloc Z).cell? ⟨w2.heap.size, 1, none⟩ = some (.int .u64 (nm x : Nat)) := fun Z => by rw [cell_of (HL7.out Z).1 1]; rfl
  have p2 : ∀ Z, (w7.alloc Z).cell? ⟨w2.heap.size, 2, none⟩ = some (.slice a1 (bs x).length c1) := fun Z => by rw [cell_of (HL7.out Z).1 2]; rfl
  have p3 : ∀ Z, (w7.alloc Z).cell? ⟨w2.heap.size, 3, none⟩ = some (.slice a2 (its x).length c2) := fun Z => by rw [cell_of (HL7.out Z).1 3]; rfl
  have q0 : ∀ Z, (w7.alloc Z).cell? ⟨w6.heap.size, 0, none⟩ = some (.int .i64 (kd y)) := fun Z => by rw [cell_of (HL7.out Z).2 0]; rfl
  have q1 : ∀ Z, (w7.alloc Z).cell? ⟨w6.heap.size, 1, none⟩ = some (.int .u64 (nm y : Nat)) := fun Z => by rw [cell_of (HL7.out Z).2 1]; rfl
  have q2 : ∀ Z, (w7.alloc Z).cell? ⟨w6.heap.size, 2, none⟩ = some (.slice e1 (bs y).length f1) := fun Z => by rw [cell_of (HL7.out Z).2 2]; rfl
  have q3 : ∀ Z, (w7.alloc Z).cell? ⟨w6.heap.size, 3, none⟩ = some (.slice e2 (its y).length f2) := fun Z => by rw [cell_of (HL7.out Z).2 3]; rfl
  have HYL : Hid (Lie (fun k => k < w5.heap.size) w7 9 e1 y e2) := hq6.out.1.later (below_of (HBA.out w6 _) hq7.out)
  have HXL : Hid (Lie (fun _ => False) w7 9 a1 x a2) := hq2.out.1.later (below_of HC3.out HX7.out)
  clear HDS hq6 HLY HLX HL7
  go_wp2_with fail
  refine (HSM.out _ _ a1 c1 a2 c2 e1 f1 e2 f2 (HXL.out.later (HBA.out w7 _)) (HYL.out.later (HBA.out w7 _))).mono ?_
  rintro e w8 ⟨rfl, hq8⟩
  go_wp2
  go_ret
  exact ⟨rfl, below_of (below_of HB3.out (below_of HX7.out (HBA.out w7 _))) hq8.out⟩
theorem back_any (V : List Nat → Bool) (TB : World → Prop) (hT : Txt V TB) (w : World) (a : Option Addr) (c : Nat) (L : List FT) (b : Option Addr) (d : Nat) (tl : List Nat) (cut : Int) (hw : TB w) (h1 : 1 < w.heap.size) (hL : FlatsAt w a L) (hr : Row w b tl) (hcut : -9223372036854775808 ≤ cut ∧ cut ≤ 9223372036854775807) :
    Calls Tryd.prog 5 #[.slice a L.length c, .slice b tl.length d, .int .i64 cut] w fun e w' => e = .returned (.bool true) ∧ Hid (Below w.heap.size w w') := by
  by_cases hbig : 50000 < tl.length
  · exact back_no V TB hT w a c L b d tl cut hw h1 hL hr (.inl hbig)
  cases hok : okT V 4 (bltS L) with
  | false => exact back_no V TB hT w a c L b d tl cut hw h1 hL hr (.inr hok)
  | true => exact back_yes V TB hT w a c L b d tl cut hw h1 hL hr (by omega) hok hcut
end Go.Proofs.YthjemjclpjmomaaDoor
