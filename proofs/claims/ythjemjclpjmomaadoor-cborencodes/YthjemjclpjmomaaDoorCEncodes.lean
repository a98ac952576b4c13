/- The walk of CborEncodes. -/
import Derived.Test.YthjemjclpjmomaaDoorR07Bytes
namespace Go.Proofs.YthjemjclpjmomaaDoor
open Go.RowKit
set_option linter.unusedVariables false

theorem drew_below (w : World) : ∀ n, Below w.heap.size w (w.drewN n)
  | 0 => Below.refl _ _
  | n + 1 => (drew_below w n).drew
set_option maxRecDepth 20000 in
set_option maxHeartbeats 8000000 in
theorem encodes_any (V : List Nat → Bool) (TB : World → Prop) (hT : Txt V TB) (w : World) (a : Option Addr) (c : Nat) (L : List FT) (hw : TB w) (h1 : 1 < w.heap.size) (hL : FlatsAt w a L) :
    Calls Tryd.prog 3 #[.slice a L.length c] w fun e w' => e = .returned (.bool true) ∧ Hid (Below w.heap.size w w') := by
  have HWK := wakes_any V TB hT w hw h1
  have HBA : Hid (∀ (w : World) X, Below w.heap.size w (w.alloc X)) := fun w X => (Below.refl _ w).alloc (Nat.le_refl _) X
  have HBU : Hid (∀ w1, Below w.heap.size w w1 → Calls Tryd.prog 8 #[.slice a L.length c] w1 fun e w' => ∃ a1 c1 a2 c2, e = .returned (iv (bltS L) a1 c1 a2 c2) ∧ Hid (Lie (fun _ => False) w' 9 a1 (bltS L) a2 ∧ (bs (bltS L)).length ≤ c1 ∧ Below w1.heap.size w1 w')) := fun w1 hb => built_is w1 a c L (hL.later hb)
  have HENC : Hid (∀ w1 a1 c1 a2 c2, Below w.heap.size w w1 → Lie (fun _ => False) w1 9 a1 (bltS L) a2 → (bs (bltS L)).length ≤ c1 → Calls Tryd.prog 9 #[iv (bltS L) a1 c1 a2 c2] w1 fun e w' => Encs V 9 (bltS L) w1 e w') := fun w1 a1 c1 a2 c2 hb hx hc => encode_any V TB hT _ w1 9 (by omega) (bltS L) a1 a2 c1 c2 (hT.later _ _ hw hb) hx hc
  have HSM : Hid (∀ w1 a1 c1 a2 c2 e1 f1 e2 f2, Lie (fun _ => False) w1 9 a1 (bltS L) a2 → Lie (fun _ => False) w1 9 e1 (bltS L) e2 → Calls Tryd.prog 10 #[iv (bltS L) a1 c1 a2 c2, iv (bltS L) e1 f1 e2 f2] w1 fun e w' => e = .returned (.bool true) ∧ Hid (Below w1.heap.size w1 w')) := fun w1 a1 c1 a2 c2 e1 f1 e2 f2 hx hy => by
    have := same_any 9 (fun _ => False) (fun _ => False) w1 (bltS L) (bltS L) a1 a2 e1 e2 c1 c2 f1 f2 hx hy
    rw [same_self] at this
    exact this
  have HRI : Hid (∀ w1 a1 c1 a2 c2, Below w.heap.size w w1 → Lie (fun _ => False) w1 9 a1 (bltS L) a2 → (bs (bltS L)).length ≤ c1 → Calls Tryd.prog 11 #[iv (bltS L) a1 c1 a2 c2] w1 fun e w' => e = .returned (.bool (okT V 4 (bltS L))) ∧ Hid (Below w1.heap.size w1 w')) := fun w1 a1 c1 a2 c2 hb hx hc => right_any V TB hT 9 _ w1 (bltS L) a1 a2 c1 c2 (hT.later _ _ hw hb) hx hc
  have HCH : Hid (∀ w1 a1 c1 a2 c2, Below w.heap.size w w1 → Lie (fun _ => False) w1 9 a1 (bltS L) a2 → (bs (bltS L)).length ≤ c1 → Calls Tryd.prog 12 #[iv (bltS L) a1 c1 a2 c2] w1 fun e w' => e = .returned (.int .i64 (if okT V 4 (bltS L) = true then 0 else 170)) ∧ Hid (Below w1.heap.size w1 w')) := fun w1 a1 c1 a2 c2 hb hx hc => check_any V TB hT _ w1 9 (bltS L) a1 a2 c1 c2 (hT.later _ _ hw hb) hx hc
  have HRB : Hid (okT V 4 (bltS L) = true → ∀ w1 a1 c1 a2 c2, Lie (fun _ => False) w1 9 a1 (bltS L) a2 → Calls Tryd.prog 14 #[iv (bltS L) a1 c1 a2 c2] w1 fun e w' => ∃ a c, e = .returned (.slice a (enc 9 (bltS L)).length c) ∧ Hid (Row w' a (enc 9 (bltS L)) ∧ Below w1.heap.size w1 w')) := fun hok w1 a1 c1 a2 c2 hx => bytes_ok V 9 4 _ w1 (bltS L) a1 a2 c1 c2 (by omega) hok hx
  clear hL hT hw
  generalize bltS L = x at HBU HENC HSM HRI HCH HRB
  unfold Encs at HENC
  obtain ⟨Z, hZ⟩ : ∃ Z : Int, Z = 0 := ⟨0, rfl⟩
  obtain ⟨E, hE⟩ : ∃ E : Int, E = 170 := ⟨170, rfl⟩
  cases hok : okT V 4 x with
  | true =>
    have HENC2 : Hid (∀ w1 a1 c1 a2 c2, Below w.heap.size w w1 → Lie (fun _ => False) w1 9 a1 x a2 → (bs x).length ≤ c1 → Calls Tryd.prog 9 #[iv x a1 c1 a2 c2] w1 fun e w' => ∃ a c, e = .returned (.tuple #[.slice a (enc 9 x).length c, .int .i64 Z]) ∧ Hid (Row w' a (enc 9 x) ∧ Below w1.heap.size w1 w')) := fun w1 a1 c1 a2 c2 hb hx hc => (HENC.out w1 a1 c1 a2 c2 hb hx hc).mono fun e w' h => by
      rcases h with ⟨_, a, c, rfl, hq⟩ | ⟨hno, _⟩
      · exact ⟨a, c, by rw [hZ], hq.out.1, hq.out.2.2.2.2⟩
      · rw [hok] at hno; cases hno
    have HRB2 := HRB.out hok
    have HRB3 : Hid _ := HRB2
    rw [hok] at HRI
    simp only [hok, if_true] at HCH
    rw [← hZ] at HCH
    have hz0 : (Z == 0) = true := by rw [hZ]; rfl
    clear HENC HRB HRB2 hok hZ hE
    have HEQ : Hid (∀ w1 a1 b1 c1 d1, Row w1 a1 (enc 9 x) → Row w1 b1 (enc 9 x) → Calls Tryd.prog 13 #[.slice a1 (enc 9 x).length c1, .slice b1 (enc 9 x).length d1] w1 fun e w' => e = .returned (.bool true) ∧ ∃ q, w' = w1.drewN q) := fun w1 a1 b1 c1 d1 hr hs => by
      have := rsame_any a1 b1 c1 d1 (enc 9 x) (enc 9 x) w1 hr hs
      simpa using this
    generalize hKK : (enc 9 x).length = K at HENC2 HRB3 HEQ
    generalize enc 9 x = X at HENC2 HRB3 HEQ
    clear hKK
    go_enter Tryd.func3, Tryd.ntmps3
    go_wp2_with (first
      | (go_at_call 7; refine HWK.mono ?_; rintro e w1 ⟨rfl, hb1⟩)
      | (go_at_call 8; refine (HBU.out w1 hb1.out).mono ?_; rintro e w2 ⟨a1, c1, a2, c2, rfl, hq2⟩)
      | (go_at_call 9; refine (HENC2.out _ a1 c1 a2 c2 (below_of (below_of hb1.out hq2.out.2.2) (HBA.out w2 _)) (hq2.out.1.later (HBA.out w2 _)) hq2.out.2.1).mono ?_; rintro e w3 ⟨a3, c3, rfl, hq3⟩))
    have HP : Hid (∀ wq, Below w3.heap.size w3 wq → wq.heap[w2.heap.size]? = some (ic x a1 c1 a2 c2) ∧ Lie (fun _ => False) wq 9 a1 x a2 ∧ Below w.heap.size w wq) := fun wq hq => ⟨old_block (below_of hq3.out.2 hq) (heap_alloc_new w2 _), (hq2.out.1.later (HBA.out w2 (ic x a1 c1 a2 c2))).later (below_of hq3.out.2 hq), below_of (below_of (below_of hb1.out hq2.out.2.2) (HBA.out w2 (ic x a1 c1 a2 c2))) (below_of hq3.out.2 hq)⟩
    have HCC : Hid ((bs x).length ≤ c1) := hq2.out.2.1
    have hX : Below w3.heap.size w3 w3.drew := (Below.refl _ _).drew
    obtain ⟨q0, q1, q2, q3⟩ := box4 (HP.out w3 (Below.refl _ _)).1
    clear hq2 hb1
    generalize w2.heap.size = P at HP q0 q1 q2 q3 ⊢
    go_region_held3 (fun W => W.cell? ⟨P, 0, none⟩ = some (.int .i64 (kd x)) ∧ W.cell? ⟨P, 1, none⟩ = some (.int .u64 (nm x : Nat)) ∧ W.cell? ⟨P, 2, none⟩ = some (.slice a1 (bs x).length c1) ∧ W.cell? ⟨P, 3, none⟩ = some (.slice a2 (its x).length c2)) (first | exact ⟨q0, q1, q2, q3⟩ | exact ⟨cell_later hX q0, cell_later hX q1, cell_later hX q2, cell_later hX q3⟩) (first
      | (go_at_call 8; refine (HBU.out _ (HP.out _ hX).2.2).mono ?_; rintro e w4 ⟨b1, d1, b2, d2, rfl, hq4⟩; have hX := below_of hX hq4.out.2.2)
      | (go_at_call 10; refine (HSM.out _ a1 c1 a2 c2 b1 d1 b2 d2 (HP.out _ hX).2.1 hq4.out.1).mono ?_; rintro e w5 ⟨rfl, hq5⟩; have hX := below_of hX hq5.out))
    clear q0 q1 q2 q3 hq4
    obtain ⟨q0, q1, q2, q3⟩ := box4 (HP.out _ hX).1
    go_wp2_with fail
    refine (HRI.out _ a1 c1 a2 c2 (HP.out _ hX).2.2 (HP.out _ hX).2.1 HCC.out).mono ?_
    rintro e w6 ⟨rfl, hq6⟩
    have hX := below_of hX hq6.out
    clear q0 q1 q2 q3
    obtain ⟨q0, q1, q2, q3⟩ := box4 (HP.out _ hX).1
    go_wp2_with fail
    refine (HCH.out _ a1 c1 a2 c2 (HP.out _ hX).2.2 (HP.out _ hX).2.1 HCC.out).mono ?_
    rintro e w7 ⟨rfl, hq7⟩
    have hX := below_of hX hq7.out
    clear q0 q1 q2 q3
    obtain ⟨q0, q1, q2, q3⟩ := box4 (HP.out _ hX).1
    go_wp2_with fail
    refine (HRB3.out _ a1 c1 a2 c2 (HP.out _ hX).2.1).mono ?_
    rintro e w8 ⟨a8, c8, rfl, hq8⟩
    have hX := below_of hX hq8.out.2
    go_wp2_with fail
    refine (HEQ.out _ a3 a8 c3 c8 (hq3.out.1.later hX) hq8.out.1).mono ?_
    rintro e w9 ⟨rfl, qn, rfl⟩
    go_wp2
    go_ret
    exact ⟨rfl, below_of (HP.out _ hX).2.2 (drew_below _ _)⟩
  | false =>
    have HENC2 : Hid (∀ w1 a1 c1 a2 c2, Below w.heap.size w w1 → Lie (fun _ => False) w1 9 a1 x a2 → (bs x).length ≤ c1 → Calls Tryd.prog 9 #[iv x a1 c1 a2 c2] w1 fun e w' => e = .returned (.tuple #[.slice none 0 0, .int .i64 E]) ∧ Hid (Below w1.heap.size w1 w')) := fun w1 a1 c1 a2 c2 hb hx hc => (HENC.out w1 a1 c1 a2 c2 hb hx hc).mono fun e w' h => by
      rcases h with ⟨hno, _⟩ | ⟨_, rfl, hq⟩
      · rw [hok] at hno; cases hno
      · exact ⟨by rw [hE], hq⟩
    rw [hok] at HRI
    simp only [hok, Bool.false_eq_true, if_false] at HCH
    rw [← hE] at HCH
    have hz0 : (E == 170) = true := by rw [hE]; rfl
    clear HENC HRB hok hZ hE
    go_enter Tryd.func3, Tryd.ntmps3
    go_wp2_with (first
      | (go_at_call 7; refine HWK.mono ?_; rintro e w1 ⟨rfl, hb1⟩)
      | (go_at_call 8; refine (HBU.out w1 hb1.out).mono ?_; rintro e w2 ⟨a1, c1, a2, c2, rfl, hq2⟩)
      | (go_at_call 9; refine (HENC2.out _ a1 c1 a2 c2 (below_of (below_of hb1.out hq2.out.2.2) (HBA.out w2 _)) (hq2.out.1.later (HBA.out w2 _)) hq2.out.2.1).mono ?_; rintro e w3 ⟨rfl, hq3⟩))
    have HP : Hid (∀ wq, Below w3.heap.size w3 wq → wq.heap[w2.heap.size]? = some (ic x a1 c1 a2 c2) ∧ Lie (fun _ => False) wq 9 a1 x a2 ∧ Below w.heap.size w wq) := fun wq hq => ⟨old_block (below_of hq3.out hq) (heap_alloc_new w2 _), (hq2.out.1.later (HBA.out w2 (ic x a1 c1 a2 c2))).later (below_of hq3.out hq), below_of (below_of (below_of hb1.out hq2.out.2.2) (HBA.out w2 (ic x a1 c1 a2 c2))) (below_of hq3.out hq)⟩
    have HCC : Hid ((bs x).length ≤ c1) := hq2.out.2.1
    have hX : Below w3.heap.size w3 w3.drew := (Below.refl _ _).drew
    obtain ⟨q0, q1, q2, q3⟩ := box4 (HP.out w3 (Below.refl _ _)).1
    clear hq2 hb1
    generalize w2.heap.size = P at HP q0 q1 q2 q3 ⊢
    go_region_held3 (fun W => W.cell? ⟨P, 0, none⟩ = some (.int .i64 (kd x)) ∧ W.cell? ⟨P, 1, none⟩ = some (.int .u64 (nm x : Nat)) ∧ W.cell? ⟨P, 2, none⟩ = some (.slice a1 (bs x).length c1) ∧ W.cell? ⟨P, 3, none⟩ = some (.slice a2 (its x).length c2)) (first | exact ⟨q0, q1, q2, q3⟩ | exact ⟨cell_later hX q0, cell_later hX q1, cell_later hX q2, cell_later hX q3⟩) (first
      | (go_at_call 8; refine (HBU.out _ (HP.out _ hX).2.2).mono ?_; rintro e w4 ⟨b1, d1, b2, d2, rfl, hq4⟩; have hX := below_of hX hq4.out.2.2)
      | (go_at_call 10; refine (HSM.out _ a1 c1 a2 c2 b1 d1 b2 d2 (HP.out _ hX).2.1 hq4.out.1).mono ?_; rintro e w5 ⟨rfl, hq5⟩; have hX := below_of hX hq5.out))
    clear q0 q1 q2 q3 hq4
    obtain ⟨q0, q1, q2, q3⟩ := box4 (HP.out _ hX).1
    go_wp2_with fail
    refine (HRI.out _ a1 c1 a2 c2 (HP.out _ hX).2.2 (HP.out _ hX).2.1 HCC.out).mono ?_
    rintro e w6 ⟨rfl, hq6⟩
    have hX := below_of hX hq6.out
    clear q0 q1 q2 q3
    obtain ⟨q0, q1, q2, q3⟩ := box4 (HP.out _ hX).1
    go_wp2_with fail
    refine (HCH.out _ a1 c1 a2 c2 (HP.out _ hX).2.2 (HP.out _ hX).2.1 HCC.out).mono ?_
    rintro e w7 ⟨rfl, hq7⟩
    have hX := below_of hX hq7.out
    clear q0 q1 q2 q3
    go_wp2
    go_ret
    exact ⟨rfl, (HP.out _ hX).2.2⟩
end Go.Proofs.YthjemjclpjmomaaDoor
