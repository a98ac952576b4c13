/- The walk of the reference's Same of items (heliographref07). -/
import Derived.Test.YthjemjclpjmomaaDoorCSame
import Derived.Test.YthjemjclpjmomaaDoorR01Same
namespace Go.Proofs.YthjemjclpjmomaaDoor
open Go.RowKit
set_option linter.unusedVariables false

/-- what the reference's Same answers of items that are at most n deep. -/
def RSameOk (n : Nat) : Prop := ∀ (A B : Nat → Prop) (w : World) (x y : T) (a1 a2 b1 b2 : Option Addr) (c1 c2 d1 d2 : Nat), Lie A w n a1 x a2 → Lie B w n b1 y b2 →
  Calls Tryd.prog 18 #[iv x a1 c1 a2 c2, iv y b1 d1 b2 d2] w fun e w' => e = .returned (.bool (sameT n x y)) ∧ Hid (Below w.heap.size w w')

/-- the cells of two boxes. -/
theorem two_boxes {w wr : World} {x y : T} {a1 a2 b1 b2 : Option Addr} {c1 c2 d1 d2 : Nat} (hb : Below ((w.alloc (ic x a1 c1 a2 c2)).alloc (ic y b1 d1 b2 d2)).heap.size ((w.alloc (ic x a1 c1 a2 c2)).alloc (ic y b1 d1 b2 d2)) wr) :
    wr.cell? ⟨w.heap.size, 3, none⟩ = some (.slice a2 (its x).length c2) ∧ wr.cell? ⟨w.heap.size + 1, 3, none⟩ = some (.slice b2 (its y).length d2) := by
  have l5 : ((w.alloc (ic x a1 c1 a2 c2)).alloc (ic y b1 d1 b2 d2)).heap[w.heap.size]? = some (ic x a1 c1 a2 c2) := by rw [Below.heap_alloc _ _ _ (by simp)]; exact heap_alloc_new _ _
  have l6 : ((w.alloc (ic x a1 c1 a2 c2)).alloc (ic y b1 d1 b2 d2)).heap[w.heap.size + 1]? = some (ic y b1 d1 b2 d2) := by
    have := heap_alloc_new (w.alloc (ic x a1 c1 a2 c2)) (ic y b1 d1 b2 d2)
    simpa using this
  exact ⟨by rw [cell_of (old_block hb l5) 3]; rfl, by rw [cell_of (old_block hb l6) 3]; rfl⟩

set_option maxRecDepth 20000 in
set_option maxHeartbeats 4000000 in
theorem rsame_step (n : Nat) (hs : RSameOk n) : RSameOk (n + 1) := by
  intro A B w x y a1 a2 b1 b2 c1 c2 d1 d2 hx hy
  have HX : Hid (Lie A w (n + 1) a1 x a2) := hx
  have HY : Hid (Lie B w (n + 1) b1 y b2) := hy
  have HB : Hid (∀ X Y : Obj, Below w.heap.size w ((w.alloc X).alloc Y)) := fun X Y => ((Below.refl _ w).alloc (Nat.le_refl _) X).alloc (by simp) Y
  have HSO : Hid (RSameOk n) := hs
  have HE : Hid (sameT (n + 1) x y = (decide (kd x = kd y) && (decide (nm x = nm y) && (decide (bs x = bs y) && all2 (sameT n) (its x) (its y))))) := rfl
  have hxk := hx.1
  have hyk := hy.1
  have hxl := hx.2.2.2.1
  have hyl := hy.2.2.2.1
  clear hx hy hs
  generalize hR : sameT (n + 1) x y = R at HE ⊢
  clear hR
  by_cases h1 : kd x = kd y
  · have h1b : (kd x != kd y) = false := by simpa using h1
    by_cases h2 : nm x = nm y
    · have h2b : ((nm x : Int) != (nm y : Int)) = false := by rw [bne_eq_false_iff_eq]; omega
      have HEQ : Hid (∀ X Y : Obj, Calls Tryd.prog 13 #[.slice a1 (bs x).length c1, .slice b1 (bs y).length d1] ((w.alloc X).alloc Y) fun e w' => e = .returned (.bool (decide (bs x = bs y))) ∧ ∃ q, w' = ((w.alloc X).alloc Y).drewN q) := fun X Y => rsame_any a1 b1 c1 d1 (bs x) (bs y) _ (HX.out.2.1.later (HB.out X Y)) (HY.out.2.1.later (HB.out X Y))
      rw [h1, h2, decide_eq_true rfl, decide_eq_true rfl, Bool.true_and, Bool.true_and] at HE
      cases h3 : decide (bs x = bs y) with
      | true =>
        rw [h3, Bool.true_and] at HE
        rw [h3] at HEQ
        clear h1 h2
        by_cases hlen : (its x).length = (its y).length
        · have hlb : (((its x).length : Int) != ((its y).length : Int)) = false := by rw [bne_eq_false_iff_eq]; omega
          have HLN : Hid ((its x).length = (its y).length) := hlen
          have hle1 : (its x).length ≤ (its y).length := by omega
          have hle2 : (its y).length ≤ (its x).length := by omega
          clear hlen
          go_enter Tryd.func18, Tryd.ntmps18
          go_wp2_with (go_at_call 13; refine (HEQ.out _ _).mono ?_; rintro e w' ⟨rfl, nd, rfl⟩)
          have HW0 : Hid (Below ((w.alloc (ic x a1 c1 a2 c2)).alloc (ic y b1 d1 b2 d2)).heap.size ((w.alloc (ic x a1 c1 a2 c2)).alloc (ic y b1 d1 b2 d2)) (((w.alloc (ic x a1 c1 a2 c2)).alloc (ic y b1 d1 b2 d2)).drewN nd)) := below_drewN (Below.refl _ _) _
          generalize (((w.alloc (ic x a1 c1 a2 c2)).alloc (ic y b1 d1 b2 d2)).drewN nd) = Wd at HW0 ⊢
          have HBX : Hid (∀ wq, Below Wd.heap.size Wd wq → (wq.cell? ⟨w.heap.size, 3, none⟩ = some (.slice a2 (its x).length c2) ∧ wq.cell? ⟨w.heap.size + 1, 3, none⟩ = some (.slice b2 (its y).length d2)) ∧ Below w.heap.size w wq) := fun wq hq => ⟨two_boxes (below_of HW0.out hq), below_of (HB.out _ _) (below_of HW0.out hq)⟩
          clear HEQ
          go_loopw [5] (fun i wr => ∃ k : Nat, k ≤ (its x).length ∧ i = .int .i64 k ∧ Hid (Below Wd.heap.size Wd wr ∧ ∀ j (h1 : j < (its x).length) (h2 : j < (its y).length), j < k → sameT n (its x)[j] (its y)[j] = true)) (fun i _ => (its x).length - (intOf i).toNat)
          case atStart => exact ⟨0, by omega, rfl, Below.refl _ _, fun j _ _ h => absurd h (by omega)⟩
          case round =>
            obtain ⟨k, hk, rfl, HD⟩ := hrel
            obtain ⟨⟨p3, q3⟩, hbw⟩ := HBX.out _ HD.out.1
            have HBW : Hid (Below w.heap.size w wr) := hbw
            clear hbw
            by_cases hkl : k < (its x).length
            · have hkm : k < (its y).length := by omega
              obtain ⟨bx, ox, rfl, _, hcx⟩ := (LieL.later HX.out.2.2.2 HBW.out).2 (by omega)
              obtain ⟨by_, oy, rfl, _, hcy⟩ := (LieL.later HY.out.2.2.2 HBW.out).2 (by omega)
              obtain ⟨e1, f1, e2, f2, ⟨g0, g1, g2, g3⟩, hgx, _⟩ := hcx k hkl
              obtain ⟨e5, f5, e6, f6, ⟨k0, k1, k2, k3⟩, hgy, _⟩ := hcy k hkm
              clear hcx hcy
              have HRC : Hid (∀ W, Below wr.heap.size wr W → Calls Tryd.prog 18 #[iv (its x)[k] e1 f1 e2 f2, iv (its y)[k] e5 f5 e6 f6] W fun e w' => e = .returned (.bool (sameT n (its x)[k] (its y)[k])) ∧ Hid (Below W.heap.size W w')) := fun W hW => HSO.out A B W _ _ _ _ _ _ _ _ _ _ (hgx.later hW) (hgy.later hW)
              have HMO : Hid (sameT n (its x)[k] (its y)[k] = true → ∀ j (h1 : j < (its x).length) (h2 : j < (its y).length), j < k + 1 → sameT n (its x)[j] (its y)[j] = true) := fun h j h1 h2 hj => by
                by_cases e : j = k
                · subst e; exact h
                · exact HD.out.2 j h1 h2 (by omega)
              have HNO : Hid (sameT n (its x)[k] (its y)[k] = false → R = false) := fun h => by rw [HE.out]; exact all2_not k hkl hkm h
              generalize (its x)[k] = xk at g0 g1 g2 g3 HRC HMO HNO
              generalize (its y)[k] = yk at k0 k1 k2 k3 HRC HMO HNO
              have i1 : (k : Int) < ((its x).length : Int) := by omega
              have i2 : (k : Int) < ((its y).length : Int) := by omega
              have i3 : (0 : Int) ≤ (k : Int) := by omega
              have hX : Below wr.heap.size wr wr.drew := (Below.refl _ wr).drew
              cases hsm : sameT n xk yk with
              | true =>
                rw [hsm] at HRC
                have HM2 : Hid _ := HMO.out hsm
                go_wp2
                go_region_held3 (fun W => W.cell? ⟨w.heap.size, 3, none⟩ = some (.slice (some ⟨bx, ox, none⟩) (its x).length c2) ∧ W.cell? ⟨w.heap.size + 1, 3, none⟩ = some (.slice (some ⟨by_, oy, none⟩) (its y).length d2) ∧ W.cell? ⟨bx, ox + k * 4, none⟩ = some (.int .i64 (kd xk)) ∧ W.cell? ⟨bx, ox + k * 4 + 1, none⟩ = some (.int .u64 (nm xk : Nat)) ∧ W.cell? ⟨bx, ox + k * 4 + 2, none⟩ = some (.slice e1 (bs xk).length f1) ∧ W.cell? ⟨bx, ox + k * 4 + 3, none⟩ = some (.slice e2 (its xk).length f2) ∧ W.cell? ⟨by_, oy + k * 4, none⟩ = some (.int .i64 (kd yk)) ∧ W.cell? ⟨by_, oy + k * 4 + 1, none⟩ = some (.int .u64 (nm yk : Nat)) ∧ W.cell? ⟨by_, oy + k * 4 + 2, none⟩ = some (.slice e5 (bs yk).length f5) ∧ W.cell? ⟨by_, oy + k * 4 + 3, none⟩ = some (.slice e6 (its yk).length f6)) (first | exact ⟨p3, q3, g0, g1, g2, g3, k0, k1, k2, k3⟩ | exact ⟨cell_later hX p3, cell_later hX q3, cell_later hX g0, cell_later hX g1, cell_later hX g2, cell_later hX g3, cell_later hX k0, cell_later hX k1, cell_later hX k2, cell_later hX k3⟩) (first
                  | (go_at_call 18; refine (HRC.out _ hX).mono ?_; rintro e w5 ⟨rfl, hq5⟩; have hX := below_of hX hq5.out))
                go_wp2
                go_roundw
                case rel => exact ⟨k + 1, by omega, by go_num, below_of HD.out.1 hX, HM2.out⟩
                case measure => simp [intOf]; omega
              | false =>
                rw [hsm] at HRC
                have HM2 : Hid (R = false) := HNO.out hsm
                go_wp2
                go_region_held3 (fun W => W.cell? ⟨w.heap.size, 3, none⟩ = some (.slice (some ⟨bx, ox, none⟩) (its x).length c2) ∧ W.cell? ⟨w.heap.size + 1, 3, none⟩ = some (.slice (some ⟨by_, oy, none⟩) (its y).length d2) ∧ W.cell? ⟨bx, ox + k * 4, none⟩ = some (.int .i64 (kd xk)) ∧ W.cell? ⟨bx, ox + k * 4 + 1, none⟩ = some (.int .u64 (nm xk : Nat)) ∧ W.cell? ⟨bx, ox + k * 4 + 2, none⟩ = some (.slice e1 (bs xk).length f1) ∧ W.cell? ⟨bx, ox + k * 4 + 3, none⟩ = some (.slice e2 (its xk).length f2) ∧ W.cell? ⟨by_, oy + k * 4, none⟩ = some (.int .i64 (kd yk)) ∧ W.cell? ⟨by_, oy + k * 4 + 1, none⟩ = some (.int .u64 (nm yk : Nat)) ∧ W.cell? ⟨by_, oy + k * 4 + 2, none⟩ = some (.slice e5 (bs yk).length f5) ∧ W.cell? ⟨by_, oy + k * 4 + 3, none⟩ = some (.slice e6 (its yk).length f6)) (first | exact ⟨p3, q3, g0, g1, g2, g3, k0, k1, k2, k3⟩ | exact ⟨cell_later hX p3, cell_later hX q3, cell_later hX g0, cell_later hX g1, cell_later hX g2, cell_later hX g3, cell_later hX k0, cell_later hX k1, cell_later hX k2, cell_later hX k3⟩) (first
                  | (go_at_call 18; refine (HRC.out _ hX).mono ?_; rintro e w5 ⟨rfl, hq5⟩; have hX := below_of hX hq5.out))
                go_wp2
                go_ret
                exact ⟨ret_bool HM2.out.symm, below_of HBW.out hX⟩
            · have HF : Hid (R = true) := by
                show _ = _
                rw [HE.out]
                exact all2_all HLN.out (fun i h1 h2 => HD.out.2 i h1 h2 (by omega))
              go_wp2
              go_ret
              exact ⟨ret_bool HF.out.symm, HBW.out⟩
        · have hlb : (((its x).length : Int) != ((its y).length : Int)) = true := by simp; omega
          have HF : Hid (R = false) := by show _ = _; rw [HE.out, all2_len hlen]
          clear hlen
          go_enter Tryd.func18, Tryd.ntmps18
          go_wp2_with (go_at_call 13; refine (HEQ.out _ _).mono ?_; rintro e w' ⟨rfl, nd, rfl⟩)
          go_ret
          exact ⟨ret_bool HF.out.symm, below_drewN (HB.out _ _) _⟩
      | false =>
        rw [h3, Bool.false_and] at HE
        rw [h3] at HEQ
        clear h1 h2
        go_enter Tryd.func18, Tryd.ntmps18
        go_wp2_with (go_at_call 13; refine (HEQ.out _ _).mono ?_; rintro e w' ⟨rfl, nd, rfl⟩)
        go_ret
        exact ⟨ret_bool HE.out.symm, below_drewN (HB.out _ _) _⟩
    · have h2b : ((nm x : Int) != (nm y : Int)) = true := by simp; omega
      rw [decide_eq_false h2, Bool.false_and, Bool.and_false] at HE
      clear h1 h2
      go_enter Tryd.func18, Tryd.ntmps18
      go_wp2
      go_ret
      exact ⟨ret_bool HE.out.symm, HB.out _ _⟩
  · have h1b : (kd x != kd y) = true := by simpa using h1
    rw [decide_eq_false h1, Bool.false_and] at HE
    clear h1
    go_enter Tryd.func18, Tryd.ntmps18
    go_wp2
    go_ret
    exact ⟨ret_bool HE.out.symm, HB.out _ _⟩
theorem rsame07_any : ∀ n, RSameOk n
  | 0 => fun _ _ _ _ _ _ _ _ _ _ _ _ _ h => h.elim
  | n + 1 => rsame_step n (rsame07_any n)
end Go.Proofs.YthjemjclpjmomaaDoor
