/- The walks of the reference's right and Right (heliographref07). -/
import Derived.Test.YthjemjclpjmomaaDoorR07One
import Derived.Test.YthjemjclpjmomaaDoorCSame
namespace Go.Proofs.YthjemjclpjmomaaDoor
open Go.RowKit
set_option linter.unusedVariables false

theorem okT_one (V : List Nat → Bool) (m : Nat) (x : T) : okT V (m + 1) x = (oneF (kd x) (nm x) (bs x).length (its x).length (V (bs x)) && (its x).all (okT V m)) := by
  rw [okT, oneF]
  have hall : (its x).length = 0 → (its x).all (okT V m) = true := fun h => by rw [List.eq_nil_of_length_eq_zero h]; rfl
  by_cases h1 : kd x = 1
  · rw [if_pos h1, if_pos h1]
    by_cases hi : (its x).length = 0
    · rw [hall hi, Bool.and_true]
    · rw [decide_eq_false hi]; simp
  rw [if_neg h1, if_neg h1]
  by_cases h2 : kd x = 2
  · rw [if_pos h2, if_pos h2]
    by_cases hi : (its x).length = 0
    · rw [hall hi, Bool.and_true]
    · rw [decide_eq_false hi]; simp
  rw [if_neg h2, if_neg h2]
  by_cases h3 : kd x = 3
  · rw [if_pos h3, if_pos h3]
    by_cases hi : (its x).length = 0
    · rw [hall hi, Bool.and_true]
    · rw [decide_eq_false hi]; simp
  rw [if_neg h3, if_neg h3]
  by_cases h4 : kd x = 4
  · rw [if_pos h4, if_pos h4]
    simp only [Bool.and_assoc]
  · rw [if_neg h4, if_neg h4, Bool.false_and]
theorem all_take (f : T → Bool) (l : List T) (k : Nat) (h : k < l.length) : (l.take (k + 1)).all f = ((l.take k).all f && f l[k]) := by
  rw [List.take_succ_eq_append_getElem h, List.all_append]
  simp
theorem all_false {f : T → Bool} {l : List T} {k : Nat} (h : k < l.length) (hf : f l[k] = false) : l.all f = false := by
  rw [List.all_eq_false]
  exact ⟨l[k], List.getElem_mem h, by rw [hf]; simp⟩
def RightOk (V : List Nat → Bool) (TB : World → Prop) (m : Nat) : Prop := ∀ (n : Nat) (A : Nat → Prop) (w : World) (x : T) (a1 a2 : Option Addr) (c1 c2 : Nat), TB w → Lie A w n a1 x a2 → (bs x).length ≤ c1 →
  Calls Tryd.prog 23 #[iv x a1 c1 a2 c2, .int .i64 m] w fun e w' => e = .returned (.bool (okT V m x)) ∧ Hid (Below w.heap.size w w')
theorem right_zero (V : List Nat → Bool) (TB : World → Prop) : RightOk V TB 0 := by
  intro n A w x a1 a2 c1 c2 hw hx hc
  go_enter Tryd.func23, Tryd.ntmps23
  go_wp2
  go_ret
  exact ⟨rfl, (Below.refl _ w).alloc (Nat.le_refl _) _⟩
set_option maxRecDepth 20000 in
set_option maxHeartbeats 4000000 in
theorem right_step (V : List Nat → Bool) (TB : World → Prop) (hT : Txt V TB) (m : Nat) (hm : m ≤ 10) (ih : RightOk V TB m) : RightOk V TB (m + 1) := by
  intro n A w x a1 a2 c1 c2 hw hx hc
  cases n with
  | zero => exact hx.elim
  | succ n =>
  have HX : Hid (Lie A w (n + 1) a1 x a2) := hx
  have HBA : Hid (∀ (w : World) X, Below w.heap.size w (w.alloc X)) := fun w X => (Below.refl _ w).alloc (Nat.le_refl _) X
  have HTB : Hid (∀ w1, Below w.heap.size w w1 → TB w1) := fun w1 hb => hT.later _ _ hw hb
  have hz := hx.2.2.2.1
  have HON : Hid (∀ Xo : Obj, Calls Tryd.prog 35 #[iv x a1 c1 a2 c2] (w.alloc Xo) fun e w' => e = .returned (.bool (oneF (kd x) (nm x) (bs x).length (its x).length (V (bs x)))) ∧ Hid (Below (w.alloc Xo).heap.size (w.alloc Xo) w')) := fun Xo => one_any (w.alloc Xo) (kd x) (nm x) (bs x).length (its x).length (V (bs x)) a1 a2 c1 c2 ⟨hx.1.2.1, hx.1.2.2.1⟩ hx.1.1 hx.1.2.2.2 hz (fun Y => hT.valid _ a1 c1 (bs x) (HTB.out _ (below_of (HBA.out w Xo) (HBA.out _ Y))) (hx.2.1.later (below_of (HBA.out w Xo) (HBA.out _ Y))) hx.1.2.2.2 hc)
  have HIH : Hid (RightOk V TB m) := ih
  have HOK : Hid (okT V (m + 1) x = (oneF (kd x) (nm x) (bs x).length (its x).length (V (bs x)) && (its x).all (okT V m))) := okT_one V m x
  generalize okT V (m + 1) x = R at HOK ⊢
  have hm0 : (((m : Int) + 1) == 0) = false := beq_eq_false_iff_ne.2 (by omega)
  clear hx hw hT ih hc
  cases h1 : oneF (kd x) (nm x) (bs x).length (its x).length (V (bs x)) with
  | false =>
    rw [h1] at HON HOK
    rw [Bool.false_and] at HOK
    go_enter Tryd.func23, Tryd.ntmps23
    go_wp2_with (go_at_call 35; refine (HON.out _).mono ?_; rintro e w1 ⟨rfl, hq1⟩)
    go_ret
    exact ⟨ret_bool HOK.out.symm, below_of (HBA.out w _) hq1.out⟩
  | true =>
    rw [h1] at HON HOK
    rw [Bool.true_and] at HOK
    clear h1
    go_enter Tryd.func23, Tryd.ntmps23
    go_wp2_with (go_at_call 35; refine (HON.out _).mono ?_; rintro e w1 ⟨rfl, hq1⟩)
    have HC1 : Hid (∀ wq, Below w1.heap.size w1 wq → wq.cell? ⟨w.heap.size, 3, none⟩ = some (.slice a2 (its x).length c2) ∧ Below w.heap.size w wq) := fun wq hq => ⟨by rw [cell_of (old_block (below_of hq1.out hq) (heap_alloc_new w (ic x a1 c1 a2 c2))) 3]; rfl, below_of (below_of (HBA.out w _) hq1.out) hq⟩
    clear HON hq1
    go_loopw [5] (fun i wr => ∃ k : Nat, k ≤ (its x).length ∧ i = .int .i64 k ∧ Hid (Below w1.heap.size w1 wr ∧ ((its x).take k).all (okT V m) = true)) (fun i _ => (its x).length - (intOf i).toNat)
    case atStart => exact ⟨0, by omega, rfl, Below.refl _ _, by simp⟩
    case round =>
      obtain ⟨k, hk, rfl, HD⟩ := hrel
      obtain ⟨p3, hbw⟩ := HC1.out _ HD.out.1
      have HBW : Hid (Below w.heap.size w wr) := hbw
      clear hbw
      by_cases hkl : k < (its x).length
      · obtain ⟨bx, ox, rfl, _, hcx⟩ := (LieL.later HX.out.2.2.2 HBW.out).2 (by omega)
        obtain ⟨e1, f1, e2, f2, ⟨g0, g1, g2, g3⟩, hgx, hgc⟩ := hcx k hkl
        clear hcx
        have HRC : Hid (Calls Tryd.prog 23 #[iv (its x)[k] e1 f1 e2 f2, .int .i64 m] wr fun e w' => e = .returned (.bool (okT V m (its x)[k])) ∧ Hid (Below wr.heap.size wr w')) := HIH.out n A wr _ _ _ _ _ (HTB.out _ HBW.out) hgx hgc
        have HMO : Hid (okT V m (its x)[k] = true → ((its x).take (k + 1)).all (okT V m) = true) := fun h => by rw [all_take _ _ _ hkl, HD.out.2, h]; rfl
        have HNO : Hid (okT V m (its x)[k] = false → R = false) := fun h => by rw [HOK.out]; exact all_false hkl h
        clear hgx hgc
        generalize (its x)[k] = y at g0 g1 g2 g3 HRC HMO HNO
        have i1 : (k : Int) < ((its x).length : Int) := by omega
        cases hy : okT V m y with
        | true =>
          rw [hy] at HRC
          have HM2 : Hid _ := HMO.out hy
          go_wp2_with (go_at_call 23; refine HRC.out.mono ?_; rintro e w5 ⟨rfl, hq5⟩)
          go_roundw
          case rel => exact ⟨k + 1, by omega, by go_num, below_of HD.out.1 hq5.out, HM2.out⟩
          case measure => simp [intOf]; omega
        | false =>
          rw [hy] at HRC
          have HM2 : Hid (R = false) := HNO.out hy
          go_wp2_with (go_at_call 23; refine HRC.out.mono ?_; rintro e w5 ⟨rfl, hq5⟩)
          go_ret
          exact ⟨ret_bool HM2.out.symm, below_of HBW.out hq5.out⟩
      · have HF : Hid (R = true) := by
          show _ = _
          have h2 := HD.out.2
          rw [List.take_of_length_le (by omega)] at h2
          rw [HOK.out, h2]
        go_wp2
        go_ret
        exact ⟨ret_bool HF.out.symm, HBW.out⟩
theorem right_any (V : List Nat → Bool) (TB : World → Prop) (hT : Txt V TB) (n : Nat) (A : Nat → Prop) (w : World) (x : T) (a1 a2 : Option Addr) (c1 c2 : Nat) (hw : TB w) (hx : Lie A w n a1 x a2) (hc : (bs x).length ≤ c1) :
    Calls Tryd.prog 11 #[iv x a1 c1 a2 c2] w fun e w' => e = .returned (.bool (okT V 4 x)) ∧ Hid (Below w.heap.size w w') := by
  have h4 : RightOk V TB 4 := right_step V TB hT 3 (by omega) (right_step V TB hT 2 (by omega) (right_step V TB hT 1 (by omega) (right_step V TB hT 0 (by omega) (right_zero V TB))))
  have HBA : Hid (∀ X, Below w.heap.size w (w.alloc X)) := fun X => (Below.refl _ w).alloc (Nat.le_refl _) X
  have HR : Hid (∀ X : Obj, Calls Tryd.prog 23 #[iv x a1 c1 a2 c2, .int .i64 4] (w.alloc X) fun e w' => e = .returned (.bool (okT V 4 x)) ∧ Hid (Below (w.alloc X).heap.size (w.alloc X) w')) := fun X => h4 n A _ x a1 a2 c1 c2 (hT.later _ _ hw (HBA.out X)) (hx.later (HBA.out X)) hc
  clear h4 hx hT hw hc
  generalize okT V 4 x = R at HR ⊢
  go_enter Tryd.func11, Tryd.ntmps11
  go_wp2_with (go_at_call 23; refine (HR.out _).mono ?_; rintro e w1 ⟨rfl, hq1⟩)
  go_ret
  exact ⟨rfl, below_of (HBA.out _) hq1.out⟩
end Go.Proofs.YthjemjclpjmomaaDoor
