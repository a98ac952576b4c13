/- The reference's Right, where the numbers may be. -/
import Derived.Test.YtlhgjhbbiohcnaaVRRight
import Derived.Deep.RegionHeld3
import Derived.Deep.CutRange
namespace Go.Proofs.Ytlhgjhbbiohcnaa
open Go.RowKit
set_option linter.unusedVariables false
theorem cls_step {tot least : Int} {l : List (Int × Int)} {k : Nat} (h : k < l.length) : clsOk tot least (l.drop k) = (!decide (l[k].1 < least) && (inB l[k].2 1 (tot - l[k].1) && clsOk tot (l[k].1 + l[k].2 + 1) (l.drop (k + 1)))) := by
  rw [List.drop_eq_getElem_cons h, clsOk]
theorem cls_bad {x y tot least : Int} {T : Bool} (h : ¬ (least ≤ x ∧ 1 ≤ y ∧ x + y ≤ tot)) : (!decide (x < least) && (inB y 1 (tot - x) && T)) = false := by
  rw [Bool.eq_false_iff]
  intro e
  simp only [Bool.and_eq_true, Bool.not_eq_true', decide_eq_false_iff_not] at e
  have := inB_of e.2.1
  exact h ⟨by omega, by omega, by omega⟩
theorem cls_good {x y tot least : Int} {T : Bool} (h1 : least ≤ x) (h2 : 1 ≤ y) (h3 : x + y ≤ tot) : (!decide (x < least) && (inB y 1 (tot - x) && T)) = T := by
  have : inB y 1 (tot - x) = true := by unfold inB; simp; omega
  rw [this, decide_eq_false (show ¬ x < least by omega)]
  rfl
/-- what is known of the row ahead. -/
structure Pv (l : List (Int × Int)) (k : Nat) (p q : Int) : Prop where
  lt : k < l.length
  one : l[k].1 = p
  two : l[k].2 = q
  p0 : 0 ≤ p
  p1 : p ≤ 512
  q0 : 1 ≤ q
  q1 : q ≤ 512
set_option maxRecDepth 20000 in
set_option maxHeartbeats 4000000 in
theorem rrightK_yes (s : Tk) (a : Option Addr) (c : Nat) (g : Option Addr) (d : Nat) (w : World) (hc : CameK w s a c g d) (hk : numsK s = true) :
    Calls Try.prog 12 #[kv s a c g d] w fun e w' => e = .returned (.bool (okK s)) ∧ Hid (Below w.heap.size w w') := by
  have HC : Hid (CameK w s a c g d) := hc
  have hz := hc.zg
  have HB : Hid (Below w.heap.size w (w.alloc (kc s a c g d))) := (Below.refl _ w).alloc (Nat.le_refl _) _
  have HP : Hid ((w.alloc (kc s a c g d)).heap[w.heap.size]? = some (kc s a c g d)) := heap_alloc_new w _
  clear hc
  have hk2 := hk
  unfold numsK at hk2
  simp only [Bool.and_eq_true, decide_eq_true_eq] at hk2
  obtain ⟨n1, n2, n3, n4, n5, n6⟩ := hk2
  obtain ⟨n1a, n1b⟩ := inB_of n1
  obtain ⟨n3a, n3b⟩ := inB_of n3
  obtain ⟨n5a, n5b⟩ := inB_of n5
  obtain ⟨n6a, n6b⟩ := inB_of n6
  have n2b : ((s.ses : Int) == 0) = false := by simp; omega
  have n4b : ((s.byt.length : Int) != s.tot) = false := by simp [n4]
  have HK : Hid (numsK s = true) := hk
  clear n1 n2 n3 n4 n5 n6 hk
  have HWH : Hid (∀ W, Below w.heap.size w W → Calls Try.prog 34 #[kv s a c g d] W fun e w' => e = .returned (.bool (wholeK s)) ∧ Hid (Below W.heap.size W w')) := fun W hb => rwhole_any s a c g d W (HC.out.got.later hb)
  have HX : Hid (okK s = (clsOk s.tot 0 s.got && stateK s)) := by show _ = _; unfold okK; rw [HK.out]; rfl
  obtain ⟨R, hR⟩ : ∃ R, okK s = R := ⟨_, rfl⟩
  rw [hR] at HX ⊢
  clear hR
  go_enter Try.func12, Try.ntmps12
  go_wp2
  clear n1a n1b n2b n4b n5a n5b n6a n6b
  go_loopw [3] (fun i wr => ∃ (k : Nat) (least : Int), k ≤ s.got.length ∧ i = .int .i64 k ∧ 0 ≤ least ∧ Hid (clsOk s.tot 0 s.got = clsOk s.tot least (s.got.drop k)) ∧ Hid (Below w.heap.size w wr ∧ wr.heap[w.heap.size]? = some (kc s a c g d)) ∧ Hid (k = 0 ∧ least = 0 ∨ ∃ j p q, k = j + 1 ∧ Pv s.got j p q ∧ least = p + q + 1)) (fun i _ => s.got.length - (intOf i).toNat)
  case atStart => exact ⟨0, 0, by omega, rfl, by omega, rfl, ⟨HB.out, HP.out⟩, .inl ⟨rfl, rfl⟩⟩
  case round =>
    obtain ⟨k, least, hk, rfl, hl0, HQ, HW, HV⟩ := hrel
    by_cases hlt : k < s.got.length
    · obtain ⟨b, off, rfl, hc⟩ := (HC.out.got.later HW.out.1).2 (by omega)
      obtain ⟨hc1, hc2⟩ := hc k hlt
      obtain ⟨x, hx⟩ : ∃ x, s.got[k].1 = x := ⟨_, rfl⟩
      obtain ⟨y, hy⟩ : ∃ y, s.got[k].2 = y := ⟨_, rfl⟩
      have hin := HC.out.gin s.got[k] (List.getElem_mem hlt)
      rw [hx, hy] at hin
      rw [hx] at hc1
      rw [hy] at hc2
      obtain ⟨⟨i1, i2⟩, i3, i4⟩ := hin
      have HS : Hid (clsOk s.tot 0 s.got = (!decide (x < least) && (inB y 1 (s.tot - x) && clsOk s.tot (x + y + 1) (s.got.drop (k + 1))))) := by show _ = _; rw [HQ.out, cls_step hlt, hx, hy]
      have HNW : Hid (∀ A n, Below w.heap.size w ((wr.alloc A).drewN n) ∧ ((wr.alloc A).drewN n).heap[w.heap.size]? = some (kc s a c (some ⟨b, off, none⟩) d)) := fun A n => by
        have hb := below_drewN ((Below.refl _ wr).alloc (Nat.le_refl _) A) n
        exact ⟨below_of HW.out.1 hb, old_block hb HW.out.2⟩
      have hB2 : Hid (¬ (least ≤ x ∧ 1 ≤ y ∧ x + y ≤ s.tot) → R = false) := fun h => by rw [HX.out, HS.out, cls_bad h]; rfl
      have hki : (k : Int) < (s.got.length : Int) := by omega
      have kg := fun X : Obj => (kcells_get (old_block ((Below.refl _ wr).alloc (Nat.le_refl _) X) HW.out.2)).2.2.2.2.1
      have kt := fun X : Obj => (kcells_get (old_block ((Below.refl _ wr).alloc (Nat.le_refl _) X) HW.out.2)).2.2.1
      have hd1 := fun X : Obj => cell_later ((Below.refl _ wr).alloc (Nat.le_refl _) X) hc1
      have hd2 := fun X : Obj => cell_later ((Below.refl _ wr).alloc (Nat.le_refl _) X) hc2
      have kg0 := (kcells_get HW.out.2).2.2.2.2.1
      have kt0 := (kcells_get HW.out.2).2.2.1
      have ht2 : s.tot ≤ 512 := (inB_of (by have := HK.out; unfold numsK at this; simp only [Bool.and_eq_true] at this; exact this.2.2.1)).2
      by_cases hb1 : y < 1
      · have hd : decide (y < 1) = true := decide_eq_true hb1
        have HF : Hid (R = false) := hB2.out (by omega)
        go_wp2
        go_quiet (fail)
        go_wp2
        go_ret
        exact ⟨ret_bool HF.out.symm, (HNW.out _ _).1⟩
      have hb1d : decide (y < 1) = false := decide_eq_false hb1
      by_cases hb2 : 512 < y
      · have hd : decide (512 < y) = true := decide_eq_true hb2
        have HF : Hid (R = false) := hB2.out (by omega)
        go_wp2
        go_quiet (fail)
        go_wp2
        go_ret
        exact ⟨ret_bool HF.out.symm, (HNW.out _ _).1⟩
      have hb2d : decide (512 < y) = false := decide_eq_false hb2
      by_cases hb3 : x < 0
      · have hd : decide (x < 0) = true := decide_eq_true hb3
        have HF : Hid (R = false) := hB2.out (by omega)
        go_wp2
        go_quiet (fail)
        go_wp2
        go_ret
        exact ⟨ret_bool HF.out.symm, (HNW.out _ _).1⟩
      have hb3d : decide (x < 0) = false := decide_eq_false hb3
      by_cases hb4 : 512 < x
      · have hd : decide (512 < x) = true := decide_eq_true hb4
        have HF : Hid (R = false) := hB2.out (by omega)
        go_wp2
        go_quiet (fail)
        go_wp2
        go_ret
        exact ⟨ret_bool HF.out.symm, (HNW.out _ _).1⟩
      have hb4d : decide (512 < x) = false := decide_eq_false hb4
      by_cases hb5 : s.tot < x + y
      · have hd : decide (s.tot < x + y) = true := decide_eq_true hb5
        have HF : Hid (R = false) := hB2.out (by omega)
        go_wp2
        go_quiet (fail)
        go_wp2
        go_ret
        exact ⟨ret_bool HF.out.symm, (HNW.out _ _).1⟩
      have hb5d : decide (s.tot < x + y) = false := decide_eq_false hb5
      rcases HV.out with ⟨hk0, hl⟩ | ⟨j, pp, qq, hk0, hpv, hl⟩
      · subst hl
        have hk1 : decide ((0 : Int) < (k : Int)) = false := decide_eq_false (by omega)
        have hk2 : decide (0 < k) = false := decide_eq_false (by omega)
        clear hk0
        have HG : Hid (clsOk s.tot 0 s.got = clsOk s.tot (x + y + 1) (s.got.drop (k + 1))) := by show _ = _; rw [HS.out, cls_good (by omega) (by omega) (by omega)]
        have HVN : Hid (k + 1 = 0 ∧ x + y + 1 = 0 ∨ ∃ jj p q, k + 1 = jj + 1 ∧ Pv s.got jj p q ∧ x + y + 1 = p + q + 1) := .inr ⟨k, x, y, rfl, ⟨hlt, hx, hy, by omega, by omega, by omega, by omega⟩, rfl⟩
        go_wp2
        go_quiet (fail)
        go_wp2
        go_roundw
        case rel =>
          repeat (first | exact ⟨k + 1, x + y + 1, by omega, by go_num, by omega, HG, HNW.out _ _, HVN⟩ | refine ⟨_, ?_⟩)
        case measure => simp [intOf]; omega
      · subst hk0
        have hk1 : decide ((0 : Int) < (j : Int) + 1) = true := decide_eq_true (by omega)
        have hk2 : decide (0 < j + 1) = true := decide_eq_true (by omega)
        have hkw : IntKind.i64.wrap ((j : Int) + 1 - 1) = (j : Int) := by rw [IntKind.wrap_i64] <;> omega
        have hki : (j : Int) + 1 < (s.got.length : Int) := by omega
        obtain ⟨hp1, hp2⟩ := hc j hpv.lt
        rw [hpv.one] at hp1
        rw [hpv.two] at hp2
        have he1 := fun X : Obj => cell_later ((Below.refl _ wr).alloc (Nat.le_refl _) X) hp1
        have he2 := fun X : Obj => cell_later ((Below.refl _ wr).alloc (Nat.le_refl _) X) hp2
        have hjl : (j : Int) < (s.got.length : Int) := by have := hpv.lt; omega
        obtain ⟨_, _, _, v1, v2, v3, v4⟩ := hpv
        by_cases hb6 : x ≤ pp + qq
        · have hd : decide (x ≤ pp + qq) = true := decide_eq_true hb6
          have HF : Hid (R = false) := hB2.out (by omega)
          go_wp2
          go_quiet (fail)
          go_wp2
          go_ret
          exact ⟨ret_bool HF.out.symm, (HNW.out _ _).1⟩
        · have hd : decide (x ≤ pp + qq) = false := decide_eq_false hb6
          have HG : Hid (clsOk s.tot 0 s.got = clsOk s.tot (x + y + 1) (s.got.drop ((j + 1) + 1))) := by show _ = _; rw [HS.out, cls_good (by omega) (by omega) (by omega)]
          have HVN : Hid ((j + 1) + 1 = 0 ∧ x + y + 1 = 0 ∨ ∃ jj p q, (j + 1) + 1 = jj + 1 ∧ Pv s.got jj p q ∧ x + y + 1 = p + q + 1) := .inr ⟨(j + 1), x, y, rfl, ⟨hlt, hx, hy, by omega, by omega, by omega, by omega⟩, rfl⟩
          go_wp2
          go_quiet (fail)
          go_wp2
          go_roundw
          case rel =>
            repeat (first | exact ⟨(j + 1) + 1, x + y + 1, by omega, by go_num, by omega, HG, HNW.out _ _, HVN⟩ | refine ⟨_, ?_⟩)
          case measure => simp [intOf]; omega
    · obtain rfl : k = s.got.length := by omega
      have HE : Hid (R = stateK s) := by show _ = _; rw [HX.out, HQ.out, List.drop_of_length_le (Nat.le_refl _)]; rfl
      obtain ⟨kg0, kg1, kg2, kg3, kg4, kg5, kg6, kg7, kg8⟩ := kcells_get HW.out.2
      have HWC : Hid (∀ W, Below w.heap.size w W → Calls Try.prog 34 #[kv s a c g d] W fun e w' => e = .returned (.bool (wholeK s)) ∧ Hid (Below W.heap.size W w')) := HWH
      have HWW : Hid (Below w.heap.size w wr) := HW.out.1
      have HBM : Hid (wr.heap[w.heap.size]? = some (kc s a c g d)) := HW.out.2
      obtain ⟨wh, hwh⟩ : ∃ wh, wholeK s = wh := ⟨_, rfl⟩
      rw [hwh] at HWC
      have HST : Hid (stateK s = (if s.sta = 1 then !wh else if s.sta = 2 then wh else decide (s.sta = 4))) := by show _ = _; unfold stateK; rw [hwh]
      clear hwh HC HP HB HK HWH HX HQ HV HW
      cases e1 : (s.sta == 1) <;> cases e2 : (s.sta == 2) <;> cases e4 : (s.sta == 4) <;> cases wh
      all_goals first
        | (exfalso; simp at e1 e2; omega)
        | (exfalso; simp at e1 e4; omega)
        | (exfalso; simp at e2 e4; omega)
        | (go_wp2_with (go_at_call 34; refine (HWC.out _ HWW.out).mono ?_; rintro e w7 ⟨rfl, hb7⟩; have HW7 : Hid (Below w.heap.size w w7) := below_of HWW.out hb7.out; have kq6 := cell_later hb7.out kg6)
           go_ret
           refine ⟨ret_bool ?_, (by first | exact HW7.out | exact HWW.out)⟩
           rw [HE.out, HST.out]
           simp at e1 e2 e4
           simp [e1, e2, e4])
end Go.Proofs.Ytlhgjhbbiohcnaa
