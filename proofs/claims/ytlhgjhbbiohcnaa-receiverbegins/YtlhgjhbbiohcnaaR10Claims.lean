/- The reference's claims. -/
import Derived.Test.YtlhgjhbbiohcnaaTCheck
import Derived.Test.YtlhgjhbbiohcnaaVCov
namespace Go.Proofs.Ytlhgjhbbiohcnaa
open Go.RowKit
set_option linter.unusedVariables false
theorem cls_step {tot least : Int} {l : List (Int × Int)} {k : Nat} (h : k < l.length) : clsOk tot least (l.drop k) = (!decide (l[k].1 < least) && (inB l[k].2 1 (tot - l[k].1) && clsOk tot (l[k].1 + l[k].2 + 1) (l.drop (k + 1)))) := by
  rw [List.drop_eq_getElem_cons h, clsOk]
theorem cls_bad {x y tot least : Int} {T : Bool} (h : ¬ (least ≤ x ∧ 1 ≤ y ∧ x + y ≤ tot)) : (!decide (x < least) && (inB y 1 (tot - x) && T)) = false := by
  rw [Bool.eq_false_iff]
  intro e
  simp only [Bool.and_eq_true, Bool.not_eq_true', decide_eq_false_iff_not] at e
  have := inB_of e.2.1
  exact h ⟨by omega, by omega, by omega⟩
theorem cls_good {x y tot least : Int} {T : Bool} (h1 : least ≤ x) (h2 : 1 ≤ y) (h3 : x + y ≤ tot) : (!decide (x < least) && (inB y 1 (tot - x) && T)) = T := by
  have : inB y 1 (tot - x) = true := by unfold inB; simp; omega
  rw [this, decide_eq_false (show ¬ x < least by omega)]
  rfl
set_option maxRecDepth 20000 in
set_option maxHeartbeats 4000000 in
theorem rclaims_any (a : Option Addr) (c : Nat) (l : List (Int × Int)) (low high : Int) (w : World) (hr : RowC w a l) (hz : l.length ≤ 140737488351232) (hm : ∀ c ∈ l, in64 c.1 ∧ in64 c.2) (h0 : 0 ≤ low) (hlh : low < high) (hh : high ≤ 512) :
    Calls Try.prog 37 #[.slice a l.length c, .int .i64 low, .int .i64 high] w fun e w' => e = .returned (.bool (decide ((l.length : Int) ≤ 20) && clsOk high low l)) ∧ Hid (Below w.heap.size w w') := by
  have HR : Hid (RowC w a l) := hr
  have HM : Hid (∀ c ∈ l, in64 c.1 ∧ in64 c.2) := hm
  have HB : Hid (Below w.heap.size w w) := Below.refl _ _
  clear hr hm
  by_cases hl20 : 20 < (l.length : Int)
  · have hd : decide ((20 : Int) < (l.length : Int)) = true := decide_eq_true hl20
    have hn : decide ((l.length : Int) ≤ 20) = false := decide_eq_false (by omega)
    rw [hn]
    go_enter Try.func37, Try.ntmps37
    go_wp2
    go_ret
    exact ⟨rfl, HB.out⟩
  · have hn : decide ((l.length : Int) ≤ 20) = true := decide_eq_true (by omega)
    rw [hn]
    have HX : Hid ((true && clsOk high low l) = clsOk high low l) := rfl
    generalize (true && clsOk high low l) = R at HX ⊢
    clear hn
    go_enter Try.func37, Try.ntmps37
    go_wp2
    go_loopw [7, 17] (fun u i wr => ∃ (k : Nat) (least : Int), k ≤ l.length ∧ i = .int .i64 k ∧ u = .int .i64 (least - 1) ∧ 0 ≤ least ∧ least ≤ 1000 ∧ Hid (clsOk high low l = clsOk high least (l.drop k)) ∧ Hid (Below w.heap.size w wr)) (fun _ i _ => l.length - (intOf i).toNat)
    case atStart => exact ⟨0, low, by omega, rfl, rfl, h0, by omega, rfl, HB.out⟩
    case round =>
      obtain ⟨k, least, hk, rfl, rfl, hl0, hl1, HQ, HW⟩ := hrel
      by_cases hlt : k < l.length
      · obtain ⟨b, off, rfl, hc⟩ := (HR.out.later HW.out).2 (by omega)
        obtain ⟨hc1, hc2⟩ := hc k hlt
        obtain ⟨⟨i1, i2⟩, i3, i4⟩ := HM.out l[k] (List.getElem_mem hlt)
        have HS : Hid (clsOk high low l = (!decide (l[k].1 < least) && (inB l[k].2 1 (high - l[k].1) && clsOk high (l[k].1 + l[k].2 + 1) (l.drop (k + 1))))) := by show _ = _; rw [HQ.out, cls_step hlt]
        clear hc
        generalize l[k].1 = x at hc1 HS i1 i2
        generalize l[k].2 = y at hc2 HS i3 i4
        have HBW : Hid (∀ A, Below w.heap.size w (wr.alloc A)) := fun A => below_of HW.out ((Below.refl _ wr).alloc (Nat.le_refl _) A)
        have hB2 : Hid (¬ (least ≤ x ∧ 1 ≤ y ∧ x + y ≤ high) → R = false) := fun h => by rw [HX.out, HS.out, cls_bad h]
        have hki : (k : Int) < (l.length : Int) := by omega
        by_cases b1 : y < 1
        · have hd : decide (y < 1) = true := decide_eq_true b1
          have HF : Hid (R = false) := hB2.out (by omega)
          go_wp2
          go_ret
          exact ⟨ret_bool HF.out.symm, HBW.out _⟩
        have b1d : decide (y < 1) = false := decide_eq_false b1
        by_cases b2 : x ≤ least - 1
        · have hd : decide (x ≤ least - 1) = true := decide_eq_true b2
          have HF : Hid (R = false) := hB2.out (by omega)
          go_wp2
          go_ret
          exact ⟨ret_bool HF.out.symm, HBW.out _⟩
        have b2d : decide (x ≤ least - 1) = false := decide_eq_false b2
        by_cases b3 : 512 < y
        · have hd : decide (512 < y) = true := decide_eq_true b3
          have HF : Hid (R = false) := hB2.out (by omega)
          go_wp2
          go_ret
          exact ⟨ret_bool HF.out.symm, HBW.out _⟩
        have b3d : decide (512 < y) = false := decide_eq_false b3
        by_cases b4 : 512 < x
        · have hd : decide (512 < x) = true := decide_eq_true b4
          have HF : Hid (R = false) := hB2.out (by omega)
          go_wp2
          go_ret
          exact ⟨ret_bool HF.out.symm, HBW.out _⟩
        have b4d : decide (512 < x) = false := decide_eq_false b4
        by_cases b5 : high < x + y
        · have hd : decide (high < x + y) = true := decide_eq_true b5
          have HF : Hid (R = false) := hB2.out (by omega)
          go_wp2
          go_ret
          exact ⟨ret_bool HF.out.symm, HBW.out _⟩
        have b5d : decide (high < x + y) = false := decide_eq_false b5
        have HG : Hid (clsOk high low l = clsOk high (x + y + 1) (l.drop (k + 1))) := by show _ = _; rw [HS.out, cls_good (by omega) (by omega) (by omega)]
        have he : x + y + 1 - 1 = x + y := by omega
        go_wp2
        go_roundw
        case rel => exact ⟨k + 1, x + y + 1, by omega, by go_num, by rw [he], by omega, by omega, HG, HBW.out _⟩
        case measure => simp [intOf]; omega
      · obtain rfl : k = l.length := by omega
        go_wp2
        go_ret
        exact ⟨ret_bool (by rw [HX.out, HQ.out, List.drop_of_length_le (Nat.le_refl _)]; rfl), HW.out⟩
end Go.Proofs.Ytlhgjhbbiohcnaa
