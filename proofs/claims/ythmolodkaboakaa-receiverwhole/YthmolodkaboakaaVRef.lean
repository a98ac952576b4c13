/- The reference's In and Whole. -/
import Derived.Test.YthmolodkaboakaaVMem
import Derived.Test.YthmolodkaboakaaVCov
namespace Go.Proofs.Ythmolodkaboakaa
open Go.RowKit
set_option linter.unusedVariables false
theorem cov_drop {l : List (Int × Int)} {k : Nat} (h : k < l.length) (i : Int) : cov (l.drop k) i = ((decide (l[k].1 ≤ i) && decide (i < l[k].1 + l[k].2)) || cov (l.drop (k + 1)) i) := by
  rw [List.drop_eq_getElem_cons h, cov]
set_option maxRecDepth 20000 in
set_option maxHeartbeats 4000000 in
theorem rin_any (a : Option Addr) (c : Nat) (l : List (Int × Int)) (x : Int) (w : World) (hr : RowC w a l) (hz : l.length ≤ 140737488351232) (hm : ∀ c ∈ l, (0 ≤ c.1 ∧ c.1 ≤ 512) ∧ (0 ≤ c.2 ∧ c.2 ≤ 512)) :
    Calls Try.prog 26 #[.slice a l.length c, .int .i64 x] w fun e w' => e = .returned (.bool (cov l x)) ∧ ∃ n, w' = w.drewN n := by
  have HR : Hid (RowC w a l) := hr
  have HM : Hid (∀ c ∈ l, (0 ≤ c.1 ∧ c.1 ≤ 512) ∧ (0 ≤ c.2 ∧ c.2 ≤ 512)) := hm
  clear hr hm
  go_enter Try.func26, Try.ntmps26
  go_wp2
  go_loopw [5] (fun i wr => ∃ k q : Nat, k ≤ l.length ∧ i = .int .i64 k ∧ wr = w.drewN q ∧ Hid (cov l x = cov (l.drop k) x)) (fun i _ => l.length - (intOf i).toNat)
  case atStart => exact ⟨0, 0, by omega, rfl, rfl, rfl⟩
  case round =>
    obtain ⟨k, q, hk, rfl, rfl, HQ⟩ := hrel
    by_cases hlt : k < l.length
    · obtain ⟨b, off, rfl, hc⟩ := HR.out.2 (by omega)
      obtain ⟨hc1, hc2⟩ := hc k hlt
      obtain ⟨⟨m1, m2⟩, m3, m4⟩ := HM.out l[k] (List.getElem_mem hlt)
      have HN := cov_drop hlt x
      have HX : Hid _ := HN
      clear HN hc
      generalize l[k].1 = p at hc1 m1 m2 HX
      generalize l[k].2 = r at hc2 m3 m4 HX
      have hki : (k : Int) < (l.length : Int) := by omega
      by_cases h1 : p ≤ x
      · have g1 : decide (p ≤ x) = true := decide_eq_true h1
        by_cases h2 : x < p + r
        · have g2 : decide (x < p + r) = true := decide_eq_true h2
          go_wp2
          go_quiet (fail)
          go_wp2
          go_ret
          exact ⟨ret_bool (by rw [HQ.out, HX.out, g1, g2]; rfl), q + nq, by simp [World.drewN, Nat.add_assoc]⟩
        · have g2 : decide (x < p + r) = false := decide_eq_false h2
          go_wp2
          go_quiet (fail)
          go_wp2
          go_roundw
          case rel => exact ⟨k + 1, _, by omega, by go_num, rfl, by show _ = _; rw [HQ.out, HX.out, g1, g2]; rfl⟩
          case measure => simp [intOf]; omega
      · have g1 : decide (p ≤ x) = false := decide_eq_false h1
        go_wp2
        go_quiet (fail)
        go_wp2
        go_roundw
        case rel => exact ⟨k + 1, _, by omega, by go_num, rfl, by show _ = _; rw [HQ.out, HX.out, g1]; rfl⟩
        case measure => simp [intOf]; omega
    · obtain rfl : k = l.length := by omega
      go_wp2
      go_ret
      exact ⟨ret_bool (by rw [HQ.out, List.drop_of_length_le (Nat.le_refl _)]; rfl), _, rfl⟩
theorem one_row (L : List (Int × Int)) (t : Int) (h : 0 < L.length) (h1 : L.length = 1) : decide (L = [(0, t)]) = (decide (L[0].1 = 0) && decide (L[0].2 = t)) := by
  match L, h1 with
  | [r], _ =>
    rw [Bool.eq_iff_iff]
    simp only [decide_eq_true_eq, Bool.and_eq_true, List.getElem_cons_zero, List.cons.injEq, and_true]
    exact ⟨fun e => by rw [e]; exact ⟨rfl, rfl⟩, fun e => Prod.ext e.1 e.2⟩
set_option maxRecDepth 20000 in
set_option maxHeartbeats 4000000 in
theorem rwhole_any (s : Tk) (a : Option Addr) (c : Nat) (g : Option Addr) (d : Nat) (w : World) (hr : RowC w g s.got) :
    Calls Try.prog 34 #[kv s a c g d] w fun e w' => e = .returned (.bool (wholeK s)) ∧ Hid (Below w.heap.size w w') := by
  have HB : Hid (Below w.heap.size w (w.alloc (kc s a c g d))) := (Below.refl _ w).alloc (Nat.le_refl _) _
  have HR : Hid (RowC w g s.got) := hr
  clear hr
  cases hl : (decide ((s.got.length : Int) = 1)) with
  | false =>
    have e : ((s.got.length : Int) == 1) = false := hl
    have HF : Hid (wholeK s = false) := by
      show _ = _
      unfold wholeK
      rw [decide_eq_false_iff_not] at hl ⊢
      intro h
      exact hl (by rw [h]; rfl)
    go_enter Try.func34, Try.ntmps34
    go_wp2
    go_quiet (fail)
    go_wp2
    go_ret
    exact ⟨ret_bool HF.out.symm, below_drewN HB.out _⟩
  | true =>
    have h1 : s.got.length = 1 := by rw [decide_eq_true_eq] at hl; omega
    obtain ⟨b, off, rfl, hc⟩ := (HR.out.later HB.out).2 (by omega)
    obtain ⟨hc1, hc2⟩ := hc 0 (by omega)
    have HE : Hid (wholeK s = (decide ((s.got[0]'(by omega)).1 = 0) && decide ((s.got[0]'(by omega)).2 = s.tot))) := by
      show _ = _
      unfold wholeK
      exact one_row _ _ (by omega) h1
    have hi1 : ((s.got.length : Int) == 1) = true := hl
    have hi2 : (0 : Int) < (s.got.length : Int) := by omega
    clear hc hl
    generalize (s.got[0]'(by omega)).1 = p at hc1 HE
    generalize (s.got[0]'(by omega)).2 = r at hc2 HE
    generalize wholeK s = R at HE ⊢
    have hd1 := hc1
    have hd2 := hc2
    simp only [Nat.zero_mul, Nat.add_zero] at hd1 hd2
    clear h1
    go_enter Try.func34, Try.ntmps34
    cases g1 : (p == 0) with
    | false =>
      go_wp2
      go_quiet (fail)
      go_wp2
      go_ret
      exact ⟨ret_bool (by rw [HE.out, show decide (p = 0) = false from g1]; rfl), below_drewN HB.out _⟩
    | true =>
      go_wp2
      go_quiet (fail)
      go_wp2
      go_ret
      exact ⟨ret_bool (by rw [HE.out, show decide (p = 0) = true from g1]; rfl), below_drewN HB.out _⟩
end Go.Proofs.Ythmolodkaboakaa
