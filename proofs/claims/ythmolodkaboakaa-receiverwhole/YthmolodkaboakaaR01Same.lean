/- The walk of the reference's Same of bytes (heliographref01). -/
import Derived.Test.YthmolodkaboakaaHAppend
namespace Go.Proofs.Ythmolodkaboakaa
open Go.RowKit
set_option linter.unusedVariables false

theorem take_snoc (l : List Nat) (k : Nat) (h : k < l.length) : l.take (k + 1) = l.take k ++ [l.getD k 0] := by
  rw [List.take_succ_eq_append_getElem h, List.getD_eq_getElem?_getD, List.getElem?_eq_getElem h]; rfl
theorem take_eq_succ {l m : List Nat} {k : Nat} (hl : k < l.length) (hm : k < m.length) (h : l.take k = m.take k) (he : l.getD k 0 = m.getD k 0) : l.take (k + 1) = m.take (k + 1) := by
  rw [take_snoc l k hl, take_snoc m k hm, h, he]
theorem ne_of_getD {l m : List Nat} {k : Nat} (he : ¬ l.getD k 0 = m.getD k 0) : decide (l = m) = false := by
  apply decide_eq_false
  intro h
  exact he (by rw [h])
set_option maxHeartbeats 1000000 in
theorem rsame_any (a b : Option Addr) (c d : Nat) (l m : List Nat) (w : World) (hr : Row w a l) (hs : Row w b m) :
    Calls Try.prog 27 #[.slice a l.length c, .slice b m.length d] w fun e w' => e = .returned (.bool (decide (l = m))) ∧ ∃ n, w' = w.drewN n := by
  have hml := hr.2.1
  have hmm := hs.2.1
  unfold maxLen at hml hmm
  have HR : Hid (Row w a l) := hr
  have HS : Hid (Row w b m) := hs
  clear hr hs
  by_cases hne : l.length = m.length
  · have hnb : ((l.length : Int) != (m.length : Int)) = false := by simp [hne]
    have HE : Hid (l.length = m.length) := hne
    have hle : l.length ≤ m.length := by omega
    have hge : m.length ≤ l.length := by omega
    clear hne
    go_enter Try.func27, Try.ntmps27
    go_wp2
    go_loopw [5] (fun i wr => ∃ k : Nat, k ≤ l.length ∧ i = .int .i64 k ∧ l.take k = m.take k ∧ ∃ n, wr = w.drewN n) (fun i _ => l.length - (intOf i).toNat)
    case atStart => exact ⟨0, by omega, rfl, by simp, 0, rfl⟩
    case round =>
      obtain ⟨k, hk, rfl, htake, nd, rfl⟩ := hrel
      have HT : Hid (l.take k = m.take k) := htake
      clear htake
      by_cases hkl : k < l.length
      · obtain ⟨b1, o1, rfl, hc1⟩ := HR.out.2.2 (by omega)
        obtain ⟨b2, o2, rfl, hc2⟩ := HS.out.2.2 (by omega)
        have hcell1 := hc1 k hkl
        have hcell2 := hc2 k (by omega)
        have hkI : (k : Int) < (l.length : Int) := by omega
        have hkJ : (k : Int) < (m.length : Int) := by omega
        have HY : Hid (l.getD k 0 = m.getD k 0 → l.take (k + 1) = m.take (k + 1)) := fun h => take_eq_succ hkl (by omega) HT.out h
        have HZ : Hid (¬ l.getD k 0 = m.getD k 0 → decide (l = m) = false) := ne_of_getD
        clear hc1 hc2
        generalize l.getD k 0 = x at hcell1 HY HZ ⊢
        generalize m.getD k 0 = y at hcell2 HY HZ ⊢
        by_cases hxy : x = y
        · subst hxy
          have H5 : Hid (l.take (k + 1) = m.take (k + 1)) := HY.out rfl
          go_wp2
          go_quiet (fail)
          go_wp2
          go_roundw
          case rel => exact ⟨k + 1, by omega, by go_num, H5.out, nd + nq, rfl⟩
          case measure => simp [intOf]; omega
        · have hxyb : ((x : Int) != (y : Int)) = true := by simp; omega
          have H5 : Hid (decide (l = m) = false) := HZ.out hxy
          clear hxy
          go_wp2
          go_quiet (fail)
          go_wp2
          go_ret
          exact ⟨ret_bool H5.out.symm, nd + nq, by rw [World.drewN_drewN]⟩
      · obtain rfl : k = l.length := by omega
        have H5 : Hid (decide (l = m) = true) := by
          have h := HT.out
          rw [List.take_length, List.take_of_length_le (by omega)] at h
          exact decide_eq_true h
        go_wp2
        go_ret
        exact ⟨ret_bool H5.out.symm, nd, rfl⟩
  · have hnb : ((l.length : Int) != (m.length : Int)) = true := by simp; omega
    have H5 : Hid (decide (l = m) = false) := decide_eq_false (fun h => hne (by rw [h]))
    clear hne
    go_enter Try.func27, Try.ntmps27
    go_wp2
    go_ret
    exact ⟨ret_bool H5.out.symm, 0, rfl⟩
end Go.Proofs.Ythmolodkaboakaa
