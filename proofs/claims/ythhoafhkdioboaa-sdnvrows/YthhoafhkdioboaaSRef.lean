/- The walks of the reference's Get, and of the laws' own. -/
import Derived.Test.YthhoafhkdioboaaSRows
import Derived.Test.YthhoafhkdioboaaSWakes
namespace Go.Proofs.Ythhoafhkdioboaa
open Go.RowKit
set_option linter.unusedVariables false

set_option maxRecDepth 20000 in
set_option maxHeartbeats 1000000 in
theorem rget_none (w : World) (a : Option Addr) (cap : Nat) :
    Calls Try.prog 17 #[.slice a 0 cap] w fun e w' => e = got (0, 0, 7) ∧ w = w' := by
  go_enter Try.func17, Try.ntmps17
  go_wp2
  go_loop [5, 20] (fun u i => u = .int .u64 0 ∧ i = .int .i64 0) (fun _ i => (intOf i).toNat)
  case atStart => exact ⟨rfl, rfl⟩
  case round =>
    obtain ⟨rfl, rfl⟩ := hrel
    go_wp2
    go_ret3
    exact ⟨rfl, rfl⟩
set_option maxRecDepth 20000 in
set_option maxHeartbeats 1000000 in
theorem rget_nought (w : World) (b off n cap : Nat) (hn : 0 < n) (hz : n ≤ 140737488351232) (hc : w.cell? ⟨b, off, none⟩ = some (.int .u8 128)) :
    Calls Try.prog 17 #[.slice (some ⟨b, off, none⟩) n cap] w fun e w' => e = got (0, 0, 180) ∧ w = w' := by
  go_enter Try.func17, Try.ntmps17
  go_wp2
  go_ret3
  exact ⟨rfl, rfl⟩
set_option maxRecDepth 20000 in
set_option maxHeartbeats 1000000 in
theorem rget_some (w : World) (b off : Nat) (cap : Nat) (l : List Nat) (hr : Row w (some ⟨b, off, none⟩) l) (hz : l.length ≤ 140737488351232) (x : Nat) (h0 : l.head? = some x) (hx : x ≠ 128) (hc : w.cell? ⟨b, off, none⟩ = some (.int .u8 x)) :
    Calls Try.prog 17 #[.slice (some ⟨b, off, none⟩) l.length cap] w fun e w' => e = got (getS l) ∧ w = w' := by
  have HR : Hid (Row w (some ⟨b, off, none⟩) l) := hr
  have HG : Hid (getS l = gl 0 0 l) := by show _ = _; unfold getS; rw [if_neg (by rw [h0]; simpa using hx)]
  have hl : 0 < l.length := by cases l; simp at h0; simp
  have hxi : ((x : Int) == 128) = false := by simp; omega
  generalize getS l = G at HG ⊢
  clear hr h0
  go_enter Try.func17, Try.ntmps17
  go_wp2
  clear hc hxi hx
  go_loop [5, 20] (fun u i => ∃ N k : Nat, u = .int .u64 N ∧ i = .int .i64 k ∧ N < 18446744073709551616 ∧ k ≤ l.length ∧ Hid (gl N k (l.drop k) = G)) (fun _ i => l.length - (intOf i).toNat)
  case atStart => exact ⟨0, 0, rfl, rfl, by omega, by omega, HG.out.symm⟩
  case round =>
    obtain ⟨N, k, rfl, rfl, hN, hk, HK⟩ := hrel
    by_cases hlt : k < l.length
    · obtain ⟨_, _, e, hc⟩ := row_at HR.out k hlt
      cases e
      have HM : Hid _ := gl_more l N k hlt
      have hy : l[k] < 256 := HR.out.1 _ (List.getElem_mem hlt)
      generalize l[k] = y at hc HM hy
      have hmd : 0 ≤ (y : Int) % 128 ∧ (y : Int) % 128 < 128 := by omega
      by_cases h1 : 144115188075855872 ≤ N
      · have hd : (18446744073709551615 - (y : Int) % 128) / 128 < (N : Int) := by omega
        have HE : Hid (G = (0, 0, 3)) := by show _ = _; rw [← HK.out, HM.out, if_pos h1]
        go_wp2
        go_ret3
        exact ⟨by rw [HE.out]; rfl, rfl⟩
      · have hd : ¬ ((18446744073709551615 - (y : Int) % 128) / 128 < (N : Int)) := by omega
        have hN2 : N < 144115188075855872 := by omega
        by_cases h2 : y < 128
        · have HE : Hid (G = (N * 128 + y, k + 1, 0)) := by show _ = _; rw [← HK.out, HM.out, if_neg h1, if_pos h2]
          go_wp2
          go_ret3
          exact ⟨by rw [HE.out]; exact got_ok _ _ _ _ (by omega) (by omega), rfl⟩
        · have HE : Hid (gl (N * 128 + y % 128) (k + 1) (l.drop (k + 1)) = G) := by show _ = _; rw [← HK.out, HM.out, if_neg h1, if_neg h2]
          go_wp2
          go_round
          case rel => exact ⟨N * 128 + y % 128, k + 1, by go_num, by go_num, by omega, by omega, HE.out⟩
          case measure => simp [intOf]; omega
    · obtain rfl : k = l.length := by omega
      have HE : Hid (G = (0, 0, 7)) := by show _ = _; rw [← HK.out, List.drop_of_length_le (Nat.le_refl _)]; rfl
      go_wp2
      go_ret3
      exact ⟨by rw [HE.out]; rfl, rfl⟩
theorem rget_any (w : World) (a : Option Addr) (cap : Nat) (l : List Nat) (hr : Row w a l) (hz : l.length ≤ 140737488351232) :
    Calls Try.prog 17 #[.slice a l.length cap] w fun e w' => e = got (getS l) ∧ w = w' := by
  cases l with
  | nil => exact rget_none w a cap
  | cons x r =>
    obtain ⟨b, off, rfl, hc⟩ := row_at hr 0 (by simp)
    by_cases hx : x = 128
    · subst hx
      exact rget_nought w b off _ cap (by simp) hz hc
    · exact rget_some w b off cap (x :: r) hr hz x rfl hx hc
end Go.Proofs.Ythhoafhkdioboaa
