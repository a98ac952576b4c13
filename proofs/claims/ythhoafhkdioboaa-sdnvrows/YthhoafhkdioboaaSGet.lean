/- The walk of sdnv.Get. -/
import Derived.Test.YthhoafhkdioboaaSPut
import Derived.Test.YthhoafhkdioboaaHJump
namespace Go.Proofs.Ythhoafhkdioboaa
open Go.RowKit
set_option linter.unusedVariables false
attribute [local go_sem] jump_ret jump_normal jump_exit jump_panic jump_goto

/-- what is got, as the code tells it. -/
def got (C : Nat × Nat × Int) : Ending := .returned (.tuple #[.int .u64 (C.1 : Nat), .int .i64 (C.2.1 : Nat), .int .i64 C.2.2])
theorem got_ok (n k : Nat) (a b : Int) (h1 : a = (n : Nat)) (h2 : b = (k : Nat)) : Ending.returned (.tuple #[.int .u64 a, .int .i64 b, .int .i64 0]) = got (n, k, 0) := by rw [h1, h2]; rfl
theorem or_digit (N x : Nat) (h : N < 144115188075855872) : bits .or .u64 ((N : Int) * 128) ((x : Int) % 128) = ((N * 128 + x % 128 : Nat) : Int) := by
  have h1 := Nat.shiftLeft_add_eq_or_of_lt (show x % 128 < 2 ^ 7 by omega) N
  rw [Nat.shiftLeft_eq] at h1
  rw [show (N : Int) * 128 = ((N * 128 : Nat) : Int) by omega, show (x : Int) % 128 = ((x % 128 : Nat) : Int) by omega, bits_or_u64_nat _ _ (by omega) (by omega)]
  rw [← show N * 2 ^ 7 = N * 128 from rfl, h1]
theorem gl_more (l : List Nat) (N k : Nat) (hk : k < l.length) : gl N k (l.drop k) = if 144115188075855872 ≤ N then (0, 0, 3) else if l[k] < 128 then (N * 128 + l[k], k + 1, 0) else gl (N * 128 + l[k] % 128) (k + 1) (l.drop (k + 1)) := by
  rw [List.drop_eq_getElem_cons hk, gl]
theorem row_at {w : World} {a : Option Addr} {l : List Nat} (h : Row w a l) (k : Nat) (hk : k < l.length) : ∃ b off, a = some ⟨b, off, none⟩ ∧ w.cell? ⟨b, off + k, none⟩ = some (.int .u8 (l[k] : Nat)) := by
  obtain ⟨b, off, rfl, hc⟩ := h.2.2 (by omega)
  refine ⟨b, off, rfl, ?_⟩
  rw [hc k hk, List.getD_eq_getElem?_getD, List.getElem?_eq_getElem hk]
  rfl
set_option maxRecDepth 20000 in
set_option maxHeartbeats 1000000 in
theorem get_none (w : World) (a : Option Addr) (cap : Nat) :
    Calls Try.prog 16 #[.slice a 0 cap] w fun e w' => e = got (0, 0, 7) ∧ w = w' := by
  go_enter Try.func16, Try.ntmps16
  go_wp2
  refine wp_scope_once 0 rfl ?_
  go_wp2
  go_loop [5, 20] (fun u i => u = .int .u64 0 ∧ i = .int .i64 0) (fun _ i => (intOf i).toNat)
  case atStart => exact ⟨rfl, rfl⟩
  case round =>
    obtain ⟨rfl, rfl⟩ := hrel
    go_wp2
    exact bodyPost_ret (v := .tuple #[.int .u64 0, .int .i64 0, .int .i64 7]) (by simp [results, Try.results16, go_sem]) rfl ⟨rfl, rfl⟩
set_option maxRecDepth 20000 in
set_option maxHeartbeats 1000000 in
theorem get_nought (w : World) (b off n cap : Nat) (hn : 0 < n) (hz : n ≤ 140737488351232) (hc : w.cell? ⟨b, off, none⟩ = some (.int .u8 128)) :
    Calls Try.prog 16 #[.slice (some ⟨b, off, none⟩) n cap] w fun e w' => e = got (0, 0, 180) ∧ w = w' := by
  go_enter Try.func16, Try.ntmps16
  go_wp2
  refine wp_scope_once 0 rfl ?_
  go_wp2
  rw [jump_ret]
  exact bodyPost_ret (v := .tuple #[.int .u64 0, .int .i64 0, .int .i64 180]) (by simp [results, Try.results16, go_sem]) rfl ⟨rfl, rfl⟩
set_option maxRecDepth 20000 in
set_option maxHeartbeats 1000000 in
theorem get_some (w : World) (b off : Nat) (cap : Nat) (l : List Nat) (hr : Row w (some ⟨b, off, none⟩) l) (hz : l.length ≤ 140737488351232) (x : Nat) (h0 : l.head? = some x) (hx : x ≠ 128) (hc : w.cell? ⟨b, off, none⟩ = some (.int .u8 x)) :
    Calls Try.prog 16 #[.slice (some ⟨b, off, none⟩) l.length cap] w fun e w' => e = got (getS l) ∧ w = w' := by
  have HR : Hid (Row w (some ⟨b, off, none⟩) l) := hr
  have HG : Hid (getS l = gl 0 0 l) := by show _ = _; unfold getS; rw [if_neg (by rw [h0]; simpa using hx)]
  have hl : 0 < l.length := by cases l; simp at h0; simp
  have hxi : ((x : Int) == 128) = false := by simp; omega
  generalize getS l = G at HG ⊢
  clear hr h0
  go_enter Try.func16, Try.ntmps16
  go_wp2
  refine wp_scope_once 0 rfl ?_
  go_wp2
  clear hc hxi hx
  go_loop [5, 20] (fun u i => ∃ N k : Nat, u = .int .u64 N ∧ i = .int .i64 k ∧ N < 18446744073709551616 ∧ k ≤ l.length ∧ Hid (gl N k (l.drop k) = G)) (fun _ i => l.length - (intOf i).toNat)
  case atStart => exact ⟨0, 0, rfl, rfl, by omega, by omega, HG.out.symm⟩
  case round =>
    obtain ⟨N, k, rfl, rfl, hN, hk, HK⟩ := hrel
    by_cases hlt : k < l.length
    · obtain ⟨_, _, e, hc⟩ := row_at HR.out k hlt
      cases e
      have HM : Hid _ := gl_more l N k hlt
      have hy : l[k] < 256 := HR.out.1 _ (List.getElem_mem hlt)
      generalize l[k] = y at hc HM hy
      by_cases h1 : 144115188075855872 ≤ N
      · have hd : 0 < N / 144115188075855872 := by omega
        have HE : Hid (G = (0, 0, 3)) := by show _ = _; rw [← HK.out, HM.out, if_pos h1]
        go_wp2
        exact bodyPost_ret (v := .tuple #[.int .u64 0, .int .i64 0, .int .i64 3]) (by simp [results, Try.results16, go_sem]) rfl ⟨by rw [HE.out]; rfl, rfl⟩
      · have hd : N / 144115188075855872 = 0 := by omega
        have hor := or_digit N y (by omega)
        by_cases h2 : y < 128
        · have HE : Hid (G = (N * 128 + y, k + 1, 0)) := by show _ = _; rw [← HK.out, HM.out, if_neg h1, if_pos h2]
          go_wp2
          go_step3
          show _ ∧ Code.wp _ _ _ _ _
          refine ⟨rfl, ?_⟩
          go_wp2
          try rw [jump_ret]
          exact bodyPost_ret (v := .tuple #[.int .u64 _, .int .i64 _, .int .i64 0]) (by simp [results, Try.results16, go_sem]; exact ⟨rfl, rfl⟩) rfl ⟨by rw [HE.out]; exact got_ok _ _ _ _ (by omega) (by omega), rfl⟩
        · have HE : Hid (gl (N * 128 + y % 128) (k + 1) (l.drop (k + 1)) = G) := by show _ = _; rw [← HK.out, HM.out, if_neg h1, if_neg h2]
          go_wp2
          go_round
          case rel => exact ⟨N * 128 + y % 128, k + 1, rfl, by go_num, by omega, by omega, HE.out⟩
          case measure => simp [intOf]; omega
    · obtain rfl : k = l.length := by omega
      have HE : Hid (G = (0, 0, 7)) := by show _ = _; rw [← HK.out, List.drop_of_length_le (Nat.le_refl _)]; rfl
      go_wp2
      exact bodyPost_ret (v := .tuple #[.int .u64 0, .int .i64 0, .int .i64 7]) (by simp [results, Try.results16, go_sem]) rfl ⟨by rw [HE.out]; rfl, rfl⟩
theorem get_any (w : World) (a : Option Addr) (cap : Nat) (l : List Nat) (hr : Row w a l) (hz : l.length ≤ 140737488351232) :
    Calls Try.prog 16 #[.slice a l.length cap] w fun e w' => e = got (getS l) ∧ w = w' := by
  cases l with
  | nil => exact get_none w a cap
  | cons x r =>
    obtain ⟨b, off, rfl, hc⟩ := row_at hr 0 (by simp)
    by_cases hx : x = 128
    · subst hx
      exact get_nought w b off _ cap (by simp) hz hc
    · exact get_some w b off cap (x :: r) hr hz x rfl hx hc
end Go.Proofs.Ythhoafhkdioboaa
