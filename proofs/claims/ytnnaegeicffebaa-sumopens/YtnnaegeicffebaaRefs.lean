/- The walk of the reference's Sum at 16 and at 32 bits: it answers the document's sum, for whatever bytes, and memory stays as it was. -/
import Derived.Test.YtnnaegeicffebaaSteps
namespace Go.Proofs.Ytnnaegeicffebaa
open Go.RowKit

theorem odd_form (q p : Nat) (hq : q < 4294967296) (hp : p < 4294967296) (h : ((q : Int) % 2 == 1) = true) :
    bits BinOp.xor IntKind.u64 (IntKind.u64.wrap ((IntKind.u64.wrap ((q : Int) - 1)).tdiv 2)) (p : Int) = ((Crc.st p q : Nat) : Int) := by
  have h1 : (q : Int) % 2 = 1 := by simpa using h
  have h2 : q % 2 = 1 := by omega
  have h3 : IntKind.u64.wrap ((q : Int) - 1) = ((q - 1 : Nat) : Int) := by rw [IntKind.wrap_u64]; omega
  have h4 : ((q - 1 : Nat) : Int).tdiv 2 = ((q / 2 : Nat) : Int) := by
    rw [Int.tdiv_eq_ediv_of_nonneg (by omega)]; omega
  have h5 : IntKind.u64.wrap ((q / 2 : Nat) : Int) = ((q / 2 : Nat) : Int) := by rw [IntKind.wrap_u64]; omega
  rw [h3, h4, h5, Crc.st_odd _ _ h2]
  exact bits_xor_u64_nat _ _ (by omega) (by omega)

theorem even_form (q p : Nat) (hq : q < 4294967296) (h : ((q : Int) % 2 == 1) = false) : IntKind.u64.wrap ((q : Int) / 2) = ((Crc.st p q : Nat) : Int) := by
  have h1 : ¬ (q : Int) % 2 = 1 := by simpa using h
  rw [Crc.st_even _ _ (by omega), IntKind.wrap_u64]; omega

set_option maxHeartbeats 1000000 in
theorem ref16_any (a : Option Addr) (cap : Nat) (l : List Nat) (w : World) (hr : Row w a l) :
    Calls Try.prog 11 #[.slice a l.length cap, .int .i64 16] w fun e w' => e = .returned (.int .u64 (Crc.sum16 l : Nat)) ∧ w' = w := by
  obtain ⟨hb, hm, hr⟩ := hr
  unfold maxLen at hm
  go_enter Try.func11, Try.ntmps11
  go_wp2
  go_loop [7, 8] (fun v i => ∃ k : Nat, k ≤ l.length ∧ i = .int .i64 k ∧ v = .int .u64 (Crc.run 33800 65535 (l.take k) : Nat)) (fun _ i => l.length - (intOf i).toNat)
  case atStart => exact ⟨0, by omega, rfl, by rfl⟩
  case round =>
    obtain ⟨k, hk, rfl, rfl⟩ := hrel
    have hlt := Crc.run_lt 33800 65535 16 (by omega) (by omega) (by omega) (l.take k) (fun x hx => hb x (List.mem_of_mem_take hx))
    by_cases hkl : k < l.length
    · have HS : Hid (Crc.run 33800 65535 (l.take (k + 1)) = Crc.stn 33800 8 (Crc.run 33800 65535 (l.take k) ^^^ l.getD k 0)) := Crc.run_take _ _ _ _ hkl
      obtain ⟨b, off, rfl, hc⟩ := hr (by omega)
      have hcell := hc k hkl
      have hx : l.getD k 0 < 256 := getD_lt hb k
      clear hc hr
      generalize Crc.run 33800 65535 (l.take k) = r at hlt HS ⊢
      generalize l.getD k 0 = x at hcell hx HS ⊢
      have hrx : r ^^^ x < 2 ^ 16 := Nat.xor_lt_two_pow hlt (by omega)
      have HX : Hid (bits BinOp.xor IntKind.u64 (r : Int) (x : Int) = ((r ^^^ x : Nat) : Int)) := bits_xor_u64_nat r x (by omega) (by omega)
      go_wp2
      go_loop [7, 9] (fun v i => ∃ n : Nat, n ≤ 8 ∧ i = .int .i64 n ∧ v = .int .u64 (Crc.stn 33800 n (r ^^^ x) : Nat)) (fun _ i => 8 - (intOf i).toNat)
      case atStart => exact ⟨0, by omega, rfl, by rw [HX.out]; rfl⟩
      case round =>
        obtain ⟨n, hn, rfl, rfl⟩ := hrel
        have hql := Crc.stn_lt 33800 n (r ^^^ x) 16 (by omega) hrx
        by_cases hn8 : n < 8
        · have HN : Hid (Crc.stn 33800 (n + 1) (r ^^^ x) = Crc.st 33800 (Crc.stn 33800 n (r ^^^ x))) := Crc.stn_succ _ _ _
          generalize Crc.stn 33800 n (r ^^^ x) = q at hql HN ⊢
          have HQ : Hid (q < 2 ^ 16) := hql
          clear hql
          go_wp2
          · have ho : ((q : Int) % 2 == 1) = true := by assumption
            go_round
            case rel => exact ⟨n + 1, by omega, by go_num, by rw [HN.out]; exact congrArg _ (odd_form q 33800 (Nat.lt_of_lt_of_le HQ.out (by omega)) (by omega) ho)⟩
            case measure => simp [intOf]; omega
          · have ho : ((q : Int) % 2 == 1) = false := by assumption
            go_round
            case rel => exact ⟨n + 1, by omega, by go_num, by rw [HN.out]; exact congrArg _ (even_form q 33800 (Nat.lt_of_lt_of_le HQ.out (by omega)) ho)⟩
            case measure => simp [intOf]; omega
        · obtain rfl : n = 8 := by omega
          go_wp2
          go_round
          case rel => exact ⟨k + 1, by omega, by go_num, by rw [HS.out]⟩
          case measure => simp [intOf]; omega
    · obtain rfl : k = l.length := by omega
      have HF : Hid (bits BinOp.xor IntKind.u64 ((Crc.run 33800 65535 l : Nat) : Int) 65535 = ((Crc.sum16 l : Nat) : Int)) := by
        rw [List.take_length] at hlt
        unfold Crc.sum16
        rw [Nat.xor_comm]
        exact bits_xor_u64_nat _ 65535 (by omega) (by omega)
      go_wp2
      go_ret
      exact ⟨ret_int HF.out, rfl⟩

set_option maxHeartbeats 1000000 in
theorem ref32_any (a : Option Addr) (cap : Nat) (l : List Nat) (w : World) (hr : Row w a l) :
    Calls Try.prog 11 #[.slice a l.length cap, .int .i64 32] w fun e w' => e = .returned (.int .u64 (Crc.sum32 l : Nat)) ∧ w' = w := by
  obtain ⟨hb, hm, hr⟩ := hr
  unfold maxLen at hm
  go_enter Try.func11, Try.ntmps11
  go_wp2
  go_loop [7, 8] (fun v i => ∃ k : Nat, k ≤ l.length ∧ i = .int .i64 k ∧ v = .int .u64 (Crc.run 2197175160 4294967295 (l.take k) : Nat)) (fun _ i => l.length - (intOf i).toNat)
  case atStart => exact ⟨0, by omega, rfl, by rfl⟩
  case round =>
    obtain ⟨k, hk, rfl, rfl⟩ := hrel
    have hlt := Crc.run_lt 2197175160 4294967295 32 (by omega) (by omega) (by omega) (l.take k) (fun x hx => hb x (List.mem_of_mem_take hx))
    by_cases hkl : k < l.length
    · have HS : Hid (Crc.run 2197175160 4294967295 (l.take (k + 1)) = Crc.stn 2197175160 8 (Crc.run 2197175160 4294967295 (l.take k) ^^^ l.getD k 0)) := Crc.run_take _ _ _ _ hkl
      obtain ⟨b, off, rfl, hc⟩ := hr (by omega)
      have hcell := hc k hkl
      have hx : l.getD k 0 < 256 := getD_lt hb k
      clear hc hr
      generalize Crc.run 2197175160 4294967295 (l.take k) = r at hlt HS ⊢
      generalize l.getD k 0 = x at hcell hx HS ⊢
      have hrx : r ^^^ x < 2 ^ 32 := Nat.xor_lt_two_pow hlt (by omega)
      have HX : Hid (bits BinOp.xor IntKind.u64 (r : Int) (x : Int) = ((r ^^^ x : Nat) : Int)) := bits_xor_u64_nat r x (by omega) (by omega)
      go_wp2
      go_loop [7, 9] (fun v i => ∃ n : Nat, n ≤ 8 ∧ i = .int .i64 n ∧ v = .int .u64 (Crc.stn 2197175160 n (r ^^^ x) : Nat)) (fun _ i => 8 - (intOf i).toNat)
      case atStart => exact ⟨0, by omega, rfl, by rw [HX.out]; rfl⟩
      case round =>
        obtain ⟨n, hn, rfl, rfl⟩ := hrel
        have hql := Crc.stn_lt 2197175160 n (r ^^^ x) 32 (by omega) hrx
        by_cases hn8 : n < 8
        · have HN : Hid (Crc.stn 2197175160 (n + 1) (r ^^^ x) = Crc.st 2197175160 (Crc.stn 2197175160 n (r ^^^ x))) := Crc.stn_succ _ _ _
          generalize Crc.stn 2197175160 n (r ^^^ x) = q at hql HN ⊢
          have HQ : Hid (q < 2 ^ 32) := hql
          clear hql
          go_wp2
          · have ho : ((q : Int) % 2 == 1) = true := by assumption
            go_round
            case rel => exact ⟨n + 1, by omega, by go_num, by rw [HN.out]; exact congrArg _ (odd_form q 2197175160 (Nat.lt_of_lt_of_le HQ.out (by omega)) (by omega) ho)⟩
            case measure => simp [intOf]; omega
          · have ho : ((q : Int) % 2 == 1) = false := by assumption
            go_round
            case rel => exact ⟨n + 1, by omega, by go_num, by rw [HN.out]; exact congrArg _ (even_form q 2197175160 (Nat.lt_of_lt_of_le HQ.out (by omega)) ho)⟩
            case measure => simp [intOf]; omega
        · obtain rfl : n = 8 := by omega
          go_wp2
          go_round
          case rel => exact ⟨k + 1, by omega, by go_num, by rw [HS.out]⟩
          case measure => simp [intOf]; omega
    · obtain rfl : k = l.length := by omega
      have HF : Hid (bits BinOp.xor IntKind.u64 ((Crc.run 2197175160 4294967295 l : Nat) : Int) 4294967295 = ((Crc.sum32 l : Nat) : Int)) := by
        rw [List.take_length] at hlt
        unfold Crc.sum32
        rw [Nat.xor_comm]
        exact bits_xor_u64_nat _ 4294967295 (by omega) (by omega)
      go_wp2
      go_ret
      exact ⟨ret_int HF.out, rfl⟩

end Go.Proofs.Ytnnaegeicffebaa
