/- sum: step, total, Sum32. -/
import Derived.Test.YthmfbhanmncfgaaWCrc
import Derived.Test.YthmfbhanmncfgaaGMem
import Derived.Laws.BitsAllLaws
namespace Go.Proofs.Ythmfbhanmncfgaa
open Go.RowKit
set_option linter.unusedVariables false
set_option linter.unusedVariables false
theorem getD_lt {l : List Nat} (h : ∀ x ∈ l, x < 256) (k : Nat) : l.getD k 0 < 256 := by
  by_cases hk : k < l.length
  · rw [List.getD_eq_getElem?_getD, List.getElem?_eq_getElem hk]; exact h _ (List.getElem_mem hk)
  · rw [List.getD_eq_getElem?_getD, List.getElem?_eq_none (by omega)]; simp
set_option maxHeartbeats 400000 in
theorem step32_any (s x t : Nat) (hs : s < 4294967296) (hx : x < 256) (ht : t < 4294967296) (w : World) :
    Calls Try.prog 41 #[.int .u32 s, .int .u8 x, .int .u32 t] w fun e w' => e = .returned (.int .u32 (Crc.stn t 8 (s ^^^ x) : Nat)) ∧ w' = w := by
  have hsx : s ^^^ x < 4294967296 := Nat.xor_lt_two_pow (n := 32) hs (by omega)
  have HX : Hid (bits BinOp.xor IntKind.u32 (s : Int) (x : Int) = ((s ^^^ x : Nat) : Int)) := u32_xor_nat s x hs (by omega)
  go_enter Try.func41, Try.ntmps41
  go_wp2
  go_loop [0, 12] (fun v i => ∃ k : Nat, k ≤ 8 ∧ i = .int .i64 k ∧ v = .int .u32 (Crc.stn t k (s ^^^ x) : Nat)) (fun _ i => 8 - (intOf i).toNat)
  case atStart => exact ⟨0, by omega, rfl, by rw [HX.out]; rfl⟩
  case round =>
    obtain ⟨k, hk, rfl, rfl⟩ := hrel
    have hlt := Crc.stn_lt t k (s ^^^ x) 32 ht hsx
    by_cases hk8 : k < 8
    · have HS : Hid (Crc.stn t (k + 1) (s ^^^ x) = Crc.st t (Crc.stn t k (s ^^^ x))) := Crc.stn_succ _ _ _
      generalize Crc.stn t k (s ^^^ x) = r at hlt HS ⊢
      by_cases ho : r % 2 = 1
      · have ha : (bits BinOp.and IntKind.u32 (r : Int) 1 == 1) = true := by
          have := u32_and_nat r 1 hlt (by omega)
          rw [show ((1 : Nat) : Int) = 1 from rfl] at this
          rw [this, Nat.and_one_is_mod, ho]; rfl
        have hd : (r : Int) / 2 = ((r / 2 : Nat) : Int) := by omega
        have HXX : Hid (bits BinOp.xor IntKind.u32 ((r : Int) / 2) (t : Int) = ((Crc.st t r : Nat) : Int)) := by
          show _ = _
          rw [hd, Crc.st_odd _ _ ho]; exact u32_xor_nat _ _ (by omega) ht
        clear hd
        go_wp2
        go_round
        case rel => exact ⟨k + 1, by omega, by go_num, by rw [HS.out]; exact congrArg _ HXX.out⟩
        case measure => simp [intOf]; omega
      · have ha : (bits BinOp.and IntKind.u32 (r : Int) 1 == 1) = false := by
          have := u32_and_nat r 1 hlt (by omega)
          rw [show ((1 : Nat) : Int) = 1 from rfl] at this
          have h0 : r % 2 = 0 := by omega
          rw [this, Nat.and_one_is_mod, h0]; rfl
        have HD : Hid ((r : Int) / 2 = ((Crc.st t r : Nat) : Int)) := by
          show _ = _
          rw [Crc.st_even _ _ ho]; omega
        go_wp2
        go_round
        case rel => exact ⟨k + 1, by omega, by go_num, by rw [HS.out]; exact congrArg _ HD.out⟩
        case measure => simp [intOf]; omega
    · obtain rfl : k = 8 := by omega
      go_wp2
      go_ret
      exact ⟨rfl, rfl⟩
set_option maxHeartbeats 400000 in
theorem total32_any (a : Option Addr) (cap : Nat) (l : List Nat) (t : Nat) (ht : t < 4294967296) (w : World) (hr : Row w a l) :
    Calls Try.prog 29 #[.slice a l.length cap, .int .u32 t] w fun e w' => e = .returned (.int .u32 (4294967295 ^^^ Crc.run t 4294967295 l : Nat)) ∧ w' = w := by
  obtain ⟨hb, hm, hr⟩ := hr
  unfold maxLen at hm
  have H0 : Hid (bits BinOp.xor IntKind.u32 4294967295 0 = (4294967295 : Int)) := u32_xor_nat 4294967295 0 (by omega) (by omega)
  go_enter Try.func29, Try.ntmps29
  go_wp2
  go_loop [5, 12] (fun v i => ∃ k : Nat, k ≤ l.length ∧ i = .int .i64 k ∧ v = .int .u32 (Crc.run t 4294967295 (l.take k) : Nat)) (fun _ i => l.length - (intOf i).toNat)
  case atStart => exact ⟨0, by omega, rfl, by first | rfl | (rw [H0.out]; rfl)⟩
  case round =>
    obtain ⟨k, hk, rfl, rfl⟩ := hrel
    have hlt := Crc.run_lt t 4294967295 32 (by omega) ht (by omega) (l.take k) (fun x hx => hb x (List.mem_of_mem_take hx))
    by_cases hkl : k < l.length
    · have HS : Hid (Crc.run t 4294967295 (l.take (k + 1)) = Crc.stn t 8 (Crc.run t 4294967295 (l.take k) ^^^ l.getD k 0)) := Crc.run_take _ _ _ _ hkl
      obtain ⟨b, off, rfl, hc⟩ := hr (by omega)
      have hcell := hc k hkl
      have hx : l.getD k 0 < 256 := getD_lt hb k
      generalize Crc.run t 4294967295 (l.take k) = r at hlt HS ⊢
      clear hc hr
      generalize l.getD k 0 = x at hcell hx HS ⊢
      go_wp2_with (go_at_call 41; refine (step32_any _ _ _ hlt hx ht _).mono ?_; rintro e w' ⟨rfl, rfl⟩)
      go_round
      case rel => exact ⟨k + 1, by omega, by go_num, by rw [HS.out]⟩
      case measure => simp [intOf]; omega
    · obtain rfl : k = l.length := by omega
      have HF : Hid (bits BinOp.xor IntKind.u32 IntKind.u32.max ((Crc.run t 4294967295 l : Nat) : Int) = ((4294967295 ^^^ Crc.run t 4294967295 l : Nat) : Int)) := by
        rw [List.take_length] at hlt
        exact u32_xor_nat 4294967295 _ (by omega) hlt
      go_wp2
      go_ret
      exact ⟨ret_int HF.out, rfl⟩
set_option maxHeartbeats 400000 in
theorem sum32_any (a : Option Addr) (cap : Nat) (l : List Nat) (w : World) (hr : Row w a l) :
    Calls Try.prog 19 #[.slice a l.length cap] w fun e w' => e = .returned (.int .u32 (Crc.sum32 l : Nat)) ∧ w' = w := by
  have H : ∀ w', Hid (Row w' a l → Calls Try.prog 29 #[.slice a l.length cap, .int .u32 2197175160] w' fun e w'' => e = .returned (.int .u32 (Crc.sum32 l : Nat)) ∧ w'' = w') := fun w' h => total32_any a cap l 2197175160 (by omega) w' h
  go_enter Try.func19, Try.ntmps19
  go_wp2_with (go_at_call 29; refine ((H _).out hr).mono ?_; rintro e w' ⟨rfl, rfl⟩)
  go_ret
  exact ⟨rfl, rfl⟩
end Go.Proofs.Ythmfbhanmncfgaa
