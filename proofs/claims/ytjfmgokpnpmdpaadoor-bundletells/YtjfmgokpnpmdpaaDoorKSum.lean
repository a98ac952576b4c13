/- sum: step, total, Sum16, Sum32, seal, Seal16, Seal32, open, Open16, Open32. -/
import Derived.Test.YtjfmgokpnpmdpaaDoorWCrc
import Derived.Test.YtjfmgokpnpmdpaaDoorGMem
import Derived.Laws.BitsAllLaws
namespace Go.Proofs.YtjfmgokpnpmdpaaDoor
open Go.RowKit
set_option linter.unusedVariables false
theorem getD_lt {l : List Nat} (h : ∀ x ∈ l, x < 256) (k : Nat) : l.getD k 0 < 256 := by
  by_cases hk : k < l.length
  · rw [List.getD_eq_getElem?_getD, List.getElem?_eq_getElem hk]; exact h _ (List.getElem_mem hk)
  · rw [List.getD_eq_getElem?_getD, List.getElem?_eq_none (by omega)]; simp

set_option maxHeartbeats 400000 in
theorem step16_any (s x t : Nat) (hs : s < 65536) (hx : x < 256) (ht : t < 65536) (w : World) :
    Calls Tryd.prog 74 #[.int .u16 s, .int .u8 x, .int .u16 t] w fun e w' => e = .returned (.int .u16 (Crc.stn t 8 (s ^^^ x) : Nat)) ∧ w' = w := by
  have hsx : s ^^^ x < 65536 := Nat.xor_lt_two_pow (n := 16) hs (by omega)
  have HX : Hid (bits BinOp.xor IntKind.u16 (s : Int) (x : Int) = ((s ^^^ x : Nat) : Int)) := u16_xor_nat s x hs (by omega)
  go_enter Tryd.func74, Tryd.ntmps74
  go_wp2
  go_loop [0, 12] (fun v i => ∃ k : Nat, k ≤ 8 ∧ i = .int .i64 k ∧ v = .int .u16 (Crc.stn t k (s ^^^ x) : Nat)) (fun _ i => 8 - (intOf i).toNat)
  case atStart => exact ⟨0, by omega, rfl, by rw [HX.out]; rfl⟩
  case round =>
    obtain ⟨k, hk, rfl, rfl⟩ := hrel
    have hlt := Crc.stn_lt t k (s ^^^ x) 16 ht hsx
    by_cases hk8 : k < 8
    · have HS : Hid (Crc.stn t (k + 1) (s ^^^ x) = Crc.st t (Crc.stn t k (s ^^^ x))) := Crc.stn_succ _ _ _
      generalize Crc.stn t k (s ^^^ x) = r at hlt HS ⊢
      by_cases ho : r % 2 = 1
      · have ha : (bits BinOp.and IntKind.u16 (r : Int) 1 == 1) = true := by
          have := u16_and_nat r 1 hlt (by omega)
          rw [show ((1 : Nat) : Int) = 1 from rfl] at this
          rw [this, Nat.and_one_is_mod, ho]; rfl
        have hd : (r : Int) / 2 = ((r / 2 : Nat) : Int) := by omega
        have HXX : Hid (bits BinOp.xor IntKind.u16 ((r : Int) / 2) (t : Int) = ((Crc.st t r : Nat) : Int)) := by
          show _ = _
          rw [hd, Crc.st_odd _ _ ho]; exact u16_xor_nat _ _ (by omega) ht
        clear hd
        go_wp2
        go_round
        case rel => exact ⟨k + 1, by omega, by go_num, by rw [HS.out]; exact congrArg _ HXX.out⟩
        case measure => simp [intOf]; omega
      · have ha : (bits BinOp.and IntKind.u16 (r : Int) 1 == 1) = false := by
          have := u16_and_nat r 1 hlt (by omega)
          rw [show ((1 : Nat) : Int) = 1 from rfl] at this
          have h0 : r % 2 = 0 := by omega
          rw [this, Nat.and_one_is_mod, h0]; rfl
        have HD : Hid ((r : Int) / 2 = ((Crc.st t r : Nat) : Int)) := by
          show _ = _
          rw [Crc.st_even _ _ ho]; omega
        go_wp2
        go_round
        case rel => exact ⟨k + 1, by omega, by go_num, by rw [HS.out]; exact congrArg _ HD.out⟩
        case measure => simp [intOf]; omega
    · obtain rfl : k = 8 := by omega
      go_wp2
      go_ret
      exact ⟨rfl, rfl⟩

set_option maxHeartbeats 400000 in
theorem step32_any (s x t : Nat) (hs : s < 4294967296) (hx : x < 256) (ht : t < 4294967296) (w : World) :
    Calls Tryd.prog 75 #[.int .u32 s, .int .u8 x, .int .u32 t] w fun e w' => e = .returned (.int .u32 (Crc.stn t 8 (s ^^^ x) : Nat)) ∧ w' = w := by
  have hsx : s ^^^ x < 4294967296 := Nat.xor_lt_two_pow (n := 32) hs (by omega)
  have HX : Hid (bits BinOp.xor IntKind.u32 (s : Int) (x : Int) = ((s ^^^ x : Nat) : Int)) := u32_xor_nat s x hs (by omega)
  go_enter Tryd.func75, Tryd.ntmps75
  go_wp2
  go_loop [0, 12] (fun v i => ∃ k : Nat, k ≤ 8 ∧ i = .int .i64 k ∧ v = .int .u32 (Crc.stn t k (s ^^^ x) : Nat)) (fun _ i => 8 - (intOf i).toNat)
  case atStart => exact ⟨0, by omega, rfl, by rw [HX.out]; rfl⟩
  case round =>
    obtain ⟨k, hk, rfl, rfl⟩ := hrel
    have hlt := Crc.stn_lt t k (s ^^^ x) 32 ht hsx
    by_cases hk8 : k < 8
    · have HS : Hid (Crc.stn t (k + 1) (s ^^^ x) = Crc.st t (Crc.stn t k (s ^^^ x))) := Crc.stn_succ _ _ _
      generalize Crc.stn t k (s ^^^ x) = r at hlt HS ⊢
      by_cases ho : r % 2 = 1
      · have ha : (bits BinOp.and IntKind.u32 (r : Int) 1 == 1) = true := by
          have := u32_and_nat r 1 hlt (by omega)
          rw [show ((1 : Nat) : Int) = 1 from rfl] at this
          rw [this, Nat.and_one_is_mod, ho]; rfl
        have hd : (r : Int) / 2 = ((r / 2 : Nat) : Int) := by omega
        have HXX : Hid (bits BinOp.xor IntKind.u32 ((r : Int) / 2) (t : Int) = ((Crc.st t r : Nat) : Int)) := by
          show _ = _
          rw [hd, Crc.st_odd _ _ ho]; exact u32_xor_nat _ _ (by omega) ht
        clear hd
        go_wp2
        go_round
        case rel => exact ⟨k + 1, by omega, by go_num, by rw [HS.out]; exact congrArg _ HXX.out⟩
        case measure => simp [intOf]; omega
      · have ha : (bits BinOp.and IntKind.u32 (r : Int) 1 == 1) = false := by
          have := u32_and_nat r 1 hlt (by omega)
          rw [show ((1 : Nat) : Int) = 1 from rfl] at this
          have h0 : r % 2 = 0 := by omega
          rw [this, Nat.and_one_is_mod, h0]; rfl
        have HD : Hid ((r : Int) / 2 = ((Crc.st t r : Nat) : Int)) := by
          show _ = _
          rw [Crc.st_even _ _ ho]; omega
        go_wp2
        go_round
        case rel => exact ⟨k + 1, by omega, by go_num, by rw [HS.out]; exact congrArg _ HD.out⟩
        case measure => simp [intOf]; omega
    · obtain rfl : k = 8 := by omega
      go_wp2
      go_ret
      exact ⟨rfl, rfl⟩

set_option maxHeartbeats 400000 in
theorem total16_any (a : Option Addr) (cap : Nat) (l : List Nat) (t : Nat) (ht : t < 65536) (w : World) (hr : Row w a l) :
    Calls Tryd.prog 65 #[.slice a l.length cap, .int .u16 t] w fun e w' => e = .returned (.int .u16 (65535 ^^^ Crc.run t 65535 l : Nat)) ∧ w' = w := by
  obtain ⟨hb, hm, hr⟩ := hr
  unfold maxLen at hm
  have H0 : Hid (bits BinOp.xor IntKind.u16 65535 0 = (65535 : Int)) := u16_xor_nat 65535 0 (by omega) (by omega)
  go_enter Tryd.func65, Tryd.ntmps65
  go_wp2
  go_loop [5, 12] (fun v i => ∃ k : Nat, k ≤ l.length ∧ i = .int .i64 k ∧ v = .int .u16 (Crc.run t 65535 (l.take k) : Nat)) (fun _ i => l.length - (intOf i).toNat)
  case atStart => exact ⟨0, by omega, rfl, by first | rfl | (rw [H0.out]; rfl)⟩
  case round =>
    obtain ⟨k, hk, rfl, rfl⟩ := hrel
    have hlt := Crc.run_lt t 65535 16 (by omega) ht (by omega) (l.take k) (fun x hx => hb x (List.mem_of_mem_take hx))
    by_cases hkl : k < l.length
    · have HS : Hid (Crc.run t 65535 (l.take (k + 1)) = Crc.stn t 8 (Crc.run t 65535 (l.take k) ^^^ l.getD k 0)) := Crc.run_take _ _ _ _ hkl
      obtain ⟨b, off, rfl, hc⟩ := hr (by omega)
      have hcell := hc k hkl
      have hx : l.getD k 0 < 256 := getD_lt hb k
      generalize Crc.run t 65535 (l.take k) = r at hlt HS ⊢
      clear hc hr
      generalize l.getD k 0 = x at hcell hx HS ⊢
      go_wp2_with (go_at_call 74; refine (step16_any _ _ _ hlt hx ht _).mono ?_; rintro e w' ⟨rfl, rfl⟩)
      go_round
      case rel => exact ⟨k + 1, by omega, by go_num, by rw [HS.out]⟩
      case measure => simp [intOf]; omega
    · obtain rfl : k = l.length := by omega
      have HF : Hid (bits BinOp.xor IntKind.u16 IntKind.u16.max ((Crc.run t 65535 l : Nat) : Int) = ((65535 ^^^ Crc.run t 65535 l : Nat) : Int)) := by
        rw [List.take_length] at hlt
        exact u16_xor_nat 65535 _ (by omega) hlt
      go_wp2
      go_ret
      exact ⟨ret_int HF.out, rfl⟩

set_option maxHeartbeats 400000 in
theorem sum16_any (a : Option Addr) (cap : Nat) (l : List Nat) (w : World) (hr : Row w a l) :
    Calls Tryd.prog 52 #[.slice a l.length cap] w fun e w' => e = .returned (.int .u16 (Crc.sum16 l : Nat)) ∧ w' = w := by
  have H : ∀ w', Hid (Row w' a l → Calls Tryd.prog 65 #[.slice a l.length cap, .int .u16 33800] w' fun e w'' => e = .returned (.int .u16 (Crc.sum16 l : Nat)) ∧ w'' = w') := fun w' h => total16_any a cap l 33800 (by omega) w' h
  go_enter Tryd.func52, Tryd.ntmps52
  go_wp2_with (go_at_call 65; refine ((H _).out hr).mono ?_; rintro e w' ⟨rfl, rfl⟩)
  go_ret
  exact ⟨rfl, rfl⟩

set_option maxHeartbeats 400000 in
theorem total32_any (a : Option Addr) (cap : Nat) (l : List Nat) (t : Nat) (ht : t < 4294967296) (w : World) (hr : Row w a l) :
    Calls Tryd.prog 66 #[.slice a l.length cap, .int .u32 t] w fun e w' => e = .returned (.int .u32 (4294967295 ^^^ Crc.run t 4294967295 l : Nat)) ∧ w' = w := by
  obtain ⟨hb, hm, hr⟩ := hr
  unfold maxLen at hm
  have H0 : Hid (bits BinOp.xor IntKind.u32 4294967295 0 = (4294967295 : Int)) := u32_xor_nat 4294967295 0 (by omega) (by omega)
  go_enter Tryd.func66, Tryd.ntmps66
  go_wp2
  go_loop [5, 12] (fun v i => ∃ k : Nat, k ≤ l.length ∧ i = .int .i64 k ∧ v = .int .u32 (Crc.run t 4294967295 (l.take k) : Nat)) (fun _ i => l.length - (intOf i).toNat)
  case atStart => exact ⟨0, by omega, rfl, by first | rfl | (rw [H0.out]; rfl)⟩
  case round =>
    obtain ⟨k, hk, rfl, rfl⟩ := hrel
    have hlt := Crc.run_lt t 4294967295 32 (by omega) ht (by omega) (l.take k) (fun x hx => hb x (List.mem_of_mem_take hx))
    by_cases hkl : k < l.length
    · have HS : Hid (Crc.run t 4294967295 (l.take (k + 1)) = Crc.stn t 8 (Crc.run t 4294967295 (l.take k) ^^^ l.getD k 0)) := Crc.run_take _ _ _ _ hkl
      obtain ⟨b, off, rfl, hc⟩ := hr (by omega)
      have hcell := hc k hkl
      have hx : l.getD k 0 < 256 := getD_lt hb k
      generalize Crc.run t 4294967295 (l.take k) = r at hlt HS ⊢
      clear hc hr
      generalize l.getD k 0 = x at hcell hx HS ⊢
      go_wp2_with (go_at_call 75; refine (step32_any _ _ _ hlt hx ht _).mono ?_; rintro e w' ⟨rfl, rfl⟩)
      go_round
      case rel => exact ⟨k + 1, by omega, by go_num, by rw [HS.out]⟩
      case measure => simp [intOf]; omega
    · obtain rfl : k = l.length := by omega
      have HF : Hid (bits BinOp.xor IntKind.u32 IntKind.u32.max ((Crc.run t 4294967295 l : Nat) : Int) = ((4294967295 ^^^ Crc.run t 4294967295 l : Nat) : Int)) := by
        rw [List.take_length] at hlt
        exact u32_xor_nat 4294967295 _ (by omega) hlt
      go_wp2
      go_ret
      exact ⟨ret_int HF.out, rfl⟩

set_option maxHeartbeats 400000 in
theorem sum32_any (a : Option Addr) (cap : Nat) (l : List Nat) (w : World) (hr : Row w a l) :
    Calls Tryd.prog 53 #[.slice a l.length cap] w fun e w' => e = .returned (.int .u32 (Crc.sum32 l : Nat)) ∧ w' = w := by
  have H : ∀ w', Hid (Row w' a l → Calls Tryd.prog 66 #[.slice a l.length cap, .int .u32 2197175160] w' fun e w'' => e = .returned (.int .u32 (Crc.sum32 l : Nat)) ∧ w'' = w') := fun w' h => total32_any a cap l 2197175160 (by omega) w' h
  go_enter Tryd.func53, Tryd.ntmps53
  go_wp2_with (go_at_call 66; refine ((H _).out hr).mono ?_; rintro e w' ⟨rfl, rfl⟩)
  go_ret
  exact ⟨rfl, rfl⟩

theorem own_snoc {w : World} {b b' n : Nat} {v : Value} {l : List Nat} {q : Nat} (h : w.ownsRow b 5 1 v n (cells l ++ [Value.int .u8 ((q : Int) % 256)])) (hb : b' ≤ b) : w.ownsRow b' 5 1 v n (cells (l ++ [q % 256])) := by
  rw [cells_append, cells_one]
  exact own_base h hb

set_option maxHeartbeats 1000000 in
theorem seal_any (a : Option Addr) (cap : Nat) (l : List Nat) (s n : Nat) (hs : s < 4294967296) (hn0 : 0 < n) (hn : n ≤ 4) (w : World) (hr : Row w a l) (hc : l.length ≤ cap) (_hcm : cap ≤ maxLen) (hz : l.length ≤ 140737488351232) :
    Calls Tryd.prog 51 #[.slice a l.length cap, .int .u32 s, .int .i64 n] w fun e w' => ∃ v, e = .returned v ∧ w'.ownsRow w.heap.size 5 1 v (l.length + n) (cells (l ++ Crc.le s n)) ∧ Below w.heap.size w w' := by
  obtain ⟨i0, hi, hz0, hz1, hz2⟩ := info_parts Tryd.info5
  have hm := hr.2.1
  unfold maxLen at hm _hcm
  have HR : Hid (Row w a l) := hr
  have HN : Hid (a = none → l.length = 0) := by
    intro h
    rcases Nat.eq_zero_or_pos l.length with h0 | h0
    · exact h0
    · obtain ⟨_, _, h1, _⟩ := hr.2.2 h0
      rw [h] at h1; cases h1
  clear hr
  go_enter Tryd.func51, Tryd.ntmps51
  go_wp2
  go_loopw [1, 7, 15] (fun u v i wr => ∃ k : Nat, k ≤ n ∧ i = .int .i64 k ∧ u = .int .u32 (s / 256 ^ k : Nat) ∧ (k = 0 → v = .slice a l.length l.length ∧ w = wr) ∧ (0 < k → wr.ownsRow w.heap.size 5 1 v (l.length + k) (cells (l ++ Crc.le s k))) ∧ Below w.heap.size w wr)
    (fun _ _ i _ => n - (intOf i).toNat)
  case atStart => exact ⟨0, by omega, rfl, by simp, fun _ => ⟨rfl, rfl⟩, fun h => absurd h (by omega), Below.refl _ _⟩
  case round =>
    obtain ⟨k, hk, rfl, rfl, h0, h1, hb⟩ := hrel
    have hlt : s / 256 ^ k < 4294967296 := Nat.lt_of_le_of_lt (Nat.div_le_self _ _) hs
    have HD : Hid (s / 256 ^ (k + 1) = s / 256 ^ k / 256) := Crc.div_succ s k
    have HL : Hid (Crc.le s (k + 1) = Crc.le s k ++ [s / 256 ^ k % 256]) := Crc.le_succ s k
    generalize s / 256 ^ k = q at hlt HD HL ⊢
    by_cases hkn : k < n
    · by_cases hk0 : k = 0
      · subst hk0
        obtain ⟨rfl, rfl⟩ := h0 rfl
        clear h0 h1
        go_wp2_with (at_builtin; go_must (refine wpList_append_grows _ rfl (.tmp 17) (.tmp 20) 23 rfl 5 i0 (.int .u8 0) 1 1 Tryd.underlying23 hi hz0 hz1 hz2 rfl (by decide) a l.length l.length (cells l) rfl ?c0 ?c1 ?c2 ⟨w.heap.size, 0, none⟩ 1 1 [.int .u8 ((q % 256 : Nat) : Int)] rfl rfl ?c3 ?c4 ?c5 ?c6 ?c7 ?_))
        case c0 => intro h; have := HN.out h; exact ⟨this, this⟩
        case c1 => rw [cells_length]; omega
        case c2 => exact row_cells (HR.out.later ((Below.refl _ _).alloc (Nat.le_refl _) _))
        case c3 => exact cell_one_new _ _ _
        case c4 => intro u hu; simp at hu; subst hu; rfl
        case c5 => omega
        case c6 => unfold maxLen; omega
        case c7 => omega
        · intro v' w1 hown hgrow
          have H1 : Hid (w1.ownsRow w.heap.size 5 1 v' (l.length + (0 + 1)) (cells (l ++ Crc.le s (0 + 1)))) := by
            show _
            rw [HL.out]
            exact own_snoc hown (by omega)
          have H2 : Hid (Below w.heap.size w w1) := ((Below.refl _ _).alloc (Nat.le_refl _) _).grown hgrow (by simp) (by intro k h; cases h)
          clear hown hgrow hb
          go_wp2
          go_roundw
          case rel => exact ⟨0 + 1, by omega, by go_num, by rw [HD.out]; go_num, fun h => absurd h (by omega), fun _ => H1.out, H2.out⟩
          case measure => simp [intOf]; omega
      · have hown0 := h1 (by omega)
        have hbs := hb.size
        clear h0 h1
        go_wp2_with (at_builtin; go_must (refine wpList_append_own _ rfl (.tmp 17) (.tmp 20) 23 rfl w.heap.size 5 i0 (.int .u8 0) 1 1 Tryd.underlying23 hi hz0 hz1 hz2 rfl (by decide) _ _ _ rfl (hown0.alloc _) ⟨wr.heap.size, 0, none⟩ 1 1 [.int .u8 ((q % 256 : Nat) : Int)] rfl rfl ?d1 ?d2 ?d3 ?d4 ?d5 ?_))
        case d1 => exact cell_one_new _ _ _
        case d2 => intro u hu; simp at hu; subst hu; rfl
        case d3 => unfold maxLen; omega
        case d4 => omega
        case d5 => simp; omega
        · intro v' w1 hown hgrow _
          have H1 : Hid (w1.ownsRow w.heap.size 5 1 v' (l.length + (k + 1)) (cells (l ++ Crc.le s (k + 1)))) := by
            show _
            rw [HL.out, ← List.append_assoc]
            exact own_snoc hown (Nat.le_refl _)
          have H2 : Hid (Below w.heap.size w w1) := (hb.alloc hbs _).grown hgrow (by simp; omega) (own_ge hown0)
          clear hown hgrow hb hown0
          go_wp2
          go_roundw
          case rel => exact ⟨k + 1, by omega, by go_num, by rw [HD.out]; go_num, fun h => absurd h (by omega), fun _ => H1.out, H2.out⟩
          case measure => simp [intOf]; omega
    · obtain rfl : k = n := by omega
      have hown0 := h1 (by omega)
      clear h0 h1
      go_wp2
      go_ret
      exact ⟨_, rfl, hown0, hb⟩

theorem le_maxLen {n : Nat} (h : n ≤ 140737488355328) : n ≤ maxLen := by unfold maxLen; omega

/-- what a sealing call answers: a new row that holds these bytes. -/
def Sealed (w : World) (m : List Nat) (e : Ending) (w' : World) : Prop :=
  ∃ a cap, e = .returned (.slice a m.length cap) ∧ m.length ≤ cap ∧ cap ≤ maxLen ∧ Row w' a m ∧ Below w.heap.size w w'

theorem sealed_of {w w' : World} {e : Ending} {v : Value} {n : Nat} {m : List Nat} (he : e = .returned v) (ho : w'.ownsRow w.heap.size 5 1 v n (cells m)) (hb : Below w.heap.size w w') (hm : ∀ x ∈ m, x < 256) (hl : m.length ≤ 140737488355328) :
    Sealed w m e w' := by
  obtain ⟨a, cap, rfl, h1, h2, h3⟩ := own_row ho hm (le_maxLen hl)
  exact ⟨a, cap, he, h1, h2, h3, hb⟩

def seal16 (l : List Nat) : List Nat := l ++ Crc.le (Crc.sum16 l) 2

def seal32 (l : List Nat) : List Nat := l ++ Crc.le (Crc.sum32 l) 4

theorem seal16_length (l : List Nat) : (seal16 l).length = l.length + 2 := by simp [seal16, Crc.le_length]

theorem seal32_length (l : List Nat) : (seal32 l).length = l.length + 4 := by simp [seal32, Crc.le_length]

theorem seal16_byte {l : List Nat} (h : ∀ x ∈ l, x < 256) : ∀ x ∈ seal16 l, x < 256 := by
  intro x hx
  rcases List.mem_append.1 hx with h1 | h1
  · exact h x h1
  · exact Crc.le_byte _ _ x h1

theorem seal32_byte {l : List Nat} (h : ∀ x ∈ l, x < 256) : ∀ x ∈ seal32 l, x < 256 := by
  intro x hx
  rcases List.mem_append.1 hx with h1 | h1
  · exact h x h1
  · exact Crc.le_byte _ _ x h1

set_option maxHeartbeats 400000 in
theorem seal16_any (a : Option Addr) (cap : Nat) (l : List Nat) (w : World) (hr : Row w a l) (hc : l.length ≤ cap) (hcm : cap ≤ maxLen) (hz : l.length ≤ 140737488351232) :
    Calls Tryd.prog 30 #[.slice a l.length cap] w (Sealed w (seal16 l)) := by
  have h16 := Crc.sum16_lt l hr.1
  have HR : Hid (Row w a l) := hr
  clear hr
  go_enter Tryd.func30, Tryd.ntmps30
  go_wp2_with fail
  refine (sum16_any _ _ _ _ HR.out).mono ?_
  rintro e w' ⟨rfl, rfl⟩
  go_wp2_with fail
  refine (seal_any a cap l (Crc.sum16 l) 2 (by omega) (by omega) (by omega) _ HR.out hc hcm hz).mono ?_
  rintro e w2 ⟨v, rfl, hown, hb⟩
  go_wp2
  go_ret
  exact sealed_of rfl hown hb (seal16_byte HR.out.1) (by rw [seal16_length]; omega)

set_option maxHeartbeats 400000 in
theorem seal32_any (a : Option Addr) (cap : Nat) (l : List Nat) (w : World) (hr : Row w a l) (hc : l.length ≤ cap) (hcm : cap ≤ maxLen) (hz : l.length ≤ 140737488351232) :
    Calls Tryd.prog 32 #[.slice a l.length cap] w (Sealed w (seal32 l)) := by
  have h32 := Crc.sum32_lt l hr.1
  have HR : Hid (Row w a l) := hr
  clear hr
  go_enter Tryd.func32, Tryd.ntmps32
  go_wp2_with fail
  refine (sum32_any _ _ _ _ HR.out).mono ?_
  rintro e w' ⟨rfl, rfl⟩
  go_wp2_with fail
  refine (seal_any a cap l (Crc.sum32 l) 4 (by omega) (by omega) (by omega) _ HR.out hc hcm hz).mono ?_
  rintro e w2 ⟨v, rfl, hown, hb⟩
  go_wp2
  go_ret
  exact sealed_of rfl hown hb (seal32_byte HR.out.1) (by rw [seal32_length]; omega)

theorem Row.take {w : World} {a : Option Addr} {l : List Nat} (h : Row w a l) (n : Nat) : Row w a (l.take n) := by
  obtain ⟨h1, h2, h3⟩ := h
  refine ⟨fun x hx => h1 x (List.mem_of_mem_take hx), Nat.le_trans (List.length_take_le' _ _) h2, fun h0 => ?_⟩
  have hlen : (l.take n).length ≤ l.length := List.length_take_le' _ _
  obtain ⟨b, off, rfl, hc⟩ := h3 (by omega)
  refine ⟨b, off, rfl, fun i hi => ?_⟩
  rw [hc i (by omega), List.getD_eq_getElem?_getD, List.getD_eq_getElem?_getD, List.getElem?_take_of_lt (by rw [List.length_take] at hi; omega)]

theorem take_len (l : List Nat) (k : Nat) : (l.take (l.length - k)).length = l.length - k := by rw [List.length_take]; omega

theorem equal_at (a b : Option Addr) (c d n k : Nat) (l m : List Nat) (hn : l.length = n) (hk : m.length = k) (r : Bool) (he : decide (l = m) = r) (w : World) (hr : Row w a l) (hs : Row w b m) :
    Calls Tryd.prog 24 #[.slice a n c, .slice b k d] w fun e w' => e = .returned (.bool r) ∧ w = w' := by
  subst hn hk he
  exact equal_any a b c d l m w hr hs

/-- what an opening call answers of bytes l: k: the bytes of a sum; f: how the document seals. -/
def Opened (w : World) (k : Nat) (f : List Nat → List Nat) (l : List Nat) (e : Ending) (w' : World) : Prop :=
  Below w.heap.size w w' ∧
  ((l.length < k ∧ e = .returned (.tuple #[.slice none 0 0, .int .i64 7])) ∨
   (k ≤ l.length ∧ f (l.take (l.length - k)) ≠ l ∧ e = .returned (.tuple #[.slice none 0 0, .int .i64 130])) ∨
   (k ≤ l.length ∧ f (l.take (l.length - k)) = l ∧ ∃ a, e = .returned (.tuple #[.slice a (l.length - k) (l.length - k), .int .i64 0]) ∧ Row w' a (l.take (l.length - k))))

theorem seal16_at (a : Option Addr) (n cap : Nat) (l : List Nat) (hn : l.length = n) (w : World) (hr : Row w a l) (hc : n ≤ cap) (hcm : cap ≤ maxLen) (hz : n ≤ 140737488351232) :
    Calls Tryd.prog 30 #[.slice a n cap] w (Sealed w (seal16 l)) := by
  subst hn
  exact seal16_any a cap l w hr hc hcm hz

theorem head16 {l : List Nat} (hk : 2 ≤ l.length) : (seal16 (l.take (l.length - 2))).length = l.length := by
  rw [seal16_length, take_len]; omega

set_option maxHeartbeats 1000000 in
theorem openWith16_any (a : Option Addr) (cap : Nat) (l : List Nat) (w : World) (hr : Row w a l) (hc : l.length ≤ cap) (_hcm : cap ≤ maxLen) (hz : l.length ≤ 140737488351234) :
    Calls Tryd.prog 58 #[.slice a l.length cap, .int .i64 2, .func (.func 30) #[] #[]] w (Opened w 2 seal16 l) := by
  have HR : Hid (Row w a l) := hr
  have hm := hr.2.1
  unfold maxLen at _hcm hm
  clear hr
  by_cases hl : l.length < 2
  · go_enter Tryd.func58, Tryd.ntmps58
    go_wp2
    go_ret2
    exact ⟨Below.refl _ _, .inl ⟨hl, rfl⟩⟩
  · have hkl : 2 ≤ l.length := by omega
    clear hl
    go_enter Tryd.func58, Tryd.ntmps58
    go_wp2_with fail
    refine (seal16_at _ _ _ (l.take (l.length - 2)) (take_len l 2) _ (HR.out.take _) (Nat.le_refl _) (le_maxLen (by omega)) (by omega)).mono ?_
    rintro e w1 ⟨a1, c1, rfl, h1, h2, r1, hb1⟩
    rw [head16 hkl] at h1 ⊢
    have R1 : Hid (Row w1 a l) := HR.out.later hb1
    have S1 : Hid (Row w1 a1 (seal16 (l.take (l.length - 2)))) := r1
    have B1 : Hid (Below w.heap.size w w1) := hb1
    have C1 : Hid (l.length ≤ c1) := h1
    unfold maxLen at h2
    clear r1 hb1
    by_cases hs : seal16 (l.take (l.length - 2)) = l
    · have HS : Hid (seal16 (l.take (l.length - 2)) = l) := hs
      have HE : Hid (decide (seal16 (l.take (l.length - 2)) = l) = true) := decide_eq_true hs
      clear hs
      go_wp2_with fail
      refine (equal_at _ _ _ _ _ _ (seal16 (l.take (l.length - 2))) l (head16 hkl) rfl true HE.out _ S1.out R1.out).mono ?_
      rintro e w2 ⟨rfl, rfl⟩
      go_wp2
      go_ret2
      refine ⟨B1.out, .inr (.inr ⟨hkl, HS.out, a1, rfl, ?_⟩)⟩
      have h3 : Row w1 a1 l := by rw [← HS.out]; exact S1.out
      exact h3.take _
    · have HS : Hid (seal16 (l.take (l.length - 2)) ≠ l) := hs
      have HE : Hid (decide (seal16 (l.take (l.length - 2)) = l) = false) := decide_eq_false hs
      clear hs
      go_wp2_with fail
      refine (equal_at _ _ _ _ _ _ (seal16 (l.take (l.length - 2))) l (head16 hkl) rfl false HE.out _ S1.out R1.out).mono ?_
      rintro e w2 ⟨rfl, rfl⟩
      go_wp2
      go_ret2
      exact ⟨B1.out, .inr (.inl ⟨hkl, HS.out, rfl⟩)⟩

set_option maxHeartbeats 400000 in
theorem open16_any (a : Option Addr) (cap : Nat) (l : List Nat) (w : World) (hr : Row w a l) (hc : l.length ≤ cap) (hcm : cap ≤ maxLen) (hz : l.length ≤ 140737488351234) :
    Calls Tryd.prog 40 #[.slice a l.length cap] w (Opened w 2 seal16 l) := by
  have HR : Hid (Row w a l) := hr
  have HM : Hid (cap ≤ maxLen) := hcm
  clear hr hcm
  go_enter Tryd.func40, Tryd.ntmps40
  go_wp2_with fail
  refine (openWith16_any _ _ _ _ HR.out hc HM.out hz).mono ?_
  rintro e w1 ⟨hb, ⟨h1, rfl⟩ | ⟨h1, h2, rfl⟩ | ⟨h1, h2, a1, rfl, r1⟩⟩
  · go_wp2
    go_ret2
    exact ⟨hb, .inl ⟨h1, rfl⟩⟩
  · have H2 : Hid (seal16 (l.take (l.length - 2)) ≠ l) := h2
    clear h2
    go_wp2
    go_ret2
    exact ⟨hb, .inr (.inl ⟨h1, H2.out, rfl⟩)⟩
  · have H2 : Hid (seal16 (l.take (l.length - 2)) = l) := h2
    have R1 : Hid (Row w1 a1 (l.take (l.length - 2))) := r1
    clear h2 r1
    go_wp2
    go_ret2
    exact ⟨hb, .inr (.inr ⟨h1, H2.out, a1, rfl, R1.out⟩)⟩

theorem seal32_at (a : Option Addr) (n cap : Nat) (l : List Nat) (hn : l.length = n) (w : World) (hr : Row w a l) (hc : n ≤ cap) (hcm : cap ≤ maxLen) (hz : n ≤ 140737488351232) :
    Calls Tryd.prog 32 #[.slice a n cap] w (Sealed w (seal32 l)) := by
  subst hn
  exact seal32_any a cap l w hr hc hcm hz

theorem head32 {l : List Nat} (hk : 4 ≤ l.length) : (seal32 (l.take (l.length - 4))).length = l.length := by
  rw [seal32_length, take_len]; omega

set_option maxHeartbeats 1000000 in
theorem openWith32_any (a : Option Addr) (cap : Nat) (l : List Nat) (w : World) (hr : Row w a l) (hc : l.length ≤ cap) (_hcm : cap ≤ maxLen) (hz : l.length ≤ 140737488351236) :
    Calls Tryd.prog 58 #[.slice a l.length cap, .int .i64 4, .func (.func 32) #[] #[]] w (Opened w 4 seal32 l) := by
  have HR : Hid (Row w a l) := hr
  have hm := hr.2.1
  unfold maxLen at _hcm hm
  clear hr
  by_cases hl : l.length < 4
  · go_enter Tryd.func58, Tryd.ntmps58
    go_wp2
    go_ret2
    exact ⟨Below.refl _ _, .inl ⟨hl, rfl⟩⟩
  · have hkl : 4 ≤ l.length := by omega
    clear hl
    go_enter Tryd.func58, Tryd.ntmps58
    go_wp2_with fail
    refine (seal32_at _ _ _ (l.take (l.length - 4)) (take_len l 4) _ (HR.out.take _) (Nat.le_refl _) (le_maxLen (by omega)) (by omega)).mono ?_
    rintro e w1 ⟨a1, c1, rfl, h1, h2, r1, hb1⟩
    rw [head32 hkl] at h1 ⊢
    have R1 : Hid (Row w1 a l) := HR.out.later hb1
    have S1 : Hid (Row w1 a1 (seal32 (l.take (l.length - 4)))) := r1
    have B1 : Hid (Below w.heap.size w w1) := hb1
    have C1 : Hid (l.length ≤ c1) := h1
    unfold maxLen at h2
    clear r1 hb1
    by_cases hs : seal32 (l.take (l.length - 4)) = l
    · have HS : Hid (seal32 (l.take (l.length - 4)) = l) := hs
      have HE : Hid (decide (seal32 (l.take (l.length - 4)) = l) = true) := decide_eq_true hs
      clear hs
      go_wp2_with fail
      refine (equal_at _ _ _ _ _ _ (seal32 (l.take (l.length - 4))) l (head32 hkl) rfl true HE.out _ S1.out R1.out).mono ?_
      rintro e w2 ⟨rfl, rfl⟩
      go_wp2
      go_ret2
      refine ⟨B1.out, .inr (.inr ⟨hkl, HS.out, a1, rfl, ?_⟩)⟩
      have h3 : Row w1 a1 l := by rw [← HS.out]; exact S1.out
      exact h3.take _
    · have HS : Hid (seal32 (l.take (l.length - 4)) ≠ l) := hs
      have HE : Hid (decide (seal32 (l.take (l.length - 4)) = l) = false) := decide_eq_false hs
      clear hs
      go_wp2_with fail
      refine (equal_at _ _ _ _ _ _ (seal32 (l.take (l.length - 4))) l (head32 hkl) rfl false HE.out _ S1.out R1.out).mono ?_
      rintro e w2 ⟨rfl, rfl⟩
      go_wp2
      go_ret2
      exact ⟨B1.out, .inr (.inl ⟨hkl, HS.out, rfl⟩)⟩

set_option maxHeartbeats 400000 in
theorem open32_any (a : Option Addr) (cap : Nat) (l : List Nat) (w : World) (hr : Row w a l) (hc : l.length ≤ cap) (hcm : cap ≤ maxLen) (hz : l.length ≤ 140737488351236) :
    Calls Tryd.prog 41 #[.slice a l.length cap] w (Opened w 4 seal32 l) := by
  have HR : Hid (Row w a l) := hr
  have HM : Hid (cap ≤ maxLen) := hcm
  clear hr hcm
  go_enter Tryd.func41, Tryd.ntmps41
  go_wp2_with fail
  refine (openWith32_any _ _ _ _ HR.out hc HM.out hz).mono ?_
  rintro e w1 ⟨hb, ⟨h1, rfl⟩ | ⟨h1, h2, rfl⟩ | ⟨h1, h2, a1, rfl, r1⟩⟩
  · go_wp2
    go_ret2
    exact ⟨hb, .inl ⟨h1, rfl⟩⟩
  · have H2 : Hid (seal32 (l.take (l.length - 4)) ≠ l) := h2
    clear h2
    go_wp2
    go_ret2
    exact ⟨hb, .inr (.inl ⟨h1, H2.out, rfl⟩)⟩
  · have H2 : Hid (seal32 (l.take (l.length - 4)) = l) := h2
    have R1 : Hid (Row w1 a1 (l.take (l.length - 4))) := r1
    clear h2 r1
    go_wp2
    go_ret2
    exact ⟨hb, .inr (.inr ⟨h1, H2.out, a1, rfl, R1.out⟩)⟩

end Go.Proofs.YtjfmgokpnpmdpaaDoor
