/- heliographref03: Sum, Seal, Opens. -/
import Derived.Test.YtjfmgokpnpmdpaaDoorKOpen
import Derived.Test.YtjfmgokpnpmdpaaDoorR01Same
namespace Go.Proofs.YtjfmgokpnpmdpaaDoor
open Go.RowKit
set_option linter.unusedVariables false
theorem same_at (a b : Option Addr) (c d n k : Nat) (l m : List Nat) (hn : l.length = n) (hk : m.length = k) (r : Bool) (he : decide (l = m) = r) (w : World) (hr : Row w a l) (hs : Row w b m) :
    Calls Tryd.prog 16 #[.slice a n c, .slice b k d] w fun e w' => e = .returned (.bool r) ∧ Below w.heap.size w w' := by
  subst hn hk he
  exact (rsame_any a b c d l m w hr hs).mono (by rintro e w' ⟨rfl, n, rfl⟩; exact ⟨rfl, below_drewN (Below.refl _ _) n⟩)
theorem odd_form (q p : Nat) (hq : q < 4294967296) (hp : p < 4294967296) (h : ((q : Int) % 2 == 1) = true) :
    bits BinOp.xor IntKind.u64 (IntKind.u64.wrap ((IntKind.u64.wrap ((q : Int) - 1)).tdiv 2)) (p : Int) = ((Crc.st p q : Nat) : Int) := by
  have h1 : (q : Int) % 2 = 1 := by simpa using h
  have h2 : q % 2 = 1 := by omega
  have h3 : IntKind.u64.wrap ((q : Int) - 1) = ((q - 1 : Nat) : Int) := by rw [IntKind.wrap_u64]; omega
  have h4 : ((q - 1 : Nat) : Int).tdiv 2 = ((q / 2 : Nat) : Int) := by
    rw [Int.tdiv_eq_ediv_of_nonneg (by omega)]; omega
  have h5 : IntKind.u64.wrap ((q / 2 : Nat) : Int) = ((q / 2 : Nat) : Int) := by rw [IntKind.wrap_u64]; omega
  rw [h3, h4, h5, Crc.st_odd _ _ h2]
  exact bits_xor_u64_nat _ _ (by omega) (by omega)

theorem even_form (q p : Nat) (hq : q < 4294967296) (h : ((q : Int) % 2 == 1) = false) : IntKind.u64.wrap ((q : Int) / 2) = ((Crc.st p q : Nat) : Int) := by
  have h1 : ¬ (q : Int) % 2 = 1 := by simpa using h
  rw [Crc.st_even _ _ (by omega), IntKind.wrap_u64]; omega

set_option maxHeartbeats 1000000 in
theorem ref16_any (a : Option Addr) (cap : Nat) (l : List Nat) (w : World) (hr : Row w a l) :
    Calls Tryd.prog 56 #[.slice a l.length cap, .int .i64 16] w fun e w' => e = .returned (.int .u64 (Crc.sum16 l : Nat)) ∧ w' = w := by
  obtain ⟨hb, hm, hr⟩ := hr
  unfold maxLen at hm
  go_enter Tryd.func56, Tryd.ntmps56
  go_wp2
  go_loop [7, 8] (fun v i => ∃ k : Nat, k ≤ l.length ∧ i = .int .i64 k ∧ v = .int .u64 (Crc.run 33800 65535 (l.take k) : Nat)) (fun _ i => l.length - (intOf i).toNat)
  case atStart => exact ⟨0, by omega, rfl, by rfl⟩
  case round =>
    obtain ⟨k, hk, rfl, rfl⟩ := hrel
    have hlt := Crc.run_lt 33800 65535 16 (by omega) (by omega) (by omega) (l.take k) (fun x hx => hb x (List.mem_of_mem_take hx))
    by_cases hkl : k < l.length
    · have HS : Hid (Crc.run 33800 65535 (l.take (k + 1)) = Crc.stn 33800 8 (Crc.run 33800 65535 (l.take k) ^^^ l.getD k 0)) := Crc.run_take _ _ _ _ hkl
      obtain ⟨b, off, rfl, hc⟩ := hr (by omega)
      have hcell := hc k hkl
      have hx : l.getD k 0 < 256 := getD_lt hb k
      clear hc hr
      generalize Crc.run 33800 65535 (l.take k) = r at hlt HS ⊢
      generalize l.getD k 0 = x at hcell hx HS ⊢
      have hrx : r ^^^ x < 2 ^ 16 := Nat.xor_lt_two_pow hlt (by omega)
      have HX : Hid (bits BinOp.xor IntKind.u64 (r : Int) (x : Int) = ((r ^^^ x : Nat) : Int)) := bits_xor_u64_nat r x (by omega) (by omega)
      go_wp2
      go_loop [7, 9] (fun v i => ∃ n : Nat, n ≤ 8 ∧ i = .int .i64 n ∧ v = .int .u64 (Crc.stn 33800 n (r ^^^ x) : Nat)) (fun _ i => 8 - (intOf i).toNat)
      case atStart => exact ⟨0, by omega, rfl, by rw [HX.out]; rfl⟩
      case round =>
        obtain ⟨n, hn, rfl, rfl⟩ := hrel
        have hql := Crc.stn_lt 33800 n (r ^^^ x) 16 (by omega) hrx
        by_cases hn8 : n < 8
        · have HN : Hid (Crc.stn 33800 (n + 1) (r ^^^ x) = Crc.st 33800 (Crc.stn 33800 n (r ^^^ x))) := Crc.stn_succ _ _ _
          generalize Crc.stn 33800 n (r ^^^ x) = q at hql HN ⊢
          have HQ : Hid (q < 2 ^ 16) := hql
          clear hql
          go_wp2
          · have ho : ((q : Int) % 2 == 1) = true := by assumption
            go_round
            case rel => exact ⟨n + 1, by omega, by go_num, by rw [HN.out]; exact congrArg _ (odd_form q 33800 (Nat.lt_of_lt_of_le HQ.out (by omega)) (by omega) ho)⟩
            case measure => simp [intOf]; omega
          · have ho : ((q : Int) % 2 == 1) = false := by assumption
            go_round
            case rel => exact ⟨n + 1, by omega, by go_num, by rw [HN.out]; exact congrArg _ (even_form q 33800 (Nat.lt_of_lt_of_le HQ.out (by omega)) ho)⟩
            case measure => simp [intOf]; omega
        · obtain rfl : n = 8 := by omega
          go_wp2
          go_round
          case rel => exact ⟨k + 1, by omega, by go_num, by rw [HS.out]⟩
          case measure => simp [intOf]; omega
    · obtain rfl : k = l.length := by omega
      have HF : Hid (bits BinOp.xor IntKind.u64 ((Crc.run 33800 65535 l : Nat) : Int) 65535 = ((Crc.sum16 l : Nat) : Int)) := by
        rw [List.take_length] at hlt
        unfold Crc.sum16
        rw [Nat.xor_comm]
        exact bits_xor_u64_nat _ 65535 (by omega) (by omega)
      go_wp2
      go_ret
      exact ⟨ret_int HF.out, rfl⟩

set_option maxHeartbeats 1000000 in
theorem ref32_any (a : Option Addr) (cap : Nat) (l : List Nat) (w : World) (hr : Row w a l) :
    Calls Tryd.prog 56 #[.slice a l.length cap, .int .i64 32] w fun e w' => e = .returned (.int .u64 (Crc.sum32 l : Nat)) ∧ w' = w := by
  obtain ⟨hb, hm, hr⟩ := hr
  unfold maxLen at hm
  go_enter Tryd.func56, Tryd.ntmps56
  go_wp2
  go_loop [7, 8] (fun v i => ∃ k : Nat, k ≤ l.length ∧ i = .int .i64 k ∧ v = .int .u64 (Crc.run 2197175160 4294967295 (l.take k) : Nat)) (fun _ i => l.length - (intOf i).toNat)
  case atStart => exact ⟨0, by omega, rfl, by rfl⟩
  case round =>
    obtain ⟨k, hk, rfl, rfl⟩ := hrel
    have hlt := Crc.run_lt 2197175160 4294967295 32 (by omega) (by omega) (by omega) (l.take k) (fun x hx => hb x (List.mem_of_mem_take hx))
    by_cases hkl : k < l.length
    · have HS : Hid (Crc.run 2197175160 4294967295 (l.take (k + 1)) = Crc.stn 2197175160 8 (Crc.run 2197175160 4294967295 (l.take k) ^^^ l.getD k 0)) := Crc.run_take _ _ _ _ hkl
      obtain ⟨b, off, rfl, hc⟩ := hr (by omega)
      have hcell := hc k hkl
      have hx : l.getD k 0 < 256 := getD_lt hb k
      clear hc hr
      generalize Crc.run 2197175160 4294967295 (l.take k) = r at hlt HS ⊢
      generalize l.getD k 0 = x at hcell hx HS ⊢
      have hrx : r ^^^ x < 2 ^ 32 := Nat.xor_lt_two_pow hlt (by omega)
      have HX : Hid (bits BinOp.xor IntKind.u64 (r : Int) (x : Int) = ((r ^^^ x : Nat) : Int)) := bits_xor_u64_nat r x (by omega) (by omega)
      go_wp2
      go_loop [7, 9] (fun v i => ∃ n : Nat, n ≤ 8 ∧ i = .int .i64 n ∧ v = .int .u64 (Crc.stn 2197175160 n (r ^^^ x) : Nat)) (fun _ i => 8 - (intOf i).toNat)
      case atStart => exact ⟨0, by omega, rfl, by rw [HX.out]; rfl⟩
      case round =>
        obtain ⟨n, hn, rfl, rfl⟩ := hrel
        have hql := Crc.stn_lt 2197175160 n (r ^^^ x) 32 (by omega) hrx
        by_cases hn8 : n < 8
        · have HN : Hid (Crc.stn 2197175160 (n + 1) (r ^^^ x) = Crc.st 2197175160 (Crc.stn 2197175160 n (r ^^^ x))) := Crc.stn_succ _ _ _
          generalize Crc.stn 2197175160 n (r ^^^ x) = q at hql HN ⊢
          have HQ : Hid (q < 2 ^ 32) := hql
          clear hql
          go_wp2
          · have ho : ((q : Int) % 2 == 1) = true := by assumption
            go_round
            case rel => exact ⟨n + 1, by omega, by go_num, by rw [HN.out]; exact congrArg _ (odd_form q 2197175160 (Nat.lt_of_lt_of_le HQ.out (by omega)) (by omega) ho)⟩
            case measure => simp [intOf]; omega
          · have ho : ((q : Int) % 2 == 1) = false := by assumption
            go_round
            case rel => exact ⟨n + 1, by omega, by go_num, by rw [HN.out]; exact congrArg _ (even_form q 2197175160 (Nat.lt_of_lt_of_le HQ.out (by omega)) ho)⟩
            case measure => simp [intOf]; omega
        · obtain rfl : n = 8 := by omega
          go_wp2
          go_round
          case rel => exact ⟨k + 1, by omega, by go_num, by rw [HS.out]⟩
          case measure => simp [intOf]; omega
    · obtain rfl : k = l.length := by omega
      have HF : Hid (bits BinOp.xor IntKind.u64 ((Crc.run 2197175160 4294967295 l : Nat) : Int) 4294967295 = ((Crc.sum32 l : Nat) : Int)) := by
        rw [List.take_length] at hlt
        unfold Crc.sum32
        rw [Nat.xor_comm]
        exact bits_xor_u64_nat _ 4294967295 (by omega) (by omega)
      go_wp2
      go_ret
      exact ⟨ret_int HF.out, rfl⟩

theorem own_take3 {w : World} {b b' n k : Nat} {v : Value} {l : List Nat} (hk : k < l.length) (h : w.ownsRow b 5 1 v n (cells (l.take k) ++ [Value.int .u8 ((l.getD k 0 : Nat) : Int)])) (hb : b' ≤ b) : w.ownsRow b' 5 1 v n (cells (l.take (k + 1))) := by
  rw [Crc.take_snoc l k hk, cells_append, cells_one]
  exact own_base h hb

set_option maxHeartbeats 1000000 in
theorem bothn_any (a : Option Addr) (cap : Nat) (l : List Nat) (w : World) (hr : Row w a l) (hz : l.length ≤ 140737488351232) :
    Calls Tryd.prog 37 #[.slice a l.length cap, .slice none 0 0] w fun e w' => ∃ v, e = .returned v ∧ w'.ownsRow w.heap.size 5 1 v l.length (cells l) ∧ Below w.heap.size w w' := by
  obtain ⟨i0, hi, hz0, hz1, hz2⟩ := info_parts Tryd.info5
  have hm := hr.2.1
  unfold maxLen at hm
  have HR : Hid (Row w a l) := hr
  clear hr
  go_enter Tryd.func37, Tryd.ntmps37
  go_wp2_with (at_make; go_must (refine wpList_make_own _ rfl (.const (.int .i64 0)) (.tmp 12) 23 rfl w.heap.size 5 i0 (.int .u8 0) 1 Tryd.underlying23 hi hz0 hz1 .i64 .i64 _ l.length rfl rfl ?a1 ?a2 ?a3 (Nat.le_refl _) ?_))
  case a1 => omega
  case a2 => rw [hz2]; omega
  case a3 => unfold maxLen; omega
  intro w1 hown1 hgrow1
  have hb1 : Below w.heap.size w w1 := (Below.refl _ _).grown hgrow1 (Nat.le_refl _) (by intro k h; cases h)
  have H1 : Hid (w1.ownsRow w.heap.size 5 1 (.slice (some ⟨w.heap.size, 0, none⟩) 0 l.length) 0 []) := hown1
  clear hown1 hgrow1
  go_wp2
  go_loopw [5, 6] (fun v i wr => ∃ k : Nat, k ≤ l.length ∧ i = .int .i64 k ∧ wr.ownsRow w.heap.size 5 1 v k (cells (l.take k)) ∧ Below w.heap.size w wr)
    (fun _ i _ => l.length - (intOf i).toNat)
  case atStart => exact ⟨0, by omega, rfl, H1.out, hb1⟩
  case round =>
    obtain ⟨k, hk, rfl, hown0, hb⟩ := hrel
    have hbs := hb.size
    clear hb1
    by_cases hkl : k < l.length
    · obtain ⟨b, off, rfl, hc⟩ := (HR.out.later hb).2.2 (by omega)
      have hcell := hc k hkl
      have HT : Hid (∀ (w' : World) (v' : Value), w'.ownsRow w.heap.size 5 1 v' (k + 1) (cells (l.take k) ++ [Value.int .u8 ((l.getD k 0 : Nat) : Int)]) → w'.ownsRow w.heap.size 5 1 v' (k + 1) (cells (l.take (k + 1)))) := fun w' v' h => own_take3 hkl h (Nat.le_refl _)
      clear hc
      generalize l.getD k 0 = x at hcell HT ⊢
      go_wp2_with (at_builtin; go_must (refine wpList_append_own _ rfl (.tmp 20) (.tmp 25) 23 rfl w.heap.size 5 i0 (.int .u8 0) 1 1 Tryd.underlying23 hi hz0 hz1 hz2 rfl (by decide) _ _ _ rfl (hown0.alloc _) ⟨wr.heap.size, 0, none⟩ 1 1 [.int .u8 (x : Int)] rfl rfl ?d1 ?d2 ?d3 ?d4 ?d5 ?_))
      case d1 => exact cell_one_new _ _ _
      case d2 => intro u hu; simp at hu; subst hu; rfl
      case d3 => unfold maxLen; omega
      case d4 => omega
      case d5 => simp; omega
      · intro v' w2 hown hgrow _
        have H2 : Hid (w2.ownsRow w.heap.size 5 1 v' (k + 1) (cells (l.take (k + 1)))) := HT.out _ _ hown
        have H3 : Hid (Below w.heap.size w w2) := (hb.alloc hbs _).grown hgrow (by simp; omega) (own_ge hown0)
        clear hown hgrow hb hown0
        go_wp2
        go_roundw
        case rel => exact ⟨k + 1, by omega, by go_num, H2.out, H3.out⟩
        case measure => simp [intOf]; omega
    · obtain rfl : k = l.length := by omega
      have H2 : Hid (wr.ownsRow w.heap.size 5 1 u5 l.length (cells l)) := by
        have := hown0
        rw [List.take_length] at this
        exact this
      clear hown0
      go_wp2
      refine wp_loop_rounds 1 ?_
      rw [rounds_succ]
      go_wp2
      go_ret
      exact ⟨_, rfl, H2.out, hb⟩

set_option maxRecDepth 20000 in
set_option maxHeartbeats 1000000 in
theorem refSeal16_any (a : Option Addr) (cap : Nat) (l : List Nat) (w : World) (hr : Row w a l) (hz : l.length ≤ 140737488351232) :
    Calls Tryd.prog 38 #[.slice a l.length cap, .int .i64 16] w (Sealed w (seal16 l)) := by
  obtain ⟨i0, hi, hz0, hz1, hz2⟩ := info_parts Tryd.info5
  have hm := hr.2.1
  unfold maxLen at hm
  have HS : Hid (Crc.sum16 l < 4294967296) := Nat.lt_of_lt_of_le (Crc.sum16_lt l hr.1) (by omega)
  have HR : Hid (Row w a l) := hr
  clear hr
  go_enter Tryd.func38, Tryd.ntmps38
  go_wp2_with fail
  refine (ref16_any _ _ _ _ HR.out).mono ?_
  rintro e w' ⟨rfl, rfl⟩
  go_wp2_with fail
  refine (bothn_any _ _ _ _ HR.out hz).mono ?_
  rintro e w1 ⟨v, rfl, hown1, hb1⟩
  have H1 : Hid (w1.ownsRow w'.heap.size 5 1 v l.length (cells l)) := hown1
  clear hown1
  go_wp2
  go_loopw [5, 6, 7] (fun u v i wr => ∃ k : Nat, k ≤ 2 ∧ i = .int .i64 ((8 * k : Nat) : Int) ∧ u = .int .u64 (Crc.sum16 l / 256 ^ k : Nat) ∧ wr.ownsRow w'.heap.size 5 1 v (l.length + k) (cells (l ++ Crc.le (Crc.sum16 l) k)) ∧ Below w'.heap.size w' wr)
    (fun _ _ i _ => 16 - (intOf i).toNat)
  case atStart => exact ⟨0, by omega, rfl, by simp, by simpa [Crc.le] using H1.out, hb1⟩
  case round =>
    obtain ⟨k, hk, rfl, rfl, hown0, hb⟩ := hrel
    clear hb1
    have hlt : Crc.sum16 l / 256 ^ k < 4294967296 := Nat.lt_of_le_of_lt (Nat.div_le_self _ _) HS.out
    have HD : Hid (Crc.sum16 l / 256 ^ (k + 1) = Crc.sum16 l / 256 ^ k / 256) := Crc.div_succ _ k
    have HL : Hid (Crc.le (Crc.sum16 l) (k + 1) = Crc.le (Crc.sum16 l) k ++ [Crc.sum16 l / 256 ^ k % 256]) := Crc.le_succ _ k
    generalize Crc.sum16 l / 256 ^ k = q at hlt HD HL ⊢
    have hbs := hb.size
    by_cases hkn : k < 2
    · go_wp2_with (at_builtin; go_must (refine wpList_append_own _ rfl (.tmp 18) (.tmp 22) 23 rfl w'.heap.size 5 i0 (.int .u8 0) 1 1 Tryd.underlying23 hi hz0 hz1 hz2 rfl (by decide) _ _ _ rfl (hown0.alloc _) ⟨wr.heap.size, 0, none⟩ 1 1 [.int .u8 ((q % 256 : Nat) : Int)] rfl rfl ?d1 ?d2 ?d3 ?d4 ?d5 ?_))
      case d1 => exact cell_one_new _ _ _
      case d2 => intro u hu; simp at hu; subst hu; rfl
      case d3 => unfold maxLen; omega
      case d4 => omega
      case d5 => simp; omega
      · intro v' w2 hown hgrow _
        have H2 : Hid (w2.ownsRow w'.heap.size 5 1 v' (l.length + (k + 1)) (cells (l ++ Crc.le (Crc.sum16 l) (k + 1)))) := by
          show _
          rw [HL.out, ← List.append_assoc]
          exact own_snoc hown (Nat.le_refl _)
        have H3 : Hid (Below w'.heap.size w' w2) := (hb.alloc hbs _).grown hgrow (by simp; omega) (own_ge hown0)
        clear hown hgrow hb hown0
        go_wp2
        go_roundw
        case rel => exact ⟨k + 1, by omega, by go_num, by rw [HD.out]; go_num, H2.out, H3.out⟩
        case measure => simp [intOf]; omega
    · obtain rfl : k = 2 := by omega
      go_wp2
      go_ret
      exact sealed_of rfl hown0 hb (seal16_byte HR.out.1) (by rw [seal16_length]; omega)

set_option maxRecDepth 20000 in
set_option maxHeartbeats 1000000 in
theorem refSeal32_any (a : Option Addr) (cap : Nat) (l : List Nat) (w : World) (hr : Row w a l) (hz : l.length ≤ 140737488351232) :
    Calls Tryd.prog 38 #[.slice a l.length cap, .int .i64 32] w (Sealed w (seal32 l)) := by
  obtain ⟨i0, hi, hz0, hz1, hz2⟩ := info_parts Tryd.info5
  have hm := hr.2.1
  unfold maxLen at hm
  have HS : Hid (Crc.sum32 l < 4294967296) := Nat.lt_of_lt_of_le (Crc.sum32_lt l hr.1) (by omega)
  have HR : Hid (Row w a l) := hr
  clear hr
  go_enter Tryd.func38, Tryd.ntmps38
  go_wp2_with fail
  refine (ref32_any _ _ _ _ HR.out).mono ?_
  rintro e w' ⟨rfl, rfl⟩
  go_wp2_with fail
  refine (bothn_any _ _ _ _ HR.out hz).mono ?_
  rintro e w1 ⟨v, rfl, hown1, hb1⟩
  have H1 : Hid (w1.ownsRow w'.heap.size 5 1 v l.length (cells l)) := hown1
  clear hown1
  go_wp2
  go_loopw [5, 6, 7] (fun u v i wr => ∃ k : Nat, k ≤ 4 ∧ i = .int .i64 ((8 * k : Nat) : Int) ∧ u = .int .u64 (Crc.sum32 l / 256 ^ k : Nat) ∧ wr.ownsRow w'.heap.size 5 1 v (l.length + k) (cells (l ++ Crc.le (Crc.sum32 l) k)) ∧ Below w'.heap.size w' wr)
    (fun _ _ i _ => 32 - (intOf i).toNat)
  case atStart => exact ⟨0, by omega, rfl, by simp, by simpa [Crc.le] using H1.out, hb1⟩
  case round =>
    obtain ⟨k, hk, rfl, rfl, hown0, hb⟩ := hrel
    clear hb1
    have hlt : Crc.sum32 l / 256 ^ k < 4294967296 := Nat.lt_of_le_of_lt (Nat.div_le_self _ _) HS.out
    have HD : Hid (Crc.sum32 l / 256 ^ (k + 1) = Crc.sum32 l / 256 ^ k / 256) := Crc.div_succ _ k
    have HL : Hid (Crc.le (Crc.sum32 l) (k + 1) = Crc.le (Crc.sum32 l) k ++ [Crc.sum32 l / 256 ^ k % 256]) := Crc.le_succ _ k
    generalize Crc.sum32 l / 256 ^ k = q at hlt HD HL ⊢
    have hbs := hb.size
    by_cases hkn : k < 4
    · go_wp2_with (at_builtin; go_must (refine wpList_append_own _ rfl (.tmp 18) (.tmp 22) 23 rfl w'.heap.size 5 i0 (.int .u8 0) 1 1 Tryd.underlying23 hi hz0 hz1 hz2 rfl (by decide) _ _ _ rfl (hown0.alloc _) ⟨wr.heap.size, 0, none⟩ 1 1 [.int .u8 ((q % 256 : Nat) : Int)] rfl rfl ?d1 ?d2 ?d3 ?d4 ?d5 ?_))
      case d1 => exact cell_one_new _ _ _
      case d2 => intro u hu; simp at hu; subst hu; rfl
      case d3 => unfold maxLen; omega
      case d4 => omega
      case d5 => simp; omega
      · intro v' w2 hown hgrow _
        have H2 : Hid (w2.ownsRow w'.heap.size 5 1 v' (l.length + (k + 1)) (cells (l ++ Crc.le (Crc.sum32 l) (k + 1)))) := by
          show _
          rw [HL.out, ← List.append_assoc]
          exact own_snoc hown (Nat.le_refl _)
        have H3 : Hid (Below w'.heap.size w' w2) := (hb.alloc hbs _).grown hgrow (by simp; omega) (own_ge hown0)
        clear hown hgrow hb hown0
        go_wp2
        go_roundw
        case rel => exact ⟨k + 1, by omega, by go_num, by rw [HD.out]; go_num, H2.out, H3.out⟩
        case measure => simp [intOf]; omega
    · obtain rfl : k = 4 := by omega
      go_wp2
      go_ret
      exact sealed_of rfl hown0 hb (seal32_byte HR.out.1) (by rw [seal32_length]; omega)

theorem refSeal16_at (a : Option Addr) (n cap : Nat) (l : List Nat) (hn : l.length = n) (w : World) (hr : Row w a l) (hz : n ≤ 140737488351232) :
    Calls Tryd.prog 38 #[.slice a n cap, .int .i64 16] w (Sealed w (seal16 l)) := by
  subst hn
  exact refSeal16_any a cap l w hr hz

set_option maxHeartbeats 1000000 in
theorem refOpens16_any (a : Option Addr) (cap : Nat) (l : List Nat) (w : World) (hr : Row w a l) (hc : l.length ≤ cap) (hz : l.length ≤ 140737488351232) (hkl : 2 ≤ l.length) (r : Bool) (he : decide (seal16 (l.take (l.length - 2)) = l) = r) :
    Calls Tryd.prog 44 #[.slice a l.length cap, .int .i64 16] w fun e w' => e = .returned (.bool r) ∧ Below w.heap.size w w' := by
  have HR : Hid (Row w a l) := hr
  have hm := hr.2.1
  have HE : Hid (decide (seal16 (l.take (l.length - 2)) = l) = r) := he
  unfold maxLen at hm
  clear hr he
  go_enter Tryd.func44, Tryd.ntmps44
  go_wp2_with fail
  refine (refSeal16_at _ _ _ (l.take (l.length - 2)) (take_len l 2) _ (HR.out.take _) (by omega)).mono ?_
  rintro e w1 ⟨a1, c1, rfl, h1, h2, r1, hb1⟩
  rw [head16 hkl]
  have R1 : Hid (Row w1 a l) := HR.out.later hb1
  have S1 : Hid (Row w1 a1 (seal16 (l.take (l.length - 2)))) := r1
  have B1 : Hid (Below w.heap.size w w1) := hb1
  clear r1 hb1 h1 h2
  go_wp2_with fail
  refine (same_at _ _ _ _ _ _ (seal16 (l.take (l.length - 2))) l (head16 hkl) rfl r HE.out _ S1.out R1.out).mono ?_
  rintro e w2 ⟨rfl, hb2⟩
  go_wp2
  go_ret
  exact ⟨rfl, below_of B1.out hb2⟩

theorem refSeal32_at (a : Option Addr) (n cap : Nat) (l : List Nat) (hn : l.length = n) (w : World) (hr : Row w a l) (hz : n ≤ 140737488351232) :
    Calls Tryd.prog 38 #[.slice a n cap, .int .i64 32] w (Sealed w (seal32 l)) := by
  subst hn
  exact refSeal32_any a cap l w hr hz

set_option maxHeartbeats 1000000 in
theorem refOpens32_any (a : Option Addr) (cap : Nat) (l : List Nat) (w : World) (hr : Row w a l) (hc : l.length ≤ cap) (hz : l.length ≤ 140737488351232) (hkl : 4 ≤ l.length) (r : Bool) (he : decide (seal32 (l.take (l.length - 4)) = l) = r) :
    Calls Tryd.prog 44 #[.slice a l.length cap, .int .i64 32] w fun e w' => e = .returned (.bool r) ∧ Below w.heap.size w w' := by
  have HR : Hid (Row w a l) := hr
  have hm := hr.2.1
  have HE : Hid (decide (seal32 (l.take (l.length - 4)) = l) = r) := he
  unfold maxLen at hm
  clear hr he
  go_enter Tryd.func44, Tryd.ntmps44
  go_wp2_with fail
  refine (refSeal32_at _ _ _ (l.take (l.length - 4)) (take_len l 4) _ (HR.out.take _) (by omega)).mono ?_
  rintro e w1 ⟨a1, c1, rfl, h1, h2, r1, hb1⟩
  rw [head32 hkl]
  have R1 : Hid (Row w1 a l) := HR.out.later hb1
  have S1 : Hid (Row w1 a1 (seal32 (l.take (l.length - 4)))) := r1
  have B1 : Hid (Below w.heap.size w w1) := hb1
  clear r1 hb1 h1 h2
  go_wp2_with fail
  refine (same_at _ _ _ _ _ _ (seal32 (l.take (l.length - 4))) l (head32 hkl) rfl r HE.out _ S1.out R1.out).mono ?_
  rintro e w2 ⟨rfl, hb2⟩
  go_wp2
  go_ret
  exact ⟨rfl, below_of B1.out hb2⟩

end Go.Proofs.YtjfmgokpnpmdpaaDoor
