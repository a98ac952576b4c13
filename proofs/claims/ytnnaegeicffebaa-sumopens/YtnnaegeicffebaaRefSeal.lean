/- The walks of the reference's Both (of bytes and nil), Seal and Same. -/
import Derived.Test.YtnnaegeicffebaaSeal
import Derived.Test.YtnnaegeicffebaaRefs
import Derived.Deep.QuietTactic
import Derived.BigQuiet
namespace Go.Proofs.Ytnnaegeicffebaa
open Go.RowKit

theorem own_take {w : World} {b b' n k : Nat} {v : Value} {l : List Nat} (hk : k < l.length) (h : w.ownsRow b 5 1 v n (cells (l.take k) ++ [Value.int .u8 ((l.getD k 0 : Nat) : Int)])) (hb : b' ≤ b) : w.ownsRow b' 5 1 v n (cells (l.take (k + 1))) := by
  rw [Crc.take_snoc l k hk, cells_append, cells_one]
  exact own_base h hb

set_option maxHeartbeats 1000000 in
theorem both_any (a : Option Addr) (cap : Nat) (l : List Nat) (w : World) (hr : Row w a l) (hz : l.length ≤ 140737488351232) :
    Calls Try.prog 13 #[.slice a l.length cap, .slice none 0 0] w fun e w' => ∃ v, e = .returned v ∧ w'.ownsRow w.heap.size 5 1 v l.length (cells l) ∧ Below w.heap.size w w' := by
  obtain ⟨i0, hi, hz0, hz1, hz2⟩ := info_parts Try.info5
  have hm := hr.2.1
  unfold maxLen at hm
  have HR : Hid (Row w a l) := hr
  clear hr
  go_enter Try.func13, Try.ntmps13
  go_wp2_with (at_make; go_must (refine wpList_make_own _ rfl (.const (.int .i64 0)) (.tmp 12) 22 rfl w.heap.size 5 i0 (.int .u8 0) 1 Try.underlying22 hi hz0 hz1 .i64 .i64 _ l.length rfl rfl ?a1 ?a2 ?a3 (Nat.le_refl _) ?_))
  case a1 => omega
  case a2 => rw [hz2]; omega
  case a3 => unfold maxLen; omega
  intro w1 hown1 hgrow1
  have hb1 : Below w.heap.size w w1 := (Below.refl _ _).grown hgrow1 (Nat.le_refl _) (by intro k h; cases h)
  have H1 : Hid (w1.ownsRow w.heap.size 5 1 (.slice (some ⟨w.heap.size, 0, none⟩) 0 l.length) 0 []) := hown1
  clear hown1 hgrow1
  go_wp2
  go_loopw [5, 6] (fun v i wr => ∃ k : Nat, k ≤ l.length ∧ i = .int .i64 k ∧ wr.ownsRow w.heap.size 5 1 v k (cells (l.take k)) ∧ Below w.heap.size w wr)
    (fun _ i _ => l.length - (intOf i).toNat)
  case atStart => exact ⟨0, by omega, rfl, H1.out, hb1⟩
  case round =>
    obtain ⟨k, hk, rfl, hown0, hb⟩ := hrel
    have hbs := hb.size
    clear hb1
    by_cases hkl : k < l.length
    · obtain ⟨b, off, rfl, hc⟩ := (HR.out.later hb).2.2 (by omega)
      have hcell := hc k hkl
      have HT : Hid (∀ (w' : World) (v' : Value), w'.ownsRow w.heap.size 5 1 v' (k + 1) (cells (l.take k) ++ [Value.int .u8 ((l.getD k 0 : Nat) : Int)]) → w'.ownsRow w.heap.size 5 1 v' (k + 1) (cells (l.take (k + 1)))) := fun w' v' h => own_take hkl h (Nat.le_refl _)
      clear hc
      generalize l.getD k 0 = x at hcell HT ⊢
      go_wp2_with (at_builtin; go_must (refine wpList_append_own _ rfl (.tmp 20) (.tmp 25) 22 rfl w.heap.size 5 i0 (.int .u8 0) 1 1 Try.underlying22 hi hz0 hz1 hz2 rfl (by decide) _ _ _ rfl (hown0.alloc _) ⟨wr.heap.size, 0, none⟩ 1 1 [.int .u8 (x : Int)] rfl rfl ?d1 ?d2 ?d3 ?d4 ?d5 ?_))
      case d1 => exact cell_one_new _ _ _
      case d2 => intro u hu; simp at hu; subst hu; rfl
      case d3 => unfold maxLen; omega
      case d4 => omega
      case d5 => simp; omega
      · intro v' w2 hown hgrow _
        have H2 : Hid (w2.ownsRow w.heap.size 5 1 v' (k + 1) (cells (l.take (k + 1)))) := HT.out _ _ hown
        have H3 : Hid (Below w.heap.size w w2) := (hb.alloc hbs _).grown hgrow (by simp; omega) (own_ge hown0)
        clear hown hgrow hb hown0
        go_wp2
        go_roundw
        case rel => exact ⟨k + 1, by omega, by go_num, H2.out, H3.out⟩
        case measure => simp [intOf]; omega
    · obtain rfl : k = l.length := by omega
      have H2 : Hid (wr.ownsRow w.heap.size 5 1 u5 l.length (cells l)) := by
        have := hown0
        rw [List.take_length] at this
        exact this
      clear hown0
      go_wp2
      refine wp_loop_rounds 1 ?_
      rw [rounds_succ]
      go_wp2
      go_ret
      exact ⟨_, rfl, H2.out, hb⟩

set_option maxHeartbeats 1000000 in
theorem refSeal16_any (a : Option Addr) (cap : Nat) (l : List Nat) (w : World) (hr : Row w a l) (hz : l.length ≤ 140737488351232) :
    Calls Try.prog 16 #[.slice a l.length cap, .int .i64 16] w (Sealed w (seal16 l)) := by
  obtain ⟨i0, hi, hz0, hz1, hz2⟩ := info_parts Try.info5
  have hm := hr.2.1
  unfold maxLen at hm
  have HS : Hid (Crc.sum16 l < 4294967296) := Nat.lt_of_lt_of_le (Crc.sum16_lt l hr.1) (by omega)
  have HR : Hid (Row w a l) := hr
  clear hr
  go_enter Try.func16, Try.ntmps16
  go_wp2_with fail
  refine (ref16_any _ _ _ _ HR.out).mono ?_
  rintro e w' ⟨rfl, rfl⟩
  go_wp2_with fail
  refine (both_any _ _ _ _ HR.out hz).mono ?_
  rintro e w1 ⟨v, rfl, hown1, hb1⟩
  have H1 : Hid (w1.ownsRow w'.heap.size 5 1 v l.length (cells l)) := hown1
  clear hown1
  go_wp2
  go_loopw [5, 6, 7] (fun u v i wr => ∃ k : Nat, k ≤ 2 ∧ i = .int .i64 ((8 * k : Nat) : Int) ∧ u = .int .u64 (Crc.sum16 l / 256 ^ k : Nat) ∧ wr.ownsRow w'.heap.size 5 1 v (l.length + k) (cells (l ++ Crc.le (Crc.sum16 l) k)) ∧ Below w'.heap.size w' wr)
    (fun _ _ i _ => 16 - (intOf i).toNat)
  case atStart => exact ⟨0, by omega, rfl, by simp, by simpa [Crc.le] using H1.out, hb1⟩
  case round =>
    obtain ⟨k, hk, rfl, rfl, hown0, hb⟩ := hrel
    clear hb1
    have hlt : Crc.sum16 l / 256 ^ k < 4294967296 := Nat.lt_of_le_of_lt (Nat.div_le_self _ _) HS.out
    have HD : Hid (Crc.sum16 l / 256 ^ (k + 1) = Crc.sum16 l / 256 ^ k / 256) := Crc.div_succ _ k
    have HL : Hid (Crc.le (Crc.sum16 l) (k + 1) = Crc.le (Crc.sum16 l) k ++ [Crc.sum16 l / 256 ^ k % 256]) := Crc.le_succ _ k
    generalize Crc.sum16 l / 256 ^ k = q at hlt HD HL ⊢
    have hbs := hb.size
    by_cases hkn : k < 2
    · go_wp2_with (at_builtin; go_must (refine wpList_append_own _ rfl (.tmp 18) (.tmp 22) 22 rfl w'.heap.size 5 i0 (.int .u8 0) 1 1 Try.underlying22 hi hz0 hz1 hz2 rfl (by decide) _ _ _ rfl (hown0.alloc _) ⟨wr.heap.size, 0, none⟩ 1 1 [.int .u8 ((q % 256 : Nat) : Int)] rfl rfl ?d1 ?d2 ?d3 ?d4 ?d5 ?_))
      case d1 => exact cell_one_new _ _ _
      case d2 => intro u hu; simp at hu; subst hu; rfl
      case d3 => unfold maxLen; omega
      case d4 => omega
      case d5 => simp; omega
      · intro v' w2 hown hgrow _
        have H2 : Hid (w2.ownsRow w'.heap.size 5 1 v' (l.length + (k + 1)) (cells (l ++ Crc.le (Crc.sum16 l) (k + 1)))) := by
          show _
          rw [HL.out, ← List.append_assoc]
          exact own_snoc hown (Nat.le_refl _)
        have H3 : Hid (Below w'.heap.size w' w2) := (hb.alloc hbs _).grown hgrow (by simp; omega) (own_ge hown0)
        clear hown hgrow hb hown0
        go_wp2
        go_roundw
        case rel => exact ⟨k + 1, by omega, by go_num, by rw [HD.out]; go_num, H2.out, H3.out⟩
        case measure => simp [intOf]; omega
    · obtain rfl : k = 2 := by omega
      go_wp2
      go_ret
      exact sealed_of rfl hown0 hb (seal16_byte HR.out.1) (by rw [seal16_length]; omega)

set_option maxHeartbeats 1000000 in
theorem refSeal32_any (a : Option Addr) (cap : Nat) (l : List Nat) (w : World) (hr : Row w a l) (hz : l.length ≤ 140737488351232) :
    Calls Try.prog 16 #[.slice a l.length cap, .int .i64 32] w (Sealed w (seal32 l)) := by
  obtain ⟨i0, hi, hz0, hz1, hz2⟩ := info_parts Try.info5
  have hm := hr.2.1
  unfold maxLen at hm
  have HS : Hid (Crc.sum32 l < 4294967296) := Nat.lt_of_lt_of_le (Crc.sum32_lt l hr.1) (by omega)
  have HR : Hid (Row w a l) := hr
  clear hr
  go_enter Try.func16, Try.ntmps16
  go_wp2_with fail
  refine (ref32_any _ _ _ _ HR.out).mono ?_
  rintro e w' ⟨rfl, rfl⟩
  go_wp2_with fail
  refine (both_any _ _ _ _ HR.out hz).mono ?_
  rintro e w1 ⟨v, rfl, hown1, hb1⟩
  have H1 : Hid (w1.ownsRow w'.heap.size 5 1 v l.length (cells l)) := hown1
  clear hown1
  go_wp2
  go_loopw [5, 6, 7] (fun u v i wr => ∃ k : Nat, k ≤ 4 ∧ i = .int .i64 ((8 * k : Nat) : Int) ∧ u = .int .u64 (Crc.sum32 l / 256 ^ k : Nat) ∧ wr.ownsRow w'.heap.size 5 1 v (l.length + k) (cells (l ++ Crc.le (Crc.sum32 l) k)) ∧ Below w'.heap.size w' wr)
    (fun _ _ i _ => 32 - (intOf i).toNat)
  case atStart => exact ⟨0, by omega, rfl, by simp, by simpa [Crc.le] using H1.out, hb1⟩
  case round =>
    obtain ⟨k, hk, rfl, rfl, hown0, hb⟩ := hrel
    clear hb1
    have hlt : Crc.sum32 l / 256 ^ k < 4294967296 := Nat.lt_of_le_of_lt (Nat.div_le_self _ _) HS.out
    have HD : Hid (Crc.sum32 l / 256 ^ (k + 1) = Crc.sum32 l / 256 ^ k / 256) := Crc.div_succ _ k
    have HL : Hid (Crc.le (Crc.sum32 l) (k + 1) = Crc.le (Crc.sum32 l) k ++ [Crc.sum32 l / 256 ^ k % 256]) := Crc.le_succ _ k
    generalize Crc.sum32 l / 256 ^ k = q at hlt HD HL ⊢
    have hbs := hb.size
    by_cases hkn : k < 4
    · go_wp2_with (at_builtin; go_must (refine wpList_append_own _ rfl (.tmp 18) (.tmp 22) 22 rfl w'.heap.size 5 i0 (.int .u8 0) 1 1 Try.underlying22 hi hz0 hz1 hz2 rfl (by decide) _ _ _ rfl (hown0.alloc _) ⟨wr.heap.size, 0, none⟩ 1 1 [.int .u8 ((q % 256 : Nat) : Int)] rfl rfl ?d1 ?d2 ?d3 ?d4 ?d5 ?_))
      case d1 => exact cell_one_new _ _ _
      case d2 => intro u hu; simp at hu; subst hu; rfl
      case d3 => unfold maxLen; omega
      case d4 => omega
      case d5 => simp; omega
      · intro v' w2 hown hgrow _
        have H2 : Hid (w2.ownsRow w'.heap.size 5 1 v' (l.length + (k + 1)) (cells (l ++ Crc.le (Crc.sum32 l) (k + 1)))) := by
          show _
          rw [HL.out, ← List.append_assoc]
          exact own_snoc hown (Nat.le_refl _)
        have H3 : Hid (Below w'.heap.size w' w2) := (hb.alloc hbs _).grown hgrow (by simp; omega) (own_ge hown0)
        clear hown hgrow hb hown0
        go_wp2
        go_roundw
        case rel => exact ⟨k + 1, by omega, by go_num, by rw [HD.out]; go_num, H2.out, H3.out⟩
        case measure => simp [intOf]; omega
    · obtain rfl : k = 4 := by omega
      go_wp2
      go_ret
      exact sealed_of rfl hown0 hb (seal32_byte HR.out.1) (by rw [seal32_length]; omega)
end Go.Proofs.Ytnnaegeicffebaa
