/- The walk of the law's own turned: which bits of the bytes it turns, in new memory. -/
import Derived.Test.YtnnaegeicffebaaSeal
import Derived.Test.YtnnaegeicffebaaBurst
import Derived.Deep.Cut
namespace Go.Proofs.Ytnnaegeicffebaa
open Go.RowKit

theorem empty_own (w : World) : (w.alloc (.cells #[] 5)).ownsRow w.heap.size 5 1 (.slice (some ⟨w.heap.size, 0, none⟩) 0 0) 0 [] := by
  refine ⟨rfl, .inr ⟨w.heap.size, 0, #[], rfl, Nat.le_refl _, ?_, Nat.le_refl _, Nat.zero_le _, rfl, rfl⟩⟩
  show (w.heap.push _)[w.heap.size]? = _
  simp

theorem own_shape {w : World} {b n : Nat} {v : Value} {xs : List Value} (h : w.ownsRow b 5 1 v n xs) (hn : 0 < n) : ∃ g cap, v = .slice (some ⟨g, 0, none⟩) n cap ∧ b ≤ g := by
  rcases h.2 with ⟨_, h0⟩ | ⟨g, cap, cur, rfl, a2, _⟩
  · omega
  · exact ⟨g, cap, rfl, a2⟩

theorem bit_form (mask j : Nat) (hm : mask < 18446744073709551616) : bits BinOp.and IntKind.u64 ((mask : Int) / 2 ^ j) 1 = ((mask / 2 ^ j % 2 : Nat) : Int) := by
  have h1 : (mask : Int) / 2 ^ j = ((mask / 2 ^ j : Nat) : Int) := by
    rw [Int.natCast_ediv]; simp
  have h2 := u64_and_nat (mask / 2 ^ j) 1 (Nat.lt_of_le_of_lt (Nat.div_le_self _ _) hm) (by omega)
  rw [h1]
  rw [Nat.and_one_is_mod] at h2
  exact h2

theorem cells_set (m : List Nat) (q y : Nat) : cells (m.set q y) = (cells m).set q (Value.int .u8 (y : Nat)) := by
  unfold cells
  rw [List.map_set]

theorem byte_form (x r : Nat) (hx : x < 256) (hr : r < 8) : bits BinOp.xor IntKind.u8 (x : Int) (2 ^ r % 256) = ((x ^^^ 2 ^ r : Nat) : Int) := by
  have h1 : 2 ^ r < 256 := Nat.pow_lt_pow_right (by omega) hr
  have h2 : ((2 : Int) ^ r) % 256 = ((2 ^ r : Nat) : Int) := by
    have h3 : ((2 ^ r : Nat) : Int) = (2 : Int) ^ r := by simp
    rw [← h3]
    exact Int.emod_eq_of_lt (Int.natCast_nonneg _) (Int.ofNat_lt.2 h1)
  rw [h2]
  exact u8_xor_nat x (2 ^ r) hx h1

theorem own_cell {w : World} {b g cap n : Nat} {m : List Nat} (h : w.ownsRow b 5 1 (.slice (some ⟨g, 0, none⟩) n cap) n (cells m)) (q : Nat) (hn : m.length = n) (hq : q < n) : w.cell? ⟨g, q, none⟩ = some (.int .u8 (m.getD q 0 : Nat)) := by
  rw [h.cellAt q (by omega)]
  unfold cells
  rw [List.getElem?_map, List.getD_eq_getElem?_getD, List.getElem?_eq_getElem (by omega)]
  rfl

/-- the bytes behind one turned bit. -/
theorem turn_val (l m : List Nat) (mask j k : Nat) (hm : ∀ x ∈ m, x < 256) (hl : m.length = l.length) (hin : k + j < 8 * l.length) (hbit : mask / 2 ^ j % 2 = 1)
    (hv : Crc.val m = Crc.val l ^^^ (Crc.mk mask j (8 * l.length - k) * 2 ^ k)) :
    Crc.val (m.set ((k + j) / 8) (m.getD ((k + j) / 8) 0 ^^^ 2 ^ ((k + j) % 8))) = Crc.val l ^^^ (Crc.mk mask (j + 1) (8 * l.length - k) * 2 ^ k) := by
  have h1 : 2 ^ ((k + j) % 8) < 256 := Nat.pow_lt_pow_right (n := 8) (by omega) (Nat.mod_lt _ (by omega))
  rw [Crc.val_set m hm _ _ (by omega) h1, hv, (Crc.mk_set mask j (8 * l.length - k) (by omega) hbit).1, Crc.xor_mul, Nat.xor_assoc, ← Nat.pow_add, ← Nat.pow_add]
  rw [show (k + j) % 8 + 8 * ((k + j) / 8) = j + k by omega]

set_option maxHeartbeats 1000000 in
theorem turned_any (a : Option Addr) (cap : Nat) (l : List Nat) (at0 : Int) (mask n : Nat) (w : World) (hr : Row w a l) (h0 : 0 < l.length) (hz : l.length ≤ 6000) (hn : n ≤ 64) (k : Nat) (hk : (k : Int) = max at0 0 % (8 * (l.length : Int))) (hmask : mask < 18446744073709551616) (ha : -9223372036854775808 ≤ at0) (hb : at0 ≤ 9223372036854775807) :
    Calls Try.prog 22 #[.slice a l.length cap, .int .i64 at0, .int .u64 mask, .int .i64 n] w fun e w' => ∃ (a' : Option Addr) (c' : Nat) (m : List Nat),
      e = .returned (.tuple #[.slice a' l.length c', .bool (decide (Crc.mk mask n (8 * l.length - k) ≠ 0))]) ∧ m.length = l.length ∧ Crc.val m = Crc.val l ^^^ (Crc.mk mask n (8 * l.length - k) * 2 ^ k) ∧
      l.length ≤ c' ∧ c' ≤ maxLen ∧ Row w' a' m ∧ Below w.heap.size w w' := by
  obtain ⟨i0, hi, hz0, hz1, hz2⟩ := info_parts Try.info5
  obtain ⟨b, off, rfl, hc⟩ := hr.2.2 h0
  have HR : Hid (Row w (some ⟨b, off, none⟩) l) := hr
  clear hr hc
  have HK : Hid ((k : Int) = max at0 0 % (8 * (l.length : Int))) := hk
  have hk8 : k < 8 * l.length := by
    have h1 : 0 ≤ max at0 0 % (8 * (l.length : Int)) := Int.emod_nonneg _ (by omega)
    have h2 : max at0 0 % (8 * (l.length : Int)) < 8 * (l.length : Int) := Int.emod_lt_of_pos _ (by omega)
    omega
  clear hk
  go_enter Try.func22, Try.ntmps22
  go_wp2_with (at_builtin; go_must (refine wpList_append_own _ rfl (.tmp 15) (.tmp 16) 22 rfl w.heap.size 5 i0 (.int .u8 0) 1 1 Try.underlying22 hi hz0 hz1 hz2 rfl (by decide) _ 0 [] rfl ?e0 ⟨b, off, none⟩ l.length cap (cells l) rfl ?e1 ?e2 ?e3 ?e4 ?e5 ?e6 ?_))
  case e0 => exact empty_own w
  case e1 => rw [cells_length]; omega
  case e2 => exact row_cells (HR.out.later ((Below.refl _ _).alloc (Nat.le_refl _) _)) _ rfl
  case e3 => exact one_cell l
  case e4 => unfold maxLen; omega
  case e5 => omega
  case e6 => simp
  intro v' w1 hown hgrow _
  have hb1 : Below w.heap.size w w1 := ((Below.refl _ _).alloc (Nat.le_refl _) _).grown hgrow (by simp) (by intro k h; cases h; exact Nat.le_refl _)
  obtain ⟨g, c1, hv, hg⟩ := own_shape hown h0
  rw [hv] at hown ⊢
  clear hgrow hv
  have H1 : Hid (w1.ownsRow w.heap.size 5 1 (.slice (some ⟨g, 0, none⟩) l.length c1) l.length (cells l)) := hown
  clear hown
  go_upto_region 2 with fail
  go_cut [11] from 15 (fun s wc => s = .int .i64 k ∧ wc = w1)
  case first =>
    by_cases h1 : at0 < 0
    · have hk0 : Hid (k = 0) := by
        have := HK.out
        rw [show max at0 0 = 0 by omega] at this
        show k = 0
        simpa using this
      go_wp2
      all_goals go_meet
      all_goals (case rel => exact ⟨by rw [hk0.out]; rfl, rfl⟩)
    · have hk0 : Hid (at0 % (8 * (l.length : Int)) = k) := by
        have := HK.out
        rw [show max at0 0 = at0 by omega] at this
        exact this.symm
      go_wp2
      all_goals go_meet
      all_goals (case rel => exact ⟨congrArg _ hk0.out, rfl⟩)
  case rest =>
    obtain ⟨rfl, rfl⟩ := hcut
    go_wp2
    go_loopw [12, 25] (fun v i wr => ∃ (j : Nat) (m : List Nat), j ≤ n ∧ i = .int .i64 j ∧ v = .bool (decide (Crc.mk mask j (8 * l.length - k) ≠ 0)) ∧ m.length = l.length ∧ (∀ x ∈ m, x < 256) ∧ Crc.val m = Crc.val l ^^^ (Crc.mk mask j (8 * l.length - k) * 2 ^ k) ∧ wr.ownsRow w.heap.size 5 1 (.slice (some ⟨g, 0, none⟩) l.length c1) l.length (cells m) ∧ Below w.heap.size w wr) (fun _ i _ => n - (intOf i).toNat)
    case atStart => exact ⟨0, l, by omega, rfl, by rw [Crc.mk_zero]; rfl, rfl, HR.out.1, by rw [Crc.mk_zero, Nat.zero_mul, Nat.xor_zero], H1.out, hb1⟩
    case round =>
      obtain ⟨j, m, hj, rfl, rfl, hml, hmb, hmv, hown, hbw⟩ := hrel
      have HML : Hid (m.length = l.length) := hml
      have HMB : Hid (∀ x ∈ m, x < 256) := hmb
      have HMV : Hid (Crc.val m = Crc.val l ^^^ (Crc.mk mask j (8 * l.length - k) * 2 ^ k)) := hmv
      have HOW : Hid (wr.ownsRow w.heap.size 5 1 (.slice (some ⟨g, 0, none⟩) l.length c1) l.length (cells m)) := hown
      have HBW : Hid (Below w.heap.size w wr) := hbw
      clear hml hmb hmv hown hbw hb1
      by_cases hjn : j < n
      · by_cases hbit : mask / 2 ^ j % 2 = 1
        · have hb1 : bits BinOp.and IntKind.u64 ((mask : Int) / 2 ^ j) 1 = 1 := by rw [bit_form mask j hmask, hbit]; rfl
          have HBIT : Hid (mask / 2 ^ j % 2 = 1) := hbit
          clear hbit
          by_cases hin : k + j < 8 * l.length
          · have hq : ((k : Int) + (j : Int)) / 8 < (l.length : Int) := by omega
            have hcell := own_cell HOW.out ((k + j) / 8) HML.out (by omega)
            have hfr : wr.frozen? ⟨g, (k + j) / 8, none⟩ = false := HOW.out.frozenAt _
            have HNV := turn_val l m mask j k HMB.out HML.out hin HBIT.out HMV.out
            have HV : Hid (Crc.val (m.set ((k + j) / 8) (m.getD ((k + j) / 8) 0 ^^^ 2 ^ ((k + j) % 8))) = Crc.val l ^^^ (Crc.mk mask (j + 1) (8 * l.length - k) * 2 ^ k)) := HNV
            have HNB : Hid (∀ x ∈ m.set ((k + j) / 8) (m.getD ((k + j) / 8) 0 ^^^ 2 ^ ((k + j) % 8)), x < 256) :=
              Crc.set_byte m HMB.out _ _ (Nat.xor_lt_two_pow (n := 8) (getD_lt HMB.out _) (Nat.pow_lt_pow_right (n := 8) (by omega) (Nat.mod_lt _ (by omega))))
            have HBF : Hid (bits BinOp.xor IntKind.u8 ((m.getD ((k + j) / 8) 0 : Nat) : Int) (2 ^ ((k + j) % 8) % 256) = ((m.getD ((k + j) / 8) 0 ^^^ 2 ^ ((k + j) % 8) : Nat) : Int)) := byte_form _ _ (getD_lt HMB.out _) (Nat.mod_lt _ (by omega))
            have HNO : Hid ((wr.setCell ⟨g, (k + j) / 8, none⟩ (.int .u8 (bits BinOp.xor IntKind.u8 ((m.getD ((k + j) / 8) 0 : Nat) : Int) (2 ^ ((k + j) % 8) % 256)))).drew.ownsRow w.heap.size 5 1 (.slice (some ⟨g, 0, none⟩) l.length c1) l.length (cells (m.set ((k + j) / 8) (m.getD ((k + j) / 8) 0 ^^^ 2 ^ ((k + j) % 8))))) := by
              show World.ownsRow _ _ _ _ _ _ _
              rw [HBF.out, cells_set]
              exact (HOW.out.stored _ _).1.drew
            have HNW : Hid (Below w.heap.size w (wr.setCell ⟨g, (k + j) / 8, none⟩ (.int .u8 (bits BinOp.xor IntKind.u8 ((m.getD ((k + j) / 8) 0 : Nat) : Int) (2 ^ ((k + j) % 8) % 256)))).drew) := (HBW.out.setCell hg _).drew
            have HT : Hid (decide (Crc.mk mask (j + 1) (8 * l.length - k) ≠ 0) = true) := decide_eq_true (Crc.mk_set mask j (8 * l.length - k) (by omega) HBIT.out).2
            have HNL : Hid ((m.set ((k + j) / 8) (m.getD ((k + j) / 8) 0 ^^^ 2 ^ ((k + j) % 8))).length = l.length) := by
              show List.length _ = _
              rw [List.length_set]; exact HML.out
            clear HNV HBF
            generalize m.set ((k + j) / 8) (m.getD ((k + j) / 8) 0 ^^^ 2 ^ ((k + j) % 8)) = m' at HV HNB HNO HNL
            generalize m.getD ((k + j) / 8) 0 = x at hcell HNO HNW ⊢
            go_wp2
            go_region
            go_wp2
            go_roundw
            case rel => exact ⟨j + 1, m', by omega, by go_num, congrArg _ HT.out.symm, HNL.out, HNB.out, HV.out, HNO.out, HNW.out⟩
            case measure => simp [intOf]; omega
          · have HE : Hid (Crc.mk mask (j + 1) (8 * l.length - k) = Crc.mk mask j (8 * l.length - k)) := Crc.mk_out mask j _ (by omega)
            go_wp2
            go_roundw
            case rel => exact ⟨j + 1, m, by omega, by go_num, by rw [HE.out], HML.out, HMB.out, by rw [HE.out]; exact HMV.out, HOW.out, HBW.out⟩
            case measure => simp [intOf]; omega
        · have hb1 : (bits BinOp.and IntKind.u64 ((mask : Int) / 2 ^ j) 1 == 1) = false := by
            rw [bit_form mask j hmask, show mask / 2 ^ j % 2 = 0 by omega]; rfl
          have HE : Hid (Crc.mk mask (j + 1) (8 * l.length - k) = Crc.mk mask j (8 * l.length - k)) := Crc.mk_not mask j _ hbit
          clear hbit
          go_wp2
          go_roundw
          case rel => exact ⟨j + 1, m, by omega, by go_num, by rw [HE.out], HML.out, HMB.out, by rw [HE.out]; exact HMV.out, HOW.out, HBW.out⟩
          case measure => simp [intOf]; omega
      · obtain rfl : j = n := by omega
        go_wp2
        go_ret2
        obtain ⟨a', c', hv, h1, h2, r⟩ := own_row HOW.out HMB.out (le_maxLen (by rw [HML.out]; omega))
        rw [HML.out] at hv h1
        exact ⟨_, _, m, rfl, HML.out, HMV.out, by cases hv; exact h1, by cases hv; exact h2, by cases hv; exact r, HBW.out⟩
end Go.Proofs.Ytnnaegeicffebaa
