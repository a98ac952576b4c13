/- What Open16 and Open32 answer of sealed bytes with bits turned. -/
import Derived.Test.YtnnaegeicffebaaOpen
import Derived.Test.YtnnaegeicffebaaTurned
namespace Go.Proofs.Ytnnaegeicffebaa
open Go.RowKit

theorem seal16_turned (l m : List Nat) (E : Nat) (hl : ∀ x ∈ l, x < 256) (hm : ∀ x ∈ m, x < 256) (hlen : m.length = (seal16 l).length) (hE : Crc.val m = Crc.val (seal16 l) ^^^ E) :
    (seal16 (m.take (m.length - 2)) = m) ↔ Crc.stn 33800 (8 * l.length) E = 0 :=
  Crc.turned_ok 33800 65535 2 Crc.sum16 (fun _ => rfl) (fun l h => Crc.sum16_lt l h) l m E hl hm (by rw [hlen, seal16_length]) hE
theorem seal32_turned (l m : List Nat) (E : Nat) (hl : ∀ x ∈ l, x < 256) (hm : ∀ x ∈ m, x < 256) (hlen : m.length = (seal32 l).length) (hE : Crc.val m = Crc.val (seal32 l) ^^^ E) :
    (seal32 (m.take (m.length - 4)) = m) ↔ Crc.stn 2197175160 (8 * l.length) E = 0 :=
  Crc.turned_ok 2197175160 4294967295 4 Crc.sum32 (fun _ => rfl) (fun l h => Crc.sum32_lt l h) l m E hl hm (by rw [hlen, seal32_length]) hE

/-- the error that opening bytes answers, where E are the bits turned. -/
def code (t : Bool) : Int := if t then 130 else 0

theorem openTurned16 (a : Option Addr) (n c : Nat) (l m : List Nat) (E : Nat) (b : Bool) (w : World) (hr : Row w a m) (hn : m.length = n) (hc : n ≤ c) (hcm : c ≤ maxLen) (hz : l.length ≤ 6000)
    (hl : ∀ x ∈ l, x < 256) (hlen : m.length = (seal16 l).length) (hE : Crc.val m = Crc.val (seal16 l) ^^^ E) (hb : b = decide (Crc.stn 33800 (8 * l.length) E ≠ 0)) :
    Calls Try.prog 18 #[.slice a n c] w fun e w' => ∃ x, e = .returned (.tuple #[x, .int .i64 (code b)]) ∧ Below w.heap.size w w' := by
  subst hn
  have h2 := seal16_turned l m E hl hr.1 hlen hE
  have h16 := seal16_length l
  refine (open16_any a c m w hr hc hcm (by omega)).mono ?_
  rintro e w' ⟨hw, ⟨h1, rfl⟩ | ⟨h1, h3, rfl⟩ | ⟨h1, h3, a1, rfl, r1⟩⟩
  · omega
  · have hb' : b = true := by rw [hb]; exact decide_eq_true (fun h => h3 (h2.2 h))
    clear hb
    subst hb'
    exact ⟨_, rfl, hw⟩
  · have hb' : b = false := by rw [hb]; exact decide_eq_false (fun h => h (h2.1 h3))
    clear hb
    subst hb'
    exact ⟨_, rfl, hw⟩
theorem openTurned32 (a : Option Addr) (n c : Nat) (l m : List Nat) (E : Nat) (b : Bool) (w : World) (hr : Row w a m) (hn : m.length = n) (hc : n ≤ c) (hcm : c ≤ maxLen) (hz : l.length ≤ 6000)
    (hl : ∀ x ∈ l, x < 256) (hlen : m.length = (seal32 l).length) (hE : Crc.val m = Crc.val (seal32 l) ^^^ E) (hb : b = decide (Crc.stn 2197175160 (8 * l.length) E ≠ 0)) :
    Calls Try.prog 19 #[.slice a n c] w fun e w' => ∃ x, e = .returned (.tuple #[x, .int .i64 (code b)]) ∧ Below w.heap.size w w' := by
  subst hn
  have h2 := seal32_turned l m E hl hr.1 hlen hE
  have h16 := seal32_length l
  refine (open32_any a c m w hr hc hcm (by omega)).mono ?_
  rintro e w' ⟨hw, ⟨h1, rfl⟩ | ⟨h1, h3, rfl⟩ | ⟨h1, h3, a1, rfl, r1⟩⟩
  · omega
  · have hb' : b = true := by rw [hb]; exact decide_eq_true (fun h => h3 (h2.2 h))
    clear hb
    subst hb'
    exact ⟨_, rfl, hw⟩
  · have hb' : b = false := by rw [hb]; exact decide_eq_false (fun h => h (h2.1 h3))
    clear hb
    subst hb'
    exact ⟨_, rfl, hw⟩

/-- 'turned' as the laws call it. -/
theorem turned_at (a : Option Addr) (len cap : Nat) (l : List Nat) (at0 : Int) (mask n : Nat) (b : Bool) (w : World) (hlen : l.length = len) (hr : Row w a l) (h0 : 0 < len) (hz : len ≤ 6000) (hn : n ≤ 64) (hmask : mask < 18446744073709551616) (ha : -9223372036854775808 ≤ at0) (hb : at0 ≤ 9223372036854775807)
    (k : Nat) (hk : (k : Int) = max at0 0 % (8 * (len : Int))) (hbb : b = decide (Crc.mk mask n (8 * len - k) ≠ 0)) :
    Calls Try.prog 22 #[.slice a len cap, .int .i64 at0, .int .u64 mask, .int .i64 n] w fun e w' => ∃ (a' : Option Addr) (c' : Nat) (m : List Nat),
      e = .returned (.tuple #[.slice a' len c', .bool b]) ∧ m.length = len ∧ Crc.val m = Crc.val l ^^^ (Crc.mk mask n (8 * len - k) * 2 ^ k) ∧
      len ≤ c' ∧ c' ≤ maxLen ∧ Row w' a' m ∧ Below w.heap.size w w' := by
  subst hlen hbb
  exact turned_any a cap l at0 mask n w hr h0 hz hn k hk hmask ha hb

theorem spot (at0 : Int) (len : Nat) (h : 0 < len) : ∃ k : Nat, (k : Int) = max at0 0 % (8 * (len : Int)) := by
  have h1 : 0 ≤ max at0 0 % (8 * (len : Int)) := Int.emod_nonneg _ (by omega)
  exact ⟨_, (Int.toNat_of_nonneg h1)⟩
end Go.Proofs.Ytnnaegeicffebaa
