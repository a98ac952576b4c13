/- pdu.fieldsOf, has, least, within, Same. -/
import Derived.Test.YtfkkaihnmnjadaaPPure
namespace Go.Proofs.Ytfkkaihnmnjadaa
open Go.RowKit
set_option linter.unusedVariables false

/-- a message by value, and in a block of its own. -/
abbrev mv (m : Ms) (a : Option Addr) (c : Nat) : Value := .agg #[.int .i64 m.knd, .int .u32 (m.num : Nat), .string m.nam, .int .i64 m.siz, .int .i64 m.off, .int .u32 (m.sum : Nat), .int .i64 m.cod, .slice a m.bts.length c]
abbrev mc (m : Ms) (a : Option Addr) (c : Nat) : Obj := .cells #[.int .i64 m.knd, .int .u32 (m.num : Nat), .string m.nam, .int .i64 m.siz, .int .i64 m.off, .int .u32 (m.sum : Nat), .int .i64 m.cod, .slice a m.bts.length c] 25
theorem mcells {W : World} {p : Nat} {m : Ms} {a : Option Addr} {c : Nat} (h : W.heap[p]? = some (mc m a c)) : W.cell? ⟨p, 0, none⟩ = some (.int .i64 m.knd) ∧ W.cell? ⟨p, 1, none⟩ = some (.int .u32 (m.num : Nat)) ∧ W.cell? ⟨p, 2, none⟩ = some (.string m.nam) ∧ W.cell? ⟨p, 3, none⟩ = some (.int .i64 m.siz) ∧ W.cell? ⟨p, 4, none⟩ = some (.int .i64 m.off) ∧ W.cell? ⟨p, 5, none⟩ = some (.int .u32 (m.sum : Nat)) ∧ W.cell? ⟨p, 6, none⟩ = some (.int .i64 m.cod) ∧ W.cell? ⟨p, 7, none⟩ = some (.slice a m.bts.length c) := by
  refine ⟨?_, ?_, ?_, ?_, ?_, ?_, ?_, ?_⟩
  all_goals (rw [cell_of h]; rfl)
def in64 (x : Int) : Prop := -9223372036854775808 ≤ x ∧ x ≤ 9223372036854775807
/-- its numbers are of their kinds. -/
structure Sz (m : Ms) : Prop where
  knd : in64 m.knd
  num : m.num < 4294967296
  nam : m.nam.size ≤ 140737488351232
  siz : in64 m.siz
  off : in64 m.off
  sum : m.sum < 4294967296
  cod : in64 m.cod
  bts : m.bts.length ≤ 140737488351232
def hsI (f b : Int) : Bool := bits .and .u8 f b != 0
theorem hsI_is : ∀ f ∈ [0, 1, 3, 10, 16, 32, 33, 36, 48], ∀ b ∈ [1, 2, 4, 8, 16, 32], hsI ((f : Nat) : Int) ((b : Nat) : Int) = hs f b := by decide
theorem fld_mem (k : Int) : fld k ∈ [0, 1, 3, 10, 16, 32, 33, 36, 48] := by
  rcases fld_cases k with rfl | rfl | rfl | rfl | rfl | rfl | rfl | rfl | h
  · decide
  · decide
  · decide
  · decide
  · decide
  · decide
  · decide
  · decide
  · rw [h]; decide
theorem within_any (x a b : Int) (w : World) : Calls Try.prog 37 #[.int .i64 x, .int .i64 a, .int .i64 b] w fun e w' => e = .returned (.bool (inB x a b)) ∧ w = w' := by
  have HE : Hid (inB x a b = (decide (a ≤ x) && decide (x ≤ b))) := rfl
  generalize inB x a b = R at HE ⊢
  go_enter Try.func37, Try.ntmps37
  go_wp2
  all_goals
    go_ret
    refine ⟨ret_bool ?_, rfl⟩
    rw [HE.out]
    simp_all
    try omega
theorem has_any (f b : Int) (w : World) : Calls Try.prog 22 #[.int .u8 f, .int .u8 b] w fun e w' => e = .returned (.bool (hsI f b)) ∧ w = w' := by
  have HE : Hid (hsI f b = (bits .and .u8 f b != 0)) := rfl
  generalize hsI f b = R at HE ⊢
  go_enter Try.func22, Try.ntmps22
  go_wp2
  go_ret
  exact ⟨ret_bool (by rw [HE.out]), rfl⟩
def lstI (f b : Int) : Int := if hsI f b then 1 else 0
theorem least_any (f b : Int) (w : World) : Calls Try.prog 38 #[.int .u8 f, .int .u8 b] w fun e w' => e = .returned (.int .i64 (lstI f b)) ∧ w = w' := by
  unfold lstI
  cases h : hsI f b with
  | true =>
    go_enter Try.func38, Try.ntmps38
    go_wp2_with (go_at_call 22; refine (has_any _ _ _).mono ?_; rintro e w' ⟨rfl, rfl⟩)
    go_ret
    exact ⟨rfl, rfl⟩
  | false =>
    go_enter Try.func38, Try.ntmps38
    go_wp2_with (go_at_call 22; refine (has_any _ _ _).mono ?_; rintro e w' ⟨rfl, rfl⟩)
    go_ret
    exact ⟨rfl, rfl⟩
theorem fieldsOf_any (k : Int) (w : World) : Calls Try.prog 20 #[.int .i64 k] w fun e w' => e = .returned (.int .u8 (fld k : Nat)) ∧ w = w' := by
  by_cases h : k = 1 ∨ k = 2 ∨ k = 3 ∨ k = 4 ∨ k = 5 ∨ k = 6 ∨ k = 7 ∨ k = 8
  · rcases h with rfl | rfl | rfl | rfl | rfl | rfl | rfl | rfl
    all_goals
      go_enter Try.func20, Try.ntmps20
      go_wp2
      go_ret
      exact ⟨rfl, rfl⟩
  · have hf : fld k = 0 := by rcases fld_cases k with h1 | h1 | h1 | h1 | h1 | h1 | h1 | h1 | h1 <;> omega
    rw [hf]
    have k1 : (k == 1) = false := by simp; omega
    have k2 : (k == 2) = false := by simp; omega
    have k3 : (k == 3) = false := by simp; omega
    have k4 : (k == 4) = false := by simp; omega
    have k5 : (k == 5) = false := by simp; omega
    have k6 : (k == 6) = false := by simp; omega
    have k7 : (k == 7) = false := by simp; omega
    have k8 : (k == 8) = false := by simp; omega
    clear h hf
    go_enter Try.func20, Try.ntmps20
    go_wp2
    go_ret
    exact ⟨rfl, rfl⟩
theorem nam_eq (a b : ByteArray) : (a.toList == b.toList) = decide (a = b) := by
  have e : ∀ a : ByteArray, a.toList = a.data.toList := fun a => ByteArray.toList_eq a
  rw [e, e]
  by_cases h : a = b
  · subst h; simp
  · rw [decide_eq_false h]
    refine beq_eq_false_iff_ne.2 (fun h1 => h ?_)
    apply ByteArray.ext
    exact Array.ext' h1
end Go.Proofs.Ytfkkaihnmnjadaa
