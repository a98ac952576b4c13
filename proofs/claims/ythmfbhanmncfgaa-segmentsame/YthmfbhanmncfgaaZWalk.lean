/- segment.within, rightSession, rightData. -/
import Derived.Test.YthmfbhanmncfgaaZPure
namespace Go.Proofs.Ythmfbhanmncfgaa
open Go.RowKit
set_option linter.unusedVariables false

/-- a segment by value, and in a block of its own. -/
abbrev sv (s : Sg) (a : Option Addr) (c : Nat) (a2 : Option Addr) (c2 : Nat) : Value := .agg #[.int .i64 s.knd, .int .i64 s.src, .int .u32 (s.ses : Nat), .int .u32 (s.ser : Nat), .int .u32 (s.cks : Nat), .int .i64 s.off, .int .i64 s.tot, .int .i64 s.low, .int .i64 s.upp, .int .i64 s.rea, .bool s.chk, .slice a s.dat.length c, .slice a2 s.cls.length c2]
abbrev sc (s : Sg) (a : Option Addr) (c : Nat) (a2 : Option Addr) (c2 : Nat) : Obj := .cells #[.int .i64 s.knd, .int .i64 s.src, .int .u32 (s.ses : Nat), .int .u32 (s.ser : Nat), .int .u32 (s.cks : Nat), .int .i64 s.off, .int .i64 s.tot, .int .i64 s.low, .int .i64 s.upp, .int .i64 s.rea, .bool s.chk, .slice a s.dat.length c, .slice a2 s.cls.length c2] 26
def in64 (x : Int) : Prop := -9223372036854775808 ≤ x ∧ x ≤ 9223372036854775807
/-- its numbers are of their kinds. -/
structure Sz (s : Sg) : Prop where
  knd : in64 s.knd
  src : in64 s.src
  ses : s.ses < 4294967296
  ser : s.ser < 4294967296
  cks : s.cks < 4294967296
  off : in64 s.off
  tot : in64 s.tot
  low : in64 s.low
  upp : in64 s.upp
  rea : in64 s.rea
  dat : s.dat.length ≤ 140737488351232
  cls : s.cls.length ≤ 140737488351232
  clm : ∀ c ∈ s.cls, in64 c.1 ∧ in64 c.2
theorem Sz.szd {s : Sg} (h : Sz s) : Szd s := ⟨h.ses, h.ser, h.cks⟩
theorem within_any (x a b : Int) (w : World) : Calls Try.prog 36 #[.int .i64 x, .int .i64 a, .int .i64 b] w fun e w' => e = .returned (.bool (inB x a b)) ∧ w = w' := by
  have HE : Hid (inB x a b = (decide (a ≤ x) && decide (x ≤ b))) := rfl
  generalize inB x a b = R at HE ⊢
  go_enter Try.func36, Try.ntmps36
  go_wp2
  all_goals
    go_ret
    refine ⟨ret_bool ?_, rfl⟩
    rw [HE.out]
    simp_all
    try omega
set_option maxRecDepth 20000 in
set_option maxHeartbeats 1000000 in
theorem sess_any (s : Sg) (a : Option Addr) (c : Nat) (a2 : Option Addr) (c2 : Nat) (w : World) : Calls Try.prog 23 #[sv s a c a2 c2] w fun e w' => e = .returned (.bool (sessS s)) ∧ Hid (Below w.heap.size w w') := by
  have HE : Hid (sessS s = (inB s.src 1 6 && decide (0 < s.ses))) := rfl
  generalize sessS s = R at HE ⊢
  go_enter Try.func23, Try.ntmps23
  go_wp2_with (go_at_call 36; refine (within_any _ _ _ _).mono ?_; rintro e w' ⟨rfl, rfl⟩)
  all_goals
    go_ret
    refine ⟨ret_bool ?_, (Below.refl _ w).alloc (Nat.le_refl _) _⟩
    rw [HE.out]
    simp_all
set_option maxRecDepth 20000 in
set_option maxHeartbeats 1000000 in
theorem data_any (s : Sg) (a : Option Addr) (c : Nat) (a2 : Option Addr) (c2 : Nat) (w : World) (hz : s.dat.length ≤ 140737488351232) : Calls Try.prog 37 #[sv s a c a2 c2] w fun e w' => e = .returned (.bool (dataS s)) ∧ Hid (Below w.heap.size w w') := by
  have HE : Hid (dataS s = (inB s.tot 1 512 && (inB s.dat.length 1 100 && (inB s.off 0 (s.tot - (s.dat.length : Int)) && (s.chk == decide (0 < s.ser)))))) := rfl
  generalize dataS s = R at HE ⊢
  by_cases ht : inB s.tot 1 512 = true
  · obtain ⟨h1, h2⟩ := inB_of ht
    go_enter Try.func37, Try.ntmps37
    go_wp2_with (go_at_call 36; refine (within_any _ _ _ _).mono ?_; rintro e w' ⟨rfl, rfl⟩)
    all_goals
      go_ret
      refine ⟨ret_bool ?_, (Below.refl _ w).alloc (Nat.le_refl _) _⟩
      rw [HE.out]
      simp_all
  · have ht' : inB s.tot 1 512 = false := by simpa using ht
    clear ht
    go_enter Try.func37, Try.ntmps37
    go_wp2_with (go_at_call 36; refine (within_any _ _ _ _).mono ?_; rintro e w' ⟨rfl, rfl⟩)
    all_goals
      go_ret
      refine ⟨ret_bool ?_, (Below.refl _ w).alloc (Nat.le_refl _) _⟩
      rw [HE.out]
      simp_all
theorem scells {W : World} {p : Nat} {s : Sg} {a : Option Addr} {c : Nat} {a2 : Option Addr} {c2 : Nat} (h : W.heap[p]? = some (sc s a c a2 c2)) : W.cell? ⟨p, 0, none⟩ = some (.int .i64 s.knd) ∧ W.cell? ⟨p, 1, none⟩ = some (.int .i64 s.src) ∧ W.cell? ⟨p, 2, none⟩ = some (.int .u32 (s.ses : Nat)) ∧ W.cell? ⟨p, 3, none⟩ = some (.int .u32 (s.ser : Nat)) ∧ W.cell? ⟨p, 4, none⟩ = some (.int .u32 (s.cks : Nat)) ∧ W.cell? ⟨p, 5, none⟩ = some (.int .i64 s.off) ∧ W.cell? ⟨p, 6, none⟩ = some (.int .i64 s.tot) ∧ W.cell? ⟨p, 7, none⟩ = some (.int .i64 s.low) ∧ W.cell? ⟨p, 8, none⟩ = some (.int .i64 s.upp) ∧ W.cell? ⟨p, 9, none⟩ = some (.int .i64 s.rea) ∧ W.cell? ⟨p, 10, none⟩ = some (.bool s.chk) ∧ W.cell? ⟨p, 11, none⟩ = some (.slice a s.dat.length c) ∧ W.cell? ⟨p, 12, none⟩ = some (.slice a2 s.cls.length c2) := by
  refine ⟨?_, ?_, ?_, ?_, ?_, ?_, ?_, ?_, ?_, ?_, ?_, ?_, ?_⟩
  all_goals (rw [cell_of h]; rfl)
end Go.Proofs.Ythmfbhanmncfgaa
