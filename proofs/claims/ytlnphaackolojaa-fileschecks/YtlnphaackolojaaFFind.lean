/- The walk of files.Find. -/
import Derived.Test.YtlnphaackolojaaFGet
namespace Go.Proofs.Ytlnphaackolojaa
open Go.RowKit

/-- Where a name stands. -/
def findS (L : List Fil) (n : ByteArray) : Nat × Bool := if rightB L then (atS L n, thereB L n) else (0, false)
set_option maxHeartbeats 1000000 in
theorem find_any (w : World) (a : Option Addr) (c : Nat) (L : List Fil) (h : ListAt w a L) (hb : costS L ≤ 4611686018427387904) (n : ByteArray) :
    Calls Try.prog 17 #[.agg #[.slice a L.length c], .string n] w fun e w' => e = .returned (.tuple #[.int .i64 ((findS L n).1 : Nat), .bool (findS L n).2]) ∧ Below w.heap.size w w' := by
  have HL : Hid (ListAt w a L) := h
  clear h
  cases hr : rightB L with
  | false =>
    have HC : Hid (checkI L = 150) := check_no hr
    have HF : Hid (findS L n = (0, false)) := by show findS L n = _; unfold findS; rw [hr]; rfl
    clear hr
    go_enter Try.func17, Try.ntmps17
    go_wp2_with (go_at_call 12; refine (check_any _ a c L (HL.out.later ((Below.refl _ _).alloc (Nat.le_refl _) _)) hb).mono ?_; rw [HC.out]; rintro e w1 ⟨rfl, hbw⟩; have HB : Hid (Below w.heap.size w w1) := ((Below.refl _ _).alloc (Nat.le_refl _) _).trans (hbw.mono (by simp)); clear hbw)
    go_ret2
    exact ⟨by rw [HF.out]; rfl, HB⟩
  | true =>
    have HC : Hid (checkI L = 0) := check_yes hr
    have HF : Hid (findS L n = (atS L n, thereB L n)) := by show findS L n = _; unfold findS; rw [hr]; rfl
    have HR : Hid (risingB L = true) := right_rising hr
    clear hr
    go_enter Try.func17, Try.ntmps17
    go_wp2_with (first | (go_at_call 12; refine (check_any _ a c L (HL.out.later ((Below.refl _ _).alloc (Nat.le_refl _) _)) hb).mono ?_; rw [HC.out]; rintro e w1 ⟨rfl, hbw⟩; have hcw : w1.cell? ⟨w.heap.size, 0, none⟩ = some (.slice a L.length c) := (by rw [hbw.cell (by simp)]; simp); have HB : Hid (Below w.heap.size w w1) := ((Below.refl _ _).alloc (Nat.le_refl _) _).trans (hbw.mono (by simp)); clear hbw) | (go_at_call 39; refine (place_any _ a c L (HL.out.later HB.out) n HR.out).mono ?_; rintro e w2 ⟨rfl, hb2⟩; have HB2 : Hid (Below w.heap.size w w2) := below_of HB.out hb2; clear hb2))
    go_ret2
    exact ⟨by rw [HF.out]; rfl, HB2⟩

end Go.Proofs.Ytlnphaackolojaa
