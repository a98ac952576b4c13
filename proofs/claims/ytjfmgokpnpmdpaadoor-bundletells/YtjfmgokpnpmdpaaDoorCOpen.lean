/- What came in: how it lies in memory; the two tables of utf8, out of what the row lists. -/
import Derived.Test.YtjfmgokpnpmdpaaDoorCValid
import Derived.Test.YtjfmgokpnpmdpaaDoorHOpen
import Derived.Lib.LaidU8T
namespace Go.Proofs.YtjfmgokpnpmdpaaDoor
open Go.RowKit Go.Deep Go.ChangeShapes Go.WideShapes
set_option linter.unusedVariables false

theorem laid_first : (Rows.laid_unicode_utf8_first : DataW Unit) = Lib.firstData := by kernel_rfl
theorem laid_accept : (Rows.laid_unicode_utf8_acceptRanges : DataW Unit) = Lib.acceptData := by kernel_rfl
/-- the names of the types and variables that the two tables have here. -/
def ren : Shelf.Ren := ⟨fun x => x, fun x => if x = 5 then 5 else if x = 119 then 103 else if x = 138 then 105 else if x = 139 then 106 else x, fun x => if x = 3 then 0 else 1⟩
set_option maxRecDepth 100000 in
theorem tabs_of {W : World} (h : laidMetH Tryd.prog [("unicode/utf8.acceptRanges", Rows.laid_unicode_utf8_acceptRanges), ("unicode/utf8.first", Rows.laid_unicode_utf8_first)] W) : Tabs Lib.firstT Lib.accLo Lib.accHi W := by
  rw [laid_first, laid_accept] at h
  have ht : Lib.Utf8Tabs (ren.g 3) (ren.g 4) W := utf8Tabs_of_readsT (P := Tryd.prog) (ρ := ren) ⟨Tryd.underlying5, by kernel_rfl, by kernel_rfl, by kernel_rfl⟩ ⟨by kernel_rfl, by kernel_rfl, by kernel_rfl, by kernel_rfl, by kernel_rfl, by kernel_rfl, by kernel_rfl⟩ (Lib.laidMet.reads h (.tail _ (.head _))) (Lib.laidMet.reads h (.head _))
  have hx : ∀ c : Fin 256, Lib.firstT c.val < 256 := by decide
  have hl : ∀ c : Fin 16, Lib.accLo c.val < 256 ∧ Lib.accHi c.val < 256 := by decide
  refine ⟨fun c hc => ⟨hx ⟨c, hc⟩, ht.1 c hc⟩, fun i hi => ⟨(hl ⟨i, hi⟩).1, ?_⟩, fun i hi => ⟨(hl ⟨i, hi⟩).2, ?_⟩⟩
  · rw [Nat.mul_comm]; exact (ht.2 i hi).1
  · rw [Nat.mul_comm]; exact (ht.2 i hi).2
theorem Tabs.lt {X lo hi : Nat → Nat} {w : World} (t : Tabs X lo hi w) : 1 < w.heap.size := cell_lt (t.l 0 (by omega)).2
end Go.Proofs.YtjfmgokpnpmdpaaDoor
