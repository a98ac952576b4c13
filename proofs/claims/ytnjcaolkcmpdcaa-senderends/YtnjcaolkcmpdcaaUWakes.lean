/- The law's wakes: the layer does something. -/
import Derived.Test.YtnjcaolkcmpdcaaUTake
import Derived.Laws.OwnMore
namespace Go.Proofs.Ytnjcaolkcmpdcaa
open Go.RowKit
set_option linter.unusedVariables false
def wkB : Bg := ⟨1, 5, List.replicate 250 0, 10, 2⟩
def wkL : Sg := { segOf (firstU wkB) (200, 50) with chk := true, ser := 1 }
def wkS : Sn := { firstU wkB with lst := wkL, due := 10, ask := 0 }
def wkX : Sg := ⟨2, 1, 5, 1, 1, 0, 0, 0, 250, 0, false, [], [(0, 250)]⟩
def wkT : Sn := { newU wkS wkX with sta := 2 }
theorem wk_okS : okU wkS = true := by decide +kernel
theorem wk_okX : okS wkX = true := by decide +kernel
theorem wk_gap : gpF (newU wkS wkX).got wkS.bgn.blk.length = [] := by decide +kernel
theorem wk_pcs : (pcsOf (gpF [] wkB.blk.length)).map (segOf (firstU wkB)) = [segOf (firstU wkB) (0, 100), segOf (firstU wkB) (100, 100), segOf (firstU wkB) (200, 50)] := by
  have h : pcsOf (gpF [] wkB.blk.length) = [(0, 100), (100, 100), (200, 50)] := by decide +kernel
  rw [h]
  rfl
/-- behind New. -/
structure WkN (w w1 : World) (cs : List Value) (g : Nat) (p1 : Pt) : Prop where
  bel : Below w.heap.size w w1
  cs : cs = sncells wkS p1
  came : CameS w1 wkS p1
  chk : w1.cell? ⟨g, 36, none⟩ = some (.bool true)
  off : w1.cell? ⟨g, 31, none⟩ = some (.int .i64 200)
set_option maxRecDepth 20000 in
theorem wk_new (W : World) (a : Addr) (hr : Row W (some a) (List.replicate 250 0)) : Calls Try.prog 10 #[.agg #[.int .i64 1, .int .u32 5, .slice (some a) 250 250, .int .i64 10, .int .i64 2], .int .i64 0] W fun e w' => ∃ cs g cap p1, e = .returned (.tuple #[.agg cs.toArray, .slice (some ⟨g, 0, none⟩) 3 cap, .int .i64 0]) ∧ Hid (WkN W w' cs g p1) := by
  refine (new_ok wkB (some a) 250 0 W hr ⟨by decide +kernel, by unfold maxLen; omega⟩ (by decide +kernel) (by decide +kernel) (by decide +kernel)).mono ?_
  rintro e w' ⟨v', s1, p1, L, rfl, hq⟩
  obtain ⟨hb, hN⟩ := hq.out
  obtain ⟨M, X, hL, hm, hs1⟩ := hN.what
  rw [wk_pcs] at hm
  have hM : M.length = 2 := by have := congrArg List.length hm; simp at this; omega
  match M, hM with
  | [A, B], _ =>
    simp only [List.cons_append, List.nil_append, List.map_cons, List.map_nil, List.cons.injEq, and_true] at hm
    obtain ⟨_, _, hX⟩ := hm
    have e1 : s1 = wkS := by rw [hs1, hX]; rfl
    subst e1
    have ho := hN.own
    subst hL
    rcases ho.2 with ⟨_, h0⟩ | ⟨g, cap, cur, rfl, _⟩
    · simp at h0
    · have c1 := World.ownsRow.cellAt ho 36 (by simp)
      have c2 := World.ownsRow.cellAt ho 31 (by simp)
      refine ⟨_, g, cap, p1, rfl, hb, rfl, hN.came, ?_, ?_⟩
      · rw [c1]
        rfl
      · rw [c2]
        show some (Value.int .i64 X.s.off) = _
        rw [hX]
        rfl
set_option maxRecDepth 20000 in
/-- behind Take. -/
theorem wk_take (W : World) (p1 : Pt) (b : Nat) (hc : CameS W wkS p1) (hr : RowC W (some ⟨b, 0, none⟩) [(0, 250)]) : Calls Try.prog 18 #[.agg (sncells wkS p1).toArray, .agg #[.int .i64 2, .int .i64 1, .int .u32 5, .int .u32 1, .int .u32 1, .int .i64 0, .int .i64 0, .int .i64 0, .int .i64 250, .int .i64 0, .bool false, .slice none 0 0, .slice (some ⟨b, 0, none⟩) 1 1], .int .i64 3] W fun e w' => ∃ cs a2 c2 p2, e = .returned (.tuple #[.agg cs.toArray, .slice a2 1 c2, .int .i64 0]) ∧ Hid (Below W.heap.size W w' ∧ cs = sncells wkT p2) := by
  have hx : Came W wkX none 0 (some ⟨b, 0, none⟩) 1 := ⟨⟨by simp [in64, wkX], by simp [in64, wkX], by decide, by decide, by decide, by simp [in64, wkX], by simp [in64, wkX], by simp [in64, wkX], by simp [in64, wkX], by simp [in64, wkX], by decide, by decide, by simp [wkX, in64]⟩, row_nil _ _, hr, by decide, by unfold maxLen; omega, by decide, by unfold maxLen; omega⟩
  refine (take_rep wkS p1 wkX none 0 (some ⟨b, 0, none⟩) 1 3 W hc hx wk_okS (by decide +kernel) wk_okX (by decide +kernel) (by decide +kernel) rfl).mono ?_
  rintro e w' ⟨v', s1, p2, L, rfl, hq⟩
  obtain ⟨hb, hT, hR⟩ := hq.out
  have hfin : s1 = wkT ∧ L.length = 1 := by
    rcases hR with ⟨h1 | h1, _⟩ | ⟨_, _, h⟩
    · exact absurd h1 (by decide +kernel)
    · exact absurd h1 (by decide +kernel)
    · rcases h with ⟨_, h2, h3⟩ | ⟨h, _⟩ | ⟨h, _⟩
      · exact ⟨h2, by have := congrArg List.length h3; simpa using this⟩
      · exact absurd wk_gap h
      · exact absurd wk_gap h
  obtain ⟨rfl, hL⟩ := hfin
  have ho := hT.own
  rw [hL] at ho
  rcases ho.2 with ⟨_, h0⟩ | ⟨g, cap, cur, rfl, _⟩
  · simp at h0
  · exact ⟨_, _, _, p2, rfl, hb, rfl⟩
end Go.Proofs.Ytnjcaolkcmpdcaa
