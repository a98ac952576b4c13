/- The law's wakes: the layer does something. -/
import Derived.Test.YthmolodkaboakaaVNew2
import Derived.Test.YthmolodkaboakaaVBlock
namespace Go.Proofs.Ythmolodkaboakaa
open Go.RowKit
set_option linter.unusedVariables false
def wkX : Sg := ⟨1, 1, 5, 1, 0, 0, 2, 0, 0, 0, true, [7, 8], []⟩
def wkS : Tk := ⟨1, 5, 2, [7, 8], [(0, 2)], 1, 2, 100, 100⟩
theorem wk_new : newK wkX 0 100 = (wkS, [⟨2, 1, 5, 1, 1, 0, 0, 0, 2, 0, false, [], [(0, 2)]⟩], 0) := by rfl
theorem wk_block : blockK wkS = ([7, 8], 0) := by rfl
/-- behind New. -/
structure Wk (w w1 : World) (a : Option Addr) (c : Nat) (g : Option Addr) (d g2 : Nat) : Prop where
  bel : Below w.heap.size w w1
  came : CameK w1 wkS a c g d
  chk : w1.cell? ⟨g2, 4, none⟩ = some (.int .u32 1)
theorem wk_at {w W w1 : World} {a : Option Addr} {c : Nat} {g : Option Addr} {d g2 : Nat} {b2 : Option Addr} {c2 : Nat} (h0 : Below w.heap.size w W) (hb : Below W.heap.size W w1) (hk : KN W.heap.size w1 wkS a c g d) (hg : W.heap.size ≤ g2) (hr : w1.rangeAt g2 0 (sgcells ⟨2, 1, 5, 1, 1, 0, 0, 0, 2, 0, false, [], [(0, 2)]⟩ none 0 b2 c2)) : Wk w w1 a c g d g2 := by
  obtain ⟨h1, h2, h3, h4⟩ := kn_rows hk (by simp [wkS, maxLen])
  refine ⟨below_of h0 hb, ⟨h1, h2, h3, h4, by simp [wkS], by simp [wkS], ?_, by simp [in64, wkS], by simp [wkS], by simp [in64, wkS], by simp [wkS], by simp [in64, wkS], by simp [in64, wkS], by simp [in64, wkS]⟩, ?_⟩
  · intro c hc
    simp only [wkS, List.mem_singleton] at hc
    subst hc
    simp [in64]
  · have := hr 4 _ rfl
    simpa using this
theorem wk_blk {w w1 : World} {a : Option Addr} {c : Nat} {g : Option Addr} {d g2 : Nat} (h : Wk w w1 a c g d g2) : Calls Try.prog 23 #[kv wkS a c g d] (w1.alloc (kc wkS a c g d)) fun e w3 => ∃ a' c', e = .returned (.tuple #[.slice a' 2 c', .int .i64 0]) ∧ Hid (Below w.heap.size w w3 ∧ w3.cell? ⟨g2, 4, none⟩ = some (.int .u32 1) ∧ w3.cell? ⟨w1.heap.size, 6, none⟩ = some (.int .i64 2) ∧ (∀ gb, a' = some ⟨gb, 0, none⟩ → w3.cell? ⟨gb, 1, none⟩ = some (.int .u8 8)) ∧ 2 ≤ c' ∧ ∃ gb, a' = some ⟨gb, 0, none⟩) := by
  have hb : Below w1.heap.size w1 (w1.alloc (kc wkS a c g d)) := (Below.refl _ w1).alloc (Nat.le_refl _) _
  have := vblock_any wkS a c g d _ (h.came.later hb) (fun _ => by simp [wkS])
  rw [wk_block] at this
  refine this.mono ?_
  rintro e w3 ⟨a', c', rfl, hq⟩
  obtain ⟨q1, q2⟩ := hq.out
  obtain ⟨gb, suf, rfl, _, hgb, hc, _⟩ := own_block q2 (by simp)
  refine ⟨_, _, rfl, below_of (below_of h.bel hb) q1, cell_later (below_of hb q1) h.chk, (kcells_get (old_block q1 (heap_alloc_new w1 _))).2.2.2.2.2.2.1, fun gb' e => ?_, by simp at hc; omega, gb, rfl⟩
  cases e
  rw [cell_of hgb]
  rfl
set_option maxRecDepth 20000 in
set_option maxHeartbeats 4000000 in
theorem wakes_any (w : World) : Calls Try.prog 8 #[] w fun e w' => e = .returned (.bool true) ∧ Hid (Below w.heap.size w w') := by
  have HN : Hid (∀ W xa xc, Row W xa [7, 8] → 2 ≤ xc → xc ≤ maxLen → Calls Try.prog 18 #[.agg #[.int .i64 1, .int .i64 1, .int .u32 5, .int .u32 1, .int .u32 0, .int .i64 0, .int .i64 2, .int .i64 0, .int .i64 0, .int .i64 0, .bool true, .slice xa 2 xc, .slice none 0 0], .int .i64 0, .int .i64 100] W fun e w' => Ans W w' e (wkS, [⟨2, 1, 5, 1, 1, 0, 0, 0, 2, 0, false, [], [(0, 2)]⟩], 0)) := fun W xa xc hr h1 h2 => by
    rw [← wk_new]
    refine vnew_any wkX xa xc none 0 0 100 W ⟨⟨by simp [in64, wkX], by simp [in64, wkX], by decide, by decide, by decide, by simp [in64, wkX], by simp [in64, wkX], by simp [in64, wkX], by simp [in64, wkX], by simp [in64, wkX], by decide, by decide, by simp [wkX]⟩, hr, ⟨by simp [wkX], fun h => absurd h (by simp [wkX])⟩, h1, h2, by simp [wkX], by simp⟩
  go_enter Try.func8, Try.ntmps8
  have HR0 : Hid (Row ((w.alloc (.cells #[.int .u8 7, .int .u8 8] 5)).alloc (sc wkX (some ⟨w.heap.size, 0, none⟩) 2 none 0)) (some ⟨w.heap.size, 0, none⟩) [7, 8]) := by
    have hb : Bs (w.alloc (.cells #[.int .u8 7, .int .u8 8] 5)) w.heap.size [7, 8] := ⟨heap_alloc_new w _, by simp, by simp [maxLen]⟩
    exact hb.row.later ((Below.refl _ _).alloc (Nat.le_refl _) _)
  have HB0 : Hid (Below w.heap.size w ((w.alloc (.cells #[.int .u8 7, .int .u8 8] 5)).alloc (sc wkX (some ⟨w.heap.size, 0, none⟩) 2 none 0))) := ((Below.refl _ w).alloc (Nat.le_refl _) _).alloc (by simp) _
  go_wp2_with (first | (go_at_call 18; refine (HN.out _ _ _ HR0.out (by omega) (by simp [maxLen])).mono ?_; rintro e w1 ⟨a5, c5, g5, d5, v5, rfl, hb1, hk1, hs1⟩; obtain ⟨_, g2, cap, b2, c2, rfl, hg2, hr2, hrest⟩ := hs1; have HW : Hid (Wk w w1 a5 c5 g5 d5 g2) := wk_at HB0.out hb1 hk1 hg2 hr2; clear hb1 hk1 hr2 hrest) | (go_at_call 23; refine (wk_blk HW.out).mono ?_; rintro e w3 ⟨a6, c6, rfl, hq6⟩; obtain ⟨m1, m2, m3, m4, m5, m6⟩ := hq6.out; obtain ⟨gb, rfl⟩ := m6))
  go_ret
  exact ⟨rfl, m1⟩
end Go.Proofs.Ythmolodkaboakaa
