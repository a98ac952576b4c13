/- The walk of the laws' own. -/
import Derived.Test.YthhoafhkdioboaaSRef
namespace Go.Proofs.Ythhoafhkdioboaa
open Go.RowKit
set_option linter.unusedVariables false

/-- bytes with one behind them. -/
structure Own (w w' : World) (g cap : Nat) (l : List Nat) : Prop where
  row : Row w' (some ⟨g, 0, none⟩) (l ++ [7])
  cap : l.length + 1 ≤ cap
  new : w.heap.size ≤ g
  below : Below w.heap.size w w'
set_option maxRecDepth 20000 in
set_option maxHeartbeats 1000000 in
theorem own_any (w : World) (a : Option Addr) (c : Nat) (l : List Nat) (hr : Row w a l) (hz : l.length ≤ 100000) :
    Calls Try.prog 10 #[.slice a l.length c] w fun e w' => ∃ g cap, e = .returned (.slice (some ⟨g, 0, none⟩) l.length cap) ∧ Hid (Own w w' g cap l) := by
  obtain ⟨i0, hi, hz0, hz1, hz2⟩ := info_parts Try.info5
  have HI : Hid _ := hi
  have HR : Hid (Row w a l) := hr
  clear hi hr
  have hb2 : i0.bytes * (l.length + 2) ≤ 281474976710656 := by rw [hz2]; omega
  go_enter Try.func10, Try.ntmps10
  go_wp2_with (first
    | (at_make; refine wpList_make_own _ rfl (.const (.int .i64 0)) (.tmp 5) 22 rfl w.heap.size 5 i0 (.int .u8 0) 1 Try.underlying22 HI.out hz0 hz1 .i64 .i64 _ (l.length + 2) rfl rfl (by omega) hb2 (by unfold maxLen; omega) (Nat.le_refl _) ?_; intro w1 ho1 hg1; have HO1 : Hid (w1.ownsRow w.heap.size 5 1 (.slice (some ⟨w.heap.size, 0, none⟩) 0 (l.length + 2)) 0 (cells [])) := ho1; have HB1 : Hid (Below w.heap.size w w1) := (Below.refl _ w).grown hg1 (Nat.le_refl _) (fun _ e => by cases e); clear ho1 hg1)
    | (at_builtin; refine wpList_append_some rfl _ _ rfl w.heap.size g2 c2 l l.length 1 rfl ((Off.refl (fun _ => False) w2).alloc _ |>.owns HO2.out (fun _ _ => id)) _ _ [7] rfl rfl (row_one 7 (by omega)) (by omega) (by have := HB2.out.size; simp; omega) ?_; intro g3 c3 w3 ho3 hg3 hc3)
    | (at_builtin; refine wpList_append_some rfl _ _ rfl w.heap.size w.heap.size (l.length + 2) [] 0 l.length rfl HO1.out _ _ l rfl rfl (HR.out.later HB1.out) (by omega) HB1.out.size ?_; intro g2 c2 w2 ho2 hg2 hc2; have HO2 : Hid (w2.ownsRow w.heap.size 5 1 (.slice (some ⟨g2, 0, none⟩) l.length c2) l.length (cells l)) := (by show World.ownsRow _ _ _ _ _ _ _; simpa using ho2); have HB2 : Hid (Below w.heap.size w w2) := HB1.out.trans (hg2.below HO1.out HB1.out.size); clear ho2 hg2 hc2))
  obtain ⟨h1, h2, h3⟩ := own_some ho3 (fun x hx => by rcases List.mem_append.1 hx with h | h; exact HR.out.1 x h; rw [List.mem_singleton.1 h]; omega) (by simp [maxLen]; omega)
  go_ret
  refine ⟨g3, c3, rfl, h1, hc3, own_ge ho3 g3 rfl, ?_⟩
  exact (HB2.out.alloc HB2.out.size _).trans (hg3.below ((Off.refl (fun _ => False) w2).alloc _ |>.owns HO2.out (fun _ _ => id)) (by have := HB2.out.size; simp; omega))
end Go.Proofs.Ythhoafhkdioboaa
