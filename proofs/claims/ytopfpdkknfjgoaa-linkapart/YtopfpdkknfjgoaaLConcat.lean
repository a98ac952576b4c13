/- The walks of slices.Grow, Concat and Clone of flights, bytes.Clone, and link's without. -/
import Derived.Test.YtopfpdkknfjgoaaLOf
import Derived.Lib.AppendZeros
import Derived.LoopN
namespace Go.Proofs.Ytopfpdkknfjgoaa
open Go.RowKit
set_option linter.unusedVariables false

theorem wpList_zeros {w : World} {ops : Array Oper} {rest : List Oper} {o : Oper} {a : Act} {Q : Exit → Act → World → Prop} (hgd : o.guard = none) (s x : Operand)
    (ho : o.op = .call { callee := .builtin .append, args := #[s, x], argTypes := #[26, 3] }) (n : Nat) (h0 : 0 < n) (hz : n ≤ 1000000000) (hs : a.eval s = .slice none 0 0) (hx : a.eval x = .int .i64 n)
    (h : ∀ w' cap, w'.ownsRow w.heap.size 32 4 (.slice (some ⟨w.heap.size, 0, none⟩) 0 cap) 0 [] → Below w.heap.size w w' → n ≤ cap → cap ≤ maxLen → wpList Try.prog ops Q rest (a.put o.dst (.slice (some ⟨w.heap.size, 0, none⟩) n cap)) w') : wpList Try.prog ops Q (o :: rest) a w := by
  obtain ⟨i0, hi, hz0, hz1, hz2⟩ := info_parts Try.info32
  have happ := Go.Lib.run_append_nil_zeros w 26 3 o.type 32 i0 _ .i64 .i64 Try.underlying26 Try.underlying3 hi hz0 n h0 (by omega) (by omega) (by rw [hz2]; omega)
  refine wpList_plain hgd fun K hK => ?_
  unfold Oper.wp
  simp [execOp, ho, resolve, invoke, builtin, hs, hx, happ, Result.andThen]
  have hg1 := grownCap_ge w n 0 32
  have hg2 := grownCap_le_maxLen w n 0 32 (by unfold maxLen; omega)
  refine hK _ _ (h _ _ ⟨by simp, .inr ⟨_, _, _, rfl, Nat.le_refl _, heap_alloc_new w.drew _, by omega, hg2, ?_, by simp⟩⟩ ((Below.refl _ w).drew.alloc (Nat.le_refl _) _) hg1 hg2)
  simp [Builtin.zeroCells, Value.cells]
  omega

set_option maxRecDepth 20000 in
set_option maxHeartbeats 1000000 in
theorem grow_nil (n : Nat) (w : World) (hz : n ≤ 1000000000) :
    Calls Try.prog 52 #[.slice none 0 0, .int .i64 n] w fun e w' => ∃ v, e = .returned v ∧ Hid (w'.ownsRow w.heap.size 32 4 v 0 [] ∧ Below w.heap.size w w') := by
  have i1 : ¬ ((n : Int) < 0) := by omega
  rcases Nat.eq_zero_or_pos n with h0 | h0
  · subst h0
    go_enter Try.func52, Try.ntmps52
    go_wp2
    go_ret
    exact ⟨_, rfl, World.ownsRow_nil w _ _ _, Below.refl _ _⟩
  · have i2 : (n : Int) > 0 := by omega
    go_enter Try.func52, Try.ntmps52
    go_wp2_with (refine wpList_zeros rfl _ _ rfl n h0 hz (by rfl) (by rfl) ?_; intro w1 cap h1 h2 h3 h4; have H1 : Hid (w1.ownsRow w.heap.size 32 4 (.slice (some ⟨w.heap.size, 0, none⟩) 0 cap) 0 []) := h1; have H2 : Hid (Below w.heap.size w w1) := h2; clear h1 h2)
    go_ret
    exact ⟨_, rfl, H1.out, H2.out⟩

set_option maxRecDepth 20000 in
set_option maxHeartbeats 2000000 in
theorem concat_any (a1 a2 : Addr) (c1 c2 cap n1 n2 : Nat) (X1 X2 : List FX) (w : World) (g : Nat) (hn1 : X1.length = n1) (hn2 : X2.length = n2) (h1 : ∀ j u, (fcells X1)[j]? = some u → w.cell? (a1.add j) = some u) (h2 : ∀ j u, (fcells X2)[j]? = some u → w.cell? (a2.add j) = some u)
    (hg : w.heap[g]? = some (.cells #[.slice (some a1) n1 c1, .slice (some a2) n2 c2] 26 (0, 0))) (hz : n1 + n2 ≤ 1000000) :
    Calls Try.prog 49 #[.slice (some ⟨g, 0, none⟩) 2 cap] w fun e w' => ∃ v, e = .returned v ∧ Hid (w'.ownsRow w.heap.size 32 4 v (n1 + n2) (fcells (X1 ++ X2)) ∧ Below w.heap.size w w') := by
  have e0 := cell_of hg 0
  have e1 := cell_of hg 1
  simp only [List.getElem?_toArray, List.getElem?_cons_zero, List.getElem?_cons_succ] at e0 e1
  obtain ⟨i0, hi, hz0, hz1, hz2⟩ := info_parts Try.info32
  have HI : Hid _ := hi
  have HE : Hid _ := And.intro e0 e1
  have H1 : Hid (∀ j u, (fcells X1)[j]? = some u → w.cell? (a1.add j) = some u) := h1
  have H2 : Hid (∀ j u, (fcells X2)[j]? = some u → w.cell? (a2.add j) = some u) := h2
  have HN : Hid (X1.length = n1 ∧ X2.length = n2) := ⟨hn1, hn2⟩
  clear hg h1 h2 hi hn1 hn2
  have j1 : ¬ ((n1 : Int) < 0) := by omega
  have j2 : ¬ ((n1 : Int) + n2 < 0) := by omega
  go_enter Try.func49, Try.ntmps49
  go_wp2
  refine wp_loop_rounds 3 ?_
  rw [rounds_succ]
  go_wp2
  rw [rounds_succ]
  go_wp2
  rw [rounds_succ]
  go_wp2_with (go_at_call 52; refine (grow_nil (n1 + n2) _ (by omega)).mono ?_; rintro e w1 ⟨v, rfl, HG⟩)
  have f0 := cell_later HG.out.2 HE.out.1
  have f1 := cell_later HG.out.2 HE.out.2
  have HB1 : Hid (Below w.heap.size w w1) := HG.out.2
  have HO1 : Hid (w1.ownsRow w.heap.size 32 4 v 0 []) := HG.out.1
  clear e0 e1 HG
  refine wp_loop_rounds 3 ?_
  rw [rounds_succ]
  go_wp2_with (at_builtin; go_must (refine wpList_append_own _ rfl (.tmp 31) (.tmp 32) 26 rfl w.heap.size 32 i0 _ 4 48 Try.underlying26 HI.out hz0 hz1 hz2 rfl (by decide) _ _ _ rfl HO1.out a1 n1 c1 (fcells X1) rfl (by rw [fcells_length, HN.out.1]) (fun j u hu => cell_later HB1.out (H1.out j u hu)) (fcells_one X1) (by unfold maxLen; omega) (by omega) HB1.out.size ?_); intro v2 w2 hown2 hgrow2 _)
  have hb2 : Below w.heap.size w w2 := HB1.out.grown hgrow2 HB1.out.size (own_ge HO1.out)
  have g0 := cell_later hb2 HE.out.1
  have g1 := cell_later hb2 HE.out.2
  have HB2 : Hid (Below w.heap.size w w2) := hb2
  rw [Nat.zero_add, List.nil_append] at hown2
  have HO2 : Hid (w2.ownsRow w.heap.size 32 4 v2 n1 (fcells X1)) := hown2
  clear hown2 hgrow2 hb2 f0 f1
  rw [rounds_succ]
  go_wp2_with (at_builtin; go_must (refine wpList_append_own _ rfl (.tmp 31) (.tmp 32) 26 rfl w.heap.size 32 i0 _ 4 48 Try.underlying26 HI.out hz0 hz1 hz2 rfl (by decide) _ _ _ rfl HO2.out a2 n2 c2 (fcells X2) rfl (by rw [fcells_length, HN.out.2]) (fun j u hu => cell_later HB2.out (H2.out j u hu)) (fcells_one X2) (by unfold maxLen; omega) (by omega) HB2.out.size ?_); intro v3 w3 hown3 hgrow3 _)
  have hb3 : Below w.heap.size w w3 := HB2.out.grown hgrow3 HB2.out.size (own_ge HO2.out)
  rw [← fcells_append] at hown3
  have HR : Hid (w3.ownsRow w.heap.size 32 4 v3 (n1 + n2) (fcells (X1 ++ X2)) ∧ Below w.heap.size w w3) := ⟨hown3, hb3⟩
  clear hown3 hgrow3 hb3 g0 g1
  rw [rounds_succ]
  go_wp2
  go_ret
  exact ⟨_, rfl, HR.out⟩

theorem eqlFlights (w : World) (a : Option Addr) (n c n' c' : Nat) : (binOp .eql 26 (.slice a n c) (.slice none n' c')).run Try.prog w = .ok (.bool a.isNone) w := Lib.run_eql_slice_nil w _ _ a n c n' c' Try.underlying26

set_option maxRecDepth 20000 in
set_option maxHeartbeats 1000000 in
theorem fclone_any (w : World) (ad : Addr) (cap : Nat) (X : List FX) (hz : X.length ≤ 1000000) (hc : ∀ j u, (fcells X)[j]? = some u → w.cell? (ad.add j) = some u) :
    Calls Try.prog 51 #[.slice (some ad) X.length cap] w fun e w' => ∃ v, e = .returned v ∧ Hid (w'.ownsRow w.heap.size 32 4 v X.length (fcells X) ∧ Below w.heap.size w w') := by
  have q := eqlFlights
  obtain ⟨i0, hi, hz0, hz1, hz2⟩ := info_parts Try.info32
  have HI : Hid _ := hi
  have HC : Hid (∀ j u, (fcells X)[j]? = some u → w.cell? (ad.add j) = some u) := hc
  clear hi hc
  go_enter Try.func51, Try.ntmps51
  go_wp2_with (at_builtin; go_must (refine wpList_append_own _ rfl _ _ 26 rfl w.heap.size 32 i0 _ 4 48 Try.underlying26 HI.out hz0 hz1 hz2 rfl (by decide) _ _ _ rfl (World.ownsRow_made w #[] 0 (Nat.le_refl _) (Nat.zero_le _) rfl) ad X.length cap (fcells X) rfl (by rw [fcells_length]) (fun j u hu => cell_later ((Below.refl _ w).alloc (Nat.le_refl _) _) (HC.out j u hu)) (fcells_one X) (by unfold maxLen; omega) (by omega) (by simp) ?_); intro v' w1 hown hgrow hnil)
  have HO : Hid (w1.ownsRow w.heap.size 32 4 v' X.length (fcells X) ∧ Below w.heap.size w w1) := ⟨by simpa using hown, ((Below.refl _ w).alloc (Nat.le_refl _) _).grown hgrow (by simp) (by intro k hk; cases hk; exact Nat.le_refl _)⟩
  clear hown hgrow hnil
  go_wp2
  go_ret
  exact ⟨v', rfl, HO⟩

set_option maxRecDepth 20000 in
set_option maxHeartbeats 1000000 in
theorem bclone_own (w : World) (a : Option Addr) (cap : Nat) (l : List Nat) (hr : Row w a l) (hz : l.length ≤ 140737488351232) :
    Calls Try.prog 36 #[.slice a l.length cap] w fun e w' => ∃ a' c', e = .returned (.slice a' l.length c') ∧ Hid (w'.ownsRow w.heap.size 5 1 (.slice a' l.length c') l.length (cells l) ∧ Fresh w w' a' c' l ∧ Below w.heap.size w w') := by
  have q := eqlBytes
  cases a with
  | none =>
    obtain rfl := row_none hr
    go_enter Try.func36, Try.ntmps36
    go_wp2
    go_ret
    exact ⟨none, 0, rfl, World.ownsRow_nil w _ _ _, ⟨hr, Nat.le_refl _, Nat.zero_le _, fun b hb => by cases hb⟩, Below.refl _ _⟩
  | some ad =>
    obtain ⟨i0, hi, hz0, hz1, hz2⟩ := info_parts Try.info5
    have HI : Hid _ := hi
    have HR : Hid (Row w (some ad) l) := hr
    clear hi hr
    go_enter Try.func36, Try.ntmps36
    go_wp2_with (at_builtin; go_must (refine wpList_append_own _ rfl _ _ 30 rfl w.heap.size 5 i0 (.int .u8 0) 1 1 Try.underlying30 HI.out hz0 hz1 hz2 rfl (by decide) _ _ _ rfl (World.ownsRow_made w #[] 0 (Nat.le_refl _) (Nat.zero_le _) rfl) ad l.length cap (cells l) rfl (by rw [cells_length, Nat.mul_one]) (row_cells (HR.out.later ((Below.refl _ w).alloc (Nat.le_refl _) _)) _ rfl) (one_cell l) (by unfold maxLen; omega) (by omega) (by simp) ?_); intro v' w1 hown hgrow hnil)
    have HO : Hid (w1.ownsRow w.heap.size 5 1 v' l.length (cells l) ∧ Below w.heap.size w w1) := ⟨by simpa using hown, ((Below.refl _ w).alloc (Nat.le_refl _) _).grown hgrow (by simp) (by intro k hk; cases hk; exact Nat.le_refl _)⟩
    clear hown hgrow hnil
    go_wp2
    go_ret
    obtain ⟨a', c', he, hf⟩ := fresh_of HO.out.1 HR.out.1 HR.out.2.1
    exact ⟨a', c', by rw [← he]; rfl, by rw [← he]; exact HO.out.1, hf, HO.out.2⟩
end Go.Proofs.Ytopfpdkknfjgoaa
