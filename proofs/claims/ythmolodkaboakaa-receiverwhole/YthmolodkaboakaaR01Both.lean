/- The walk of the reference's own Both (heliographref01): what it makes is the call's own. -/
import Derived.Test.YthmolodkaboakaaR01Same
namespace Go.Proofs.Ythmolodkaboakaa
open Go.RowKit
set_option linter.unusedVariables false
theorem own_take {w : World} {b n k : Nat} {v : Value} {l m : List Nat} (hk : k < m.length) (h : w.ownsRow b 5 1 v n (cells (l ++ m.take k) ++ [Value.int .u8 ((m.getD k 0 : Nat) : Int)])) : w.ownsRow b 5 1 v n (cells (l ++ m.take (k + 1))) := by
  rw [take_snoc m k hk, ← List.append_assoc, cells_append (l ++ m.take k), cells_one]
  exact h
set_option maxHeartbeats 2000000 in
theorem both_own (w : World) (a b : Option Addr) (c d : Nat) (l m : List Nat) (hr : Row w a l) (hs : Row w b m) (hz : l.length + m.length ≤ 140737488351232) :
    Calls Try.prog 58 #[.slice a l.length c, .slice b m.length d] w fun e w' => ∃ v, e = .returned v ∧ Hid (w'.ownsRow w.heap.size 5 1 v (l.length + m.length) (cells (l ++ m)) ∧ Below w.heap.size w w') := by
  obtain ⟨i0, hi, hz0, hz1, hz2⟩ := info_parts Try.info5
  have HI : Hid (Try.prog.info? 5 = some i0) := hi
  have HR : Hid (Row w a l) := hr
  have HS : Hid (Row w b m) := hs
  clear hr hs hi
  go_enter Try.func58, Try.ntmps58
  go_wp2_with (at_make; go_must (refine wpList_make_own _ rfl (.const (.int .i64 0)) (.tmp 12) 23 rfl w.heap.size 5 i0 (.int .u8 0) 1 Try.underlying23 HI.out hz0 hz1 .i64 .i64 _ (l.length + m.length) rfl rfl ?a1 ?a2 ?a3 (Nat.le_refl _) ?_))
  case a1 => omega
  case a2 => rw [hz2]; omega
  case a3 => unfold maxLen; omega
  intro w1 hown1 hgrow1
  have hb1 : Below w.heap.size w w1 := (Below.refl _ _).grown hgrow1 (Nat.le_refl _) (by intro k h; cases h)
  have H1 : Hid (w1.ownsRow w.heap.size 5 1 (.slice (some ⟨w.heap.size, 0, none⟩) 0 (l.length + m.length)) 0 []) := hown1
  clear hown1 hgrow1
  go_wp2
  go_loopw [5, 6] (fun v i wr => ∃ k : Nat, k ≤ l.length ∧ i = .int .i64 k ∧ Hid (wr.ownsRow w.heap.size 5 1 v k (cells ([] ++ l.take k)) ∧ Below w.heap.size w wr))
    (fun _ i _ => l.length - (intOf i).toNat)
  case atStart => exact ⟨0, by omega, rfl, H1.out, hb1⟩
  case round =>
    obtain ⟨k, hk, rfl, hq⟩ := hrel
    have hbs := hq.out.2.size
    clear hb1
    by_cases hkl : k < l.length
    · obtain ⟨b1, off, rfl, hc⟩ := (HR.out.later hq.out.2).2.2 (by omega)
      have hcell := hc k hkl
      have HT : Hid (∀ (w' : World) (v' : Value), w'.ownsRow w.heap.size 5 1 v' (k + 1) (cells ([] ++ l.take k) ++ [Value.int .u8 ((l.getD k 0 : Nat) : Int)]) → w'.ownsRow w.heap.size 5 1 v' (k + 1) (cells ([] ++ l.take (k + 1)))) := fun w' v' h => own_take hkl h
      clear hc
      generalize l.getD k 0 = x at hcell HT ⊢
      go_wp2_with (at_builtin; go_must (refine wpList_append_own _ rfl (.tmp 20) (.tmp 25) 23 rfl w.heap.size 5 i0 (.int .u8 0) 1 1 Try.underlying23 HI.out hz0 hz1 hz2 rfl (by decide) _ _ _ rfl (hq.out.1.alloc _) ⟨wr.heap.size, 0, none⟩ 1 1 [.int .u8 (x : Int)] rfl rfl ?d1 ?d2 ?d3 ?d4 ?d5 ?_))
      case d1 => exact cell_one_new _ _ _
      case d2 => intro u hu; simp at hu; subst hu; rfl
      case d3 => unfold maxLen; omega
      case d4 => omega
      case d5 => simp; omega
      · intro v' w2 hown hgrow _
        have H2 : Hid (w2.ownsRow w.heap.size 5 1 v' (k + 1) (cells ([] ++ l.take (k + 1))) ∧ Below w.heap.size w w2) := ⟨HT.out _ _ hown, (hq.out.2.alloc hbs _).grown hgrow (by simp; omega) (own_ge hq.out.1)⟩
        clear hown hgrow
        go_wp2
        go_roundw
        case rel => exact ⟨k + 1, by omega, by go_num, H2.out⟩
        case measure => simp [intOf]; omega
    · obtain rfl : k = l.length := by omega
      have H2 : Hid (wr.ownsRow w.heap.size 5 1 u5 (l.length + 0) (cells (l ++ m.take 0)) ∧ Below w.heap.size w wr) := by
        have := hq.out
        rw [List.take_length, List.nil_append] at this
        show _ ∧ _
        simpa using this
      clear hq hbs
      go_wp2
      go_loopw [5, 7] (fun v i wr => ∃ k : Nat, k ≤ m.length ∧ i = .int .i64 k ∧ Hid (wr.ownsRow w.heap.size 5 1 v (l.length + k) (cells (l ++ m.take k)) ∧ Below w.heap.size w wr))
        (fun _ i _ => m.length - (intOf i).toNat)
      case atStart => exact ⟨0, by omega, rfl, H2.out⟩
      case round =>
        obtain ⟨k, hk2, rfl, hq⟩ := hrel
        have hbs := hq.out.2.size
        clear H2
        by_cases hkl : k < m.length
        · obtain ⟨b1, off, rfl, hc⟩ := (HS.out.later hq.out.2).2.2 (by omega)
          have hcell := hc k hkl
          have HT : Hid (∀ (w' : World) (v' : Value), w'.ownsRow w.heap.size 5 1 v' (l.length + k + 1) (cells (l ++ m.take k) ++ [Value.int .u8 ((m.getD k 0 : Nat) : Int)]) → w'.ownsRow w.heap.size 5 1 v' (l.length + (k + 1)) (cells (l ++ m.take (k + 1)))) := fun w' v' h => own_take hkl h
          clear hc
          generalize m.getD k 0 = x at hcell HT ⊢
          go_wp2_with (at_builtin; go_must (refine wpList_append_own _ rfl (.tmp 33) (.tmp 38) 23 rfl w.heap.size 5 i0 (.int .u8 0) 1 1 Try.underlying23 HI.out hz0 hz1 hz2 rfl (by decide) _ _ _ rfl (hq.out.1.alloc _) ⟨_, 0, none⟩ 1 1 [.int .u8 (x : Int)] rfl rfl ?d1 ?d2 ?d3 ?d4 ?d5 ?_))
          case d1 => exact cell_one_new _ _ _
          case d2 => intro u hu; simp at hu; subst hu; rfl
          case d3 => unfold maxLen; omega
          case d4 => omega
          case d5 => simp; omega
          · intro v' w2 hown hgrow _
            have H2 : Hid (w2.ownsRow w.heap.size 5 1 v' (l.length + (k + 1)) (cells (l ++ m.take (k + 1))) ∧ Below w.heap.size w w2) := ⟨HT.out _ _ hown, (hq.out.2.alloc hbs _).grown hgrow (by simp; omega) (own_ge hq.out.1)⟩
            clear hown hgrow
            go_wp2
            go_roundw
            case rel => exact ⟨k + 1, by omega, by go_num, H2.out⟩
            case measure => simp [intOf]; omega
        · obtain rfl : k = m.length := by omega
          have hq2 := hq.out.1
          rw [List.take_length] at hq2
          have HF : Hid (_ ∧ Below w.heap.size w _) := ⟨hq2, hq.out.2⟩
          clear hq2 hq
          go_wp2
          go_ret
          exact ⟨_, rfl, HF.out⟩
end Go.Proofs.Ythmolodkaboakaa
