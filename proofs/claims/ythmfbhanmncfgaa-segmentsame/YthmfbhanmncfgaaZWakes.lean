/- the laws' own wakes. -/
import Derived.Test.YthmfbhanmncfgaaZDecW
import Derived.Test.YthmfbhanmncfgaaZEncAny
import Derived.Deep.RegionWith
namespace Go.Proofs.Ythmfbhanmncfgaa
open Go.RowKit
set_option linter.unusedVariables false
/-- the segment of wakes. -/
def s3 : Sg := ⟨3, 2, 3, 300, 0, 0, 0, 0, 0, 0, false, [], []⟩
theorem ok3 : okS s3 = true := by decide
theorem enc3_len : (encS s3).length = 9 := by rw [enc_len]; decide
theorem enc3_at : (encS s3).getD 3 0 = 130 := by
  unfold encS
  rw [List.getD_eq_getElem?_getD, List.getElem?_append_left (by decide)]
  decide
theorem came3 (w : World) : Came w s3 none 0 none 0 := by
  refine ⟨⟨?_, ?_, by decide, by decide, by decide, ?_, ?_, ?_, ?_, ?_, by decide, by decide, by simp [s3]⟩, row_nil _ _, rowC_nil _ _, by simp [s3], by simp, by simp [s3], by simp⟩
  all_goals (unfold in64; decide)
theorem dec3 : decS (encS s3) = (0, s3) := dec_enc s3 ok3 ⟨by decide, by decide, by decide⟩
set_option maxRecDepth 20000 in
set_option maxHeartbeats 4000000 in
theorem wakes_any (w : World) : Calls Try.prog 4 #[] w fun e w' => e = .returned (.bool true) ∧ Hid (Below w.heap.size w w') := by
  have HB : Hid (∀ (w : World) (X : Obj), Below w.heap.size w (w.alloc X)) := fun w X => (Below.refl _ w).alloc (Nat.le_refl _) X
  have HEN : Hid (∀ W, Calls Try.prog 9 #[sv s3 none 0 none 0] W fun e w' => ∃ g, e = .returned (.tuple #[.slice (some ⟨g, 0, none⟩) 9 9, .int .i64 0]) ∧ Hid (Bs w' g (encS s3) ∧ w'.cell? ⟨g, 3, none⟩ = some (.int .u8 130) ∧ Below W.heap.size W w')) := fun W => by
    refine (encode_ok s3 none 0 none 0 W (came3 W) ok3).mono ?_
    rintro e w' ⟨g, rfl, hq⟩
    rw [enc3_len]
    refine ⟨g, rfl, hq.out.1, ?_, hq.out.2.2⟩
    obtain ⟨b', o', e, hc⟩ := hq.out.1.row.2.2 (by rw [enc3_len]; omega)
    cases e
    have := hc 3 (by rw [enc3_len]; omega)
    rw [enc3_at] at this
    exact this
  have HDE : Hid (∀ W g, Bs W g (encS s3) → Calls Try.prog 10 #[.slice (some ⟨g, 0, none⟩) 9 9] W fun e w' => ∃ a' c' a2' c2', e = .returned (.tuple #[sv s3 a' c' a2' c2', .int .i64 0]) ∧ Hid (Below W.heap.size W w' ∧ Came w' s3 a' c' a2' c2')) := fun W g hb => by
    have := decode_any W (some ⟨g, 0, none⟩) 9 (encS s3) hb.row (by rw [enc3_len]; omega) (by rw [enc3_len]; omega) (by unfold maxLen; omega)
    unfold Dec1 at this
    rw [enc3_len, dec3] at this
    exact this
  have HSA : Hid (∀ W a' c' a2' c2', Came W s3 a' c' a2' c2' → Calls Try.prog 6 #[sv s3 none 0 none 0, sv s3 a' c' a2' c2'] W fun e w' => e = .returned (.bool true) ∧ Hid (Below W.heap.size W w')) := fun W a' c' a2' c2' h => by
    have := Go.Proofs.Ythmfbhanmncfgaa.same_any s3 s3 none 0 none 0 a' c' a2' c2' W (row_nil _ _) (rowC_nil _ _) h.row h.rowc (by decide) (by decide)
    rw [same_self] at this
    exact this
  have HCK : Hid (∀ W, Calls Try.prog 11 #[sv zeroS none 0 none 0] W fun e w' => e = .returned (.int .i64 200) ∧ Hid (Below W.heap.size W w')) := fun W => by
    have := check_any zeroS none 0 none 0 W (came_zero W)
    rw [chk_no (show okS zeroS = false by decide)] at this
    exact this
  have HFW : Hid (∀ W, Calls Try.prog 12 #[sv s3 none 0 none 0] W fun e w' => e = .returned (.bool true) ∧ Hid (Below W.heap.size W w')) := fun W => by
    have := forward_any s3 none 0 none 0 W
    rw [show fwdS s3 = true by decide] at this
    exact this
  go_enter Try.func4, Try.ntmps4
  go_wp2_with (first
    | (go_at_call 9; refine (HEN.out _).mono ?_; rintro e w1 ⟨g, rfl, hq1⟩; have hP1 : Hid (w1.heap[w.heap.size]? = some (sc s3 none 0 none 0)) := (show _ = _ from old_block hq1.out.2.2 (made_at rfl)))
    | (go_at_call 10; refine (HDE.out _ g hq1.out.1).mono ?_; rintro e w2 ⟨a', c', a2', c2', rfl, hq2⟩; have kb : ∀ X, (w2.alloc X).cell? ⟨g, 3, none⟩ = some (.int .u8 130) := (fun X => cell_later (below_of hq2.out.1 (HB.out _ _)) hq1.out.2.1); have hP2 : Hid (w2.heap[w.heap.size]? = some (sc s3 none 0 none 0)) := (show _ = _ from old_block hq2.out.1 hP1.out); have e0 := (fun X => (scells (old_block (HB.out w2 X) hP2.out)).1); have e1 := (fun X => (scells (old_block (HB.out w2 X) hP2.out)).2.1); have e2 := (fun X => (scells (old_block (HB.out w2 X) hP2.out)).2.2.1); have e3 := (fun X => (scells (old_block (HB.out w2 X) hP2.out)).2.2.2.1); have e4 := (fun X => (scells (old_block (HB.out w2 X) hP2.out)).2.2.2.2.1); have e5 := (fun X => (scells (old_block (HB.out w2 X) hP2.out)).2.2.2.2.2.1); have e6 := (fun X => (scells (old_block (HB.out w2 X) hP2.out)).2.2.2.2.2.2.1); have e7 := (fun X => (scells (old_block (HB.out w2 X) hP2.out)).2.2.2.2.2.2.2.1); have e8 := (fun X => (scells (old_block (HB.out w2 X) hP2.out)).2.2.2.2.2.2.2.2.1); have e9 := (fun X => (scells (old_block (HB.out w2 X) hP2.out)).2.2.2.2.2.2.2.2.2.1); have e10 := (fun X => (scells (old_block (HB.out w2 X) hP2.out)).2.2.2.2.2.2.2.2.2.2.1); have e11 := (fun X => (scells (old_block (HB.out w2 X) hP2.out)).2.2.2.2.2.2.2.2.2.2.2.1); have e12 := (fun X => (scells (old_block (HB.out w2 X) hP2.out)).2.2.2.2.2.2.2.2.2.2.2.2))
    | (go_at_call 6; refine (HSA.out _ a' c' a2' c2' (hq2.out.2.later (HB.out _ _))).mono ?_; rintro e w3 ⟨rfl, hb3⟩)
    | (go_at_call 11; refine (HCK.out _).mono ?_; rintro e w4 ⟨rfl, hb4⟩; obtain ⟨f0, f1, f2, f3, f4, f5, f6, f7, f8, f9, f10, f11, f12⟩ := scells (old_block hb4.out (old_block hb3.out (old_block (HB.out _ _) hP2.out))))
    | (go_at_call 12; refine (HFW.out _).mono ?_; rintro e w5 ⟨rfl, hb5⟩))
  go_ret
  exact ⟨rfl, below_of (below_of (below_of (below_of (below_of (below_of (HB.out _ _) hq1.out.2.2) hq2.out.1) (HB.out _ _)) hb3.out) hb4.out) hb5.out⟩
end Go.Proofs.Ythmfbhanmncfgaa
