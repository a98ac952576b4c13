/- (*segment.reader).raw, whichever; data. -/
import Derived.Test.YthmfbhanmncfgaaZRaw
import Derived.Deep.RegionWith
namespace Go.Proofs.Ythmfbhanmncfgaa
open Go.RowKit
set_option linter.unusedVariables false
attribute [local go_sem] jump_ret jump_normal jump_exit jump_panic jump_goto
set_option maxRecDepth 20000 in
set_option maxHeartbeats 2000000 in
theorem raw_nil (w : World) (p B : Nat) (f : Bool) (h : Rdr w p B ([], f)) :
    Calls Try.prog 45 #[.pointer (some ⟨p, 0, none⟩), .int .i64 0] w fun e w' => ∃ a c, e = .returned (.slice a 0 c) ∧ Hid (Rd1 w p B ([], f) w' ∧ Fresh w w' a c []) := by
  have HR : Hid (Rdr w p B ([], f)) := h
  obtain ⟨a, c, h1, h2, h3, h4, h5, h6⟩ := h
  simp only [List.length_nil] at h1 h2 h3 h5 h6
  have c0 : w.cell? ⟨p, 0, none⟩ = some (.slice a 0 c) := by rw [cell_of h1]; rfl
  have fr := frozen_of h1 0
  have HC : Hid (∀ W, Below w.heap.size w W → Calls Try.prog 49 #[.slice a 0 c] W fun e w' => ∃ a' c', e = .returned (.slice a' 0 c') ∧ Hid (Fresh W w' a' c' [] ∧ Below W.heap.size W w')) := fun W hb => bclone_any W a c [] (row_nil _ _) (by simp)
  have HH : Hid (∀ W q d, Below w.heap.size w W → d ≤ c → ((q = none ∧ d = 0) ∨ ∃ o, q = some ⟨B, o, none⟩ ∧ B ≠ p) → Rd1 w p B ([], f) (W.setCell ⟨p, 0, none⟩ (.slice q 0 d))) := fun W q d hb hd hq => by
    have ho1 : Off (fun k => k = p) W (W.setCell ⟨p, 0, none⟩ (.slice q 0 d)) := (Off.refl (fun k => k = p) W).setCell (p := ⟨p, 0, none⟩) (.inr rfl) _
    refine ⟨⟨q, d, ?_, row_nil _ _, by simp, by omega, by simp, hq⟩, (Off.of_below (S := fun k => k = p) hb).trans ho1 (fun _ _ t => t)⟩
    rw [heap_setCell_same _ _ _ _ _ _ (old_block hb h1)]
    simp
  have HP : Hid (w.heap[p]? = some (.cells #[.slice a 0 c, .bool f] 65 (0, 0))) := h1
  have hp : p < w.heap.size := (Array.getElem?_eq_some_iff.1 h1).1
  clear h1 h2
  rcases h6 with ⟨rfl, rfl⟩ | ⟨o, rfl, hbp⟩
  · clear h3 h4 h5
    go_enter Try.func45, Try.ntmps45
    go_wp2
    refine wp_scope_once 0 rfl ?_
    go_wp2_with fail
    go_region_with (go_at_call 49; refine (HC.out _ (by repeat (first | exact Below.refl _ _ | apply Below.drew))).mono ?_; rintro e w1 ⟨a1, c1, rfl, hq1⟩; have hb1 : Below w.heap.size w w1 := below_of ((Below.refl _ _).drew) hq1.out.2; have k0 : w1.cell? ⟨p, 0, none⟩ = some (.slice none 0 0) := (by rw [cell_of (old_block hb1 HP.out)]; rfl); have kf : w1.frozen? ⟨p, 0, none⟩ = false := frozen_of (old_block hb1 HP.out) 0)
    all_goals
      go_wp2
      try rw [jump_ret]
      exact bodyPost_ret (v := .slice a1 0 c1) (by simp [results, Try.results45, go_sem]) rfl ⟨a1, c1, rfl, HH.out w1 _ _ hb1 (by omega) (.inl ⟨rfl, rfl⟩), hq1.out.1.set hp _⟩
  · by_cases hc0 : c = 0
    · subst hc0
      go_enter Try.func45, Try.ntmps45
      go_wp2
      refine wp_scope_once 0 rfl ?_
      go_wp2_with fail
      go_region_with (go_at_call 49; refine (HC.out _ (by repeat (first | exact Below.refl _ _ | apply Below.drew))).mono ?_; rintro e w1 ⟨a1, c1, rfl, hq1⟩; have hb1 : Below w.heap.size w w1 := below_of ((Below.refl _ _).drew) hq1.out.2; have k0 : w1.cell? ⟨p, 0, none⟩ = some (.slice (some ⟨B, o, none⟩) 0 0) := (by rw [cell_of (old_block hb1 HP.out)]; rfl); have kf : w1.frozen? ⟨p, 0, none⟩ = false := frozen_of (old_block hb1 HP.out) 0)
      all_goals
        go_wp2
        try rw [jump_ret]
        exact bodyPost_ret (v := .slice a1 0 c1) (by simp [results, Try.results45, go_sem]) rfl ⟨a1, c1, rfl, HH.out w1 _ _ hb1 (by omega) (.inr ⟨_, rfl, hbp⟩), hq1.out.1.set hp _⟩
    · have hc1 : ¬ (0 = c) := fun e => hc0 e.symm
      go_enter Try.func45, Try.ntmps45
      go_wp2
      refine wp_scope_once 0 rfl ?_
      go_wp2_with fail
      go_region_with (go_at_call 49; refine (HC.out _ (by repeat (first | exact Below.refl _ _ | apply Below.drew))).mono ?_; rintro e w1 ⟨a1, c1, rfl, hq1⟩; have hb1 : Below w.heap.size w w1 := below_of ((Below.refl _ _).drew) hq1.out.2; have k0 : w1.cell? ⟨p, 0, none⟩ = some (.slice (some ⟨B, o, none⟩) 0 c) := (by rw [cell_of (old_block hb1 HP.out)]; rfl); have kf : w1.frozen? ⟨p, 0, none⟩ = false := frozen_of (old_block hb1 HP.out) 0)
      all_goals
        go_wp2
        try rw [jump_ret]
        exact bodyPost_ret (v := .slice a1 0 c1) (by simp [results, Try.results45, go_sem]) rfl ⟨a1, c1, rfl, HH.out w1 _ _ hb1 (by omega) (.inr ⟨_, rfl, hbp⟩), hq1.out.1.set hp _⟩
end Go.Proofs.Ythmfbhanmncfgaa
