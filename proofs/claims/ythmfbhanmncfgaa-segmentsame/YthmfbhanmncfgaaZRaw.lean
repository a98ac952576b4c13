/- (*segment.reader).raw. -/
import Derived.Test.YthmfbhanmncfgaaZRead
import Derived.Deep.RegionWith
namespace Go.Proofs.Ythmfbhanmncfgaa
open Go.RowKit
set_option linter.unusedVariables false
attribute [local go_sem] jump_ret jump_normal jump_exit jump_panic jump_goto
theorem Fresh.set {w w1 : World} {a : Option Addr} {c : Nat} {l : List Nat} (h : Fresh w.drew w1 a c l) {p : Nat} (hp : p < w.heap.size) (u : Value) : Fresh w (w1.setCell ⟨p, 0, none⟩ u) a c l :=
  ⟨h.row.off (S := fun k => k = p) ((Off.refl (fun k => k = p) w1).setCell (p := ⟨p, 0, none⟩) (.inr rfl) u) (fun _ b hb e => by have h1 : w.heap.size ≤ b.block := h.new b hb; have e2 : b.block = p := e; omega), h.le, h.cap, h.new⟩
set_option maxRecDepth 20000 in
set_option maxHeartbeats 2000000 in
theorem raw_ok (w : World) (p B : Nat) (l : List Nat) (f : Bool) (n : Nat) (hn : n ≤ 1000) (h : Rdr w p B (l, f)) (hle : n ≤ l.length) (hl0 : 0 < l.length) :
    Calls Try.prog 45 #[.pointer (some ⟨p, 0, none⟩), .int .i64 n] w fun e w' => ∃ a c, e = .returned (.slice a n c) ∧ Hid (Rd1 w p B (l.drop n, f) w' ∧ Fresh w w' a c (l.take n)) := by
  obtain ⟨a, c, h1, h2, h3, h4, h5, h6⟩ := h
  simp only at h1 h2 h3 h5 h6
  obtain ⟨b, o, rfl, _⟩ := h2.2.2 (by omega)
  obtain ⟨rfl, hbp⟩ : b = B ∧ b ≠ p := by
    rcases h6 with ⟨e, _⟩ | ⟨o', e, h⟩
    · cases e
    · cases e; exact ⟨rfl, h⟩
  have c0 : w.cell? ⟨p, 0, none⟩ = some (.slice (some ⟨b, o, none⟩) l.length c) := by rw [cell_of h1]; rfl
  have hnc : n ≤ c := by omega
  have HC : Hid (∀ W, Below w.heap.size w W → Calls Try.prog 49 #[.slice (some ⟨b, o, none⟩) n c] W fun e w' => ∃ a' c', e = .returned (.slice a' n c') ∧ Hid (Fresh W w' a' c' (l.take n) ∧ Below W.heap.size W w')) := fun W hb => by
    have hl : (l.take n).length = n := by rw [List.length_take]; omega
    have := bclone_any W (some ⟨b, o, none⟩) c (l.take n) ((row_take h2 n).later hb) (by omega)
    rw [hl] at this
    exact this
  have HH : Hid (∀ W q d, Below w.heap.size w W → (0 < l.length - n → q = o + n) → l.length - n ≤ d → d ≤ c → Rd1 w p b (l.drop n, f) (W.setCell ⟨p, 0, none⟩ (.slice (some ⟨b, q, none⟩) (l.length - n) d))) := fun W q d hb hq hd1 hd2 => by
    have ho1 : Off (fun k => k = p) W (W.setCell ⟨p, 0, none⟩ (.slice (some ⟨b, q, none⟩) (l.length - n) d)) := (Off.refl (fun k => k = p) W).setCell (p := ⟨p, 0, none⟩) (.inr rfl) _
    have ho : Off (fun k => k = p) w (W.setCell ⟨p, 0, none⟩ (.slice (some ⟨b, q, none⟩) (l.length - n) d)) := (Off.of_below (S := fun k => k = p) hb).trans ho1 (fun _ _ t => t)
    refine ⟨⟨_, d, ?_, ?_, ?_, by omega, ?_, .inr ⟨q, rfl, hbp⟩⟩, ho⟩
    · rw [heap_setCell_same _ _ _ _ _ _ (old_block hb h1)]
      simp
    · show Row _ (some ⟨b, q, none⟩) (l.drop n)
      by_cases h0 : 0 < l.length - n
      · obtain rfl := hq h0
        exact (row_drop h2 n hle).off (S := fun k => k = p) ho (fun _ b' hb' => by cases hb'; exact hbp)
      · rw [List.drop_of_length_le (by omega)]; exact row_nil _ _
    · simp; omega
    · simp; omega
  have HP : Hid (w.heap[p]? = some (.cells #[.slice (some ⟨b, o, none⟩) l.length c, .bool f] 65 (0, 0))) := h1
  have hp : p < w.heap.size := (Array.getElem?_eq_some_iff.1 h1).1
  have fr := frozen_of h1 0
  clear h1 h2 h6
  by_cases hcn : c = n
  · subst hcn
    go_enter Try.func45, Try.ntmps45
    go_wp2
    refine wp_scope_once 0 rfl ?_
    go_wp2_with fail
    go_region_with (go_at_call 49; refine (HC.out _ (by repeat (first | exact Below.refl _ _ | apply Below.drew))).mono ?_; rintro e w1 ⟨a1, c1, rfl, hq1⟩; have hb1 : Below w.heap.size w w1 := below_of ((Below.refl _ _).drew) hq1.out.2; have k0 : w1.cell? ⟨p, 0, none⟩ = some (.slice (some ⟨b, o, none⟩) l.length c) := (by rw [cell_of (old_block hb1 HP.out)]; rfl); have kf : w1.frozen? ⟨p, 0, none⟩ = false := frozen_of (old_block hb1 HP.out) 0)
    all_goals
      go_wp2
      try rw [jump_ret]
      have e0 : l.length - c = 0 := by omega
      have HH0 := HH.out w1 o 0 hb1 (fun h => by omega) (by omega) (by omega)
      rw [e0] at HH0
      exact bodyPost_ret (v := .slice a1 c c1) (by simp [results, Try.results45, go_sem]) rfl ⟨a1, c1, rfl, HH0, hq1.out.1.set hp _⟩
  · have hcn2 : n ≠ c := fun e => hcn e.symm
    go_enter Try.func45, Try.ntmps45
    go_wp2
    refine wp_scope_once 0 rfl ?_
    go_wp2_with fail
    go_region_with (go_at_call 49; refine (HC.out _ (by repeat (first | exact Below.refl _ _ | apply Below.drew))).mono ?_; rintro e w1 ⟨a1, c1, rfl, hq1⟩; have hb1 : Below w.heap.size w w1 := below_of ((Below.refl _ _).drew) hq1.out.2; have k0 : w1.cell? ⟨p, 0, none⟩ = some (.slice (some ⟨b, o, none⟩) l.length c) := (by rw [cell_of (old_block hb1 HP.out)]; rfl); have kf : w1.frozen? ⟨p, 0, none⟩ = false := frozen_of (old_block hb1 HP.out) 0)
    all_goals
      go_wp2
      try rw [jump_ret]
      exact bodyPost_ret (v := .slice a1 n c1) (by simp [results, Try.results45, go_sem]) rfl ⟨a1, c1, rfl, HH.out w1 _ _ hb1 (fun h => rfl) (by omega) (by omega), hq1.out.1.set hp _⟩
end Go.Proofs.Ythmfbhanmncfgaa
