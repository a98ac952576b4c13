/- the laws' own copied. -/
import Derived.Test.YtfkkaihnmnjadaaPRead
import Derived.Test.YtfkkaihnmnjadaaHAppend
namespace Go.Proofs.Ytfkkaihnmnjadaa
open Go.RowKit
set_option linter.unusedVariables false
theorem made_none_at {w : World} {h : Nat} (e : w.heap.size = h) : (w.alloc (.cells #[] 5)).ownsRow h 5 1 (.slice (some ⟨h, 0, none⟩) 0 0) 0 (cells []) := by
  subst e
  exact made_none w
theorem copy_facts {w : World} {B Z : Obj} {w4 : World} {v4 : Value} (hg : Grew (((w.alloc B).alloc Z).alloc (.cells #[] 5)) w4 (.slice (some ⟨w.heap.size + 1 + 1, 0, none⟩) 0 0) v4) : w4.heap[w.heap.size]? = some B ∧ w4.heap[w.heap.size + 1]? = some Z ∧ Below w.heap.size w w4 := by
  have HB : ∀ (w : World) (X : Obj), Below w.heap.size w (w.alloc X) := fun w X => (Below.refl _ w).alloc (Nat.le_refl _) X
  have n0 := heap_alloc_new w B
  have n1 := heap_alloc_new (w.alloc B) Z
  rw [show (w.alloc B).heap.size = w.heap.size + 1 by simp] at n1
  have hne : ∀ k, k ≠ w.heap.size + 1 + 1 → ¬ ((Value.slice (some ⟨w.heap.size + 1 + 1, 0, none⟩) 0 0).ownBlock = some k) := fun k hk e => hk (Option.some.inj e).symm
  refine ⟨hg.off.at (old_block (HB _ _) (old_block (HB _ _) n0)) (hne _ (by omega)), hg.off.at (old_block (HB _ _) n1) (hne _ (by omega)), ?_⟩
  refine (below_of (below_of (HB w B) (HB _ Z)) (HB _ _)).trans (hg.off.below (by simp; omega) (fun i e => ?_))
  have : w.heap.size + 1 + 1 = i := Option.some.inj e
  omega
set_option maxRecDepth 20000 in
set_option maxHeartbeats 2000000 in
theorem copied_any (m : Ms) (a : Option Addr) (c : Nat) (w : World) (hb : Came w m a c) : Calls Try.prog 10 #[mv m a c] w fun e w' => ∃ a' c', e = .returned (mv m a' c') ∧ Hid (Came w' m a' c' ∧ Below w.heap.size w w') := by
  have HB : Hid (∀ (w : World) (X : Obj), Below w.heap.size w (w.alloc X)) := fun w X => (Below.refl _ w).alloc (Nat.le_refl _) X
  have HCM : Hid (Came w m a c) := hb
  have hz := hb.fit.bts
  clear hb
  go_enter Try.func10, Try.ntmps10
  go_wp2_with (at_builtin; go_must (refine wpList_append_some rfl _ _ rfl (w.heap.size + 1 + 1) (w.heap.size + 1 + 1) 0 [] 0 m.bts.length rfl (made_none_at (by simp)) _ _ m.bts rfl rfl (HCM.out.row.later (below_of (below_of (HB.out w _) (HB.out _ _)) (HB.out _ _))) (by omega) (by simp) ?_); intro g4 c4 w4 ho4 hg4 hc4; obtain ⟨t0, t1, hb4⟩ := copy_facts hg4; have HO4 : Hid (w4.ownsRow (w.heap.size + 1 + 1) 5 1 (.slice (some ⟨g4, 0, none⟩) (0 + m.bts.length) c4) (0 + m.bts.length) (cells ([] ++ m.bts))) := ho4; obtain ⟨e0, e1, e2, e3, e4, e5, e6, e7, ef⟩ := cells8 t0; obtain ⟨z0, z1, z2, z3, z4, z5, z6, z7, zf⟩ := cells8 t1; have HB4 : Hid _ := hb4; clear ho4 hg4 t0 t1 hb4)
  refine bodyPost_ret (v := mv m (some ⟨g4, 0, none⟩) c4) (by simp [results, Try.results10, go_sem, z0, z1, z2, z3, z4, z5, z6, z7]) rfl ?_
  have ho4 := HO4.out
  rw [Nat.zero_add, List.nil_append] at ho4
  obtain ⟨r4, _, _⟩ := own_some ho4 HCM.out.row.1 HCM.out.row.2.1
  obtain ⟨_, _, hv, hle, hcap⟩ := own_form ho4
  cases hv
  have hg4 := own_ge ho4 g4 rfl
  have ho : ∀ W, Off (fun q => q = w.heap.size ∨ q = w.heap.size + 1) w4 W → Came W m (some ⟨g4, 0, none⟩) c4 ∧ Below w.heap.size w W := fun W ho => ⟨⟨HCM.out.fit, r4.off ho (fun _ q hq e => by cases hq; simp only at e; omega), hle, hcap⟩, HB4.out.trans (ho.below HB4.out.size (fun i e => by omega))⟩
  exact ⟨_, _, rfl, ho _ ((((((((((Off.refl (fun q => q = w.heap.size ∨ q = w.heap.size + 1) w4).setCell (p := ⟨w.heap.size, 7, none⟩) (.inr (.inl rfl)) _).setCell (p := ⟨w.heap.size + 1, 0, none⟩) (.inr (.inr rfl)) _).setCell (p := ⟨w.heap.size + 1, 1, none⟩) (.inr (.inr rfl)) _).setCell (p := ⟨w.heap.size + 1, 2, none⟩) (.inr (.inr rfl)) _).setCell (p := ⟨w.heap.size + 1, 3, none⟩) (.inr (.inr rfl)) _).setCell (p := ⟨w.heap.size + 1, 4, none⟩) (.inr (.inr rfl)) _).setCell (p := ⟨w.heap.size + 1, 5, none⟩) (.inr (.inr rfl)) _).setCell (p := ⟨w.heap.size + 1, 6, none⟩) (.inr (.inr rfl)) _).setCell (p := ⟨w.heap.size + 1, 7, none⟩) (.inr (.inr rfl)) _)⟩
end Go.Proofs.Ytfkkaihnmnjadaa
