/- The walk of the law's own copied: files in memory of their own. -/
import Derived.Test.YtfocejmfmnijpaaFGather
namespace Go.Proofs.Ytfocejmfmnijpaa
open Go.RowKit

/-- files stay where they are when a cell that holds a slice is written. -/
theorem list_put {w : World} {a x : Option Addr} {n c q : Nat} {t : TypeId} {L : List Fil} (h : ListAt w a L) (hq : w.heap[q]? = some (.cells #[.slice x n c] t (0, 0))) (u : Value) : ListAt (w.setCell ⟨q, 0, none⟩ u) a L := by
  obtain ⟨h1, h2, h3⟩ := h
  refine ⟨h1, h2, fun h0 => ?_⟩
  obtain ⟨b, o, rfl, hc⟩ := h3 h0
  have hb : b ≠ q := by
    intro e
    have := (hc 0 h0).1
    rw [e, cell_of hq] at this
    rcases Nat.eq_zero_or_pos (o + 0 * 2) with h4 | h4
    · rw [h4] at this; simp at this
    · rw [Array.getElem?_eq_none (by simp; omega)] at this; cases this
  refine ⟨b, o, rfl, fun i hi => ?_⟩
  obtain ⟨f1, a2, c2, f2, f3, f4, f5⟩ := hc i hi
  refine ⟨cell_other f1 hb, a2, c2, cell_other f2 hb, f3, f4, f5.1, f5.2.1, fun h5 => ?_⟩
  obtain ⟨b2, o2, rfl, hc2⟩ := f5.2.2 h5
  have hb2 := f5.apart hq h5 _ rfl
  exact ⟨b2, o2, rfl, fun j hj => cell_other (hc2 j hj) hb2⟩

/-- behind the bytes' append. -/
theorem copied_three {wr W w3 : World} {Q row : Nat} {v : Value} {X : List FX} {x : Fil} {a3 : Option Addr} {c3 : Nat} (h : Out wr Q v X) (hnm : x.name.size ≤ 140737488351232) (hB : Below wr.heap.size wr W) (hrow : wr.heap.size ≤ row) (hgrow : W.grownBy w3 (some row)) (r1 : Row w3 a3 x.bytes) (r2 : x.bytes.length ≤ c3) (r3 : c3 ≤ maxLen) (r4 : ∀ b, a3 = some b → wr.heap.size ≤ b.block) :
    w3.ownsRow (Q + 1) 53 2 v X.length (fcells X) ∧ w3.cell? ⟨Q, 0, none⟩ = some v ∧ (∀ A, Q + 1 ≤ (w3.alloc A).heap.size) ∧ v.ownBlock ≠ some wr.heap.size ∧ Below wr.heap.size wr w3 ∧ ∀ A, Good (w3.alloc A) (own Q v) ⟨x.name, a3, c3, x.bytes⟩ := by
  have hq : Q < wr.heap.size := (Array.getElem?_eq_some_iff.1 h.here).1
  have o3 : Off (fun k => False) wr w3 := (Off.of_below hB).grown hgrow (fun k e => .inl (by cases e; exact hrow))
  have b3 : Below wr.heap.size wr w3 := o3.below (Nat.le_refl _) (fun _ e => e.elim)
  have h3 := h.later b3
  have hs3 := b3.size
  have hv : ∀ k, v.ownBlock = some k → k < wr.heap.size := fun k e => (h.list.lt k e).2
  refine ⟨h3.list, by rw [cell_of h3.here]; rfl, fun A => by simp; omega, fun e => by have := hv _ e; omega, b3, fun A => ⟨hnm, r2, r3, r1.later ((Below.refl _ w3).alloc (Nat.le_refl _) A), fun _ b hb hk => ?_⟩⟩
  have := r4 b hb
  rcases hk with hk | hk
  · omega
  · have := hv _ hk; omega

theorem copied_five {wr w3 w5 : World} {Q : Nat} {v : Value} {X : List FX} {A : Obj} (h : Out wr Q v X) (hB : Below wr.heap.size wr w3) (hg : (w3.alloc A).grownBy w5 v.ownBlock) : w5.cell? ⟨Q, 0, none⟩ = some v ∧ w5.frozen? ⟨Q, 0, none⟩ = false := by
  have h3 := h.later hB
  have hqv : v.ownBlock ≠ some Q := fun e => by have := (h.list.lt Q e).1; omega
  have o5 : Off (fun k => v.ownBlock = some k) w3 w5 := ((Off.refl _ w3).alloc A).grown hg (fun k e => .inr e)
  have h5 := o5.at h3.here hqv
  exact ⟨by rw [cell_of h5]; rfl, frozen_of h5 0⟩

set_option maxHeartbeats 8000000 in
theorem copied_any (w : World) (a : Option Addr) (c : Nat) (L : List Fil) (h : ListAt w a L) (hs : ∀ x ∈ L, x.bytes.length ≤ 140737488351232) (h5 : L.length ≤ 500) :
    Calls Try.prog 10 #[.agg #[.slice a L.length c]] w fun e w' => ∃ a' c', e = .returned (.agg #[.slice a' L.length c']) ∧ Hid (ListAt w' a' L ∧ L.length ≤ c' ∧ c' ≤ maxLen ∧ Below w.heap.size w w') := by
  have HL : Hid (ListAt w a L) := h
  have HS : Hid (∀ x ∈ L, x.bytes.length ≤ 140737488351232) := hs
  obtain ⟨i0, hi, hz0, hz1, hz2⟩ := info_parts Try.info53
  have HI : Hid (Try.prog.info? 53 = some i0) := hi
  clear h hs hi
  go_enter Try.func10, Try.ntmps10
  go_wp2
  go_loopw [9] (fun i wr => ∃ (k : Nat) (v : Value) (X : List FX), k ≤ L.length ∧ i = .int .i64 k ∧ Hid (Out wr (w.heap.size + 1 + 1) v X ∧ X.map FX.fil = L.take k ∧ X.length = k ∧ Below w.heap.size w wr ∧ wr.heap[w.heap.size + 1]? = some (.cells #[.slice none 0 0] 24 (0, 0)))) (fun i _ => L.length - (intOf i).toNat)
  case atStart =>
    obtain ⟨t1, t2, t3⟩ := three_new (w := w) (A := .cells #[.slice a L.length c] 24) (B := .cells #[.slice none 0 0] 24) (C := .cells #[.slice none 0 0] 24)
    exact ⟨0, .slice none 0 0, [], Nat.zero_le _, rfl, ⟨t3, World.ownsRow_nil _ _ _ _, by simp⟩, rfl, rfl, (((Below.refl _ w).alloc (Nat.le_refl _) _).alloc (by simp) _).alloc (by simp; omega) _, t2⟩
  case round =>
    obtain ⟨k, v, X, hk, rfl, hr⟩ := hrel
    by_cases hkl : k < L.length
    · obtain ⟨b, o, rfl, hc⟩ := HL.out.2.2 (by omega)
      obtain ⟨f1, a2, c2, f2, _, _, f5⟩ := (hc k hkl).later hr.out.2.2.2.1
      have hxs := HS.out _ (List.getElem_mem hkl)
      have hnm := HL.out.1 _ (List.getElem_mem hkl)
      have HT : Hid (L.take (k + 1) = L.take k ++ [L[k]]) := List.take_succ_eq_append_getElem hkl
      have HR : Hid (Row wr a2 L[k].bytes) := f5
      obtain ⟨va, vc, rfl, hv1, hv2⟩ := own_form hr.out.1.list
      have d0 := cell_of hr.out.1.here 0
      simp only [List.getElem?_toArray, List.getElem?_cons_zero] at d0
      clear hc f5
      obtain ⟨x, hx⟩ : ∃ x, x = L[k] := ⟨_, rfl⟩
      rw [← hx] at f1 f2 hxs hnm HT HR
      clear hx
      have hi1 : (k : Int) < (L.length : Int) := by omega
      have hS0 : SX wr.heap.size x.name (.slice a2 x.bytes.length c2) (wr.alloc (.cells #[.string x.name, .slice a2 x.bytes.length c2] 53)) := ⟨by rw [cell_of (heap_alloc_new wr _)]; rfl, by rw [cell_of (heap_alloc_new wr _)]; rfl⟩
      have HBA : Hid (∀ A B, Below wr.heap.size wr ((wr.alloc A).alloc B).drew) := fun A B => (((Off.refl (fun _ => False) wr).alloc A).alloc B).drew.below (Nat.le_refl _) (fun _ e => e.elim)
      have hA1 : ∀ A, (wr.alloc A).cell? ⟨w.heap.size + 1 + 1, 0, none⟩ = some (.slice va X.length vc) := fun A => cell_later ((Below.refl _ wr).alloc (Nat.le_refl _) A) d0
      have hA2 : ∀ A B, ((wr.alloc A).alloc B).cell? ⟨w.heap.size + 1 + 1, 0, none⟩ = some (.slice va X.length vc) := fun A B => cell_later ((((Off.refl (fun _ => False) wr).alloc A).alloc B).below (Nat.le_refl _) (fun _ e => e.elim)) d0
      have hX500 : X.length ≤ 500 := by have := hr.out.2.2.1; omega
      have hqr : w.heap.size + 1 + 1 < wr.heap.size := (Array.getElem?_eq_some_iff.1 hr.out.1.here).1
      go_wp2
      refine wp_region_noPanic ?_
      refine wp_region_held_drew (S := SX wr.heap.size x.name (.slice a2 x.bytes.length c2)) (by kernel_rfl) hS0 (fun hHeld => ?_)
      refine takeH 0 (.pointer (some ⟨w.heap.size + 1 + 1, 0, none⟩)) rfl (by kernel_rfl) (by kernel_rfl) (by kernel_rfl) (fun _ _ _ h => h) (Or.inl ⟨by rfl, ?_⟩) (by assumption) ?_
      · (intro w hSw; obtain ⟨hSw1, hSw2⟩ := hSw; go_simp)
      try simp only [Act.put, List.setIfInBounds_toArray, List.set_cons_zero, List.set_cons_succ]
      refine takeH 2 (.pointer (some ⟨wr.heap.size, 0, none⟩)) rfl (by kernel_rfl) (by kernel_rfl) (by kernel_rfl) (fun _ _ _ h => h) (Or.inl ⟨by rfl, ?_⟩) (by assumption) ?_
      · (intro w hSw; obtain ⟨hSw1, hSw2⟩ := hSw; go_simp)
      try simp only [Act.put, List.setIfInBounds_toArray, List.set_cons_zero, List.set_cons_succ]
      refine takeH 3 (.string x.name) rfl (by kernel_rfl) (by kernel_rfl) (by kernel_rfl) (fun _ _ _ h => h) (Or.inl ⟨by rfl, ?_⟩) (by assumption) ?_
      · (intro w hSw; obtain ⟨hSw1, hSw2⟩ := hSw; go_simp)
      try simp only [Act.put, List.setIfInBounds_toArray, List.set_cons_zero, List.set_cons_succ]
      refine takeH 5 (.pointer (some ⟨wr.heap.size, 1, none⟩)) rfl (by kernel_rfl) (by kernel_rfl) (by kernel_rfl) (fun _ _ _ h => h) (Or.inl ⟨by rfl, ?_⟩) (by assumption) ?_
      · (intro w hSw; obtain ⟨hSw1, hSw2⟩ := hSw; go_simp)
      try simp only [Act.put, List.setIfInBounds_toArray, List.set_cons_zero, List.set_cons_succ]
      refine takeH 6 (.slice a2 x.bytes.length c2) rfl (by kernel_rfl) (by kernel_rfl) (by kernel_rfl) (fun _ _ _ h => h) (Or.inl ⟨by rfl, ?_⟩) (by assumption) ?_
      · (intro w hSw; obtain ⟨hSw1, hSw2⟩ := hSw; go_simp)
      try simp only [Act.put, List.setIfInBounds_toArray, List.set_cons_zero, List.set_cons_succ]
      refine wpAnyH_ready (rs := [1, 4]) (by kernel_rfl) (by simp) ?_
      refine stepH 1 rfl (fun K hK => ?_) (stepH 4 rfl (fun K hK => ?_) AllReadyH.nil)
      · go_simp
        refine hK.out _ _ (hHeld) (fun hHeld => ?_)
        clear hK K
        try simp only [Act.put, List.setIfInBounds_toArray, List.set_cons_zero, List.set_cons_succ]
        refine wpAnyH_ready (rs := [4]) (by kernel_rfl) (by simp) ?_
        refine stepH 4 rfl (fun K hK => ?_) AllReadyH.nil
        go_simp
        refine hK.out _ _ (hHeld.alloc _) (fun hHeld => ?_)
        clear hK K
        try simp only [Act.put, List.setIfInBounds_toArray, List.set_cons_zero, List.set_cons_succ]
        refine wpAnyH_ready (rs := [7]) (by kernel_rfl) (by simp) ?_
        refine stepH 7 rfl (fun K hK => ?_) AllReadyH.nil
        refine step_append_bytes (by rfl) _ _ (by rfl) (wr.heap.size + 1) wr.heap.size (by rfl) (second_new wr _ _) (by omega) a2 c2 x.bytes (HR.out.later (HBA.out _ _)) (by rfl) hxs ?_
        intro a3 c3 w3 r1 r2 r3 r4 hgrow
        have h3 := copied_three hr.out.1 hnm (HBA.out _ _) (Nat.le_succ _) hgrow r1 r2 r3 r4
        have hA3 := h3.2.1
        have hA4 : ∀ A, (w3.alloc A).cell? ⟨w.heap.size + 1 + 1, 0, none⟩ = some (.slice va X.length vc) := fun A => cell_later ((Below.refl _ w3).alloc (Nat.le_refl _) A) hA3
        refine hK.out _ _ (hHeld.grown hgrow (by simp)) (fun hHeld => ?_)
        clear hK K
        try simp only [Act.put, List.setIfInBounds_toArray, List.set_cons_zero, List.set_cons_succ]
        refine takeH 8 (.agg #[.string x.name, .slice a3 x.bytes.length c3]) rfl (by kernel_rfl) (by kernel_rfl) (by kernel_rfl) (fun _ _ _ h => h) (Or.inl ⟨by rfl, ?_⟩) (by assumption) ?_
        · (intro w hSw; obtain ⟨hSw1, hSw2⟩ := hSw; go_simp)
        try simp only [Act.put, List.setIfInBounds_toArray, List.set_cons_zero, List.set_cons_succ]
        refine wpAnyH_ready (rs := [9]) (by kernel_rfl) (by simp) ?_
        refine stepH 9 rfl (fun K hK => ?_) AllReadyH.nil
        go_simp
        refine hK.out _ _ (hHeld.alloc _) (fun hHeld => ?_)
        clear hK K
        try simp only [Act.put, List.setIfInBounds_toArray, List.set_cons_zero, List.set_cons_succ]
        refine wpAnyH_ready (rs := [10]) (by kernel_rfl) (by simp) ?_
        refine stepH 10 rfl (fun K hK => ?_) AllReadyH.nil
        refine step_append_lies _ (by rfl) _ _ _ (by rfl) (w.heap.size + 1 + 1 + 1) 53 i0 (.agg #[.string ⟨#[]⟩, .slice none 0 0]) 2 40 Try.underlying22 HI.out hz0 hz1 hz2 rfl (by decide) (.slice va X.length vc) X.length (fcells X) (by rfl) (h3.1.alloc _) ⟨w3.heap.size, 0, none⟩ 1 1 [.string x.name, .slice a3 x.bytes.length c3] (by rfl) (by rfl) (World.news_of_block (heap_alloc_new w3 _)) (by intro u hu; simp at hu; rcases hu with rfl | rfl <;> rfl) (by decide) (by unfold maxLen; omega) (by omega) (h3.2.2.1 _) (w3.heap.size + 1) (by simp) ?_
        intro g cap w5 hown5 hgrow5 hat hlt
        obtain ⟨hx1, hx2⟩ := copied_five hr.out.1 h3.2.2.2.2.1 hgrow5
        refine hK.out _ _ (hHeld.grown hgrow5 h3.2.2.2.1) (fun hHeld => ?_)
        clear hK K
        try simp only [Act.put, List.setIfInBounds_toArray, List.set_cons_zero, List.set_cons_succ]
        refine takeH 11 (.pointer (some ⟨w.heap.size + 1 + 1, 0, none⟩)) rfl (by kernel_rfl) (by kernel_rfl) (by kernel_rfl) (fun _ _ _ h => h) (Or.inl ⟨by rfl, ?_⟩) (by assumption) ?_
        · (intro w hSw; obtain ⟨hSw1, hSw2⟩ := hSw; go_simp)
        try simp only [Act.put, List.setIfInBounds_toArray, List.set_cons_zero, List.set_cons_succ]
        refine wpAnyH_ready (rs := [12]) (by kernel_rfl) (by simp) ?_
        refine stepH 12 rfl (fun K hK => ?_) AllReadyH.nil
        go_simp
        refine hK.out _ _ (hHeld.set (by omega)) (fun hHeld => ?_)
        clear hK K
        try simp only [Act.put, List.setIfInBounds_toArray, List.set_cons_zero, List.set_cons_succ]
        refine wpAnyH_done (by kernel_rfl) ?_ _
        refine NoPanic.normal ?_
        have HQ : Hid (Out (w5.setCell ⟨w.heap.size + 1 + 1, 0, none⟩ (.slice (some ⟨g, 0, none⟩) (X.length + 1) cap)) (w.heap.size + 1 + 1) (.slice (some ⟨g, 0, none⟩) (X.length + 1) cap) (X ++ [⟨x.name, a3, c3, x.bytes⟩]) ∧ Off (own (w.heap.size + 1 + 1) (.slice va X.length vc)) wr (w5.setCell ⟨w.heap.size + 1 + 1, 0, none⟩ (.slice (some ⟨g, 0, none⟩) (X.length + 1) cap))) := out_snoc (y := ⟨x.name, a3, c3, x.bytes⟩) hr.out.1 h3.2.2.2.2.1 hown5 hgrow5 ((Below.refl _ w3).alloc (Nat.le_refl _) _) (by simpa using hat) (h3.2.2.2.2.2 _)
        clear hown5 hgrow5 hat hx1 hx2 hHeld
        go_wp2
        go_roundw
        case rel =>
          refine ⟨k + 1, _, X ++ [⟨x.name, a3, c3, x.bytes⟩], by omega, by go_num, HQ.out.1, ?_, by simp [hr.out.2.2.1], hr.out.2.2.2.1.trans (HQ.out.2.below hr.out.2.2.2.1.size (fun k hk => by have := out_own hr.out.1 k hk; omega)), ?_⟩
          · rw [List.map_append, hr.out.2.1, HT.out]; rfl
          · exact HQ.out.2.at hr.out.2.2.2.2 (fun h => by have := out_own hr.out.1 _ h; omega)
        case measure => simp [intOf]; omega
      · go_simp
        refine hK.out _ _ (hHeld.alloc _) (fun hHeld => ?_)
        clear hK K
        try simp only [Act.put, List.setIfInBounds_toArray, List.set_cons_zero, List.set_cons_succ]
        refine wpAnyH_ready (rs := [1, 7]) (by kernel_rfl) (by simp) ?_
        refine stepH 1 rfl (fun K hK => ?_) (stepH 7 rfl (fun K hK => ?_) AllReadyH.nil)
        · go_simp
          refine hK.out _ _ (hHeld) (fun hHeld => ?_)
          clear hK K
          try simp only [Act.put, List.setIfInBounds_toArray, List.set_cons_zero, List.set_cons_succ]
          refine wpAnyH_ready (rs := [7]) (by kernel_rfl) (by simp) ?_
          refine stepH 7 rfl (fun K hK => ?_) AllReadyH.nil
          refine step_append_bytes (by rfl) _ _ (by rfl) (wr.heap.size + 1) wr.heap.size (by rfl) (second_new wr _ _) (by omega) a2 c2 x.bytes (HR.out.later (HBA.out _ _)) (by rfl) hxs ?_
          intro a3 c3 w3 r1 r2 r3 r4 hgrow
          have h3 := copied_three hr.out.1 hnm (HBA.out _ _) (Nat.le_succ _) hgrow r1 r2 r3 r4
          have hA3 := h3.2.1
          have hA4 : ∀ A, (w3.alloc A).cell? ⟨w.heap.size + 1 + 1, 0, none⟩ = some (.slice va X.length vc) := fun A => cell_later ((Below.refl _ w3).alloc (Nat.le_refl _) A) hA3
          refine hK.out _ _ (hHeld.grown hgrow (by simp)) (fun hHeld => ?_)
          clear hK K
          try simp only [Act.put, List.setIfInBounds_toArray, List.set_cons_zero, List.set_cons_succ]
          refine takeH 8 (.agg #[.string x.name, .slice a3 x.bytes.length c3]) rfl (by kernel_rfl) (by kernel_rfl) (by kernel_rfl) (fun _ _ _ h => h) (Or.inl ⟨by rfl, ?_⟩) (by assumption) ?_
          · (intro w hSw; obtain ⟨hSw1, hSw2⟩ := hSw; go_simp)
          try simp only [Act.put, List.setIfInBounds_toArray, List.set_cons_zero, List.set_cons_succ]
          refine wpAnyH_ready (rs := [9]) (by kernel_rfl) (by simp) ?_
          refine stepH 9 rfl (fun K hK => ?_) AllReadyH.nil
          go_simp
          refine hK.out _ _ (hHeld.alloc _) (fun hHeld => ?_)
          clear hK K
          try simp only [Act.put, List.setIfInBounds_toArray, List.set_cons_zero, List.set_cons_succ]
          refine wpAnyH_ready (rs := [10]) (by kernel_rfl) (by simp) ?_
          refine stepH 10 rfl (fun K hK => ?_) AllReadyH.nil
          refine step_append_lies _ (by rfl) _ _ _ (by rfl) (w.heap.size + 1 + 1 + 1) 53 i0 (.agg #[.string ⟨#[]⟩, .slice none 0 0]) 2 40 Try.underlying22 HI.out hz0 hz1 hz2 rfl (by decide) (.slice va X.length vc) X.length (fcells X) (by rfl) (h3.1.alloc _) ⟨w3.heap.size, 0, none⟩ 1 1 [.string x.name, .slice a3 x.bytes.length c3] (by rfl) (by rfl) (World.news_of_block (heap_alloc_new w3 _)) (by intro u hu; simp at hu; rcases hu with rfl | rfl <;> rfl) (by decide) (by unfold maxLen; omega) (by omega) (h3.2.2.1 _) (w3.heap.size + 1) (by simp) ?_
          intro g cap w5 hown5 hgrow5 hat hlt
          obtain ⟨hx1, hx2⟩ := copied_five hr.out.1 h3.2.2.2.2.1 hgrow5
          refine hK.out _ _ (hHeld.grown hgrow5 h3.2.2.2.1) (fun hHeld => ?_)
          clear hK K
          try simp only [Act.put, List.setIfInBounds_toArray, List.set_cons_zero, List.set_cons_succ]
          refine takeH 11 (.pointer (some ⟨w.heap.size + 1 + 1, 0, none⟩)) rfl (by kernel_rfl) (by kernel_rfl) (by kernel_rfl) (fun _ _ _ h => h) (Or.inl ⟨by rfl, ?_⟩) (by assumption) ?_
          · (intro w hSw; obtain ⟨hSw1, hSw2⟩ := hSw; go_simp)
          try simp only [Act.put, List.setIfInBounds_toArray, List.set_cons_zero, List.set_cons_succ]
          refine wpAnyH_ready (rs := [12]) (by kernel_rfl) (by simp) ?_
          refine stepH 12 rfl (fun K hK => ?_) AllReadyH.nil
          go_simp
          refine hK.out _ _ (hHeld.set (by omega)) (fun hHeld => ?_)
          clear hK K
          try simp only [Act.put, List.setIfInBounds_toArray, List.set_cons_zero, List.set_cons_succ]
          refine wpAnyH_done (by kernel_rfl) ?_ _
          refine NoPanic.normal ?_
          have HQ : Hid (Out (w5.setCell ⟨w.heap.size + 1 + 1, 0, none⟩ (.slice (some ⟨g, 0, none⟩) (X.length + 1) cap)) (w.heap.size + 1 + 1) (.slice (some ⟨g, 0, none⟩) (X.length + 1) cap) (X ++ [⟨x.name, a3, c3, x.bytes⟩]) ∧ Off (own (w.heap.size + 1 + 1) (.slice va X.length vc)) wr (w5.setCell ⟨w.heap.size + 1 + 1, 0, none⟩ (.slice (some ⟨g, 0, none⟩) (X.length + 1) cap))) := out_snoc (y := ⟨x.name, a3, c3, x.bytes⟩) hr.out.1 h3.2.2.2.2.1 hown5 hgrow5 ((Below.refl _ w3).alloc (Nat.le_refl _) _) (by simpa using hat) (h3.2.2.2.2.2 _)
          clear hown5 hgrow5 hat hx1 hx2 hHeld
          go_wp2
          go_roundw
          case rel =>
            refine ⟨k + 1, _, X ++ [⟨x.name, a3, c3, x.bytes⟩], by omega, by go_num, HQ.out.1, ?_, by simp [hr.out.2.2.1], hr.out.2.2.2.1.trans (HQ.out.2.below hr.out.2.2.2.1.size (fun k hk => by have := out_own hr.out.1 k hk; omega)), ?_⟩
            · rw [List.map_append, hr.out.2.1, HT.out]; rfl
            · exact HQ.out.2.at hr.out.2.2.2.2 (fun h => by have := out_own hr.out.1 _ h; omega)
          case measure => simp [intOf]; omega
        · refine step_append_bytes (by rfl) _ _ (by rfl) (wr.heap.size + 1) wr.heap.size (by rfl) (second_new wr _ _) (by omega) a2 c2 x.bytes (HR.out.later (HBA.out _ _)) (by rfl) hxs ?_
          intro a3 c3 w3 r1 r2 r3 r4 hgrow
          have h3 := copied_three hr.out.1 hnm (HBA.out _ _) (Nat.le_succ _) hgrow r1 r2 r3 r4
          have hA3 := h3.2.1
          have hA4 : ∀ A, (w3.alloc A).cell? ⟨w.heap.size + 1 + 1, 0, none⟩ = some (.slice va X.length vc) := fun A => cell_later ((Below.refl _ w3).alloc (Nat.le_refl _) A) hA3
          refine hK.out _ _ (hHeld.grown hgrow (by simp)) (fun hHeld => ?_)
          clear hK K
          try simp only [Act.put, List.setIfInBounds_toArray, List.set_cons_zero, List.set_cons_succ]
          refine takeH 8 (.agg #[.string x.name, .slice a3 x.bytes.length c3]) rfl (by kernel_rfl) (by kernel_rfl) (by kernel_rfl) (fun _ _ _ h => h) (Or.inl ⟨by rfl, ?_⟩) (by assumption) ?_
          · (intro w hSw; obtain ⟨hSw1, hSw2⟩ := hSw; go_simp)
          try simp only [Act.put, List.setIfInBounds_toArray, List.set_cons_zero, List.set_cons_succ]
          refine wpAnyH_ready (rs := [1, 9]) (by kernel_rfl) (by simp) ?_
          refine stepH 1 rfl (fun K hK => ?_) (stepH 9 rfl (fun K hK => ?_) AllReadyH.nil)
          · go_simp
            refine hK.out _ _ (hHeld) (fun hHeld => ?_)
            clear hK K
            try simp only [Act.put, List.setIfInBounds_toArray, List.set_cons_zero, List.set_cons_succ]
            refine wpAnyH_ready (rs := [9]) (by kernel_rfl) (by simp) ?_
            refine stepH 9 rfl (fun K hK => ?_) AllReadyH.nil
            go_simp
            refine hK.out _ _ (hHeld.alloc _) (fun hHeld => ?_)
            clear hK K
            try simp only [Act.put, List.setIfInBounds_toArray, List.set_cons_zero, List.set_cons_succ]
            refine wpAnyH_ready (rs := [10]) (by kernel_rfl) (by simp) ?_
            refine stepH 10 rfl (fun K hK => ?_) AllReadyH.nil
            refine step_append_lies _ (by rfl) _ _ _ (by rfl) (w.heap.size + 1 + 1 + 1) 53 i0 (.agg #[.string ⟨#[]⟩, .slice none 0 0]) 2 40 Try.underlying22 HI.out hz0 hz1 hz2 rfl (by decide) (.slice va X.length vc) X.length (fcells X) (by rfl) (h3.1.alloc _) ⟨w3.heap.size, 0, none⟩ 1 1 [.string x.name, .slice a3 x.bytes.length c3] (by rfl) (by rfl) (World.news_of_block (heap_alloc_new w3 _)) (by intro u hu; simp at hu; rcases hu with rfl | rfl <;> rfl) (by decide) (by unfold maxLen; omega) (by omega) (h3.2.2.1 _) (w3.heap.size + 1) (by simp) ?_
            intro g cap w5 hown5 hgrow5 hat hlt
            obtain ⟨hx1, hx2⟩ := copied_five hr.out.1 h3.2.2.2.2.1 hgrow5
            refine hK.out _ _ (hHeld.grown hgrow5 h3.2.2.2.1) (fun hHeld => ?_)
            clear hK K
            try simp only [Act.put, List.setIfInBounds_toArray, List.set_cons_zero, List.set_cons_succ]
            refine takeH 11 (.pointer (some ⟨w.heap.size + 1 + 1, 0, none⟩)) rfl (by kernel_rfl) (by kernel_rfl) (by kernel_rfl) (fun _ _ _ h => h) (Or.inl ⟨by rfl, ?_⟩) (by assumption) ?_
            · (intro w hSw; obtain ⟨hSw1, hSw2⟩ := hSw; go_simp)
            try simp only [Act.put, List.setIfInBounds_toArray, List.set_cons_zero, List.set_cons_succ]
            refine wpAnyH_ready (rs := [12]) (by kernel_rfl) (by simp) ?_
            refine stepH 12 rfl (fun K hK => ?_) AllReadyH.nil
            go_simp
            refine hK.out _ _ (hHeld.set (by omega)) (fun hHeld => ?_)
            clear hK K
            try simp only [Act.put, List.setIfInBounds_toArray, List.set_cons_zero, List.set_cons_succ]
            refine wpAnyH_done (by kernel_rfl) ?_ _
            refine NoPanic.normal ?_
            have HQ : Hid (Out (w5.setCell ⟨w.heap.size + 1 + 1, 0, none⟩ (.slice (some ⟨g, 0, none⟩) (X.length + 1) cap)) (w.heap.size + 1 + 1) (.slice (some ⟨g, 0, none⟩) (X.length + 1) cap) (X ++ [⟨x.name, a3, c3, x.bytes⟩]) ∧ Off (own (w.heap.size + 1 + 1) (.slice va X.length vc)) wr (w5.setCell ⟨w.heap.size + 1 + 1, 0, none⟩ (.slice (some ⟨g, 0, none⟩) (X.length + 1) cap))) := out_snoc (y := ⟨x.name, a3, c3, x.bytes⟩) hr.out.1 h3.2.2.2.2.1 hown5 hgrow5 ((Below.refl _ w3).alloc (Nat.le_refl _) _) (by simpa using hat) (h3.2.2.2.2.2 _)
            clear hown5 hgrow5 hat hx1 hx2 hHeld
            go_wp2
            go_roundw
            case rel =>
              refine ⟨k + 1, _, X ++ [⟨x.name, a3, c3, x.bytes⟩], by omega, by go_num, HQ.out.1, ?_, by simp [hr.out.2.2.1], hr.out.2.2.2.1.trans (HQ.out.2.below hr.out.2.2.2.1.size (fun k hk => by have := out_own hr.out.1 k hk; omega)), ?_⟩
              · rw [List.map_append, hr.out.2.1, HT.out]; rfl
              · exact HQ.out.2.at hr.out.2.2.2.2 (fun h => by have := out_own hr.out.1 _ h; omega)
            case measure => simp [intOf]; omega
          · go_simp
            refine hK.out _ _ (hHeld.alloc _) (fun hHeld => ?_)
            clear hK K
            try simp only [Act.put, List.setIfInBounds_toArray, List.set_cons_zero, List.set_cons_succ]
            refine wpAnyH_ready (rs := [1]) (by kernel_rfl) (by simp) ?_
            refine stepH 1 rfl (fun K hK => ?_) AllReadyH.nil
            go_simp
            refine hK.out _ _ (hHeld) (fun hHeld => ?_)
            clear hK K
            try simp only [Act.put, List.setIfInBounds_toArray, List.set_cons_zero, List.set_cons_succ]
            refine wpAnyH_ready (rs := [10]) (by kernel_rfl) (by simp) ?_
            refine stepH 10 rfl (fun K hK => ?_) AllReadyH.nil
            refine step_append_lies _ (by rfl) _ _ _ (by rfl) (w.heap.size + 1 + 1 + 1) 53 i0 (.agg #[.string ⟨#[]⟩, .slice none 0 0]) 2 40 Try.underlying22 HI.out hz0 hz1 hz2 rfl (by decide) (.slice va X.length vc) X.length (fcells X) (by rfl) (h3.1.alloc _) ⟨w3.heap.size, 0, none⟩ 1 1 [.string x.name, .slice a3 x.bytes.length c3] (by rfl) (by rfl) (World.news_of_block (heap_alloc_new w3 _)) (by intro u hu; simp at hu; rcases hu with rfl | rfl <;> rfl) (by decide) (by unfold maxLen; omega) (by omega) (h3.2.2.1 _) (w3.heap.size + 1) (by simp) ?_
            intro g cap w5 hown5 hgrow5 hat hlt
            obtain ⟨hx1, hx2⟩ := copied_five hr.out.1 h3.2.2.2.2.1 hgrow5
            refine hK.out _ _ (hHeld.grown hgrow5 h3.2.2.2.1) (fun hHeld => ?_)
            clear hK K
            try simp only [Act.put, List.setIfInBounds_toArray, List.set_cons_zero, List.set_cons_succ]
            refine takeH 11 (.pointer (some ⟨w.heap.size + 1 + 1, 0, none⟩)) rfl (by kernel_rfl) (by kernel_rfl) (by kernel_rfl) (fun _ _ _ h => h) (Or.inl ⟨by rfl, ?_⟩) (by assumption) ?_
            · (intro w hSw; obtain ⟨hSw1, hSw2⟩ := hSw; go_simp)
            try simp only [Act.put, List.setIfInBounds_toArray, List.set_cons_zero, List.set_cons_succ]
            refine wpAnyH_ready (rs := [12]) (by kernel_rfl) (by simp) ?_
            refine stepH 12 rfl (fun K hK => ?_) AllReadyH.nil
            go_simp
            refine hK.out _ _ (hHeld.set (by omega)) (fun hHeld => ?_)
            clear hK K
            try simp only [Act.put, List.setIfInBounds_toArray, List.set_cons_zero, List.set_cons_succ]
            refine wpAnyH_done (by kernel_rfl) ?_ _
            refine NoPanic.normal ?_
            have HQ : Hid (Out (w5.setCell ⟨w.heap.size + 1 + 1, 0, none⟩ (.slice (some ⟨g, 0, none⟩) (X.length + 1) cap)) (w.heap.size + 1 + 1) (.slice (some ⟨g, 0, none⟩) (X.length + 1) cap) (X ++ [⟨x.name, a3, c3, x.bytes⟩]) ∧ Off (own (w.heap.size + 1 + 1) (.slice va X.length vc)) wr (w5.setCell ⟨w.heap.size + 1 + 1, 0, none⟩ (.slice (some ⟨g, 0, none⟩) (X.length + 1) cap))) := out_snoc (y := ⟨x.name, a3, c3, x.bytes⟩) hr.out.1 h3.2.2.2.2.1 hown5 hgrow5 ((Below.refl _ w3).alloc (Nat.le_refl _) _) (by simpa using hat) (h3.2.2.2.2.2 _)
            clear hown5 hgrow5 hat hx1 hx2 hHeld
            go_wp2
            go_roundw
            case rel =>
              refine ⟨k + 1, _, X ++ [⟨x.name, a3, c3, x.bytes⟩], by omega, by go_num, HQ.out.1, ?_, by simp [hr.out.2.2.1], hr.out.2.2.2.1.trans (HQ.out.2.below hr.out.2.2.2.1.size (fun k hk => by have := out_own hr.out.1 k hk; omega)), ?_⟩
              · rw [List.map_append, hr.out.2.1, HT.out]; rfl
              · exact HQ.out.2.at hr.out.2.2.2.2 (fun h => by have := out_own hr.out.1 _ h; omega)
            case measure => simp [intOf]; omega
    · obtain rfl : k = L.length := by omega
      have hd := hr.out.1.here
      obtain ⟨va, vc, rfl, hv1, hv2⟩ := own_form hr.out.1.list
      have hlen : X.length = L.length := hr.out.2.2.1
      have HE : Hid (∀ u, ListAt (wr.setCell ⟨w.heap.size + 1, 0, none⟩ u) va L ∧ L.length ≤ vc ∧ vc ≤ maxLen ∧ Below w.heap.size w (wr.setCell ⟨w.heap.size + 1, 0, none⟩ u)) := fun u => by
        have hl := (own_list hr.out.1.list hr.out.1.files (by omega)).1
        rw [hr.out.2.1, List.take_length] at hl
        exact ⟨list_put hl hr.out.2.2.2.2 u, by omega, hv2, hr.out.2.2.2.1.setCell (by simp) u⟩
      have d0 := cell_of hd 0
      simp only [List.getElem?_toArray, List.getElem?_cons_zero] at d0
      have d1 := cell_of hr.out.2.2.2.2 0
      simp only [List.getElem?_toArray, List.getElem?_cons_zero] at d1
      have d2 := frozen_of hr.out.2.2.2.2 0
      have d3 : ∀ u, (wr.setCell ⟨w.heap.size + 1, 0, none⟩ u).cell? ⟨w.heap.size + 1, 0, none⟩ = some u := fun u => by
        rw [cell_of (heap_setCell_same wr _ 0 _ _ u hr.out.2.2.2.2)]; rfl
      clear hd
      go_wp2
      refine bodyPost_ret (v := .agg #[.slice va L.length vc]) (by simp [results, Try.results10, go_sem, d3]) rfl ⟨va, vc, rfl, HE.out _⟩

end Go.Proofs.Ytfocejmfmnijpaa
