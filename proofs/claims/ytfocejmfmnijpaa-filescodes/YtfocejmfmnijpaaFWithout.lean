/- The walk of the reference's own Without. -/
import Derived.Test.YtfocejmfmnijpaaFPush
namespace Go.Proofs.Ytfocejmfmnijpaa
open Go.RowKit

theorem filter_snoc {L : List Fil} {k : Nat} (h : k < L.length) (p : Fil → Bool) : (L.take (k + 1)).filter p = (L.take k).filter p ++ [L[k]].filter p := by
  rw [List.take_succ_eq_append_getElem h, List.filter_append]

set_option maxHeartbeats 8000000 in
theorem without_any (w : World) (a : Option Addr) (c : Nat) (L : List Fil) (n : ByteArray) (h : ListAt w a L) (h5 : L.length ≤ 500) :
    Calls Try.prog 60 #[.agg #[.slice a L.length c], .string n] w fun e w' => ∃ a' c', e = .returned (.agg #[.slice a' (L.filter (neB n)).length c']) ∧ Hid (ListAt w' a' (L.filter (neB n)) ∧ (L.filter (neB n)).length ≤ c' ∧ c' ≤ maxLen ∧ Below w.heap.size w w') := by
  have HL : Hid (ListAt w a L) := h
  obtain ⟨i0, hi, hz0, hz1, hz2⟩ := info_parts Try.info53
  have HI : Hid (Try.prog.info? 53 = some i0) := hi
  clear h hi
  go_enter Try.func60, Try.ntmps60
  go_wp2
  go_loopw [6] (fun i wr => ∃ (k : Nat) (v : Value) (X : List FX), k ≤ L.length ∧ i = .int .i64 k ∧ X.length ≤ k ∧ Hid (Gath w a c L wr v X) ∧ Hid (X.map FX.fil = (L.take k).filter (neB n))) (fun i _ => L.length - (intOf i).toNat)
  case atStart => exact ⟨0, .slice none 0 0, [], Nat.zero_le _, rfl, Nat.le_refl _, gath_start w a c L, rfl⟩
  case round =>
    obtain ⟨k, v, X, hk, rfl, hXk, hg, hx⟩ := hrel
    have d0 := cell_of hg.out.box 0
    simp only [List.getElem?_toArray, List.getElem?_cons_zero] at d0
    by_cases hkl : k < L.length
    · obtain ⟨b, o, rfl, hc⟩ := HL.out.2.2 (by omega)
      have hb0 : b < w.heap.size := by
        have := (hc k hkl).1
        rcases Nat.lt_or_ge b w.heap.size with hlt | hge
        · exact hlt
        · rw [World.cell?, Array.getElem?_eq_none hge] at this; cases this
      obtain ⟨_, a2, c2, e2, e3, e4, e5⟩ := hc k hkl
      have f1 := cell_later hg.out.below (hc k hkl).1
      have f2 := cell_later hg.out.below e2
      have hi1 : (k : Int) < (L.length : Int) := by omega
      have HY : Hid (Good wr (own (w.heap.size + 1 + 1) v) ⟨L[k].name, a2, c2, L[k].bytes⟩) := hg.out.good (HL.out.1 _ (List.getElem_mem hkl)) e5 e3 e4
      have HF : Hid _ := filter_snoc hkl (neB n)
      obtain ⟨va, vc, rfl, hv1, hv2⟩ := own_form hg.out.out.list
      have hne : (L[k].name.toList == n.toList) = !neB n L[k] := eq_list
      clear hc e2 e3 e4 e5
      obtain ⟨x, hxk⟩ : ∃ x, x = L[k] := ⟨_, rfl⟩
      rw [← hxk] at f1 f2 HY HF hne
      clear hxk
      cases hn : neB n x with
      | false =>
        rw [hn] at hne
        change _ = true at hne
        have HX : Hid (X.map FX.fil = (L.take (k + 1)).filter (neB n)) := by
          show _ = _
          rw [HF.out, ← hx.out]
          simp [hn]
        clear hn
        go_wp2
        go_roundw
        case rel => exact ⟨k + 1, _, X, by omega, by go_num, by omega, hg.out, HX.out⟩
        case measure => simp [intOf]; omega
      | true =>
        rw [hn] at hne
        change _ = false at hne
        have HX : Hid ((X ++ [(⟨x.name, a2, c2, x.bytes⟩ : FX)]).map FX.fil = (L.take (k + 1)).filter (neB n)) := by
          show _ = _
          rw [HF.out, ← hx.out]
          simp [hn, FX.fil]
        clear hn
        go_wp2
        have hqr : w.heap.size + 1 + 1 < wr.heap.size ∧ w.heap.size + 1 + 1 + 1 ≤ wr.heap.size + 1 := by have := (Array.getElem?_eq_some_iff.1 hg.out.out.here).1; exact ⟨this, by omega⟩
        have hrow : Hid (Value.ownBlock (.slice va X.length vc) ≠ some w.heap.size ∧ Value.ownBlock (.slice va X.length vc) ≠ some b) := ⟨fun e => by have := (hg.out.out.list.lt _ e).1; omega, fun e => by have := (hg.out.out.list.lt _ e).1; omega⟩
        have hS0 : S3 w.heap.size (.slice (some ⟨b, o, none⟩) L.length c) b (o + k * 2) x.name (.slice a2 x.bytes.length c2) wr := ⟨d0, f1, f2⟩
        have hA0 := cell_of hg.out.out.here 0
        simp only [List.getElem?_toArray, List.getElem?_cons_zero] at hA0
        have hA1 : ∀ A, (wr.alloc A).cell? ⟨w.heap.size + 1 + 1, 0, none⟩ = some (.slice va X.length vc) := fun A => cell_later ((Below.refl _ wr).alloc (Nat.le_refl _) A) hA0
        refine wp_region_noPanic ?_
        refine wp_region_held_drew (S := S3 w.heap.size (.slice (some ⟨b, o, none⟩) L.length c) b (o + k * 2) x.name (.slice a2 x.bytes.length c2)) (by kernel_rfl) hS0 (fun hHeld => ?_)
        refine takeH 0 (.pointer (some ⟨w.heap.size + 1 + 1, 0, none⟩)) rfl (by kernel_rfl) (by kernel_rfl) (by kernel_rfl) (fun _ _ _ h => h) (Or.inl ⟨by rfl, ?_⟩) (by assumption) ?_
        · (intro w hSw; obtain ⟨hSw1, hSw2, hSw3⟩ := hSw; go_simp)
        try simp only [Act.put, List.setIfInBounds_toArray, List.set_cons_zero, List.set_cons_succ]
        refine takeH 2 (.pointer (some ⟨w.heap.size, 0, none⟩)) rfl (by kernel_rfl) (by kernel_rfl) (by kernel_rfl) (fun _ _ _ h => h) (Or.inl ⟨by rfl, ?_⟩) (by assumption) ?_
        · (intro w hSw; obtain ⟨hSw1, hSw2, hSw3⟩ := hSw; go_simp)
        try simp only [Act.put, List.setIfInBounds_toArray, List.set_cons_zero, List.set_cons_succ]
        refine takeH 3 (.slice (some ⟨b, o, none⟩) L.length c) rfl (by kernel_rfl) (by kernel_rfl) (by kernel_rfl) (fun _ _ _ h => h) (Or.inl ⟨by rfl, ?_⟩) (by assumption) ?_
        · (intro w hSw; obtain ⟨hSw1, hSw2, hSw3⟩ := hSw; go_simp)
        try simp only [Act.put, List.setIfInBounds_toArray, List.set_cons_zero, List.set_cons_succ]
        refine takeH 4 (.int .i64 k) rfl (by kernel_rfl) (by kernel_rfl) (by kernel_rfl) (fun _ _ _ h => h) (Or.inl ⟨by rfl, ?_⟩) (by assumption) ?_
        · (intro w hSw; obtain ⟨hSw1, hSw2, hSw3⟩ := hSw; go_simp)
        try simp only [Act.put, List.setIfInBounds_toArray, List.set_cons_zero, List.set_cons_succ]
        refine takeH 5 (.pointer (some ⟨b, o + k * 2, none⟩)) rfl (by kernel_rfl) (by kernel_rfl) (by kernel_rfl) (fun _ _ _ h => h) (Or.inl ⟨by rfl, ?_⟩) (by assumption) ?_
        · (intro w hSw; obtain ⟨hSw1, hSw2, hSw3⟩ := hSw; go_simp)
        try simp only [Act.put, List.setIfInBounds_toArray, List.set_cons_zero, List.set_cons_succ]
        refine takeH 6 (.agg #[.string x.name, .slice a2 x.bytes.length c2]) rfl (by kernel_rfl) (by kernel_rfl) (by kernel_rfl) (fun _ _ _ h => h) (Or.inl ⟨by rfl, ?_⟩) (by assumption) ?_
        · (intro w hSw; obtain ⟨hSw1, hSw2, hSw3⟩ := hSw; go_simp)
        try simp only [Act.put, List.setIfInBounds_toArray, List.set_cons_zero, List.set_cons_succ]
        refine wpAnyH_ready (rs := [1, 7]) (by kernel_rfl) (by simp) ?_
        refine stepH 1 rfl (fun K hK => ?_) (stepH 7 rfl (fun K hK => ?_) AllReadyH.nil)
        · go_simp
          refine hK.out _ _ (hHeld) (fun hHeld => ?_)
          clear hK K
          try simp only [Act.put, List.setIfInBounds_toArray, List.set_cons_zero, List.set_cons_succ]
          refine wpAnyH_ready (rs := [7]) (by kernel_rfl) (by simp) ?_
          refine stepH 7 rfl (fun K hK => ?_) AllReadyH.nil
          go_simp
          refine hK.out _ _ (hHeld.alloc _) (fun hHeld => ?_)
          clear hK K
          try simp only [Act.put, List.setIfInBounds_toArray, List.set_cons_zero, List.set_cons_succ]
          refine wpAnyH_ready (rs := [8]) (by kernel_rfl) (by simp) ?_
          refine stepH 8 rfl (fun K hK => ?_) AllReadyH.nil
          refine step_append_lies _ (by rfl) _ _ _ (by rfl) (w.heap.size + 1 + 1 + 1) 53 i0 (.agg #[.string ⟨#[]⟩, .slice none 0 0]) 2 40 Try.underlying22 HI.out hz0 hz1 hz2 rfl (by decide) (.slice va X.length vc) X.length (fcells X) (by rfl) (World.ownsRow.alloc (w := wr.drew) hg.out.out.list _) ⟨wr.heap.size, 0, none⟩ 1 1 [.string x.name, .slice a2 x.bytes.length c2] (by rfl) (by rfl) (World.news_of_block (heap_alloc_new wr.drew _)) (by intro u hu; simp at hu; rcases hu with rfl | rfl <;> rfl) (by decide) (by unfold maxLen; omega) (by omega) (by simp; omega) (wr.heap.size + 1) (by simp) ?_
          intro g cap w5 hown5 hgrow5 hat hlt
          obtain ⟨hx1, hx2⟩ := copied_five hg.out.out ((Below.refl _ wr).drew) hgrow5
          refine hK.out _ _ (hHeld.grown hgrow5 hrow.out.1 hrow.out.2) (fun hHeld => ?_)
          clear hK K
          try simp only [Act.put, List.setIfInBounds_toArray, List.set_cons_zero, List.set_cons_succ]
          refine takeH 9 (.pointer (some ⟨w.heap.size + 1 + 1, 0, none⟩)) rfl (by kernel_rfl) (by kernel_rfl) (by kernel_rfl) (fun _ _ _ h => h) (Or.inl ⟨by rfl, ?_⟩) (by assumption) ?_
          · (intro w hSw; obtain ⟨hSw1, hSw2, hSw3⟩ := hSw; go_simp)
          try simp only [Act.put, List.setIfInBounds_toArray, List.set_cons_zero, List.set_cons_succ]
          refine wpAnyH_ready (rs := [10]) (by kernel_rfl) (by simp) ?_
          refine stepH 10 rfl (fun K hK => ?_) AllReadyH.nil
          go_simp
          refine hK.out _ _ (hHeld.set (by omega) (by omega)) (fun hHeld => ?_)
          clear hK K
          try simp only [Act.put, List.setIfInBounds_toArray, List.set_cons_zero, List.set_cons_succ]
          refine wpAnyH_done (by kernel_rfl) ?_ _
          refine NoPanic.normal ?_
          have HP : Hid (Gath w (some ⟨b, o, none⟩) c L (w5.setCell ⟨w.heap.size + 1 + 1, 0, none⟩ (.slice (some ⟨g, 0, none⟩) (X.length + 1) cap)) (.slice (some ⟨g, 0, none⟩) (X.length + 1) cap) (X ++ [⟨x.name, a2, c2, x.bytes⟩])) := hg.out.push (y := ⟨x.name, a2, c2, x.bytes⟩) (((Below.refl _ wr).alloc (Nat.le_refl _) _).drew) hown5 hgrow5 (by simpa using hat) HY.out
          clear hown5 hgrow5 hat hx1 hx2 hHeld
          go_wp2
          go_roundw
          case rel => exact ⟨k + 1, _, _, by omega, by go_num, by rw [List.length_append]; simp; omega, HP.out, HX.out⟩
          case measure => simp [intOf]; omega
        · go_simp
          refine hK.out _ _ (hHeld.alloc _) (fun hHeld => ?_)
          clear hK K
          try simp only [Act.put, List.setIfInBounds_toArray, List.set_cons_zero, List.set_cons_succ]
          refine wpAnyH_ready (rs := [1]) (by kernel_rfl) (by simp) ?_
          refine stepH 1 rfl (fun K hK => ?_) AllReadyH.nil
          go_simp
          refine hK.out _ _ (hHeld) (fun hHeld => ?_)
          clear hK K
          try simp only [Act.put, List.setIfInBounds_toArray, List.set_cons_zero, List.set_cons_succ]
          refine wpAnyH_ready (rs := [8]) (by kernel_rfl) (by simp) ?_
          refine stepH 8 rfl (fun K hK => ?_) AllReadyH.nil
          refine step_append_lies _ (by rfl) _ _ _ (by rfl) (w.heap.size + 1 + 1 + 1) 53 i0 (.agg #[.string ⟨#[]⟩, .slice none 0 0]) 2 40 Try.underlying22 HI.out hz0 hz1 hz2 rfl (by decide) (.slice va X.length vc) X.length (fcells X) (by rfl) (World.ownsRow.alloc (w := wr.drew) hg.out.out.list _) ⟨wr.heap.size, 0, none⟩ 1 1 [.string x.name, .slice a2 x.bytes.length c2] (by rfl) (by rfl) (World.news_of_block (heap_alloc_new wr.drew _)) (by intro u hu; simp at hu; rcases hu with rfl | rfl <;> rfl) (by decide) (by unfold maxLen; omega) (by omega) (by simp; omega) (wr.heap.size + 1) (by simp) ?_
          intro g cap w5 hown5 hgrow5 hat hlt
          obtain ⟨hx1, hx2⟩ := copied_five hg.out.out ((Below.refl _ wr).drew) hgrow5
          refine hK.out _ _ (hHeld.grown hgrow5 hrow.out.1 hrow.out.2) (fun hHeld => ?_)
          clear hK K
          try simp only [Act.put, List.setIfInBounds_toArray, List.set_cons_zero, List.set_cons_succ]
          refine takeH 9 (.pointer (some ⟨w.heap.size + 1 + 1, 0, none⟩)) rfl (by kernel_rfl) (by kernel_rfl) (by kernel_rfl) (fun _ _ _ h => h) (Or.inl ⟨by rfl, ?_⟩) (by assumption) ?_
          · (intro w hSw; obtain ⟨hSw1, hSw2, hSw3⟩ := hSw; go_simp)
          try simp only [Act.put, List.setIfInBounds_toArray, List.set_cons_zero, List.set_cons_succ]
          refine wpAnyH_ready (rs := [10]) (by kernel_rfl) (by simp) ?_
          refine stepH 10 rfl (fun K hK => ?_) AllReadyH.nil
          go_simp
          refine hK.out _ _ (hHeld.set (by omega) (by omega)) (fun hHeld => ?_)
          clear hK K
          try simp only [Act.put, List.setIfInBounds_toArray, List.set_cons_zero, List.set_cons_succ]
          refine wpAnyH_done (by kernel_rfl) ?_ _
          refine NoPanic.normal ?_
          have HP : Hid (Gath w (some ⟨b, o, none⟩) c L (w5.setCell ⟨w.heap.size + 1 + 1, 0, none⟩ (.slice (some ⟨g, 0, none⟩) (X.length + 1) cap)) (.slice (some ⟨g, 0, none⟩) (X.length + 1) cap) (X ++ [⟨x.name, a2, c2, x.bytes⟩])) := hg.out.push (y := ⟨x.name, a2, c2, x.bytes⟩) (((Below.refl _ wr).alloc (Nat.le_refl _) _).drew) hown5 hgrow5 (by simpa using hat) HY.out
          clear hown5 hgrow5 hat hx1 hx2 hHeld
          go_wp2
          go_roundw
          case rel => exact ⟨k + 1, _, _, by omega, by go_num, by rw [List.length_append]; simp; omega, HP.out, HX.out⟩
          case measure => simp [intOf]; omega
    · obtain rfl : k = L.length := by omega
      obtain ⟨va, vc, rfl, hv1, hv2⟩ := own_form hg.out.out.list
      have HE : Hid (∀ u, ListAt (wr.setCell ⟨w.heap.size + 1, 0, none⟩ u) va (L.filter (neB n)) ∧ (L.filter (neB n)).length ≤ vc ∧ vc ≤ maxLen ∧ Below w.heap.size w (wr.setCell ⟨w.heap.size + 1, 0, none⟩ u)) := fun u => by
        have := hg.out.ends (by omega) u
        have e := hx.out
        rw [List.take_length] at e
        have e2 := congrArg List.length e
        rw [List.length_map] at e2
        rw [e] at this
        exact ⟨this.1, by omega, hv2, this.2⟩
      have HN : Hid (X.length = (L.filter (neB n)).length) := by
        have e := congrArg List.length hx.out
        rw [List.take_length, List.length_map] at e
        exact e
      have d4 := cell_of hg.out.out.here 0
      simp only [List.getElem?_toArray, List.getElem?_cons_zero] at d4
      have d1 := cell_of hg.out.res 0
      simp only [List.getElem?_toArray, List.getElem?_cons_zero] at d1
      have d2 := frozen_of hg.out.res 0
      have d3 : ∀ u, (wr.setCell ⟨w.heap.size + 1, 0, none⟩ u).cell? ⟨w.heap.size + 1, 0, none⟩ = some u := fun u => by
        rw [cell_of (heap_setCell_same wr _ 0 _ _ u hg.out.res)]; rfl
      go_wp2
      refine bodyPost_ret (v := .agg #[.slice va X.length vc]) (by simp [results, Try.results60, go_sem, d3]) rfl ⟨va, vc, by rw [HN.out], HE.out _⟩
end Go.Proofs.Ytfocejmfmnijpaa
