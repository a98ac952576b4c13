/- The walk of the reference's own With. -/
import Derived.Test.YtfocejmfmnijpaaFWithout
import Derived.Deep.CutRange
namespace Go.Proofs.Ytfocejmfmnijpaa
open Go.RowKit

/-- The files with one. -/
def withL (L : List Fil) (n : ByteArray) (b : List Nat) : List Fil := L.take (atS L n) ++ ⟨n, b⟩ :: (L.drop (atS L n)).filter (neB n)
/-- so far, -/
def outW (L : List Fil) (n : ByteArray) (b : List Nat) (k : Nat) : List Fil := if k ≤ atS L n then L.take k else L.take (atS L n) ++ ⟨n, b⟩ :: ((L.take k).drop (atS L n)).filter (neB n)
/-- and within a round. -/
def midW (L : List Fil) (n : ByteArray) (b : List Nat) (k : Nat) : List Fil := if k < atS L n then L.take k else L.take (atS L n) ++ ⟨n, b⟩ :: ((L.take k).drop (atS L n)).filter (neB n)
theorem less_ne {x : Fil} {n : ByteArray} (h : lessB x.name n = true) : neB n x = true := by
  unfold neB
  cases hd : decide (x.name = n) with
  | false => rfl
  | true => rw [of_decide_eq_true hd, less_irrefl] at h; cases h
theorem out_of_mid {L : List Fil} {n : ByteArray} {b : List Nat} {k : Nat} (h : k < L.length) : outW L n b (k + 1) = midW L n b k ++ [L[k]].filter (neB n) := by
  unfold outW midW
  by_cases hk : k < atS L n
  · rw [if_pos (by omega), if_pos hk, List.take_succ_eq_append_getElem h]
    simp [less_ne (atS_below L n k h hk)]
  · rw [if_neg (by omega), if_neg hk, List.take_succ_eq_append_getElem h, List.drop_append_of_le_length (by rw [List.length_take]; omega), List.filter_append]
    simp
theorem mid_other {L : List Fil} {n : ByteArray} {b : List Nat} {k : Nat} (h : ¬ k = atS L n) : midW L n b k = outW L n b k := by
  unfold outW midW
  by_cases hk : k < atS L n
  · rw [if_pos hk, if_pos (by omega)]
  · rw [if_neg hk, if_neg (by omega)]
theorem mid_here {L : List Fil} {n : ByteArray} {b : List Nat} {k : Nat} (h : k = atS L n) : midW L n b k = outW L n b k ++ [⟨n, b⟩] := by
  unfold outW midW
  rw [if_neg (by omega), if_pos (by omega), h, List.drop_eq_nil_of_le (by rw [List.length_take]; omega)]
  simp
theorem out_end {L : List Fil} {n : ByteArray} {b : List Nat} (h : atS L n < L.length) : outW L n b L.length = withL L n b := by
  unfold outW withL
  rw [if_neg (by omega), List.take_length]
theorem out_end2 {L : List Fil} {n : ByteArray} {b : List Nat} (h : ¬ atS L n < L.length) : outW L n b L.length ++ [⟨n, b⟩] = withL L n b := by
  have := atS_le L n
  have e : atS L n = L.length := by omega
  unfold outW withL
  rw [if_pos (by omega), e, List.take_length, List.drop_length]
  simp
theorem withL_length (L : List Fil) (n : ByteArray) (b : List Nat) : (withL L n b).length ≤ L.length + 1 := by
  unfold withL
  have := List.length_filter_le (neB n) (L.drop (atS L n))
  have := atS_le L n
  simp only [List.length_append, List.length_take, List.length_cons, List.length_drop] at *
  omega

/-- the end of With. -/
def WithEnd (w : World) (L : List Fil) (n : ByteArray) (bl : List Nat) (e : Ending) (w' : World) : Prop := ∃ a' c', e = .returned (.agg #[.slice a' (withL L n bl).length c']) ∧ Hid (ListAt w' a' (withL L n bl) ∧ (withL L n bl).length ≤ c' ∧ c' ≤ maxLen ∧ Below w.heap.size w w')
theorem with_end {w : World} {a : Option Addr} {c : Nat} {L : List Fil} {n : ByteArray} {bl : List Nat} {wr : World} {va : Option Addr} {vc nn : Nat} {X : List FX} (hg : Gath w a c L wr (.slice va nn vc) X) (hX : X.length ≤ 1000) (hx : X.map FX.fil = withL L n bl) (u : Value) : WithEnd w L n bl (.returned (.agg #[.slice va nn vc])) (wr.setCell ⟨w.heap.size + 1, 0, none⟩ u) := by
  obtain ⟨va', vc', hv, hv1, hv2⟩ := own_form hg.out.list
  cases hv
  have h := hg.ends hX u
  have e2 := congrArg List.length hx
  rw [List.length_map] at e2
  rw [hx] at h
  exact ⟨va, vc, by rw [e2], h.1, by omega, hv2, h.2⟩

set_option maxHeartbeats 8000000 in
theorem with_any (w : World) (a ab : Option Addr) (c cb : Nat) (L : List Fil) (n : ByteArray) (bl : List Nat) (h : ListAt w a L) (hn : n.size ≤ 140737488351232) (hrow : Row w ab bl) (hb1 : bl.length ≤ cb) (hb2 : cb ≤ maxLen) (h5 : L.length ≤ 500) :
    Calls Try.prog 59 #[.agg #[.slice a L.length c], .string n, .slice ab bl.length cb] w fun e w' => WithEnd w L n bl e w' := by
  have HL : Hid (ListAt w a L) := h
  have HROW : Hid (Row w ab bl ∧ bl.length ≤ cb ∧ cb ≤ maxLen) := ⟨hrow, hb1, hb2⟩
  obtain ⟨i0, hi, hz0, hz1, hz2⟩ := info_parts Try.info53
  have HI : Hid (Try.prog.info? 53 = some i0) := hi
  clear h hi hrow hb1 hb2
  go_enter Try.func59, Try.ntmps59
  go_wp2
  go_loopw [8, 9] (fun dn i wr => ∃ (k : Nat) (v : Value) (X : List FX), k ≤ L.length ∧ dn = .bool (decide (atS L n < k)) ∧ i = .int .i64 k ∧ X.length ≤ k + 1 ∧ Hid (Gath w a c L wr v X) ∧ Hid (X.map FX.fil = outW L n bl k)) (fun _ i _ => L.length - (intOf i).toNat)
  case atStart => exact ⟨0, .slice none 0 0, [], Nat.zero_le _, by simp, rfl, Nat.zero_le _, gath_start w a c L, by show _ = _; simp [outW]⟩
  case round =>
    obtain ⟨k, v, X, hk, rfl, rfl, hXk, hg, hx⟩ := hrel
    have d0 := cell_of hg.out.box 0
    simp only [List.getElem?_toArray, List.getElem?_cons_zero] at d0
    by_cases hkl : k < L.length
    · obtain ⟨b, o, rfl, hc⟩ := HL.out.2.2 (by omega)
      have hb0 : b < w.heap.size := by
        have := (hc k hkl).1
        rcases Nat.lt_or_ge b w.heap.size with hlt | hge
        · exact hlt
        · rw [World.cell?, Array.getElem?_eq_none hge] at this; cases this
      obtain ⟨_, a2, c2, e2, e3, e4, e5⟩ := hc k hkl
      have HFA : Hid (∀ wc v X, Gath w (some ⟨b, o, none⟩) c L wc v X → wc.cell? ⟨w.heap.size, 0, none⟩ = some (.slice (some ⟨b, o, none⟩) L.length c) ∧ wc.cell? ⟨b, o + k * 2, none⟩ = some (.string L[k].name) ∧ wc.cell? ⟨b, o + k * 2 + 1, none⟩ = some (.slice a2 L[k].bytes.length c2) ∧ Good wc (own (w.heap.size + 1 + 1) v) ⟨L[k].name, a2, c2, L[k].bytes⟩) := fun wc v X hg => ⟨by rw [cell_of hg.box]; rfl, cell_later hg.below (hc k hkl).1, cell_later hg.below e2, hg.good (HL.out.1 _ (List.getElem_mem hkl)) e5 e3 e4⟩
      have hi1 : (k : Int) < (L.length : Int) := by omega
      have HF : Hid (outW L n bl (k + 1) = midW L n bl k ++ [L[k]].filter (neB n)) := out_of_mid hkl
      obtain ⟨va, vc, rfl, hv1, hv2⟩ := own_form hg.out.out.list
      have hne : (L[k].name.toList == n.toList) = !neB n L[k] := eq_list
      have HLT : Hid (k < atS L n → lessB L[k].name n = true) := atS_below L n k hkl
      have HGE : Hid (k = atS L n → lessB L[k].name n = false) := fun h => by
        have := atS_at L n (by omega)
        simp only [← h] at this
        exact this
      clear hc e2 e3 e4 e5
      obtain ⟨x, hxk⟩ : ∃ x, x = L[k] := ⟨_, rfl⟩
      rw [← hxk] at HFA HF hne HLT HGE
      clear hxk
      go_upto_region 6 with fail
      go_cut [8, 28] from 10 to 54 (fun dn s wc => dn = .bool (decide (atS L n < k)) ∧ s = .bool (decide (k = atS L n)) ∧ wc = wr)
      case first =>
        obtain ⟨_, f1, f2, _⟩ := HFA.out _ _ _ hg.out
        clear hne HF
        rcases Nat.lt_trichotomy k (atS L n) with hlt | heq | hgt
        · have hl := HLT.out hlt
          unfold lessB at hl
          have hd : decide (atS L n < k) = false := decide_eq_false (by omega)
          have HD2 : Hid (decide (k = atS L n) = false) := decide_eq_false (by omega)
          have HD : Hid _ := hd
          rw [hd]
          clear hd hlt
          go_wp2
          go_meet
          exact ⟨by rw [HD.out], by rw [HD2.out], rfl⟩
        · have hl := HGE.out heq
          unfold lessB at hl
          have hd : decide (atS L n < k) = false := decide_eq_false (by omega)
          have HD2 : Hid (decide (k = atS L n) = true) := decide_eq_true (by omega)
          have HD : Hid _ := hd
          rw [hd]
          clear hd heq
          go_wp2
          go_meet
          exact ⟨by rw [HD.out], by rw [HD2.out], rfl⟩
        · have hd : decide (atS L n < k) = true := decide_eq_true (by omega)
          have HD2 : Hid (decide (k = atS L n) = false) := decide_eq_false (by omega)
          have HD : Hid _ := hd
          rw [hd]
          clear hd hgt
          go_wp2
          go_meet
          exact ⟨by rw [HD.out], by rw [HD2.out], rfl⟩
      case rest =>
      clear HLT HGE
      obtain ⟨rfl, rfl, rfl⟩ := hcut
      go_upto_if 28 with fail
      go_cut [8] from 10 to 54 (fun dn wc => ∃ (v : Value) (X : List FX), dn = .bool (decide (atS L n < k + 1)) ∧ X.length ≤ k + 1 ∧ Hid (Gath w (some ⟨b, o, none⟩) c L wc v X) ∧ Hid (X.map FX.fil = midW L n bl k))
      case first =>
        clear hne HF
        by_cases heq : k = atS L n
        · have HD2 : Hid (decide (atS L n < k + 1) = true) := decide_eq_true (by omega)
          have hXk2 : X.length ≤ k := by
            have := congrArg List.length hx.out
            rw [outW, if_pos (by omega), List.length_map, List.length_take] at this
            omega
          have HM : Hid ((X ++ [(⟨n, ab, cb, bl⟩ : FX)]).map FX.fil = midW L n bl k) := by show _ = _; rw [mid_here heq, ← hx.out]; simp [FX.fil]
          have HY : Hid (Good wc (own (w.heap.size + 1 + 1) (.slice va X.length vc)) ⟨n, ab, cb, bl⟩) := hg.out.good hn HROW.out.1 HROW.out.2.1 HROW.out.2.2
          have hA0 := cell_of hg.out.out.here 0
          simp only [List.getElem?_toArray, List.getElem?_cons_zero] at hA0
          have hqr : w.heap.size + 1 + 1 < wc.heap.size := (Array.getElem?_eq_some_iff.1 hg.out.out.here).1
          rw [decide_eq_true heq]
          clear heq
          go_wp2_with (at_builtin; go_must (refine wpList_append_lies _ rfl _ _ 22 rfl (w.heap.size + 1 + 1 + 1) 53 i0 (.agg #[.string ⟨#[]⟩, .slice none 0 0]) 2 40 Try.underlying22 HI.out hz0 hz1 hz2 rfl (by decide) (.slice va X.length vc) X.length (fcells X) rfl (hg.out.out.list.alloc _) ⟨wc.heap.size, 0, none⟩ 1 1 [.string n, .slice ab bl.length cb] rfl rfl (World.news_of_block (heap_alloc_new wc _)) (by intro u hu; simp at hu; rcases hu with rfl | rfl <;> rfl) (by decide) (by unfold maxLen; omega) (by omega) (by simp; omega) (wc.heap.size + 1) (by simp) ?_); intro g cap w5 hown5 hgrow5 hat hlt; have HP : Hid (Gath w (some ⟨b, o, none⟩) c L (w5.setCell ⟨w.heap.size + 1 + 1, 0, none⟩ (.slice (some ⟨g, 0, none⟩) (X.length + 1) cap)) (.slice (some ⟨g, 0, none⟩) (X.length + 1) cap) (X ++ [⟨n, ab, cb, bl⟩])) := hg.out.push (y := ⟨n, ab, cb, bl⟩) ((Below.refl _ wc).alloc (Nat.le_refl _) _) hown5 hgrow5 (by simpa using hat) HY.out; obtain ⟨hx1, hx2⟩ := copied_five hg.out.out (Below.refl _ wc) hgrow5; clear hown5 hgrow5 hat)
          go_meet
          exact ⟨_, _, by rw [HD2.out], by rw [List.length_append]; simp; omega, HP.out, HM.out⟩
        · have HD2 : Hid (decide (atS L n < k + 1) = decide (atS L n < k)) := by show _ = _; rw [decide_eq_decide]; omega
          have HM : Hid (X.map FX.fil = midW L n bl k) := by show _ = _; rw [mid_other heq]; exact hx.out
          rw [decide_eq_false heq]
          clear heq
          go_wp2
          go_meet
          exact ⟨_, X, by rw [HD2.out], hXk, hg.out, HM.out⟩
      case rest =>
        clear hg hx hXk d0 hv1 hv2
        obtain ⟨v, X, rfl, hXk, hg, hx⟩ := hcut
        obtain ⟨va, vc, rfl, hv1, hv2⟩ := own_form hg.out.out.list
        obtain ⟨d0, f1, f2, hy⟩ := HFA.out _ _ _ hg.out
        have HY : Hid _ := hy
        clear hy HFA
        cases hnb : neB n x with
        | false =>
          rw [hnb] at hne
          change _ = true at hne
          have HX : Hid (X.map FX.fil = outW L n bl (k + 1)) := by
            show _ = _
            rw [HF.out, ← hx.out]
            simp [hnb]
          clear hnb
          go_wp2
          go_roundw
          case rel => exact ⟨k + 1, _, X, by omega, rfl, by go_num, by omega, hg.out, HX.out⟩
          case measure => simp [intOf]; omega
        | true =>
          rw [hnb] at hne
          change _ = false at hne
          have HX : Hid ((X ++ [(⟨x.name, a2, c2, x.bytes⟩ : FX)]).map FX.fil = outW L n bl (k + 1)) := by
            show _ = _
            rw [HF.out, ← hx.out]
            simp [hnb, FX.fil]
          clear hnb
          go_wp2
          have hqr : w.heap.size + 1 + 1 < wc.heap.size ∧ w.heap.size + 1 + 1 + 1 ≤ wc.heap.size + 1 := by have := (Array.getElem?_eq_some_iff.1 hg.out.out.here).1; exact ⟨this, by omega⟩
          have hrow : Hid (Value.ownBlock (.slice va X.length vc) ≠ some w.heap.size ∧ Value.ownBlock (.slice va X.length vc) ≠ some b) := ⟨fun e => by have := (hg.out.out.list.lt _ e).1; omega, fun e => by have := (hg.out.out.list.lt _ e).1; omega⟩
          have hS0 : S3 w.heap.size (.slice (some ⟨b, o, none⟩) L.length c) b (o + k * 2) x.name (.slice a2 x.bytes.length c2) wc := ⟨d0, f1, f2⟩
          have hA0 := cell_of hg.out.out.here 0
          simp only [List.getElem?_toArray, List.getElem?_cons_zero] at hA0
          have hA1 : ∀ A, (wc.alloc A).cell? ⟨w.heap.size + 1 + 1, 0, none⟩ = some (.slice va X.length vc) := fun A => cell_later ((Below.refl _ wc).alloc (Nat.le_refl _) A) hA0
          refine wp_region_noPanic ?_
          refine wp_region_held_drew (S := S3 w.heap.size (.slice (some ⟨b, o, none⟩) L.length c) b (o + k * 2) x.name (.slice a2 x.bytes.length c2)) (by kernel_rfl) hS0 (fun hHeld => ?_)
          refine takeH 0 (.pointer (some ⟨w.heap.size + 1 + 1, 0, none⟩)) rfl (by kernel_rfl) (by kernel_rfl) (by kernel_rfl) (fun _ _ _ h => h) (Or.inl ⟨by rfl, ?_⟩) (by assumption) ?_
          · (intro w hSw; obtain ⟨hSw1, hSw2, hSw3⟩ := hSw; go_simp)
          try simp only [Act.put, List.setIfInBounds_toArray, List.set_cons_zero, List.set_cons_succ]
          refine takeH 2 (.pointer (some ⟨w.heap.size, 0, none⟩)) rfl (by kernel_rfl) (by kernel_rfl) (by kernel_rfl) (fun _ _ _ h => h) (Or.inl ⟨by rfl, ?_⟩) (by assumption) ?_
          · (intro w hSw; obtain ⟨hSw1, hSw2, hSw3⟩ := hSw; go_simp)
          try simp only [Act.put, List.setIfInBounds_toArray, List.set_cons_zero, List.set_cons_succ]
          refine takeH 3 (.slice (some ⟨b, o, none⟩) L.length c) rfl (by kernel_rfl) (by kernel_rfl) (by kernel_rfl) (fun _ _ _ h => h) (Or.inl ⟨by rfl, ?_⟩) (by assumption) ?_
          · (intro w hSw; obtain ⟨hSw1, hSw2, hSw3⟩ := hSw; go_simp)
          try simp only [Act.put, List.setIfInBounds_toArray, List.set_cons_zero, List.set_cons_succ]
          refine takeH 4 (.int .i64 k) rfl (by kernel_rfl) (by kernel_rfl) (by kernel_rfl) (fun _ _ _ h => h) (Or.inl ⟨by rfl, ?_⟩) (by assumption) ?_
          · (intro w hSw; obtain ⟨hSw1, hSw2, hSw3⟩ := hSw; go_simp)
          try simp only [Act.put, List.setIfInBounds_toArray, List.set_cons_zero, List.set_cons_succ]
          refine takeH 5 (.pointer (some ⟨b, o + k * 2, none⟩)) rfl (by kernel_rfl) (by kernel_rfl) (by kernel_rfl) (fun _ _ _ h => h) (Or.inl ⟨by rfl, ?_⟩) (by assumption) ?_
          · (intro w hSw; obtain ⟨hSw1, hSw2, hSw3⟩ := hSw; go_simp)
          try simp only [Act.put, List.setIfInBounds_toArray, List.set_cons_zero, List.set_cons_succ]
          refine takeH 6 (.agg #[.string x.name, .slice a2 x.bytes.length c2]) rfl (by kernel_rfl) (by kernel_rfl) (by kernel_rfl) (fun _ _ _ h => h) (Or.inl ⟨by rfl, ?_⟩) (by assumption) ?_
          · (intro w hSw; obtain ⟨hSw1, hSw2, hSw3⟩ := hSw; go_simp)
          try simp only [Act.put, List.setIfInBounds_toArray, List.set_cons_zero, List.set_cons_succ]
          refine wpAnyH_ready (rs := [1, 7]) (by kernel_rfl) (by simp) ?_
          refine stepH 1 rfl (fun K hK => ?_) (stepH 7 rfl (fun K hK => ?_) AllReadyH.nil)
          · go_simp
            refine hK.out _ _ (hHeld) (fun hHeld => ?_)
            clear hK K
            try simp only [Act.put, List.setIfInBounds_toArray, List.set_cons_zero, List.set_cons_succ]
            refine wpAnyH_ready (rs := [7]) (by kernel_rfl) (by simp) ?_
            refine stepH 7 rfl (fun K hK => ?_) AllReadyH.nil
            go_simp
            refine hK.out _ _ (hHeld.alloc _) (fun hHeld => ?_)
            clear hK K
            try simp only [Act.put, List.setIfInBounds_toArray, List.set_cons_zero, List.set_cons_succ]
            refine wpAnyH_ready (rs := [8]) (by kernel_rfl) (by simp) ?_
            refine stepH 8 rfl (fun K hK => ?_) AllReadyH.nil
            refine step_append_lies _ (by rfl) _ _ _ (by rfl) (w.heap.size + 1 + 1 + 1) 53 i0 (.agg #[.string ⟨#[]⟩, .slice none 0 0]) 2 40 Try.underlying22 HI.out hz0 hz1 hz2 rfl (by decide) (.slice va X.length vc) X.length (fcells X) (by rfl) (World.ownsRow.alloc (w := wc.drew) hg.out.out.list _) ⟨wc.heap.size, 0, none⟩ 1 1 [.string x.name, .slice a2 x.bytes.length c2] (by rfl) (by rfl) (World.news_of_block (heap_alloc_new wc.drew _)) (by intro u hu; simp at hu; rcases hu with rfl | rfl <;> rfl) (by decide) (by unfold maxLen; omega) (by omega) (by simp; omega) (wc.heap.size + 1) (by simp) ?_
            intro g cap w5 hown5 hgrow5 hat hlt
            obtain ⟨hx1, hx2⟩ := copied_five hg.out.out ((Below.refl _ wc).drew) hgrow5
            refine hK.out _ _ (hHeld.grown hgrow5 hrow.out.1 hrow.out.2) (fun hHeld => ?_)
            clear hK K
            try simp only [Act.put, List.setIfInBounds_toArray, List.set_cons_zero, List.set_cons_succ]
            refine takeH 9 (.pointer (some ⟨w.heap.size + 1 + 1, 0, none⟩)) rfl (by kernel_rfl) (by kernel_rfl) (by kernel_rfl) (fun _ _ _ h => h) (Or.inl ⟨by rfl, ?_⟩) (by assumption) ?_
            · (intro w hSw; obtain ⟨hSw1, hSw2, hSw3⟩ := hSw; go_simp)
            try simp only [Act.put, List.setIfInBounds_toArray, List.set_cons_zero, List.set_cons_succ]
            refine wpAnyH_ready (rs := [10]) (by kernel_rfl) (by simp) ?_
            refine stepH 10 rfl (fun K hK => ?_) AllReadyH.nil
            go_simp
            refine hK.out _ _ (hHeld.set (by omega) (by omega)) (fun hHeld => ?_)
            clear hK K
            try simp only [Act.put, List.setIfInBounds_toArray, List.set_cons_zero, List.set_cons_succ]
            refine wpAnyH_done (by kernel_rfl) ?_ _
            refine NoPanic.normal ?_
            have HP : Hid (Gath w (some ⟨b, o, none⟩) c L (w5.setCell ⟨w.heap.size + 1 + 1, 0, none⟩ (.slice (some ⟨g, 0, none⟩) (X.length + 1) cap)) (.slice (some ⟨g, 0, none⟩) (X.length + 1) cap) (X ++ [⟨x.name, a2, c2, x.bytes⟩])) := hg.out.push (y := ⟨x.name, a2, c2, x.bytes⟩) (((Below.refl _ wc).alloc (Nat.le_refl _) _).drew) hown5 hgrow5 (by simpa using hat) HY.out
            clear hown5 hgrow5 hat hx1 hx2 hHeld
            go_wp2
            go_roundw
            case rel => exact ⟨k + 1, _, _, by omega, rfl, by go_num, by rw [List.length_append]; simp; omega, HP.out, HX.out⟩
            case measure => simp [intOf]; omega
          · go_simp
            refine hK.out _ _ (hHeld.alloc _) (fun hHeld => ?_)
            clear hK K
            try simp only [Act.put, List.setIfInBounds_toArray, List.set_cons_zero, List.set_cons_succ]
            refine wpAnyH_ready (rs := [1]) (by kernel_rfl) (by simp) ?_
            refine stepH 1 rfl (fun K hK => ?_) AllReadyH.nil
            go_simp
            refine hK.out _ _ (hHeld) (fun hHeld => ?_)
            clear hK K
            try simp only [Act.put, List.setIfInBounds_toArray, List.set_cons_zero, List.set_cons_succ]
            refine wpAnyH_ready (rs := [8]) (by kernel_rfl) (by simp) ?_
            refine stepH 8 rfl (fun K hK => ?_) AllReadyH.nil
            refine step_append_lies _ (by rfl) _ _ _ (by rfl) (w.heap.size + 1 + 1 + 1) 53 i0 (.agg #[.string ⟨#[]⟩, .slice none 0 0]) 2 40 Try.underlying22 HI.out hz0 hz1 hz2 rfl (by decide) (.slice va X.length vc) X.length (fcells X) (by rfl) (World.ownsRow.alloc (w := wc.drew) hg.out.out.list _) ⟨wc.heap.size, 0, none⟩ 1 1 [.string x.name, .slice a2 x.bytes.length c2] (by rfl) (by rfl) (World.news_of_block (heap_alloc_new wc.drew _)) (by intro u hu; simp at hu; rcases hu with rfl | rfl <;> rfl) (by decide) (by unfold maxLen; omega) (by omega) (by simp; omega) (wc.heap.size + 1) (by simp) ?_
            intro g cap w5 hown5 hgrow5 hat hlt
            obtain ⟨hx1, hx2⟩ := copied_five hg.out.out ((Below.refl _ wc).drew) hgrow5
            refine hK.out _ _ (hHeld.grown hgrow5 hrow.out.1 hrow.out.2) (fun hHeld => ?_)
            clear hK K
            try simp only [Act.put, List.setIfInBounds_toArray, List.set_cons_zero, List.set_cons_succ]
            refine takeH 9 (.pointer (some ⟨w.heap.size + 1 + 1, 0, none⟩)) rfl (by kernel_rfl) (by kernel_rfl) (by kernel_rfl) (fun _ _ _ h => h) (Or.inl ⟨by rfl, ?_⟩) (by assumption) ?_
            · (intro w hSw; obtain ⟨hSw1, hSw2, hSw3⟩ := hSw; go_simp)
            try simp only [Act.put, List.setIfInBounds_toArray, List.set_cons_zero, List.set_cons_succ]
            refine wpAnyH_ready (rs := [10]) (by kernel_rfl) (by simp) ?_
            refine stepH 10 rfl (fun K hK => ?_) AllReadyH.nil
            go_simp
            refine hK.out _ _ (hHeld.set (by omega) (by omega)) (fun hHeld => ?_)
            clear hK K
            try simp only [Act.put, List.setIfInBounds_toArray, List.set_cons_zero, List.set_cons_succ]
            refine wpAnyH_done (by kernel_rfl) ?_ _
            refine NoPanic.normal ?_
            have HP : Hid (Gath w (some ⟨b, o, none⟩) c L (w5.setCell ⟨w.heap.size + 1 + 1, 0, none⟩ (.slice (some ⟨g, 0, none⟩) (X.length + 1) cap)) (.slice (some ⟨g, 0, none⟩) (X.length + 1) cap) (X ++ [⟨x.name, a2, c2, x.bytes⟩])) := hg.out.push (y := ⟨x.name, a2, c2, x.bytes⟩) (((Below.refl _ wc).alloc (Nat.le_refl _) _).drew) hown5 hgrow5 (by simpa using hat) HY.out
            clear hown5 hgrow5 hat hx1 hx2 hHeld
            go_wp2
            go_roundw
            case rel => exact ⟨k + 1, _, _, by omega, rfl, by go_num, by rw [List.length_append]; simp; omega, HP.out, HX.out⟩
            case measure => simp [intOf]; omega
    · obtain rfl : k = L.length := by omega
      obtain ⟨va, vc, rfl, hv1, hv2⟩ := own_form hg.out.out.list
      have d4 := cell_of hg.out.out.here 0
      simp only [List.getElem?_toArray, List.getElem?_cons_zero] at d4
      by_cases hP : atS L n < L.length
      · have HX : Hid (X.map FX.fil = withL L n bl) := by show _ = _; rw [← out_end hP]; exact hx.out
        have d1 := cell_of hg.out.res 0
        simp only [List.getElem?_toArray, List.getElem?_cons_zero] at d1
        have d2 := frozen_of hg.out.res 0
        have d3 : ∀ u, (wr.setCell ⟨w.heap.size + 1, 0, none⟩ u).cell? ⟨w.heap.size + 1, 0, none⟩ = some u := fun u => by
          rw [cell_of (heap_setCell_same wr _ 0 _ _ u hg.out.res)]; rfl
        rw [decide_eq_true hP]
        clear hP
        go_wp2
        refine bodyPost_ret (v := .agg #[.slice va X.length vc]) (by simp [results, Try.results59, go_sem, d3]) rfl (with_end hg.out (by omega) HX.out _)
      · have HM : Hid ((X ++ [(⟨n, ab, cb, bl⟩ : FX)]).map FX.fil = withL L n bl) := by show _ = _; rw [← out_end2 hP, ← hx.out]; simp [FX.fil]
        have HY : Hid (Good wr (own (w.heap.size + 1 + 1) (.slice va X.length vc)) ⟨n, ab, cb, bl⟩) := hg.out.good hn HROW.out.1 HROW.out.2.1 HROW.out.2.2
        have hqr : w.heap.size + 1 + 1 < wr.heap.size := (Array.getElem?_eq_some_iff.1 hg.out.out.here).1
        rw [decide_eq_false hP]
        clear hP
        go_wp2_with (at_builtin; go_must (refine wpList_append_lies _ rfl _ _ 22 rfl (w.heap.size + 1 + 1 + 1) 53 i0 (.agg #[.string ⟨#[]⟩, .slice none 0 0]) 2 40 Try.underlying22 HI.out hz0 hz1 hz2 rfl (by decide) (.slice va X.length vc) X.length (fcells X) rfl (hg.out.out.list.alloc _) ⟨wr.heap.size, 0, none⟩ 1 1 [.string n, .slice ab bl.length cb] rfl rfl (World.news_of_block (heap_alloc_new wr _)) (by intro u hu; simp at hu; rcases hu with rfl | rfl <;> rfl) (by decide) (by unfold maxLen; omega) (by omega) (by simp; omega) (wr.heap.size + 1) (by simp) ?_); intro g cap w5 hown5 hgrow5 hat hlt; have hp : Gath w a c L (w5.setCell ⟨w.heap.size + 1 + 1, 0, none⟩ (.slice (some ⟨g, 0, none⟩) (X.length + 1) cap)) (.slice (some ⟨g, 0, none⟩) (X.length + 1) cap) (X ++ [⟨n, ab, cb, bl⟩]) := hg.out.push (y := ⟨n, ab, cb, bl⟩) ((Below.refl _ wr).alloc (Nat.le_refl _) _) hown5 hgrow5 (by simpa using hat) HY.out; obtain ⟨hx1, hx2⟩ := copied_five hg.out.out (Below.refl _ wr) hgrow5; have p1 := cell_of hp.res 0; simp only [List.getElem?_toArray, List.getElem?_cons_zero] at p1; have p2 := frozen_of hp.res 0; have p4 := cell_of hp.out.here 0; simp only [List.getElem?_toArray, List.getElem?_cons_zero] at p4; have p3 : ∀ u, ((w5.setCell ⟨w.heap.size + 1 + 1, 0, none⟩ (.slice (some ⟨g, 0, none⟩) (X.length + 1) cap)).setCell ⟨w.heap.size + 1, 0, none⟩ u).cell? ⟨w.heap.size + 1, 0, none⟩ = some u := (fun u => by rw [cell_of (heap_setCell_same _ _ 0 _ _ u hp.res)]; rfl); have HP : Hid _ := hp; clear hown5 hgrow5 hat hp)
        refine bodyPost_ret (v := .agg #[.slice (some ⟨g, 0, none⟩) (X.length + 1) cap]) (by simp [results, Try.results59, go_sem, p3]) rfl (with_end HP.out (by rw [List.length_append]; simp; omega) HM.out _)
end Go.Proofs.Ytfocejmfmnijpaa
