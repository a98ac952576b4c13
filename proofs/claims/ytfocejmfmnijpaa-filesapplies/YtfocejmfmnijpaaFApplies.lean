/- The law FilesApplies: true. -/
import Derived.Test.YtfocejmfmnijpaaFRApply
import Derived.Test.YtfocejmfmnijpaaFOpsNew
import Derived.Test.YtfocejmfmnijpaaFWakes
import Derived.Test.YtfocejmfmnijpaaFSmall
namespace Go.Proofs.Ytfocejmfmnijpaa
open Go.RowKit

set_option maxHeartbeats 8000000 in
set_option maxRecDepth 100000 in
theorem applies_walk (w : World) (a a2 : Option Addr) (c c2 : Nat) (L : List Fil) (l : List OpS) (hL : ListAt w a L) (hs : ∀ x ∈ L, x.bytes.length ≤ 140737488351232) (ho : OpsAt w a2 l) :
    Calls Try.prog 3 #[.agg #[.slice a L.length c], .slice a2 l.length c2] w fun e w' => e = .returned (.bool true) ∧ Hid (Below w.heap.size w w') := by
  have HL : Hid (ListAt w a L) := hL
  have HS : Hid (∀ x ∈ L, x.bytes.length ≤ 140737488351232) := hs
  have HO : Hid (OpsAt w a2 l) := ho
  have hln := ho.2.1
  clear hL hs ho
  go_enter Try.func3, Try.ntmps3
  go_wp2_with (first | (go_at_call 7; refine (wakes_any _).mono ?_; rintro e w1 ⟨rfl, hq1⟩; obtain ⟨h1, h3⟩ := two_of hq1.out; have d1 := cell_of h1 0; simp only [List.getElem?_toArray, List.getElem?_cons_zero] at d1; clear hq1))
  refine (large_any _ a c L (HL.out.later h3)).mono ?_
  rintro e w2 ⟨bl, rfl, hq2⟩
  have hb2 : Below w.heap.size w w2 := below_of h3 hq2.out.2
  have k1 := old_block hq2.out.2 h1
  clear h1 h3 d1
  cases bl with
  | true =>
    clear k1
    go_wp2
    go_ret
    exact ⟨rfl, hb2⟩
  | false =>
    have h500 : L.length ≤ 500 := hq2.out.1 rfl
    have HCOST : Hid (costS L ≤ 4611686018427387904) := by
      have := cost_small HL.out.1 HS.out
      show _ ≤ _
      omega
    have HB2 : Hid (Below w.heap.size w w2) := hb2
    have K1 : Hid (w2.heap[w.heap.size]? = some (.cells #[.slice a L.length c] 24 (0, 0))) := k1
    have d0 := cell_of k1 0
    simp only [List.getElem?_toArray, List.getElem?_cons_zero] at d0
    clear k1 hb2 hq2
    by_cases h200 : 200 < l.length
    · have h200i : (200 : Int) < (l.length : Int) := by omega
      go_wp2
      go_ret
      exact ⟨rfl, HB2.out⟩
    · have h200i : (l.length : Int) ≤ 200 := by omega
      have HCP := copied_any w2 a c L (HL.out.later HB2.out) HS.out h500
      go_wp2_with (first
        | (go_at_call 10; refine HCP.mono ?_; rintro e w3 ⟨a3, c3, rfl, hq3⟩; have HX3 : Hid (Below w2.heap.size w2 w3 ∧ ListAt w3 a3 L) := ⟨hq3.out.2.2.2, hq3.out.1⟩; clear hq3)
        | (at_builtin; go_must (refine wpList_append_ops rfl _ _ rfl w3.heap.size rfl (heap_alloc_new w3 _) a2 c2 l ((HO.out.later HB2.out).later (below_of HX3.out.1 ((Below.refl _ w3).alloc (Nat.le_refl _) _))) rfl (by omega) ?_); intro a4 c4 w4 ho4 hgr4; have HX4 : Hid (Below w3.heap.size w3 w4 ∧ OpsAt w4 a4 l) := ⟨grown_below hgr4, ho4⟩; clear ho4 hgr4)
        | fail)
      have HX4L : Hid (ListAt w4 a3 L) := HX3.out.2.later HX4.out.1
      have HB4 : Hid (Below w2.heap.size w2 w4) := below_of HX3.out.1 HX4.out.1
      have HLA : Hid (∀ W, Below w2.heap.size w2 W → ListAt W a L) := fun W hW => (HL.out.later HB2.out).later hW
      have HOA : Hid (∀ W, Below w2.heap.size w2 W → OpsAt W a2 l) := fun W hW => (HO.out.later HB2.out).later hW
      have HK : Hid (∀ W, Below w2.heap.size w2 W → W.cell? ⟨w.heap.size, 0, none⟩ = some (.slice a L.length c)) := fun W hW => cell_later hW d0
      clear HCP
      cases hr : rightB L with
      | false =>
        have hap : applyE L l = .error 150 := by unfold applyE; rw [hr]; rfl
        have HRI : Hid (∀ W, Below w2.heap.size w2 W → Calls Try.prog 11 #[.agg #[.slice a L.length c]] W fun e w' => e = .returned (.bool false) ∧ Hid (Below W.heap.size W w')) := fun W hW => by have := right_any W a c L (HLA.out W hW) HCOST.out; rw [hr] at this; exact this
        refine (apply_fail (c := c3) (c2 := c4) HX4L.out HX4.out.2 HCOST.out hap).mono ?_
        rintro e w5 ⟨rfl, hq5⟩
        have hX5 : ∀ A, Below w2.heap.size w2 (w5.alloc A) := fun A => (below_of HB4.out hq5.out).alloc (below_of HB4.out hq5.out).size A
        have e0 := fun A => HK.out _ (hX5 A)
        go_wp2_with (go_at_call 11; refine (HRI.out _ (hX5 _)).mono ?_; rintro e w6 ⟨rfl, hq6⟩; have HB6 : Hid (Below w2.heap.size w2 w6) := below_of (hX5 _) hq6.out; have e5 : w6.cell? ⟨w5.heap.size, 0, none⟩ = some (.slice none 0 0) := (by rw [cell_of (old_block hq6.out (heap_alloc_new w5 _))]; rfl))
        go_ret
        exact ⟨rfl, below_of HB2.out HB6.out⟩
      | true =>
        have HRI : Hid (∀ W, Below w2.heap.size w2 W → Calls Try.prog 11 #[.agg #[.slice a L.length c]] W fun e w' => e = .returned (.bool true) ∧ Hid (Below W.heap.size W w')) := fun W hW => by have := right_any W a c L (HLA.out W hW) HCOST.out; rw [hr] at this; exact this
        have HRA : Hid (∀ W, Below w2.heap.size w2 W → Calls Try.prog 12 #[.agg #[.slice a L.length c], .slice a2 l.length c2] W fun e w' => RApply W (applyE L l) e w') := fun W hW => rapply_any W a a2 c c2 L l (HLA.out W hW) (HOA.out W hW) hr
        clear hr
        cases hap : applyE L l with
        | error r =>
          have HRN : Hid (∀ W, Below w2.heap.size w2 W → Calls Try.prog 12 #[.agg #[.slice a L.length c], .slice a2 l.length c2] W fun e w' => e = .returned (.tuple #[.agg #[.slice none 0 0], .int .i64 r]) ∧ Hid (Below W.heap.size W w')) := fun W hW => (HRA.out W hW).mono fun e w' hh => by
            rw [hap] at hh
            rcases hh with ⟨L', a', c', h1, h2, h3⟩ | ⟨r, h1, h2, h3⟩
            · cases h1
            · cases h1; exact ⟨h2, h3⟩
          have HSA : Hid (∀ W, Calls Try.prog 13 #[.agg #[.slice none 0 0], .agg #[.slice none 0 0]] W fun e w' => e = .returned (.bool true) ∧ Hid (Below W.heap.size W w')) := fun W => rfsame_yes W none none 0 0 [] (list_none W none) (list_none W none)
          refine (apply_fail (c := c3) (c2 := c4) HX4L.out HX4.out.2 HCOST.out hap).mono ?_
          rintro e w5 ⟨rfl, hq5⟩
          have hX5 : ∀ A, Below w2.heap.size w2 (w5.alloc A) := fun A => (below_of HB4.out hq5.out).alloc (below_of HB4.out hq5.out).size A
          have e0 := fun A => HK.out _ (hX5 A)
          clear hap
          go_wp2_with (first
            | (go_at_call 11; refine (HRI.out _ (hX5 _)).mono ?_; rintro e w6 ⟨rfl, hq6⟩; have hX6 : Below w2.heap.size w2 w6 := below_of (hX5 _) hq6.out; have e6 := HK.out _ hX6; have K5 : Hid (w6.heap[w5.heap.size]? = some (.cells #[.slice none 0 0] 24 (0, 0))) := old_block hq6.out (heap_alloc_new w5 _))
            | (go_at_call 12; refine (HRN.out _ hX6).mono ?_; rintro e w7 ⟨rfl, hq7⟩; have e7 : ∀ A, (w7.alloc A).cell? ⟨w5.heap.size, 0, none⟩ = some (.slice none 0 0) := (fun A => by rw [cell_of (old_block (below_of hq7.out ((Below.refl _ w7).alloc (Nat.le_refl _) A)) K5.out)]; rfl))
            | (go_at_call 13; refine (HSA.out _).mono ?_; rintro e w8 ⟨rfl, hq8⟩))
          go_ret
          exact ⟨ret_bool (by simp), below_of HB2.out (below_of (below_of hX6 (below_of hq7.out ((Below.refl _ w7).alloc (Nat.le_refl _) _))) hq8.out)⟩
        | ok L' =>
          have HRN : Hid (∀ W, Below w2.heap.size w2 W → Calls Try.prog 12 #[.agg #[.slice a L.length c], .slice a2 l.length c2] W fun e w' => ∃ a' c', e = .returned (.tuple #[.agg #[.slice a' L'.length c'], .int .i64 0]) ∧ Hid (ListAt w' a' L' ∧ Below W.heap.size W w')) := fun W hW => (HRA.out W hW).mono fun e w' hh => by
            rw [hap] at hh
            rcases hh with ⟨L', a', c', h1, h2, h3⟩ | ⟨r, h1, h2, h3⟩
            · cases h1; exact ⟨a', c', h2, h3⟩
            · cases h1
          refine (apply_done (c := c3) (c2 := c4) HX4L.out HX4.out.2 HCOST.out hap).mono ?_
          rintro e w5 ⟨a5, c5, rfl, hq5⟩
          have hX5 : ∀ A, Below w2.heap.size w2 (w5.alloc A) := fun A => (below_of HB4.out hq5.out.2.2.2.2).alloc (below_of HB4.out hq5.out.2.2.2.2).size A
          have e0 := fun A => HK.out _ (hX5 A)
          clear hap
          go_wp2_with (first
            | (go_at_call 11; refine (HRI.out _ (hX5 _)).mono ?_; rintro e w6 ⟨rfl, hq6⟩; have hX6 : Below w2.heap.size w2 w6 := below_of (hX5 _) hq6.out; have e6 := HK.out _ hX6; have K5 : Hid (w6.heap[w5.heap.size]? = some (.cells #[.slice a5 L'.length c5] 24 (0, 0)) ∧ ListAt w6 a5 L') := ⟨old_block hq6.out (heap_alloc_new w5 _), (hq5.out.1.later ((Below.refl _ w5).alloc (Nat.le_refl _) _)).later hq6.out⟩)
            | (go_at_call 12; refine (HRN.out _ hX6).mono ?_; rintro e w7 ⟨a7, c7, rfl, hq7⟩; have e7 : ∀ A, (w7.alloc A).cell? ⟨w5.heap.size, 0, none⟩ = some (.slice a5 L'.length c5) := (fun A => by rw [cell_of (old_block (below_of hq7.out.2 ((Below.refl _ w7).alloc (Nat.le_refl _) A)) K5.out.1)]; rfl))
            | (go_at_call 13; refine (rfsame_yes _ a5 a7 c5 c7 L' (K5.out.2.later (below_of hq7.out.2 ((Below.refl _ w7).alloc (Nat.le_refl _) _))) (hq7.out.1.later ((Below.refl _ w7).alloc (Nat.le_refl _) _))).mono ?_; rintro e w8 ⟨rfl, hq8⟩))
          go_ret
          exact ⟨rfl, below_of HB2.out (below_of (below_of hX6 (below_of hq7.out.2 ((Below.refl _ w7).alloc (Nat.le_refl _) _))) hq8.out)⟩
end Go.Proofs.Ytfocejmfmnijpaa
