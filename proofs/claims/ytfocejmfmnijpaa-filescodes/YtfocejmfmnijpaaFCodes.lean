/- The law FilesCodes: true. -/
import Derived.Test.YtfocejmfmnijpaaDRef
import Derived.Test.YtfocejmfmnijpaaERef
import Derived.Test.YtfocejmfmnijpaaFBytesNew
import Derived.Test.YtfocejmfmnijpaaFSmall
import Derived.Test.YtfocejmfmnijpaaFWakes
import Derived.Test.YtfocejmfmnijpaaFRefSame
import Derived.Test.YtfocejmfmnijpaaFCopied
import Derived.Deep.CutRange
namespace Go.Proofs.Ytfocejmfmnijpaa
open Go.RowKit

theorem Row.bel {w w' : World} {a : Option Addr} {l : List Nat} {n : Nat} (h : Row w a l) (hb : Below n w w') (hn : w.heap.size ≤ n) : Row w' a l := h.later (hb.mono hn)

/-- what both answer. -/
def pairOf : Except Int (List Fil) → List Fil × Int
  | .ok L => (L, 0)
  | .error r => ([], r)
theorem codes_pair {w : World} {res : Except Int (List Fil)} {e : Ending} {w' : World} (h : Decoded w res e w') : ∃ L' a' c' r, e = .returned (.tuple #[.agg #[.slice a' (L' : List Fil).length c'], .int .i64 r]) ∧ Hid (ListAt w' a' L' ∧ Below w.heap.size w w' ∧ (L', r) = pairOf res) := by
  rcases h with ⟨L', a', c', rfl, rfl, h3⟩ | ⟨r, rfl, rfl, h3⟩
  · exact ⟨L', a', c', 0, rfl, h3.out.1, h3.out.2, rfl⟩
  · exact ⟨[], none, 0, r, rfl, list_none _ _, h3.out, rfl⟩

set_option maxHeartbeats 8000000 in
set_option maxRecDepth 100000 in
theorem codes_walk (w : World) (a a2 : Option Addr) (c c2 : Nat) (L : List Fil) (l : List Nat) (hL : ListAt w a L) (hs : ∀ x ∈ L, x.bytes.length ≤ 140737488351232) (hc : l.length ≤ c2) (hcm : c2 ≤ maxLen) (hl : l.length ≤ 140737488351232) (hr : Row w a2 l) :
    Calls Try.prog 4 #[.agg #[.slice a L.length c], .slice a2 l.length c2] w fun e w' => e = .returned (.bool true) ∧ Hid (Below w.heap.size w w') := by
  have HL : Hid (ListAt w a L) := hL
  have HS : Hid (∀ x ∈ L, x.bytes.length ≤ 140737488351232) := hs
  have HR : Hid (Row w a2 l) := hr
  have HCC : Hid (l.length ≤ c2 ∧ c2 ≤ maxLen) := ⟨hc, hcm⟩
  clear hL hs hr hc hcm
  go_enter Try.func4, Try.ntmps4
  go_wp2_with (first | (go_at_call 7; refine (wakes_any _).mono ?_; rintro e w1 ⟨rfl, hq1⟩; obtain ⟨h1, h3⟩ := two_of hq1.out; have d1 := cell_of h1 0; simp only [List.getElem?_toArray, List.getElem?_cons_zero] at d1; clear hq1))
  refine (large_any _ a c L (HL.out.later h3)).mono ?_
  rintro e w2 ⟨bl, rfl, hq2⟩
  have hb2 : Below w.heap.size w w2 := below_of h3 hq2.out.2
  have k1 := old_block hq2.out.2 h1
  clear h1 h3 d1
  cases bl with
  | true =>
    clear k1
    go_wp2
    go_ret
    exact ⟨rfl, hb2⟩
  | false =>
    have h500 : L.length ≤ 500 := hq2.out.1 rfl
    have HCOST : Hid (costS L ≤ 4611686018427387904) := by
      have := cost_small HL.out.1 HS.out
      show _ ≤ _
      omega
    have HB2 : Hid (Below w.heap.size w w2) := hb2
    have d0 := cell_of k1 0
    simp only [List.getElem?_toArray, List.getElem?_cons_zero] at d0
    clear k1 hb2 hq2
    by_cases h1e5 : 100000 < l.length
    · have h1i : (100000 : Int) < (l.length : Int) := by omega
      go_wp2
      go_ret
      exact ⟨rfl, HB2.out⟩
    · have h1i : (l.length : Int) ≤ 100000 := by omega
      have HCP := copied_any w2 a c L (HL.out.later HB2.out) HS.out h500
      have HLA : Hid (∀ W, Below w2.heap.size w2 W → ListAt W a L) := fun W hW => (HL.out.later HB2.out).later hW
      have HRA : Hid (∀ W, Below w2.heap.size w2 W → Row W a2 l) := fun W hW => (HR.out.later HB2.out).later hW
      have HK : Hid (∀ W, Below w2.heap.size w2 W → W.cell? ⟨w.heap.size, 0, none⟩ = some (.slice a L.length c)) := fun W hW => cell_later hW d0
      have HRD : Hid (∀ W, Below w2.heap.size w2 W → Calls Try.prog 18 #[.slice a2 l.length c2] W fun e w' => Decoded W (decG l) e w') := fun W hW => rdecode_any W a2 c2 l (HRA.out W hW) (by omega) HCC.out.1 HCC.out.2
      cases hr : rightB L with
      | false =>
        have HEN : Hid (∀ W a3 c3, ListAt W a3 L → Calls Try.prog 14 #[.agg #[.slice a3 L.length c3]] W fun e w' => e = .returned (.tuple #[.slice none 0 0, .int .i64 150]) ∧ Hid (Below W.heap.size W w')) := fun W a3 c3 h => encode_no W a3 c3 L h HCOST.out hr
        have HRI : Hid (∀ W, Below w2.heap.size w2 W → Calls Try.prog 11 #[.agg #[.slice a L.length c]] W fun e w' => e = .returned (.bool false) ∧ Hid (Below W.heap.size W w')) := fun W hW => by have := right_any W a c L (HLA.out W hW) HCOST.out; rw [hr] at this; exact this
        clear hr
        go_upto_region 11 with (first
          | (go_at_call 10; refine HCP.mono ?_; rintro e w3 ⟨a3, c3, rfl, hq3⟩; have hX3 : Below w2.heap.size w2 w3 := hq3.out.2.2.2)
          | (go_at_call 14; refine (HEN.out w3 a3 c3 hq3.out.1).mono ?_; rintro e w4 ⟨rfl, hq4⟩; have hX4 := below_of hX3 hq4.out; have e4 := HK.out w4 hX4)
          | (go_at_call 11; refine (HRI.out w4 hX4).mono ?_; rintro e w5 ⟨rfl, hq5⟩; have HX5 : Hid (Below w2.heap.size w2 w5) := below_of hX4 hq5.out))
        have K5 := HX5.out
        have HRB : Hid (∀ A, Row (w5.alloc A) a2 l) := fun A => HRA.out _ (K5.alloc K5.size A)
        go_wp2_with (first
          | (at_builtin; go_must (refine wpList_append_bytes rfl _ _ rfl w5.heap.size rfl (heap_alloc_new w5 _) a2 c2 l (HRB.out _) rfl (by omega) ?_); intro a6 c6 w6 r6 l6 m6 hg6; have HX6 : Hid (Below w2.heap.size w2 w6 ∧ Row w6 a6 l) := ⟨below_of K5 (grown_below hg6), r6⟩; clear r6 l6 m6 hg6)
          | (go_at_call 17; refine (decode_any w6 a6 c6 l HX6.out.2 (by omega)).mono ?_; intro e w7 hd7; obtain ⟨L7, a7, c7, r7, rfl, hq7⟩ := codes_pair hd7; clear hd7; have hX7 : Below w2.heap.size w2 w7 := below_of HX6.out.1 hq7.out.2.1)
          | (go_at_call 18; refine (HRD.out _ (hX7.alloc hX7.size _)).mono ?_; intro e w8 hd8; obtain ⟨L8, a8, c8, r8, rfl, hq8⟩ := codes_pair hd8; clear hd8; obtain ⟨rfl, rfl⟩ : L8 = L7 ∧ r8 = r7 := (by have h := hq8.out.2.2.trans hq7.out.2.2.symm; simp only [Prod.mk.injEq] at h; exact h); have e8 : ∀ A, (w8.alloc A).cell? ⟨w7.heap.size, 0, none⟩ = some (.slice a7 L8.length c7) := (fun A => by rw [cell_of (old_block (below_of hq8.out.2.1 ((Below.refl _ w8).alloc (Nat.le_refl _) A)) (heap_alloc_new w7 _))]; rfl))
          | (go_at_call 13; refine (rfsame_yes _ a7 a8 c7 c8 L8 ((hq7.out.1.later ((Below.refl _ w7).alloc (Nat.le_refl _) _)).later (below_of hq8.out.2.1 ((Below.refl _ w8).alloc (Nat.le_refl _) _))) (hq8.out.1.later ((Below.refl _ w8).alloc (Nat.le_refl _) _))).mono ?_; rintro e w9 ⟨rfl, hq9⟩))
        go_ret
        exact ⟨ret_bool (by simp), below_of HB2.out (below_of hX7 (below_of (below_of ((Below.refl _ w7).alloc (Nat.le_refl _) _) (below_of hq8.out.2.1 ((Below.refl _ w8).alloc (Nat.le_refl _) _))) hq9.out))⟩
      | true =>
        have HEN : Hid (∀ W a3 c3, ListAt W a3 L → Calls Try.prog 14 #[.agg #[.slice a3 L.length c3]] W fun e w' => ∃ a' c', e = .returned (.tuple #[.slice a' (encFiles L).length c', .int .i64 0]) ∧ Hid (Fresh W w' a' c' (encFiles L) ∧ Below W.heap.size W w')) := fun W a3 c3 h => encode_yes W a3 c3 L h hr
        have HRI : Hid (∀ W, Below w2.heap.size w2 W → Calls Try.prog 11 #[.agg #[.slice a L.length c]] W fun e w' => e = .returned (.bool true) ∧ Hid (Below W.heap.size W w')) := fun W hW => by have := right_any W a c L (HLA.out W hW) HCOST.out; rw [hr] at this; exact this
        have HBY : Hid (∀ W, Below w2.heap.size w2 W → Calls Try.prog 16 #[.agg #[.slice a L.length c]] W fun e w' => ∃ a' c', e = .returned (.slice a' (encFiles L).length c') ∧ Hid (Row w' a' (encFiles L) ∧ Below W.heap.size W w')) := fun W hW => rbytes_any W a c L (HLA.out W hW) hr
        clear hr
        generalize encFiles L = E at *
        go_upto_region 11 with (first
          | (go_at_call 10; refine HCP.mono ?_; rintro e w3 ⟨a3, c3, rfl, hq3⟩; have hX3 : Below w2.heap.size w2 w3 := hq3.out.2.2.2)
          | (go_at_call 14; refine (HEN.out w3 a3 c3 hq3.out.1).mono ?_; rintro e w4 ⟨a4, c4, rfl, hq4⟩; have hX4 := below_of hX3 hq4.out.2; have e4 := HK.out w4 hX4)
          | (go_at_call 11; refine (HRI.out w4 hX4).mono ?_; rintro e w4b ⟨rfl, hq4b⟩; have hX4b : Below w2.heap.size w2 w4b := below_of hX4 hq4b.out; have e4b := HK.out w4b hX4b)
          | (go_at_call 16; refine (HBY.out w4b hX4b).mono ?_; rintro e w4c ⟨a4c, c4c, rfl, hq4c⟩; have hX4c : Below w2.heap.size w2 w4c := below_of hX4b hq4c.out.2)
          | (go_at_call 15; refine (rsame_any a4 a4c c4 c4c E E w4c ((hq4.out.1.row.later hq4b.out).later hq4c.out.2) hq4c.out.1).mono ?_; rw [decide_eq_true rfl]; rintro e w5 ⟨rfl, n5, hn5⟩; have HX5 : Hid (Below w2.heap.size w2 w5) := (by rw [hn5]; exact below_drewN hX4c n5); clear hn5))
        have K5 := HX5.out
        have HRB : Hid (∀ A, Row (w5.alloc A) a2 l) := fun A => HRA.out _ (K5.alloc K5.size A)
        go_wp2_with (first
          | (at_builtin; go_must (refine wpList_append_bytes rfl _ _ rfl w5.heap.size rfl (heap_alloc_new w5 _) a2 c2 l (HRB.out _) rfl (by omega) ?_); intro a6 c6 w6 r6 l6 m6 hg6; have HX6 : Hid (Below w2.heap.size w2 w6 ∧ Row w6 a6 l) := ⟨below_of K5 (grown_below hg6), r6⟩; clear r6 l6 m6 hg6)
          | (go_at_call 17; refine (decode_any w6 a6 c6 l HX6.out.2 (by omega)).mono ?_; intro e w7 hd7; obtain ⟨L7, a7, c7, r7, rfl, hq7⟩ := codes_pair hd7; clear hd7; have hX7 : Below w2.heap.size w2 w7 := below_of HX6.out.1 hq7.out.2.1)
          | (go_at_call 18; refine (HRD.out _ (hX7.alloc hX7.size _)).mono ?_; intro e w8 hd8; obtain ⟨L8, a8, c8, r8, rfl, hq8⟩ := codes_pair hd8; clear hd8; obtain ⟨rfl, rfl⟩ : L8 = L7 ∧ r8 = r7 := (by have h := hq8.out.2.2.trans hq7.out.2.2.symm; simp only [Prod.mk.injEq] at h; exact h); have e8 : ∀ A, (w8.alloc A).cell? ⟨w7.heap.size, 0, none⟩ = some (.slice a7 L8.length c7) := (fun A => by rw [cell_of (old_block (below_of hq8.out.2.1 ((Below.refl _ w8).alloc (Nat.le_refl _) A)) (heap_alloc_new w7 _))]; rfl))
          | (go_at_call 13; refine (rfsame_yes _ a7 a8 c7 c8 L8 ((hq7.out.1.later ((Below.refl _ w7).alloc (Nat.le_refl _) _)).later (below_of hq8.out.2.1 ((Below.refl _ w8).alloc (Nat.le_refl _) _))) (hq8.out.1.later ((Below.refl _ w8).alloc (Nat.le_refl _) _))).mono ?_; rintro e w9 ⟨rfl, hq9⟩))
        go_ret
        exact ⟨ret_bool (by simp), below_of HB2.out (below_of hX7 (below_of (below_of ((Below.refl _ w7).alloc (Nat.le_refl _) _) (below_of hq8.out.2.1 ((Below.refl _ w8).alloc (Nat.le_refl _) _))) hq9.out))⟩
end Go.Proofs.Ytfocejmfmnijpaa
