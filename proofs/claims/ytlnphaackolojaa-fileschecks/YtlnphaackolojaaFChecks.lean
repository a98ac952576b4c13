/- The law FilesChecks: true. -/
import Derived.Test.YtlnphaackolojaaFCopied
import Derived.Test.YtlnphaackolojaaFRight
import Derived.Test.YtlnphaackolojaaFFind
import Derived.Test.YtlnphaackolojaaFTexts
import Derived.Test.YtlnphaackolojaaFMore
namespace Go.Proofs.Ytlnphaackolojaa
open Go.RowKit

theorem cost_small {L : List Fil} (h1 : ∀ x ∈ L, x.name.size ≤ 140737488351232) (h2 : ∀ x ∈ L, x.bytes.length ≤ 140737488351232) : costS L ≤ L.length * 281474976702464 := by
  induction L with
  | nil => simp [costS]
  | cons x r ih =>
    have e1 := h1 x List.mem_cons_self
    have e2 := h2 x List.mem_cons_self
    have := ih (fun y hy => h1 y (List.mem_cons_of_mem _ hy)) (fun y hy => h2 y (List.mem_cons_of_mem _ hy))
    simp only [costS, List.map_cons, List.sum_cons, List.length_cons] at this ⊢
    omega
theorem two_of {w w1 : World} {A : Obj} (hb : Below (w.alloc A).heap.size (w.alloc A) w1) : w1.heap[w.heap.size]? = some A ∧ Below w.heap.size w w1 := by
  refine ⟨?_, ((Below.refl _ w).alloc (Nat.le_refl _) A).trans (hb.mono (by simp))⟩
  rw [hb.block _ (by simp)]; exact heap_alloc_new w _

set_option maxHeartbeats 8000000 in
set_option maxRecDepth 100000 in
theorem checks_walk (w : World) (a a2 : Option Addr) (c c2 : Nat) (L : List Fil) (l : List ByteArray) (hL : ListAt w a L) (hs : ∀ x ∈ L, x.bytes.length ≤ 140737488351232) (ho : NamesAt w a2 l) :
    Calls Try.prog 3 #[.agg #[.slice a L.length c], .slice a2 l.length c2] w fun e w' => e = .returned (.bool true) ∧ Hid (Below w.heap.size w w') := by
  have HL : Hid (ListAt w a L) := hL
  have HS : Hid (∀ x ∈ L, x.bytes.length ≤ 140737488351232) := hs
  have HO : Hid (NamesAt w a2 l) := ho
  clear hL hs ho
  go_enter Try.func3, Try.ntmps3
  go_wp2_with (first | (go_at_call 9; refine (wakes_any _).mono ?_; rintro e w1 ⟨rfl, hq1⟩; obtain ⟨h1, h3⟩ := two_of hq1.out; have d1 := cell_of h1 0; simp only [List.getElem?_toArray, List.getElem?_cons_zero] at d1; clear hq1))
  refine (large_any _ a c L (HL.out.later h3)).mono ?_
  rintro e w2 ⟨bl, rfl, hq2⟩
  have hb2 : Below w.heap.size w w2 := below_of h3 hq2.out.2
  have k1 := old_block hq2.out.2 h1
  clear h1 h3 d1
  cases bl with
  | true =>
    clear k1
    go_wp2
    go_ret
    exact ⟨rfl, hb2⟩
  | false =>
    have h500 : L.length ≤ 500 := hq2.out.1 rfl
    have HCOST : Hid (costS L ≤ 4611686018427387904) := by
      have := cost_small HL.out.1 HS.out
      show _ ≤ _
      omega
    have HB2 : Hid (Below w.heap.size w w2) := hb2
    have K1 : Hid (w2.heap[w.heap.size]? = some (.cells #[.slice a L.length c] 24 (0, 0))) := k1
    have d0 := cell_of k1 0
    simp only [List.getElem?_toArray, List.getElem?_cons_zero] at d0
    have HLA : Hid (ListAt w2 a L) := HL.out.later hb2
    clear k1 hb2 hq2
    have HRI := right_any w2 a c L HLA.out HCOST.out
    cases hr : rightB L with
    | false =>
      have HC : Hid (checkI L = 150) := check_no hr
      rw [hr] at HRI
      go_wp2_with (go_at_call 11; refine HRI.mono ?_; rintro e w3 ⟨rfl, hq3⟩; have d3 := cell_later hq3.out d0)
      have HCP : Hid (∀ W, Below w3.heap.size w3 W → Calls Try.prog 13 #[.agg #[.slice a L.length c]] W fun e w' => ∃ a' c', e = .returned (.agg #[.slice a' L.length c']) ∧ Hid (ListAt w' a' L ∧ Below W.heap.size W w')) := fun W hW => (copied_any W a c L ((HLA.out.later hq3.out).later hW) HS.out h500).mono fun e w' ⟨a', c', he, hq⟩ => ⟨a', c', he, hq.out.1, hq.out.2.2.2⟩
      have HCK : Hid (∀ W a' c', ListAt W a' L → Calls Try.prog 12 #[.agg #[.slice a' L.length c']] W fun e w' => e = .returned (.int .i64 150) ∧ Below W.heap.size W w') := fun W a' c' h => by have := check_any W a' c' L h HCOST.out; rw [HC.out] at this; exact this
      have HCO : Hid (∀ W a' c', ListAt W a' L → Calls Try.prog 14 #[.agg #[.slice a' L.length c']] W fun e w' => e = .returned (.int .i64 (costS L : Nat)) ∧ Below W.heap.size W w') := fun W a' c' h => cost_any W a' c' L h HCOST.out
      have HRC : Hid (∀ W, Below w3.heap.size w3 W → Calls Try.prog 15 #[.slice a L.length c] W fun e w' => e = .returned (.int .i64 (costS L : Nat)) ∧ Below W.heap.size W w') := fun W hW => (rcost_any W a c L ((HLA.out.later hq3.out).later hW) HCOST.out).mono fun e w' ⟨he, n, hn⟩ => ⟨he, by rw [hn]; exact below_drewN (Below.refl _ _) n⟩
      have HSM : Hid (∀ W a' c', Below w3.heap.size w3 W → ListAt W a' L → Calls Try.prog 16 #[.agg #[.slice a L.length c], .agg #[.slice a' L.length c']] W fun e w' => e = .returned (.bool true) ∧ Below W.heap.size W w') := fun W a' c' hW h => by
        have := same_any W a a' c c' L L ((HLA.out.later hq3.out).later hW) h
        rw [(sameB_iff L L).2 rfl] at this
        exact this.mono fun e w' ⟨he, hb⟩ => ⟨he, hb.out⟩
      have hX : Below w3.heap.size w3 w3.drew := below_drewN (Below.refl _ w3) 1
      go_region_held3 (fun W => W.cell? ⟨w.heap.size, 0, none⟩ = some (.slice a L.length c)) (first | exact d3 | exact cell_later hX d3) (first
        | (go_at_call 13; refine (HCP.out _ hX).mono ?_; rintro e w4 ⟨a', c', rfl, hq4⟩; have hX := below_of hX hq4.out.2; have HLX : Hid (ListAt w4 a' L) := hq4.out.1; clear hq4)
        | (go_at_call 12; refine (HCK.out _ a' c' HLX.out).mono ?_; rintro e w5 ⟨rfl, hq5⟩; have hX := below_of hX hq5; clear hq5)
        | (go_at_call 14; refine (HCO.out _ a' c' HLX.out).mono ?_; rintro e w5 ⟨rfl, hq5⟩; have hX := below_of hX hq5; clear hq5)
        | (go_at_call 15; refine (HRC.out _ hX).mono ?_; rintro e w5 ⟨rfl, hq5⟩; have hX := below_of hX hq5; clear hq5)
        | (go_at_call 16; refine (HSM.out _ a' c' hX HLX.out).mono ?_; rintro e w5 ⟨rfl, hq5⟩; have hX := below_of hX hq5; clear hq5))
      have HX : Hid (Below w2.heap.size w2 w5) := below_of hq3.out hX
      clear hX d0 d3 HCP HCK HCO HRC HSM HRI HLX
      have HF : Hid (∀ W n, Below w2.heap.size w2 W → Calls Try.prog 17 #[.agg #[.slice a L.length c], .string n] W fun e w' => e = .returned (.tuple #[.int .i64 0, .bool false]) ∧ Below W.heap.size W w') := fun W n hW => by
        have := find_any W a c L (HLA.out.later hW) HCOST.out n
        rw [show findS L n = (0, false) by unfold findS; rw [hr]; rfl] at this
        exact this
      have HG : Hid (∀ W n, Below w2.heap.size w2 W → Calls Try.prog 18 #[.agg #[.slice a L.length c], .string n] W fun e w' => ∃ a' c', e = .returned (.tuple #[.slice a' 0 c', .int .i64 150]) ∧ Hid (Below W.heap.size W w')) := fun W n hW => by
        have := get_any W a c L (HLA.out.later hW) HCOST.out n
        rw [show getS L n = ([], 150) by unfold getS; rw [hr]; rfl] at this
        exact this.mono fun e w' ⟨a', c', he, hq⟩ => ⟨a', c', he, hq.out.2⟩
      have hln := HO.out.2.1
      clear hr
      go_wp2
      go_loopw [46] (fun i wr => ∃ k : Nat, k ≤ l.length ∧ i = .int .i64 k ∧ Hid (Below w2.heap.size w2 wr)) (fun i _ => l.length - (intOf i).toNat)
      case atStart => exact ⟨0, Nat.zero_le _, rfl, HX.out⟩
      case round =>
        obtain ⟨k, hk, rfl, hq⟩ := hrel
        by_cases hkl : k < l.length
        · obtain ⟨b, o, rfl, hc⟩ := HO.out.2.2 (by omega)
          have f1 := cell_later (below_of HB2.out hq.out) (hc k hkl)
          have d0 := cell_of (old_block hq.out K1.out) 0
          simp only [List.getElem?_toArray, List.getElem?_cons_zero] at d0
          have hi1 : (k : Int) < (l.length : Int) := by omega
          generalize l[k] = n at f1
          clear hc
          by_cases h20 : k = 20
          · have h20b : ((k : Int) == 20) = true := by simp; omega
            clear h20
            go_wp2
            go_ret
            exact ⟨rfl, below_of HB2.out hq.out⟩
          · have h20b : ((k : Int) == 20) = false := by simp; omega
            clear h20
            go_wp2_with (first | (go_at_call 17; refine (HF.out _ n hq.out).mono ?_; rintro e w6 ⟨rfl, hq6⟩; have hb6 := below_of hq.out hq6; have d6 := cell_later hq6 d0; clear hq6) | (go_at_call 18; refine (HG.out _ n hb6).mono ?_; rintro e w7 ⟨a7, c7, rfl, hq7⟩; have HB7 : Hid (Below w2.heap.size w2 w7) := below_of hb6 hq7.out))
            go_roundw
            case rel => exact ⟨k + 1, by omega, by go_num, HB7.out⟩
            case measure => simp [intOf]; omega
        · obtain rfl : k = l.length := by omega
          go_wp2
          go_ret
          exact ⟨rfl, below_of HB2.out hq.out⟩
    | true =>
      have HC : Hid (checkI L = 0) := check_yes hr
      rw [hr] at HRI
      go_wp2_with (go_at_call 11; refine HRI.mono ?_; rintro e w3 ⟨rfl, hq3⟩; have d3 := cell_later hq3.out d0)
      have HCP : Hid (∀ W, Below w3.heap.size w3 W → Calls Try.prog 13 #[.agg #[.slice a L.length c]] W fun e w' => ∃ a' c', e = .returned (.agg #[.slice a' L.length c']) ∧ Hid (ListAt w' a' L ∧ Below W.heap.size W w')) := fun W hW => (copied_any W a c L ((HLA.out.later hq3.out).later hW) HS.out h500).mono fun e w' ⟨a', c', he, hq⟩ => ⟨a', c', he, hq.out.1, hq.out.2.2.2⟩
      have HCK : Hid (∀ W a' c', ListAt W a' L → Calls Try.prog 12 #[.agg #[.slice a' L.length c']] W fun e w' => e = .returned (.int .i64 0) ∧ Below W.heap.size W w') := fun W a' c' h => by have := check_any W a' c' L h HCOST.out; rw [HC.out] at this; exact this
      have HCO : Hid (∀ W a' c', ListAt W a' L → Calls Try.prog 14 #[.agg #[.slice a' L.length c']] W fun e w' => e = .returned (.int .i64 (costS L : Nat)) ∧ Below W.heap.size W w') := fun W a' c' h => cost_any W a' c' L h HCOST.out
      have HRC : Hid (∀ W, Below w3.heap.size w3 W → Calls Try.prog 15 #[.slice a L.length c] W fun e w' => e = .returned (.int .i64 (costS L : Nat)) ∧ Below W.heap.size W w') := fun W hW => (rcost_any W a c L ((HLA.out.later hq3.out).later hW) HCOST.out).mono fun e w' ⟨he, n, hn⟩ => ⟨he, by rw [hn]; exact below_drewN (Below.refl _ _) n⟩
      have HSM : Hid (∀ W a' c', Below w3.heap.size w3 W → ListAt W a' L → Calls Try.prog 16 #[.agg #[.slice a L.length c], .agg #[.slice a' L.length c']] W fun e w' => e = .returned (.bool true) ∧ Below W.heap.size W w') := fun W a' c' hW h => by
        have := same_any W a a' c c' L L ((HLA.out.later hq3.out).later hW) h
        rw [(sameB_iff L L).2 rfl] at this
        exact this.mono fun e w' ⟨he, hb⟩ => ⟨he, hb.out⟩
      have hX : Below w3.heap.size w3 w3.drew := below_drewN (Below.refl _ w3) 1
      go_region_held3 (fun W => W.cell? ⟨w.heap.size, 0, none⟩ = some (.slice a L.length c)) (first | exact d3 | exact cell_later hX d3) (first
        | (go_at_call 13; refine (HCP.out _ hX).mono ?_; rintro e w4 ⟨a', c', rfl, hq4⟩; have hX := below_of hX hq4.out.2; have HLX : Hid (ListAt w4 a' L) := hq4.out.1; clear hq4)
        | (go_at_call 12; refine (HCK.out _ a' c' HLX.out).mono ?_; rintro e w5 ⟨rfl, hq5⟩; have hX := below_of hX hq5; clear hq5)
        | (go_at_call 14; refine (HCO.out _ a' c' HLX.out).mono ?_; rintro e w5 ⟨rfl, hq5⟩; have hX := below_of hX hq5; clear hq5)
        | (go_at_call 15; refine (HRC.out _ hX).mono ?_; rintro e w5 ⟨rfl, hq5⟩; have hX := below_of hX hq5; clear hq5)
        | (go_at_call 16; refine (HSM.out _ a' c' hX HLX.out).mono ?_; rintro e w5 ⟨rfl, hq5⟩; have hX := below_of hX hq5; clear hq5))
      have HX : Hid (Below w2.heap.size w2 w5) := below_of hq3.out hX
      clear hX d0 d3 HCP HCK HCO HRC HSM HRI HLX
      have HF : Hid (∀ W n, Below w2.heap.size w2 W → Calls Try.prog 17 #[.agg #[.slice a L.length c], .string n] W fun e w' => e = .returned (.tuple #[.int .i64 (atS L n : Nat), .bool (thereB L n)]) ∧ Below W.heap.size W w') := fun W n hW => by
        have := find_any W a c L (HLA.out.later hW) HCOST.out n
        rw [show findS L n = (atS L n, thereB L n) by unfold findS; rw [hr]; rfl] at this
        exact this
      have HGN : Hid (∀ W n, thereB L n = false → Below w2.heap.size w2 W → Calls Try.prog 18 #[.agg #[.slice a L.length c], .string n] W fun e w' => ∃ a' c', e = .returned (.tuple #[.slice a' 0 c', .int .i64 4]) ∧ Hid (Below W.heap.size W w')) := fun W n hn hW => by
        have := get_any W a c L (HLA.out.later hW) HCOST.out n
        rw [show getS L n = ([], 4) by unfold getS; rw [hr, hn]; rfl] at this
        exact this.mono fun e w' ⟨a', c', he, hq⟩ => ⟨a', c', he, hq.out.2⟩
      have HGY : Hid (∀ W n (hl : atS L n < L.length), thereB L n = true → Below w2.heap.size w2 W → Calls Try.prog 18 #[.agg #[.slice a L.length c], .string n] W fun e w' => ∃ a' c', e = .returned (.tuple #[.slice a' L[atS L n].bytes.length c', .int .i64 0]) ∧ Hid (Row w' a' L[atS L n].bytes ∧ Below W.heap.size W w')) := fun W n hl hn hW => by
        have := get_any W a c L (HLA.out.later hW) HCOST.out n
        rw [show getS L n = (L[atS L n].bytes, 0) by unfold getS; rw [hr, hn, List.getElem?_eq_getElem hl]; rfl] at this
        exact this.mono fun e w' ⟨a', c', he, hq⟩ => ⟨a', c', he, hq.out.1.row, hq.out.2⟩
      have HPL : Hid (∀ W n, Below w2.heap.size w2 W → Calls Try.prog 19 #[.agg #[.slice a L.length c], .string n] W fun e w' => e = .returned (.tuple #[.int .i64 (atS L n : Nat), .bool (thereB L n)]) ∧ Below W.heap.size W w') := fun W n hW => rplace_any W a c L (HLA.out.later hW) n
      have hln := HO.out.2.1
      clear hr
      go_wp2
      go_loopw [46] (fun i wr => ∃ k : Nat, k ≤ l.length ∧ i = .int .i64 k ∧ Hid (Below w2.heap.size w2 wr)) (fun i _ => l.length - (intOf i).toNat)
      case atStart => exact ⟨0, Nat.zero_le _, rfl, HX.out⟩
      case round =>
        obtain ⟨k, hk, rfl, hq⟩ := hrel
        by_cases hkl : k < l.length
        · obtain ⟨b, o, rfl, hc⟩ := HO.out.2.2 (by omega)
          have f1 := cell_later (below_of HB2.out hq.out) (hc k hkl)
          have d0 := cell_of (old_block hq.out K1.out) 0
          simp only [List.getElem?_toArray, List.getElem?_cons_zero] at d0
          have hi1 : (k : Int) < (l.length : Int) := by omega
          generalize l[k] = n at f1
          clear hc
          by_cases h20 : k = 20
          · have h20b : ((k : Int) == 20) = true := by simp; omega
            clear h20
            go_wp2
            go_ret
            exact ⟨rfl, below_of HB2.out hq.out⟩
          · have h20b : ((k : Int) == 20) = false := by simp; omega
            clear h20
            have HFN := fun W => HF.out W n
            have HPN := fun W => HPL.out W n
            cases hth : thereB L n with
            | false =>
              have HGA := fun W => HGN.out W n hth
              rw [hth] at HFN HPN
              clear hth
              generalize atS L n = p at HFN HPN
              have HFH : Hid _ := HFN
              have HPH : Hid _ := HPN
              have HGH : Hid _ := HGA
              clear HFN HPN HGA
              go_wp2_with (first | (go_at_call 17; refine (HFH.out _ hq.out).mono ?_; rintro e w6 ⟨rfl, hq6⟩; have hb6 := below_of hq.out hq6; have d6 := cell_later hq6 d0; clear hq6) | (go_at_call 18; refine (HGH.out _ hb6).mono ?_; rintro e w7 ⟨a7, c7, rfl, hq7⟩; have hb7 : Below w2.heap.size w2 w7 := below_of hb6 hq7.out; have d7 := cell_later hq7.out d6) | (go_at_call 19; refine (HPH.out _ hb7).mono ?_; rintro e w8 ⟨rfl, hq8⟩; have HB8 : Hid (Below w2.heap.size w2 w8) := below_of hb7 hq8; have d8 := cell_later hq8 d7; clear hq8))
              go_roundw
              case rel => exact ⟨k + 1, by omega, by go_num, HB8.out⟩
              case measure => simp [intOf]; omega
            | true =>
              obtain ⟨hl, _⟩ := there_get hth
              obtain ⟨bL, oL, rfl, hcL⟩ := HLA.out.2.2 (by omega)
              have HFA : Hid (FileAt w2 bL (oL + atS L n * 2) L[atS L n]) := hcL _ hl
              clear hcL
              have HGA := fun W => HGY.out W n hl hth
              rw [hth] at HFN HPN
              have hpl : (atS L n : Int) < (L.length : Int) := by omega
              obtain ⟨x, hx⟩ : ∃ x, x = L[atS L n] := ⟨_, rfl⟩
              rw [← hx] at HGA HFA
              clear hth hx
              generalize atS L n = p at *
              have HFH : Hid _ := HFN
              have HPH : Hid _ := HPN
              have HGH : Hid _ := HGA
              have HFA8 : Hid (∀ W, Below w2.heap.size w2 W → ∃ a9 c9, W.cell? ⟨bL, oL + p * 2 + 1, none⟩ = some (.slice a9 x.bytes.length c9) ∧ Row W a9 x.bytes) := fun W hW => by
                obtain ⟨_, a9, c9, e1, _, _, e2⟩ := HFA.out.later hW
                exact ⟨a9, c9, e1, e2⟩
              clear HFN HPN HGA
              go_wp2_with (first | (go_at_call 17; refine (HFH.out _ hq.out).mono ?_; rintro e w6 ⟨rfl, hq6⟩; have hb6 := below_of hq.out hq6; have d6 := cell_later hq6 d0; clear hq6) | (go_at_call 18; refine (HGH.out _ hb6).mono ?_; rintro e w7 ⟨a7, c7, rfl, hq7⟩; have hb7 : Below w2.heap.size w2 w7 := below_of hb6 hq7.out.2; have d7 := cell_later hq7.out.2 d6) | (go_at_call 19; refine (HPH.out _ hb7).mono ?_; rintro e w8 ⟨rfl, hq8⟩; have HB8 : Hid (Below w2.heap.size w2 w8) := below_of hb7 hq8; have d8 := cell_later hq8 d7; have HR8 : Hid (Row w8 a7 x.bytes) := hq7.out.1.later hq8; obtain ⟨a9, c9, e9, r9⟩ := HFA8.out w8 HB8.out; have HR9 : Hid (Row w8 a9 x.bytes) := r9; clear hq8 r9) | (go_at_call 20; refine (rsame_any a7 a9 c7 c9 x.bytes x.bytes _ HR8.out HR9.out).mono ?_; rw [decide_eq_true rfl]; rintro e w9 ⟨rfl, n9, rfl⟩))
              go_roundw
              case rel => exact ⟨k + 1, by omega, by go_num, below_drewN HB8.out n9⟩
              case measure => simp [intOf]; omega
        · obtain rfl : k = l.length := by omega
          go_wp2
          go_ret
          exact ⟨rfl, below_of HB2.out hq.out⟩
end Go.Proofs.Ytlnphaackolojaa
