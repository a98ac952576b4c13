/- The law FilesOnce: true. -/
import Derived.Test.YtlnphaackolojabFSame
import Derived.Test.YtlnphaackolojabFMore
namespace Go.Proofs.Ytlnphaackolojab
open Go.RowKit

theorem cost_small {L : List Fil} (h1 : ∀ x ∈ L, x.name.size ≤ 140737488351232) (h2 : ∀ x ∈ L, x.bytes.length ≤ 140737488351232) : costS L ≤ L.length * 281474976702464 := by
  induction L with
  | nil => simp [costS]
  | cons x r ih =>
    have e1 := h1 x List.mem_cons_self
    have e2 := h2 x List.mem_cons_self
    have := ih (fun y hy => h1 y (List.mem_cons_of_mem _ hy)) (fun y hy => h2 y (List.mem_cons_of_mem _ hy))
    simp only [costS, List.map_cons, List.sum_cons, List.length_cons] at this ⊢
    omega

theorem ops_one {w : World} {q : Nat} {o : OpS} {a : Option Addr} {c : Nat} (h : w.heap[q]? = some (opc o a c)) (hf : OpFits o) (hl : o.bytes.length ≤ c) (hc : c ≤ maxLen) (hr : Row w a o.bytes) : OpsAt w (some ⟨q, 0, none⟩) [o] := by
  refine ⟨by simpa using hf, by simp, fun _ => ⟨q, 0, rfl, fun i hi => ?_⟩⟩
  obtain rfl : i = 0 := by simp at hi; omega
  have h' : w.heap[q]? = some (.cells #[.int .i64 o.kind, .string o.name, .string o.new, .int .i64 o.at_, .slice a o.bytes.length c] 34 (0, 0)) := h
  exact ⟨by rw [cell_of h']; rfl, by rw [cell_of h']; rfl, by rw [cell_of h']; rfl, by rw [cell_of h']; rfl, a, c, by rw [cell_of h']; rfl, hl, hc, hr⟩

theorem foldE_err : ∀ (l : List OpS) (L : List Fil) (r : Int), foldE L l = .error r → (r != 0) = true
  | [], L, r, h => by simp [foldE] at h
  | o :: t, L, r, h => by
    rw [foldE] at h
    split at h
    · rename_i hd
      cases h
      exact doE_err hd
    · exact foldE_err t _ r h

/-- files stay where they are when a cell that holds a slice is written. -/
theorem ListAt.put {w : World} {a x : Option Addr} {n c q : Nat} {t : TypeId} {L : List Fil} (h : ListAt w a L) (hq : w.heap[q]? = some (.cells #[.slice x n c] t (0, 0))) (u : Value) : ListAt (w.setCell ⟨q, 0, none⟩ u) a L := by
  obtain ⟨h1, h2, h3⟩ := h
  refine ⟨h1, h2, fun h0 => ?_⟩
  obtain ⟨b, o, rfl, hc⟩ := h3 h0
  have hb : b ≠ q := by
    intro e
    have := (hc 0 h0).1
    rw [e, cell_of hq] at this
    rcases Nat.eq_zero_or_pos (o + 0 * 2) with h4 | h4
    · rw [h4] at this; simp at this
    · rw [Array.getElem?_eq_none (by simp; omega)] at this; cases this
  refine ⟨b, o, rfl, fun i hi => ?_⟩
  obtain ⟨f1, a2, c2, f2, f3, f4, f5⟩ := hc i hi
  refine ⟨cell_other f1 hb, a2, c2, cell_other f2 hb, f3, f4, f5.1, f5.2.1, fun h5 => ?_⟩
  obtain ⟨b2, o2, rfl, hc2⟩ := f5.2.2 h5
  have hb2 := f5.apart hq h5 _ rfl
  exact ⟨b2, o2, rfl, fun j hj => cell_other (hc2 j hj) hb2⟩

theorem second_new (w : World) (A B : Obj) : ((w.alloc A).alloc B).heap[w.heap.size + 1]? = some B := by
  have := heap_alloc_new (w.alloc A) B
  simpa using this
theorem two_of {w w1 : World} {A : Obj} (hb : Below (w.alloc A).heap.size (w.alloc A) w1) : w1.heap[w.heap.size]? = some A ∧ Below w.heap.size w w1 := by
  refine ⟨?_, ((Below.refl _ w).alloc (Nat.le_refl _) A).trans (hb.mono (by simp))⟩
  rw [hb.block _ (by simp)]; exact heap_alloc_new w _

set_option maxHeartbeats 8000000 in
set_option maxRecDepth 100000 in
theorem once_walk (w : World) (a a2 : Option Addr) (c c2 : Nat) (L : List Fil) (l : List OpS) (hL : ListAt w a L) (hs : ∀ x ∈ L, x.bytes.length ≤ 140737488351232) (ho : OpsAt w a2 l) :
    Calls Try.prog 3 #[.agg #[.slice a L.length c], .slice a2 l.length c2] w fun e w' => e = .returned (.bool true) ∧ Hid (Below w.heap.size w w') := by
  have HL : Hid (ListAt w a L) := hL
  have HS : Hid (∀ x ∈ L, x.bytes.length ≤ 140737488351232) := hs
  have HO : Hid (OpsAt w a2 l) := ho
  clear hL hs ho
  go_enter Try.func3, Try.ntmps3
  go_wp2_with (first | (go_at_call 4; refine (wakes_any _).mono ?_; rintro e w1 ⟨rfl, hq1⟩; obtain ⟨h1, h3⟩ := two_of hq1.out; have d1 := cell_of h1 0; simp only [List.getElem?_toArray, List.getElem?_cons_zero] at d1; clear hq1))
  refine (large_any _ a c L (HL.out.later h3)).mono ?_
  rintro e w2 ⟨bl, rfl, hq2⟩
  have hb2 : Below w.heap.size w w2 := below_of h3 hq2.out.2
  have k1 := old_block hq2.out.2 h1
  clear h1 h3 d1
  cases bl with
  | true =>
    clear k1
    go_wp2
    go_ret
    exact ⟨rfl, hb2⟩
  | false =>
    by_cases hl64 : 64 < l.length
    · have hl2 : (64 : Int) < (l.length : Int) := by omega
      clear k1
      go_wp2
      go_ret
      exact ⟨rfl, hb2⟩
    · have h500 : L.length ≤ 500 := hq2.out.1 rfl
      have HCOST : Hid (costS L ≤ 4611686018427387904) := by
        have := cost_small HL.out.1 HS.out
        show _ ≤ _
        omega
      have HB2 : Hid (Below w.heap.size w w2) := hb2
      have K1 : Hid (w2.heap[w.heap.size]? = some (.cells #[.slice a L.length c] 24 (0, 0))) := k1
      have d0 := cell_of k1 0
      simp only [List.getElem?_toArray, List.getElem?_cons_zero] at d0
      have HLA : Hid (ListAt w2 a L) := HL.out.later hb2
      have HOA : Hid (OpsAt w2 a2 l) := HO.out.later hb2
      have hz2 : w.heap.size < w2.heap.size := (Array.getElem?_eq_some_iff.1 k1).1
      clear k1 hb2 hq2
      cases hr : rightB L with
      | false =>
        have HA := apply_fail (c := c) (c2 := c2) (r := 150) HLA.out HOA.out HCOST.out (by unfold applyE; rw [hr]; rfl)
        have HC : Hid (checkI L = 150) := check_no hr
        clear hr
        go_wp2_with (first | (go_at_call 6; refine HA.mono ?_; rintro e w3 ⟨rfl, hq3⟩; have d3 : ∀ A, (w3.alloc A).cell? ⟨w.heap.size, 0, none⟩ = some (.slice a L.length c) := fun A => cell_later (below_of hq3.out ((Below.refl _ w3).alloc (Nat.le_refl _) A)) d0) | (go_at_call 7; refine (check_any _ a c L ((HLA.out.later hq3.out).later ((Below.refl _ w3).alloc (Nat.le_refl _) _)) HCOST.out).mono ?_; rw [HC.out]; rintro e w4 ⟨rfl, hq4⟩))
        go_ret
        exact ⟨rfl, below_of (below_of (below_of HB2.out hq3.out) ((Below.refl _ w3).alloc (Nat.le_refl _) _)) hq4⟩
      | true =>
        have HRT : Hid (rightB L = true) := hr
        have HC : Hid (checkI L = 0) := check_yes hr
        have hap : applyE L l = foldE L l := by
          unfold applyE
          rw [hr]
          simp [hl64]
        have HN : Hid (l.length ≤ 64) := by show _ ≤ _; omega
        obtain ⟨res, hres⟩ : ∃ res, foldE L l = res := ⟨_, rfl⟩
        have HRES : Hid (foldE L l = res) := hres
        rw [hres] at hap
        clear hr hres
        have hln := HO.out.2.1
        cases res with
        | error r =>
          have HA := apply_fail (c := c) (c2 := c2) HLA.out HOA.out HCOST.out hap
          clear hap
          go_wp2_with (first | (go_at_call 6; refine HA.mono ?_; rintro e w3 ⟨rfl, hq3⟩; have d3 : ∀ A, (w3.alloc A).cell? ⟨w.heap.size, 0, none⟩ = some (.slice a L.length c) := fun A => cell_later (below_of hq3.out ((Below.refl _ w3).alloc (Nat.le_refl _) A)) d0) | (go_at_call 7; refine (check_any _ a c L ((HLA.out.later hq3.out).later ((Below.refl _ w3).alloc (Nat.le_refl _) _)) HCOST.out).mono ?_; rw [HC.out]; rintro e w4 ⟨rfl, hq4⟩))
          have hb34 : Below w2.heap.size w2 w4 := below_of hq3.out (((Below.refl _ w3).alloc (Nat.le_refl _) _).trans (hq4.mono (by simp)))
          have M1 : Hid (w4.heap[w.heap.size]? = some (.cells #[.slice a L.length c] 24 (0, 0))) := old_block hb34 K1.out
          have M3 : Hid (w4.heap[w3.heap.size]? = some (.cells #[.slice none 0 0] 24 (0, 0))) := old_block hq4 (heap_alloc_new w3 _)
          have HB4 : Hid (Below w.heap.size w w4) := below_of HB2.out hb34
          have hz3 : w.heap.size < w3.heap.size := by have := hq3.out.size; omega
          have HL4 : Hid (ListAt w4 a L) := HL.out.later HB4.out
          clear hq3 hq4 hb34 d3 d0 HA
          go_loopw [33] (fun i wr => ∃ (k : Nat) (af : Option Addr) (cf : Nat) (Lf : List Fil), k ≤ l.length ∧ i = .int .i64 k ∧ Hid (wr.heap[w.heap.size]? = some (.cells #[.slice af Lf.length cf] 24 (0, 0)) ∧ ListAt wr af Lf ∧ rightB Lf = true ∧ foldE Lf (l.drop k) = .error r ∧ wr.heap[w3.heap.size]? = some (.cells #[.slice none 0 0] 24 (0, 0)) ∧ Below w.heap.size w wr)) (fun i _ => l.length - (intOf i).toNat)
          case atStart => exact ⟨0, a, c, L, Nat.zero_le _, rfl, M1.out, HL4.out, HRT.out, HRES.out, M3.out, HB4.out⟩
          case round =>
            obtain ⟨k, af, cf, Lf, hk, rfl, hq⟩ := hrel
            by_cases hkl : k < l.length
            · obtain ⟨b, o, rfl, hc⟩ := HO.out.2.2 (by omega)
              obtain ⟨g0, g1, g2, g3, ab, cb, g4, g5, g6, g7⟩ := (hc k hkl).later hq.out.2.2.2.2.2
              have HFI : Hid (OpFits l[k]) := HO.out.1 _ (List.getElem_mem hkl)
              have HD : Hid (l.drop k = l[k] :: l.drop (k + 1)) := List.drop_eq_getElem_cons hkl
              have HROW : Hid (l[k].bytes.length ≤ cb ∧ cb ≤ maxLen ∧ Row wr ab l[k].bytes) := ⟨g5, g6, g7⟩
              obtain ⟨x, hx⟩ : ∃ x, x = l[k] := ⟨_, rfl⟩
              rw [← hx] at g0 g1 g2 g3 g4 HFI HD HROW
              clear hc g5 g6 g7 hx
              have f0 : ∀ A, (wr.alloc A).cell? ⟨w.heap.size, 0, none⟩ = some (.slice af Lf.length cf) := fun A => cell_later ((Below.refl _ wr).alloc (Nat.le_refl _) A) (by rw [cell_of hq.out.1]; rfl)
              have HCF : Hid (costS Lf ≤ 4611686018427387904) := by have := right_over hq.out.2.2.1; show _ ≤ _; omega
              have HBA : Hid (∀ A B, Below wr.heap.size wr ((wr.alloc A).alloc B)) := fun A B => ((Below.refl _ wr).alloc (Nat.le_refl _) A).alloc (by simp) B
              have HOP : Hid (∀ A, OpsAt ((wr.alloc A).alloc (opc x ab cb)) (some ⟨wr.heap.size + 1, 0, none⟩) [x]) := fun A => ops_one (second_new wr A (opc x ab cb)) HFI.out HROW.out.1 HROW.out.2.1 (HROW.out.2.2.later (HBA.out _ _))
              have hap1 := apply_one (L := Lf) (o := x) hq.out.2.2.1
              cases hd : doE Lf x with
              | error r2 =>
                rw [hd] at hap1
                have HE : Hid (r = r2) := by
                  have := hq.out.2.2.2.1
                  rw [HD.out, foldE, hd] at this
                  show r = r2
                  simpa using this.symm
                obtain rfl := HE.out
                have hr0 := doE_err hd
                have HAP : Hid (∀ A, Calls Try.prog 6 #[.agg #[.slice af Lf.length cf], .slice (some ⟨wr.heap.size + 1, 0, none⟩) 1 1] ((wr.alloc A).alloc (opc x ab cb)) fun e w' => e = .returned (.tuple #[.agg #[.slice none 0 0], .int .i64 r]) ∧ Hid (Below ((wr.alloc A).alloc (opc x ab cb)).heap.size ((wr.alloc A).alloc (opc x ab cb)) w')) := fun A => apply_fail (l := [x]) (L := Lf) (a := af) (c := cf) (c2 := 1) (hq.out.2.1.later (HBA.out _ _)) (HOP.out A) HCF.out hap1
                have HM : Hid (wr.heap[w3.heap.size]? = some (.cells #[.slice none 0 0] 24 (0, 0)) ∧ Below w.heap.size w wr) := ⟨hq.out.2.2.2.2.1, hq.out.2.2.2.2.2⟩
                clear hap1 hd hq HE
                obtain ⟨xk, xn, xm, xt, xb⟩ := x
                simp only [opc] at *
                go_wp2_with (go_at_call 6; refine (HAP.out _).mono ?_; rintro e w5 ⟨rfl, hq5⟩; have hb5 := below_of (HBA.out _ _) hq5.out; have s3 : ∀ A, (w5.alloc A).cell? ⟨w3.heap.size, 0, none⟩ = some (.slice none 0 0) := fun A => (by rw [cell_of (old_block (below_of hb5 ((Below.refl _ w5).alloc (Nat.le_refl _) A)) HM.out.1)]; rfl))
                go_ret
                exact ⟨ret_bool (by simp), below_of (below_of HM.out.2 hb5) ((Below.refl _ w5).alloc (Nat.le_refl _) _)⟩
              | ok L2 =>
                rw [hd] at hap1
                have HE : Hid (foldE L2 (l.drop (k + 1)) = .error r) := by
                  have := hq.out.2.2.2.1
                  rw [HD.out, foldE, hd] at this
                  exact this
                have HR2 : Hid (rightB L2 = true) := do_right hq.out.2.2.1 hd
                have HAP : Hid (∀ A, Calls Try.prog 6 #[.agg #[.slice af Lf.length cf], .slice (some ⟨wr.heap.size + 1, 0, none⟩) 1 1] ((wr.alloc A).alloc (opc x ab cb)) fun e w' => ∃ a' c', e = .returned (.tuple #[.agg #[.slice a' L2.length c'], .int .i64 0]) ∧ Hid (ListAt w' a' L2 ∧ L2.length ≤ c' ∧ c' ≤ maxLen ∧ rightB L2 = true ∧ Below ((wr.alloc A).alloc (opc x ab cb)).heap.size ((wr.alloc A).alloc (opc x ab cb)) w')) := fun A => apply_done (l := [x]) (L := Lf) (a := af) (c := cf) (c2 := 1) (hq.out.2.1.later (HBA.out _ _)) (HOP.out A) HCF.out hap1
                have HM : Hid (wr.heap[w3.heap.size]? = some (.cells #[.slice none 0 0] 24 (0, 0)) ∧ Below w.heap.size w wr ∧ wr.heap[w.heap.size]? = some (.cells #[.slice af Lf.length cf] 24 (0, 0))) := ⟨hq.out.2.2.2.2.1, hq.out.2.2.2.2.2, hq.out.1⟩
                clear hap1 hd hq
                obtain ⟨xk, xn, xm, xt, xb⟩ := x
                simp only [opc] at *
                go_wp2_with (go_at_call 6; refine (HAP.out _).mono ?_; rintro e w5 ⟨a', c', rfl, hq5⟩; have hb5 := below_of (HBA.out _ _) hq5.out.2.2.2.2; have s0 : ∀ A, (w5.alloc A).cell? ⟨w.heap.size, 0, none⟩ = some (.slice af Lf.length cf) := fun A => (by rw [cell_of (old_block (below_of hb5 ((Below.refl _ w5).alloc (Nat.le_refl _) A)) HM.out.2.2)]; rfl); have s1 : ∀ A, (w5.alloc A).frozen? ⟨w.heap.size, 0, none⟩ = false := fun A => frozen_of (old_block (below_of hb5 ((Below.refl _ w5).alloc (Nat.le_refl _) A)) HM.out.2.2) 0)
                go_roundw
                case rel =>
                  have hb6 := below_of hb5 ((Below.refl _ w5).alloc (Nat.le_refl _) (.cells #[.slice a' L2.length c'] 24))
                  have hf6 := old_block hb6 HM.out.2.2
                  have hB6 := below_of HM.out.2.1 hb6
                  have hset : Off (fun k => k = w.heap.size) (w5.alloc (.cells #[.slice a' L2.length c'] 24)) ((w5.alloc (.cells #[.slice a' L2.length c'] 24)).setCell ⟨w.heap.size, 0, none⟩ (.slice a' L2.length c')) := (Off.refl (fun k => k = w.heap.size) _).setCell (p := ⟨w.heap.size, 0, none⟩) (.inr rfl) _
                  refine ⟨k + 1, a', c', L2, by omega, by go_num, ?_, (hq5.out.1.later ((Below.refl _ w5).alloc (Nat.le_refl _) _)).put hf6 _, HR2.out, HE.out, hset.at (old_block hb6 HM.out.1) (by omega), hB6.setCell (Nat.le_refl _) _⟩
                  rw [heap_setCell_same _ _ _ _ _ _ hf6]; rfl
                case measure => simp [intOf]; omega
            · obtain rfl : k = l.length := by omega
              have := hq.out.2.2.2.1
              rw [List.drop_length, foldE] at this
              cases this
        | ok L' =>
          have HA := apply_done (c := c) (c2 := c2) HLA.out HOA.out HCOST.out hap
          clear hap
          go_wp2_with (first | (go_at_call 6; refine HA.mono ?_; rintro e w3 ⟨ga, gc, rfl, hq3⟩; have d3 : ∀ A, (w3.alloc A).cell? ⟨w.heap.size, 0, none⟩ = some (.slice a L.length c) := fun A => cell_later (below_of hq3.out.2.2.2.2 ((Below.refl _ w3).alloc (Nat.le_refl _) A)) d0) | (go_at_call 7; refine (check_any _ a c L ((HLA.out.later hq3.out.2.2.2.2).later ((Below.refl _ w3).alloc (Nat.le_refl _) _)) HCOST.out).mono ?_; rw [HC.out]; rintro e w4 ⟨rfl, hq4⟩))
          have hb34 : Below w2.heap.size w2 w4 := below_of hq3.out.2.2.2.2 (((Below.refl _ w3).alloc (Nat.le_refl _) _).trans (hq4.mono (by simp)))
          have M1 : Hid (w4.heap[w.heap.size]? = some (.cells #[.slice a L.length c] 24 (0, 0))) := old_block hb34 K1.out
          have M3 : Hid (w4.heap[w3.heap.size]? = some (.cells #[.slice ga L'.length gc] 24 (0, 0))) := old_block hq4 (heap_alloc_new w3 _)
          have HB4 : Hid (Below w.heap.size w w4) := below_of HB2.out hb34
          have hz3 : w.heap.size < w3.heap.size := by have := hq3.out.2.2.2.2.size; omega
          have HL4 : Hid (ListAt w4 a L) := HL.out.later HB4.out
          have HG4 : Hid (ListAt w4 ga L') := (hq3.out.1.later ((Below.refl _ w3).alloc (Nat.le_refl _) _)).later hq4
          clear hq3 hq4 hb34 d3 d0 HA
          go_loopw [33] (fun i wr => ∃ (k : Nat) (af : Option Addr) (cf : Nat) (Lf : List Fil), k ≤ l.length ∧ i = .int .i64 k ∧ Hid (wr.heap[w.heap.size]? = some (.cells #[.slice af Lf.length cf] 24 (0, 0)) ∧ ListAt wr af Lf ∧ rightB Lf = true ∧ foldE Lf (l.drop k) = .ok L' ∧ wr.heap[w3.heap.size]? = some (.cells #[.slice ga L'.length gc] 24 (0, 0)) ∧ Below w.heap.size w wr ∧ ListAt wr ga L')) (fun i _ => l.length - (intOf i).toNat)
          case atStart => exact ⟨0, a, c, L, Nat.zero_le _, rfl, M1.out, HL4.out, HRT.out, HRES.out, M3.out, HB4.out, HG4.out⟩
          case round =>
            obtain ⟨k, af, cf, Lf, hk, rfl, hq⟩ := hrel
            by_cases hkl : k < l.length
            · obtain ⟨b, o, rfl, hc⟩ := HO.out.2.2 (by omega)
              obtain ⟨g0, g1, g2, g3, ab, cb, g4, g5, g6, g7⟩ := (hc k hkl).later hq.out.2.2.2.2.2.1
              have HFI : Hid (OpFits l[k]) := HO.out.1 _ (List.getElem_mem hkl)
              have HD : Hid (l.drop k = l[k] :: l.drop (k + 1)) := List.drop_eq_getElem_cons hkl
              have HROW : Hid (l[k].bytes.length ≤ cb ∧ cb ≤ maxLen ∧ Row wr ab l[k].bytes) := ⟨g5, g6, g7⟩
              obtain ⟨x, hx⟩ : ∃ x, x = l[k] := ⟨_, rfl⟩
              rw [← hx] at g0 g1 g2 g3 g4 HFI HD HROW
              clear hc g5 g6 g7 hx
              have f0 : ∀ A, (wr.alloc A).cell? ⟨w.heap.size, 0, none⟩ = some (.slice af Lf.length cf) := fun A => cell_later ((Below.refl _ wr).alloc (Nat.le_refl _) A) (by rw [cell_of hq.out.1]; rfl)
              have HCF : Hid (costS Lf ≤ 4611686018427387904) := by have := right_over hq.out.2.2.1; show _ ≤ _; omega
              have HBA : Hid (∀ A B, Below wr.heap.size wr ((wr.alloc A).alloc B)) := fun A B => ((Below.refl _ wr).alloc (Nat.le_refl _) A).alloc (by simp) B
              have HOP : Hid (∀ A, OpsAt ((wr.alloc A).alloc (opc x ab cb)) (some ⟨wr.heap.size + 1, 0, none⟩) [x]) := fun A => ops_one (second_new wr A (opc x ab cb)) HFI.out HROW.out.1 HROW.out.2.1 (HROW.out.2.2.later (HBA.out _ _))
              have hap1 := apply_one (L := Lf) (o := x) hq.out.2.2.1
              cases hd : doE Lf x with
              | error r2 =>
                exfalso
                have := hq.out.2.2.2.1
                rw [HD.out, foldE, hd] at this
                cases this
              | ok L2 =>
                rw [hd] at hap1
                have HE : Hid (foldE L2 (l.drop (k + 1)) = .ok L') := by
                  have := hq.out.2.2.2.1
                  rw [HD.out, foldE, hd] at this
                  exact this
                have HR2 : Hid (rightB L2 = true) := do_right hq.out.2.2.1 hd
                have HAP : Hid (∀ A, Calls Try.prog 6 #[.agg #[.slice af Lf.length cf], .slice (some ⟨wr.heap.size + 1, 0, none⟩) 1 1] ((wr.alloc A).alloc (opc x ab cb)) fun e w' => ∃ a' c', e = .returned (.tuple #[.agg #[.slice a' L2.length c'], .int .i64 0]) ∧ Hid (ListAt w' a' L2 ∧ L2.length ≤ c' ∧ c' ≤ maxLen ∧ rightB L2 = true ∧ Below ((wr.alloc A).alloc (opc x ab cb)).heap.size ((wr.alloc A).alloc (opc x ab cb)) w')) := fun A => apply_done (l := [x]) (L := Lf) (a := af) (c := cf) (c2 := 1) (hq.out.2.1.later (HBA.out _ _)) (HOP.out A) HCF.out hap1
                have HM : Hid (wr.heap[w3.heap.size]? = some (.cells #[.slice ga L'.length gc] 24 (0, 0)) ∧ Below w.heap.size w wr ∧ wr.heap[w.heap.size]? = some (.cells #[.slice af Lf.length cf] 24 (0, 0)) ∧ ListAt wr ga L') := ⟨hq.out.2.2.2.2.1, hq.out.2.2.2.2.2.1, hq.out.1, hq.out.2.2.2.2.2.2⟩
                clear hap1 hd hq
                obtain ⟨xk, xn, xm, xt, xb⟩ := x
                simp only [opc] at *
                go_wp2_with (go_at_call 6; refine (HAP.out _).mono ?_; rintro e w5 ⟨a', c', rfl, hq5⟩; have hb5 := below_of (HBA.out _ _) hq5.out.2.2.2.2; have s0 : ∀ A, (w5.alloc A).cell? ⟨w.heap.size, 0, none⟩ = some (.slice af Lf.length cf) := fun A => (by rw [cell_of (old_block (below_of hb5 ((Below.refl _ w5).alloc (Nat.le_refl _) A)) HM.out.2.2.1)]; rfl); have s1 : ∀ A, (w5.alloc A).frozen? ⟨w.heap.size, 0, none⟩ = false := fun A => frozen_of (old_block (below_of hb5 ((Below.refl _ w5).alloc (Nat.le_refl _) A)) HM.out.2.2.1) 0)
                go_roundw
                case rel =>
                  have hb6 := below_of hb5 ((Below.refl _ w5).alloc (Nat.le_refl _) (.cells #[.slice a' L2.length c'] 24))
                  have hf6 := old_block hb6 HM.out.2.2.1
                  have hB6 := below_of HM.out.2.1 hb6
                  have hset : Off (fun k => k = w.heap.size) (w5.alloc (.cells #[.slice a' L2.length c'] 24)) ((w5.alloc (.cells #[.slice a' L2.length c'] 24)).setCell ⟨w.heap.size, 0, none⟩ (.slice a' L2.length c')) := (Off.refl (fun k => k = w.heap.size) _).setCell (p := ⟨w.heap.size, 0, none⟩) (.inr rfl) _
                  refine ⟨k + 1, a', c', L2, by omega, by go_num, ?_, (hq5.out.1.later ((Below.refl _ w5).alloc (Nat.le_refl _) _)).put hf6 _, HR2.out, HE.out, hset.at (old_block hb6 HM.out.1) (by omega), hB6.setCell (Nat.le_refl _) _, (HM.out.2.2.2.later hb6).put hf6 _⟩
                  rw [heap_setCell_same _ _ _ _ _ _ hf6]; rfl
                case measure => simp [intOf]; omega
            · obtain rfl : k = l.length := by omega
              have he := hq.out.2.2.2.1
              rw [List.drop_length, foldE] at he
              obtain rfl : Lf = L' := by simpa using he
              have o1 := cell_of hq.out.1 0
              have o2 := cell_of hq.out.2.2.2.2.1 0
              simp only [List.getElem?_toArray, List.getElem?_cons_zero] at o1 o2
              have HSA := same_any wr af ga cf gc Lf Lf hq.out.2.1 hq.out.2.2.2.2.2.2
              rw [(sameB_iff Lf Lf).2 rfl] at HSA
              have HBW : Hid (Below w.heap.size w wr) := hq.out.2.2.2.2.2.1
              clear he hq
              go_wp2_with (go_at_call 8; refine HSA.mono ?_; rintro e w5 ⟨rfl, hq5⟩)
              go_ret
              exact ⟨rfl, below_of HBW.out hq5.out⟩

end Go.Proofs.Ytlnphaackolojab
