/- heliographref09.Bytes. -/
import Derived.Test.YtjfmgokpnpmdpaaDoorBWalk
import Derived.Test.YtjfmgokpnpmdpaaDoorKRef
import Derived.Test.YtjfmgokpnpmdpaaDoorR07Head
namespace Go.Proofs.YtjfmgokpnpmdpaaDoor
open Go.RowKit
set_option linter.unusedVariables false
theorem first_take (b : Bn) (k : Nat) (hk : k < (numsB b).length) : (((numsB b).take (k + 1)).map (hd 0)).flatten = (((numsB b).take k).map (hd 0)).flatten ++ hd 0 (numsB b)[k] := by
  rw [List.take_succ_eq_append_getElem hk, List.map_append, List.flatten_append]
  simp
/-- the ten numbers of a first block as ints in a new block. -/
theorem ten_i64 {w : World} (b : Bn) (h : okB b = true) : ∀ i (hi : i < (numsB b).length), (w.alloc (.cells #[.int .i64 7, .int .i64 b.dst, .int .i64 b.src, .int .i64 (b.seq : Nat), .int .i64 b.cre, .int .i64 b.lif, .int .i64 b.off, .int .i64 b.tot, .int .i64 b.pri, .int .i64 b.lim] 3)).cell? ⟨w.heap.size, i, none⟩ = some (.int .i64 ((numsB b)[i] : Nat)) := by
  intro i hi
  have hk := okB_of h
  rw [cell_of (heap_alloc_new w _)]
  have e : ∀ x : Int, 0 ≤ x → ((x.toNat : Nat) : Int) = x := fun x hx => Int.toNat_of_nonneg hx
  have e1 := e b.dst (by omega)
  have e2 := e b.src (by omega)
  have e3 := e b.cre (by omega)
  have e4 := e b.lif (by omega)
  have e5 := e b.off (by omega)
  have e6 := e b.tot (by omega)
  have e7 := e b.pri (by omega)
  have e8 := e b.lim (by omega)
  match i, hi with
  | 0, _ => rfl
  | 1, _ => simp [numsB, e1]
  | 2, _ => simp [numsB, e2]
  | 3, _ => simp [numsB]
  | 4, _ => simp [numsB, e3]
  | 5, _ => simp [numsB, e4]
  | 6, _ => simp [numsB, e5]
  | 7, _ => simp [numsB, e6]
  | 8, _ => simp [numsB, e7]
  | 9, _ => simp [numsB, e8]
  | i + 10, hi => simp [numsB] at hi; omega
set_option maxRecDepth 20000 in
set_option maxHeartbeats 8000000 in
theorem bytes9_any (b : Bn) (a : Option Addr) (c : Nat) (w : World) (ho : okB b = true) (hs : b.seq < 4294967296) (hr : Row w a b.pay) : Calls Tryd.prog 15 #[bv b a c] w fun e w' => ∃ a' c', e = .returned (.slice a' (encB b).length c') ∧ Hid (Row w' a' (encB b) ∧ Below w.heap.size w w') := by
  have HB : Hid (∀ (w : World) (X : Obj), Below w.heap.size w (w.alloc X)) := fun w X => (Below.refl _ w).alloc (Nat.le_refl _) X
  have hk := okB_of ho
  go_enter Tryd.func15, Tryd.ntmps15
  go_wp2_with (go_at_call 36; refine (head_any _ 4 10 (by omega) (by omega)).mono ?_; rintro e w1 ⟨a1, c1, rfl, hq1⟩; obtain ⟨e0, e1, e2, e3, e4, e5, e6, e7, e8, e9, e10⟩ := bcells (old_block hq1.out.2 (heap_alloc_new w _)))
  have HW1 : Hid (Below w.heap.size w w1 ∧ w1.heap[w.heap.size]? = some (bc b a c)) := ⟨below_of (HB.out w _) hq1.out.2, old_block hq1.out.2 (heap_alloc_new w _)⟩
  have HTN : Hid (∀ W, Below (w1.alloc (.cells #[.int .i64 7, .int .i64 b.dst, .int .i64 b.src, .int .i64 (b.seq : Nat), .int .i64 b.cre, .int .i64 b.lif, .int .i64 b.off, .int .i64 b.tot, .int .i64 b.pri, .int .i64 b.lim] 3)).heap.size (w1.alloc (.cells #[.int .i64 7, .int .i64 b.dst, .int .i64 b.src, .int .i64 (b.seq : Nat), .int .i64 b.cre, .int .i64 b.lif, .int .i64 b.off, .int .i64 b.tot, .int .i64 b.pri, .int .i64 b.lim] 3)) W → ∀ i (hi : i < (numsB b).length), W.cell? ⟨w1.heap.size, i, none⟩ = some (.int .i64 ((numsB b)[i] : Nat))) := fun W h i hi => cell_later h (ten_i64 b ho i hi)
  have HNL : Hid (∀ n ∈ numsB b, n < 18446744073709551616) := nums_lt b ho hs
  have hfl := firstB_len b
  have hlen10 : (numsB b).length = 10 := rfl
  have HF10 : Hid (hd 4 10 ++ (((numsB b).take 10).map (hd 0)).flatten = firstB b) := by show _ = _; rw [firstB_eq]; rfl
  have HFL : Hid (∀ k, k ≤ 10 → (hd 4 10 ++ (((numsB b).take k).map (hd 0)).flatten).length ≤ 91) := fun k hk => by
    have h1 := hd_len
    have h2 : (hd 4 10).length = 1 := by decide
    have h3 : ∀ (l : List Nat), ((l.map (hd 0)).flatten).length ≤ l.length * 9 := fun l => by
      induction l with
      | nil => simp
      | cons x r ih => have := h1 0 x; simp only [List.map_cons, List.flatten_cons, List.length_append, List.length_cons]; omega
    have h4 := h3 ((numsB b).take k)
    rw [List.length_take] at h4
    rw [List.length_append]
    omega
  have HOK : Hid (okB b = true) := ho
  have HPR : Hid (∀ W, Below w.heap.size w W → Row W a b.pay) := fun W h => hr.later h
  have hpl : b.pay.length ≤ 400 := by omega
  have hh0 : 0 ≤ b.hop := by omega
  have hh1 : b.hop ≤ 16 := by omega
  clear e0 e1 e2 e3 e4 e5 e6 e7 e8 e9 e10 hk hr ho hs
  go_loopw [3, 5] (fun v i wr => ∃ k : Nat, k ≤ 10 ∧ i = .int .i64 k ∧ ∃ a2 c2, v = .slice a2 (hd 4 10 ++ (((numsB b).take k).map (hd 0)).flatten).length c2 ∧ Hid (Row wr a2 (hd 4 10 ++ (((numsB b).take k).map (hd 0)).flatten) ∧ Below (w1.alloc (.cells #[.int .i64 7, .int .i64 b.dst, .int .i64 b.src, .int .i64 (b.seq : Nat), .int .i64 b.cre, .int .i64 b.lif, .int .i64 b.off, .int .i64 b.tot, .int .i64 b.pri, .int .i64 b.lim] 3)).heap.size (w1.alloc (.cells #[.int .i64 7, .int .i64 b.dst, .int .i64 b.src, .int .i64 (b.seq : Nat), .int .i64 b.cre, .int .i64 b.lif, .int .i64 b.off, .int .i64 b.tot, .int .i64 b.pri, .int .i64 b.lim] 3)) wr)) (fun _ i _ => 10 - (intOf i).toNat)
  case atStart => exact ⟨0, Nat.zero_le _, rfl, a1, c1, by simp, by show Row _ _ _ ∧ _; refine ⟨?_, Below.refl _ _⟩; rw [show hd 4 10 ++ (((numsB b).take 0).map (hd 0)).flatten = hd 4 10 by simp]; exact hq1.out.1.later (HB.out w1 _)⟩
  case round =>
    obtain ⟨k, hk, rfl, a2, c2, rfl, HQ⟩ := hrel
    by_cases hkl : k < 10
    · have hkn : k < (numsB b).length := by rw [hlen10]; exact hkl
      have hcell := HTN.out wr HQ.out.2 k hkn
      have hn := HNL.out _ (List.getElem_mem hkn)
      have HS : Hid (hd 4 10 ++ (((numsB b).take (k + 1)).map (hd 0)).flatten = (hd 4 10 ++ (((numsB b).take k).map (hd 0)).flatten) ++ hd 0 (numsB b)[k]) := by show _ = _; rw [first_take b k hkn, List.append_assoc]
      have hfk := HFL.out k hk
      generalize (numsB b)[k] = n at hcell hn HS
      generalize hd 4 10 ++ (((numsB b).take k).map (hd 0)).flatten = F at HQ HS hfk ⊢
      have hwn : IntKind.u64.wrap (n : Int) = (n : Int) := by rw [IntKind.wrap_u64]; omega
      have hdl := hd_len 0 n
      go_wp2_with (first
        | (go_at_call 37; refine (both_any _ a2 a3 c2 c3 F (hd 0 n) (HQ.out.1.later hq3.out.2) hq3.out.1 (by omega)).mono ?_; rintro e w4 ⟨a4, c4, rfl, hq4⟩)
        | (go_at_call 36; refine (head_any _ 0 n (by omega) hn).mono ?_; rintro e w3 ⟨a3, c3, rfl, hq3⟩))
      go_roundw
      case rel => exact ⟨k + 1, by omega, by go_num, a4, c4, by rw [HS.out, List.length_append], by rw [HS.out]; exact ⟨hq4.out.1.row, below_of (below_of HQ.out.2 hq3.out.2) hq4.out.2⟩⟩
      case measure => simp [intOf]; omega
    · obtain rfl : k = 10 := by omega
      rw [HF10.out] at HQ ⊢
      have HB2 : Hid (Below w.heap.size w wr) := below_of (below_of HW1.out.1 (HB.out w1 _)) HQ.out.2
      obtain ⟨e0, e1, e2, e3, e4, e5, e6, e7, e8, e9, e10⟩ := bcells (old_block (below_of (HB.out w1 _) HQ.out.2) HW1.out.2)
      go_wp2_with fail
      refine (refSeal16_any a2 c2 (firstB b) wr HQ.out.1 (by omega)).mono ?_
      rintro e w3 ⟨a3, c3, rfl, hl3, hc3, r3, hb3⟩
      have H3 : Hid (Row w3 a3 (seal16 (firstB b)) ∧ Below w.heap.size w w3) := ⟨r3, below_of HB2.out hb3⟩
      have H3b : Hid (w3.heap[w.heap.size]? = some (bc b a c)) := old_block hb3 (old_block (below_of (HB.out w1 _) HQ.out.2) HW1.out.2)
      clear e0 e1 e2 e3 e4 e5 e6 e7 e8 e9 e10 hl3 hc3 r3 hb3
      obtain ⟨e0, e1, e2, e3, e4, e5, e6, e7, e8, e9, e10⟩ := bcells H3b.out
      go_wp2_with fail
      refine (refSeal32_any a c b.pay w3 (HPR.out w3 H3.out.2) (by omega)).mono ?_
      rintro e w4 ⟨a4, c4, rfl, hl4, hc4, r4, hb4⟩
      have H4 : Hid (Row w4 a4 (seal32 b.pay) ∧ Row w4 a3 (seal16 (firstB b)) ∧ Below w.heap.size w w4) := ⟨r4, H3.out.1.later hb4, below_of H3.out.2 hb4⟩
      have H4b : Hid (w4.heap[w.heap.size]? = some (bc b a c)) := old_block hb4 H3b.out
      clear e0 e1 e2 e3 e4 e5 e6 e7 e8 e9 e10 hl4 hc4 r4 hb4
      have e6 := (bcells H4b.out).2.2.2.2.2.2.1
      have hs16 := seal16_length (firstB b)
      have hs32 := seal32_length b.pay
      have HEB : Hid (encB b = (hd 4 3 ++ (hd 2 (seal16 (firstB b)).length ++ seal16 (firstB b))) ++ hd 0 b.hop.toNat ++ (hd 2 (seal32 b.pay).length ++ seal32 b.pay)) := enc_tri _ _ _
      have hw2 : IntKind.u64.wrap ((seal16 (firstB b)).length : Int) = ((seal16 (firstB b)).length : Int) := by rw [IntKind.wrap_u64]; omega
      have hw3 : IntKind.u64.wrap ((seal32 b.pay).length : Int) = ((seal32 b.pay).length : Int) := by rw [IntKind.wrap_u64]; omega
      have hwh : IntKind.u64.wrap b.hop = ((b.hop.toNat : Nat) : Int) := by rw [IntKind.wrap_u64, Int.toNat_of_nonneg hh0]; omega
      have hbF : (seal16 (firstB b)).length ≤ 93 := by omega
      have hbP : (seal32 b.pay).length ≤ 404 := by omega
      have hbH : b.hop.toNat < 18446744073709551616 := by omega
      generalize seal16 (firstB b) = F at H4 HEB hw2 hbF ⊢
      generalize seal32 b.pay = P at H4 HEB hw3 hbP ⊢
      generalize b.hop.toNat = h at HEB hwh hbH
      clear hs16 hs32 HFL HF10 HTN HNL HPR
      have l1 := hd_len 4 3
      have l2 := hd_len 2 F.length
      have l3 := hd_len 0 h
      have l4 := hd_len 2 P.length
      have hX := Below.refl w4.heap.size w4
      go_wp2_with fail
      refine (head_any w4 4 3 (by omega) (by omega)).mono ?_
      rintro e w5 ⟨a5, c5, rfl, hq5⟩
      have hX := below_of hX hq5.out.2
      go_wp2_with fail
      refine (head_any w5 2 F.length (by omega) (by omega)).mono ?_
      rintro e w6 ⟨a6, c6, rfl, hq6⟩
      have hX := below_of hX hq6.out.2
      go_wp2_with fail
      refine (both_any w6 a6 a3 c6 c3 (hd 2 F.length) F hq6.out.1 (H4.out.2.1.later hX) (by omega)).mono ?_
      rintro e w7 ⟨a7, c7, rfl, hq7⟩
      have hX := below_of hX hq7.out.2
      go_wp2_with fail
      refine (both_at w7 a5 a7 c5 c7 _ _ (hd 4 3) (hd 2 F.length ++ F) rfl (by rw [List.length_append]) (hq5.out.1.later (below_of hq6.out.2 hq7.out.2)) hq7.out.1.row (by omega)).mono ?_
      rintro e w8 ⟨a8, c8, rfl, hq8⟩
      have hX := below_of hX hq8.out.2
      have e8 := cell_later hX e6
      clear e6
      go_wp2_with fail
      refine (head_any w8 0 h (by omega) hbH).mono ?_
      rintro e w9 ⟨a9, c9, rfl, hq9⟩
      have hX := below_of hX hq9.out.2
      go_wp2_with fail
      refine (both_at w9 a8 a9 c8 c9 _ _ (hd 4 3 ++ (hd 2 F.length ++ F)) (hd 0 h) (by simp only [List.length_append]) rfl (hq8.out.1.row.later hq9.out.2) hq9.out.1 (by omega)).mono ?_
      rintro e w10 ⟨a10, c10, rfl, hq10⟩
      have hX := below_of hX hq10.out.2
      go_wp2_with fail
      refine (head_any w10 2 P.length (by omega) (by omega)).mono ?_
      rintro e w11 ⟨a11, c11, rfl, hq11⟩
      have hX := below_of hX hq11.out.2
      go_wp2_with fail
      refine (both_any w11 a11 a4 c11 c4 (hd 2 P.length) P hq11.out.1 (H4.out.1.later hX) (by omega)).mono ?_
      rintro e w12 ⟨a12, c12, rfl, hq12⟩
      have hX := below_of hX hq12.out.2
      go_wp2_with fail
      refine (both_at w12 a10 a12 c10 c12 _ _ (hd 4 3 ++ (hd 2 F.length ++ F) ++ hd 0 h) (hd 2 P.length ++ P) (by simp only [List.length_append]) (by simp only [List.length_append]) (hq10.out.1.row.later (below_of hq11.out.2 hq12.out.2)) hq12.out.1.row (by omega)).mono ?_
      rintro e w13 ⟨a13, c13, rfl, hq13⟩
      have hX := below_of hX hq13.out.2
      go_wp2
      go_ret
      refine ⟨a13, c13, ?_, ?_, below_of H4.out.2.2 hX⟩
      · rw [HEB.out]; simp only [List.length_append]; rfl
      · rw [HEB.out]; exact hq13.out.1.row
end Go.Proofs.YtjfmgokpnpmdpaaDoor
