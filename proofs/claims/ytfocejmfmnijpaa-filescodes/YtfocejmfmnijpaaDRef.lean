/- The walks of the references' own Number and Decode. -/
import Derived.Test.YtfocejmfmnijpaaDDecode
import Derived.Test.YtfocejmfmnijpaaFRight
import Derived.Test.YtfocejmfmnijpaaFBoth
import Derived.Laws.IdiomStrings
namespace Go.Proofs.Ytfocejmfmnijpaa
open Go.RowKit

set_option maxHeartbeats 2000000 in
theorem rnumber_any (w : World) (a : Option Addr) (c n : Nat) (m : List Nat) (hn : m.length = n) (hm : n ≤ 7) (hr : Row w a m) :
    Calls Try.prog 43 #[.slice a n c] w fun e w' => e = .returned (.int .u64 (numN m : Nat)) ∧ w = w' := by
  have HR : Hid (Row w a m) := hr
  subst hn
  clear hr
  go_enter Try.func43, Try.ntmps43
  go_wp2
  go_loop [3, 4] (fun x i => ∃ k : Nat, k ≤ m.length ∧ i = .int .i64 k ∧ x = .int .u64 (numN (m.take k) : Nat)) (fun _ i => m.length - (intOf i).toNat)
  case atStart => exact ⟨0, Nat.zero_le _, rfl, rfl⟩
  case round =>
    obtain ⟨k, hk, rfl, rfl⟩ := hrel
    by_cases hkl : k < m.length
    · obtain ⟨b, o, rfl, hc⟩ := HR.out.2.2 (by omega)
      have hcell := hc k hkl
      have HS : Hid (numN (m.take (k + 1)) = numN (m.take k) * 256 + m.getD k 0) := by
        show _ = _
        rw [List.take_succ_eq_append_getElem hkl, numN_snoc, List.getD_eq_getElem?_getD, List.getElem?_eq_getElem hkl]; rfl
      have hx : numN (m.take k) < 72057594037927936 := by
        have h1 := numN_lt (m.take k) (fun x hx => HR.out.1 x (List.mem_of_mem_take hx))
        have h2 : (m.take k).length ≤ 7 := by rw [List.length_take]; omega
        exact Nat.lt_of_lt_of_le h1 (Nat.pow_le_pow_right (by omega) h2)
      have hb : m.getD k 0 < 256 := by
        rw [List.getD_eq_getElem?_getD, List.getElem?_eq_getElem hkl]
        exact HR.out.1 _ (List.getElem_mem hkl)
      have hi1 : (k : Int) < (m.length : Int) := by omega
      clear hc
      generalize m.getD k 0 = y at hcell HS hb
      generalize numN (m.take k) = X at HS hx ⊢
      go_wp2
      go_round
      case rel => exact ⟨k + 1, by omega, by go_num, by rw [HS.out]; go_num⟩
      case measure => simp [intOf]; omega
    · obtain rfl : k = m.length := by omega
      rw [List.take_length]
      go_wp2
      go_ret
      exact ⟨rfl, rfl⟩

theorem conv_row {w : World} {A : Addr} {m : List Nat} (h : Row w (some A) m) (n c : Nat) (hn : m.length = n) : (convert 35 9 (.slice (some A) n c)).run Try.prog w = .ok (.string (nameOf m)) w := by
  subst hn
  rcases Nat.eq_zero_or_pos m.length with h0 | h0
  · obtain rfl : m = [] := List.eq_nil_of_length_eq_zero h0
    exact run_convert_bytes_back w 35 9 5 A c [] Try.underlying35 Try.underlying5 Try.underlying9 (fun j hj => absurd hj (by simp))
  · obtain ⟨b, off, he, hc⟩ := h.2.2 h0
    cases he
    exact run_convert_bytes_arg w 35 5 Try.underlying35 Try.underlying5 b off m.length c (m.map fun x : Nat => (x : Int)) (by simp) (fun i hi => by
      rw [hc i hi]
      simp [List.getD_eq_getElem?_getD, List.getElem?_eq_getElem hi]) 9 Try.underlying9

/-- a part of bytes, sliced. -/
theorem row_part {w : World} {b o c : Nat} {l : List Nat} (h : Row w (some ⟨b, o, none⟩) l) (f n : Nat) (hn : f + n ≤ l.length) (hc : l.length ≤ c) : ∃ A, (if c = f then some (⟨b, o, none⟩ : Addr) else some ⟨b, o + f, none⟩) = some A ∧ Row w (some A) ((l.drop f).take n) := by
  have hl : ((l.drop f).take n).length = n := by rw [List.length_take, List.length_drop]; omega
  by_cases hcf : c = f
  · refine ⟨_, by rw [if_pos hcf], fun x hx => h.1 x (List.mem_of_mem_drop (List.mem_of_mem_take hx)), by have := h.2.1; omega, fun h0 => absurd h0 (by omega)⟩
  · refine ⟨_, by rw [if_neg hcf], fun x hx => h.1 x (List.mem_of_mem_drop (List.mem_of_mem_take hx)), by have := h.2.1; omega, fun h0 => ⟨b, o + f, rfl, fun i hi => ?_⟩⟩
    rw [hl] at hi
    obtain ⟨b', off, he, hcl⟩ := h.2.2 (by omega)
    cases he
    have := hcl (f + i) (by omega)
    rw [← Nat.add_assoc] at this
    rw [this, List.getD_eq_getElem?_getD, List.getD_eq_getElem?_getD, List.getElem?_take_of_lt hi, List.getElem?_drop]

/-- how counts go on. -/
theorem counts_err {l : List Nat} {k at_ : Nat} {er : Int} (h : (er != 0) = true) : counts l k at_ er = ([], at_, er) := by
  unfold counts; rw [takes_err h]; simp only; rw [takes_err h]
theorem counts_no {l : List Nat} {k at_ : Nat} (h : ¬ at_ + k ≤ l.length) : counts l k at_ 0 = ([], at_, 7) := by
  unfold counts; rw [takes_short h]; simp only; rw [takes_err (by decide)]
theorem counts_short {l : List Nat} {k at_ : Nat} (h : at_ + k ≤ l.length) (h2 : ¬ at_ + k + numN ((l.drop at_).take k) ≤ l.length) : counts l k at_ 0 = ([], at_ + k, 7) := by
  unfold counts; rw [takes_ok h]; simp only; rw [takes_short h2]
theorem counts_ok {l : List Nat} {k at_ : Nat} (h : at_ + k + numN ((l.drop at_).take k) ≤ l.length) : counts l k at_ 0 = ((l.drop (at_ + k)).take (numN ((l.drop at_).take k)), at_ + k + numN ((l.drop at_).take k), 0) := by
  unfold counts; rw [takes_ok (by omega)]; simp only; rw [takes_ok h]
theorem num_one {l : List Nat} {at_ : Nat} (h : at_ < l.length) : numN ((l.drop at_).take 1) = l.getD at_ 0 := by
  rw [List.drop_eq_getElem_cons h, List.take_succ_cons, List.take_zero, List.getD_eq_getElem?_getD, List.getElem?_eq_getElem h]
  show 0 * 256 + l[at_] = l[at_]
  omega
/-- a round that is short. -/
theorem round_short {l : List Nat} {n at_ : Nat} {acc : List Fil} {R : List Fil × Nat × Int} (h : rFiles l (n + 1) at_ 0 acc = R) (hs : (counts l 2 (counts l 1 at_ 0).2.1 (counts l 1 at_ 0).2.2).2.2 = 7) : R.2.2 = 7 := by
  rw [rFiles, if_neg (by simp), hs, rFiles_err (by decide)] at h
  rw [← h]
theorem short_name {l : List Nat} {at_ : Nat} (h : (counts l 1 at_ 0).2.2 = 7) : (counts l 2 (counts l 1 at_ 0).2.1 (counts l 1 at_ 0).2.2).2.2 = 7 := by
  rw [h, counts_err (by decide)]

/-- the world within the reference's Decode: the files so far, the result. -/
structure RW (w wr : World) (v : Value) (X : List FX) : Prop where
  out : Out wr (w.heap.size + 1) v X
  res : wr.heap[w.heap.size]? = some (.cells #[.slice none 0 0] 24 (0, 0))
  below : Below w.heap.size w wr
theorem rw_start (w : World) : RW w ((w.alloc (.cells #[.slice none 0 0] 24)).alloc (.cells #[.slice none 0 0] 24)) (.slice none 0 0) [] :=
  ⟨⟨second_new w _ _, World.ownsRow_nil _ _ _ _, by simp⟩, by rw [Below.heap_alloc _ _ _ (by simp)]; exact heap_alloc_new w _, ((Below.refl _ w).alloc (Nat.le_refl _) _).alloc (by simp) _⟩
theorem RW.later {w wr w2 : World} {v : Value} {X : List FX} (h : RW w wr v X) (hb : Below wr.heap.size wr w2) : RW w w2 v X := ⟨h.out.later hb, old_block hb h.res, below_of h.below hb⟩
theorem RW.lo {w wr : World} {v : Value} {X : List FX} (h : RW w wr v X) : ∀ k, own (w.heap.size + 1) v k → w.heap.size + 1 ≤ k := by
  rintro k (rfl | hk)
  · exact Nat.le_refl _
  · have := (h.out.list.lt k hk).1; omega
theorem RW.push {w wr wb wc : World} {v : Value} {X : List FX} {y : FX} {g cap : Nat} (h : RW w wr v X) (hab : Below wr.heap.size wr wb)
    (hown : wc.ownsRow (w.heap.size + 1 + 1) 53 2 (.slice (some ⟨g, 0, none⟩) (X.length + 1) cap) (X.length + 1) (fcells X ++ [.string y.name, y.val])) (hgrow : wb.grownBy wc v.ownBlock) (hat : v.ownBlock = some g ∨ g = wb.heap.size)
    (hy : Good wr (own (w.heap.size + 1) v) y) : RW w (wc.setCell ⟨w.heap.size + 1, 0, none⟩ (.slice (some ⟨g, 0, none⟩) (X.length + 1) cap)) (.slice (some ⟨g, 0, none⟩) (X.length + 1) cap) (X ++ [y]) := by
  obtain ⟨h1, h2⟩ := out_snoc (wa := wr) h.out (Below.refl _ _) hown hgrow hab hat (good_later hy hab)
  exact ⟨h1, h2.at h.res (fun e => by have := h.lo _ e; omega), h.below.trans (h2.below h.below.size (fun k hk => by have := h.lo k hk; omega))⟩
theorem RW.good {w wr : World} {v : Value} {X : List FX} (h : RW w wr v X) {n : ByteArray} {a2 : Option Addr} {c2 : Nat} {l : List Nat} (hn : n.size ≤ 140737488351232) (hr : Row w a2 l) (h1 : l.length ≤ c2) (h2 : c2 ≤ maxLen) : Good wr (own (w.heap.size + 1) v) ⟨n, a2, c2, l⟩ :=
  ⟨hn, h1, h2, hr.later h.below, fun h0 b hb hk => by have := hr.lt h0 b hb; have := h.lo _ hk; omega⟩
theorem RW.put {w wr : World} {v : Value} {X : List FX} (h : RW w wr v X) (u : Value) : (wr.setCell ⟨w.heap.size, 0, none⟩ u).cell? ⟨w.heap.size, 0, none⟩ = some u ∧ Below w.heap.size w (wr.setCell ⟨w.heap.size, 0, none⟩ u) :=
  ⟨by rw [cell_of (heap_setCell_same wr _ 0 _ _ u h.res)]; rfl, h.below.setCell (Nat.le_refl _) u⟩
theorem RW.reads {w wr : World} {v : Value} {X : List FX} (h : RW w wr v X) : wr.cell? ⟨w.heap.size, 0, none⟩ = some (.slice none 0 0) ∧ wr.frozen? ⟨w.heap.size, 0, none⟩ = false ∧ wr.cell? ⟨w.heap.size + 1, 0, none⟩ = some v ∧ wr.frozen? ⟨w.heap.size + 1, 0, none⟩ = false ∧ w.heap.size + 1 < wr.heap.size :=
  ⟨by rw [cell_of h.res]; rfl, frozen_of h.res 0, by rw [cell_of h.out.here]; rfl, frozen_of h.out.here 0, (Array.getElem?_eq_some_iff.1 h.out.here).1⟩

set_option maxRecDepth 100000 in
set_option maxHeartbeats 8000000 in
theorem rdecode_small (w : World) (a : Option Addr) (c n : Nat) (hn : n < 2) :
    Calls Try.prog 18 #[.slice a n c] w fun e w' => e = .returned (.tuple #[.agg #[.slice none 0 0], .int .i64 7]) ∧ Hid (Below w.heap.size w w') := by
  have hn2 : (n : Int) < 2 := by omega
  go_enter Try.func18, Try.ntmps18
  go_wp2
  refine bodyPost_ret (v := .tuple #[.agg #[.slice none 0 0], .int .i64 7]) (by simp [results, Try.results18, go_sem]) rfl ⟨rfl, (Below.refl _ w).alloc (Nat.le_refl _) _⟩

set_option maxRecDepth 100000 in
set_option maxHeartbeats 16000000 in
theorem rdecode_go (w : World) (b o c : Nat) (l : List Nat) (hr : Row w (some ⟨b, o, none⟩) l) (hz : l.length ≤ 1000000) (h2 : 2 ≤ l.length) (hc : l.length ≤ c) (hcm : c ≤ maxLen) :
    Calls Try.prog 18 #[.slice (some ⟨b, o, none⟩) l.length c] w fun e w' => Decoded w (decG l) e w' := by
  have hcost := readAll_cost l hr.1 hz
  have HRW : Hid (Row w (some ⟨b, o, none⟩) l) := hr
  have HCM : Hid (c ≤ maxLen) := hcm
  have hbb : b < w.heap.size := hr.lt (by omega) _ rfl
  have hc2 : (2 : Int) ≤ (c : Int) := by omega
  have h2i : (2 : Int) ≤ (l.length : Int) := by omega
  have HN0 := rnumber_any (w.alloc (.cells #[.slice none 0 0] 24)) (some ⟨b, o, none⟩) c 2 (l.take 2) (by rw [List.length_take]; omega) (by omega) ((hr.later ((Below.refl _ w).alloc (Nat.le_refl _) _)).front 2)
  have hn16 : numN (l.take 2) < 65536 := by
    have h1 := numN_lt (l.take 2) (fun x hx => hr.1 x (List.mem_of_mem_take hx))
    rw [List.length_take, Nat.min_eq_left h2] at h1
    exact h1
  have HALL : Hid (rFiles l (numN (l.take 2)) 2 0 [] = readAll l) := by
    show _ = _
    unfold readAll
    rw [takes_ok (by omega)]
    simp
  have HDG : Hid (decG l = if ((readAll l).2.2 != 0) = true then .error (readAll l).2.2 else if 0 < l.length - (readAll l).2.1 ∨ rightB (readAll l).1 = false then .error 150 else .ok (readAll l).1) := rfl
  obtain ⟨i0, hi, hz0, hz1, hz2⟩ := info_parts Try.info53
  have HI : Hid (Try.prog.info? 53 = some i0) := hi
  generalize readAll l = R at hcost HALL HDG
  generalize numN (l.take 2) = n at HN0 hn16 HALL
  generalize decG l = res at HDG ⊢
  clear hr hi hcm
  go_enter Try.func18, Try.ntmps18
  go_wp2_with (go_at_call 43; refine HN0.mono ?_; rintro e w1 ⟨rfl, rfl⟩)
  go_loopw [5, 7] (fun s i wr => ∃ (k at1 : Nat) (v : Value) (X : List FX), k ≤ n ∧ i = .int .i64 k ∧ s = .int .i64 at1 ∧ at1 ≤ l.length ∧ X.length ≤ k ∧ Hid (RW w wr v X) ∧ Hid (rFiles l (n - k) at1 0 (X.map FX.fil) = R)) (fun _ i _ => n - (intOf i).toNat)
  case atStart => exact ⟨0, 2, .slice none 0 0, [], Nat.zero_le _, rfl, rfl, h2, Nat.le_refl _, rw_start w, HALL.out⟩
  case round =>
    clear HN0 HALL
    obtain ⟨k, at1, v, X, hk, rfl, rfl, hat, hXk, hw, hf⟩ := hrel
    obtain ⟨va, vc, rfl, hv1, hv2⟩ := own_form hw.out.out.list
    obtain ⟨r1, r2, r3, r4, r5⟩ := hw.out.reads
    have HPU := fun u => (hw.out.put u).1
    have rA1 : ∀ A, (wr.alloc A).cell? ⟨w.heap.size, 0, none⟩ = some (.slice none 0 0) := fun A => cell_later ((Below.refl _ wr).alloc (Nat.le_refl _) A) r1
    have rA2 : ∀ A, (wr.alloc A).frozen? ⟨w.heap.size, 0, none⟩ = false := fun A => frozen_of (old_block ((Below.refl _ wr).alloc (Nat.le_refl _) A) hw.out.res) 0
    have HPB : ∀ u A, ((wr.alloc A).setCell ⟨w.heap.size, 0, none⟩ u).cell? ⟨w.heap.size, 0, none⟩ = some u := fun u A => ((hw.out.later ((Below.refl _ wr).alloc (Nat.le_refl _) A)).put u).1
    have HSH : Hid (R.2.2 = 7 → res = .error 7) := fun h => by have := HDG.out; rw [h] at this; exact this
    have HBU : Hid (∀ W, Below wr.heap.size wr W → ∀ u, Below w.heap.size w (W.setCell ⟨w.heap.size, 0, none⟩ u)) := fun W hW u => ((hw.out.later hW).put u).2
    by_cases hkl : k < n
    · have hki : (k : Int) < (n : Int) := by omega
      have HF1 : Hid (rFiles l (n - (k + 1) + 1) at1 0 (X.map FX.fil) = R) := by
        have := hf.out
        rw [show n - k = n - (k + 1) + 1 by omega] at this
        exact this
      by_cases hA : at1 < l.length
      · obtain ⟨b', o', hbo, hcl⟩ := (HRW.out.later hw.out.below).2.2 (by omega)
        cases hbo
        have hcell := hcl at1 hA
        clear hcl
        have hx0 : l.getD at1 0 < 256 := by
          rw [List.getD_eq_getElem?_getD, List.getElem?_eq_getElem hA]
          exact HRW.out.1 _ (List.getElem_mem hA)
        have HX0 : Hid (numN ((l.drop at1).take 1) = l.getD at1 0) := num_one hA
        have hAi : (at1 : Int) < (l.length : Int) := by omega
        have hAc : (at1 : Int) < (c : Int) := by omega
        obtain ⟨x0, hx0e⟩ : ∃ x0, x0 = l.getD at1 0 := ⟨_, rfl⟩
        rw [← hx0e] at hcell hx0 HX0
        clear hx0e
        by_cases hB : at1 + 1 + x0 ≤ l.length
        · have HCN : Hid (counts l 1 at1 0 = ((l.drop (at1 + 1)).take x0, at1 + 1 + x0, 0)) := by
            have := counts_ok (l := l) (k := 1) (at_ := at1) (by rw [HX0.out]; exact hB)
            rw [HX0.out] at this
            exact this
          have hBi : (x0 : Int) ≤ (l.length : Int) - (at1 : Int) - 1 := by omega
          have hBc : (at1 : Int) + 1 + (x0 : Int) ≤ (c : Int) := by omega
          obtain ⟨A1, hA1, HRA⟩ := row_part HRW.out (at1 + 1) x0 hB hc
          have hnl : ((l.drop (at1 + 1)).take x0).length = x0 := by rw [List.length_take, List.length_drop]; omega
          have hcv := conv_row (HRA.later hw.out.below) x0 (c - (at1 + 1)) hnl
          have hnms : (nameOf ((l.drop (at1 + 1)).take x0)).size ≤ 140737488351232 := by rw [nameOf_size]; omega
          obtain ⟨nm, hnm⟩ : ∃ nm, nm = nameOf ((l.drop (at1 + 1)).take x0) := ⟨_, rfl⟩
          rw [← hnm] at hcv hnms
          have HNM : Hid (nm = nameOf ((l.drop (at1 + 1)).take x0)) := hnm
          clear hnm hnl HRA HX0
          by_cases hC : at1 + 1 + x0 + 2 ≤ l.length
          · have hCi : (2 : Int) ≤ (l.length : Int) - ((at1 : Int) + 1 + (x0 : Int)) := by omega
            have hCc : (at1 : Int) + 1 + (x0 : Int) + 2 ≤ (c : Int) := by omega
            obtain ⟨A2, hA2, HR2⟩ := row_part HRW.out (at1 + 1 + x0) 2 hC hc
            rw [if_neg (by omega)] at hA2
            cases hA2
            have hml : ((l.drop (at1 + 1 + x0)).take 2).length = 2 := by rw [List.length_take, List.length_drop]; omega
            have HNU : Hid (∀ A, Calls Try.prog 43 #[.slice (some ⟨b, o + (at1 + 1 + x0), none⟩) 2 (c - (at1 + 1 + x0))] (wr.alloc A) fun e w' => e = .returned (.int .u64 (numN ((l.drop (at1 + 1 + x0)).take 2) : Nat)) ∧ (wr.alloc A) = w') := fun A => rnumber_any (wr.alloc A) _ _ 2 _ hml (by omega) ((HR2.later hw.out.below).later ((Below.refl _ wr).alloc (Nat.le_refl _) A))
            have hm16 : numN ((l.drop (at1 + 1 + x0)).take 2) < 65536 := by
              have h1 := numN_lt ((l.drop (at1 + 1 + x0)).take 2) HR2.1
              rw [hml] at h1
              exact h1
            have HCO : Hid (∀ m, m = numN ((l.drop (at1 + 1 + x0)).take 2) → (at1 + 1 + x0 + 2 + m ≤ l.length → counts l 2 (at1 + 1 + x0) 0 = ((l.drop (at1 + 1 + x0 + 2)).take m, at1 + 1 + x0 + 2 + m, 0)) ∧ (¬ at1 + 1 + x0 + 2 + m ≤ l.length → counts l 2 (at1 + 1 + x0) 0 = ([], at1 + 1 + x0 + 2, 7))) := fun m hm => ⟨fun h => by subst hm; exact counts_ok h, fun h => by subst hm; exact counts_short hC h⟩
            obtain ⟨m, hm⟩ : ∃ m, m = numN ((l.drop (at1 + 1 + x0)).take 2) := ⟨_, rfl⟩
            have HCM2 := HCO.out m hm
            rw [← hm] at HNU hm16
            clear hm hml HR2 HCO
            by_cases hD : at1 + 1 + x0 + 2 + m ≤ l.length
            · have HC2 : Hid (counts l 2 (at1 + 1 + x0) 0 = ((l.drop (at1 + 1 + x0 + 2)).take m, at1 + 1 + x0 + 2 + m, 0)) := HCM2.1 hD
              have hDi : (m : Int) ≤ (l.length : Int) - ((at1 : Int) + 1 + (x0 : Int) + 2) := by omega
              have hDc : (at1 : Int) + 1 + (x0 : Int) + 2 + (m : Int) ≤ (c : Int) := by omega
              obtain ⟨A3, hA3, HR3⟩ := row_part HRW.out (at1 + 1 + x0 + 2) m hD hc
              have hbl : ((l.drop (at1 + 1 + x0 + 2)).take m).length = m := by rw [List.length_take, List.length_drop]; omega
              have HY : Hid (Good wr (own (w.heap.size + 1) (.slice va X.length vc)) (⟨nm, some A3, c - (at1 + 1 + x0 + 2), (l.drop (at1 + 1 + x0 + 2)).take m⟩ : FX)) := hw.out.good hnms HR3 (by omega) (by have := HCM.out; omega)
              have HNX : Hid (rFiles l (n - (k + 1)) (at1 + 1 + x0 + 2 + m) 0 (X.map FX.fil ++ [⟨nm, (l.drop (at1 + 1 + x0 + 2)).take m⟩]) = R) := by
                have := HF1.out
                rw [rFiles, if_neg (by simp), HCN.out] at this
                simp only at this
                rw [HC2.out, ← HNM.out] at this
                exact this
              have HYB : Hid ((⟨nm, some A3, c - (at1 + 1 + x0 + 2), (l.drop (at1 + 1 + x0 + 2)).take m⟩ : FX).val = .slice (some A3) m (c - (at1 + 1 + x0 + 2))) := by show Value.slice _ _ _ = _; rw [hbl]
              have rB1 : ∀ A, (wr.alloc A).cell? ⟨w.heap.size + 1, 0, none⟩ = some (.slice va X.length vc) := fun A => cell_later ((Below.refl _ wr).alloc (Nat.le_refl _) A) r3
              obtain ⟨bl, hblE⟩ : ∃ bl, bl = (l.drop (at1 + 1 + x0 + 2)).take m := ⟨_, rfl⟩
              rw [← hblE] at HY HNX HYB
              clear hblE hbl HR3 HC2 HCN HNM HCM2 HF1 hf HSH HPB HPU
              have hX1 : X.length ≤ 65536 := by omega
              go_wp2_with (first | (go_at_call 43; refine (HNU.out _).mono ?_; rintro e w5 ⟨rfl, rfl⟩) | (at_builtin; go_must (refine wpList_append_lies _ rfl _ _ 22 rfl (w.heap.size + 1 + 1) 53 i0 (.agg #[.string ⟨#[]⟩, .slice none 0 0]) 2 40 Try.underlying22 HI.out hz0 hz1 hz2 rfl (by decide) (.slice va X.length vc) X.length (fcells X) rfl ((hw.out.out.list.alloc _).alloc _) ⟨wr.heap.size + 1, 0, none⟩ 1 1 [.string nm, .slice (some A3) m (c - (at1 + 1 + x0 + 2))] rfl rfl (World.news_of_block (second_new wr _ _)) (by intro u hu; simp at hu; rcases hu with rfl | rfl <;> rfl) (by decide) (by unfold maxLen; omega) (by omega) (by simp; omega) (wr.heap.size + 1 + 1) (by simp) ?_); intro g cap w6 hown6 hgrow6 hat6 hlt6; rw [← HYB.out] at hown6; have HP : Hid (RW w (w6.setCell ⟨w.heap.size + 1, 0, none⟩ (.slice (some ⟨g, 0, none⟩) (X.length + 1) cap)) (.slice (some ⟨g, 0, none⟩) (X.length + 1) cap) (X ++ [(⟨nm, some A3, c - (at1 + 1 + x0 + 2), bl⟩ : FX)])) := hw.out.push (y := ⟨nm, some A3, c - (at1 + 1 + x0 + 2), bl⟩) (((Below.refl _ wr).alloc (Nat.le_refl _) _).alloc (by simp) _) hown6 hgrow6 (by simpa using hat6) HY.out; obtain ⟨hx1, hx2⟩ := copied_five hw.out.out ((Below.refl _ wr).alloc (Nat.le_refl _) _) hgrow6; clear hown6 hgrow6 hat6))
              go_roundw
              case rel => exact ⟨k + 1, at1 + 1 + x0 + 2 + m, _, _, by omega, by go_num, by go_num, hD, by rw [List.length_append]; simp; omega, HP.out, by show _ = _; have := HNX.out; simpa [FX.fil] using this⟩
              case measure => simp [intOf]; omega
            · have HE : Hid (res = .error 7) := HSH.out (round_short HF1.out (by rw [HCN.out]; simp only; rw [HCM2.2 hD]))
              have hDi : (l.length : Int) - ((at1 : Int) + 1 + (x0 : Int) + 2) < (m : Int) := by omega
              go_wp2_with (go_at_call 43; refine (HNU.out _).mono ?_; rintro e w5 ⟨rfl, rfl⟩)
              refine bodyPost_ret (v := .tuple #[.agg #[.slice none 0 0], .int .i64 7]) (by simp [results, Try.results18, go_sem, HPB]) rfl (.inr ⟨7, HE.out, rfl, HBU.out _ ((Below.refl _ wr).alloc (Nat.le_refl _) _) _⟩)
          · have HE : Hid (res = .error 7) := HSH.out (round_short HF1.out (by rw [HCN.out]; simp only; rw [counts_no hC]))
            have hCi : (l.length : Int) - ((at1 : Int) + 1 + (x0 : Int)) < 2 := by omega
            go_wp2
            refine bodyPost_ret (v := .tuple #[.agg #[.slice none 0 0], .int .i64 7]) (by simp [results, Try.results18, go_sem, HPB]) rfl (.inr ⟨7, HE.out, rfl, HBU.out _ ((Below.refl _ wr).alloc (Nat.le_refl _) _) _⟩)
        · have HE : Hid (res = .error 7) := HSH.out (round_short HF1.out (short_name (by rw [counts_short (by omega) (by rw [HX0.out]; exact hB)])))
          have hBi : (l.length : Int) - (at1 : Int) - 1 < (x0 : Int) := by omega
          go_wp2
          refine bodyPost_ret (v := .tuple #[.agg #[.slice none 0 0], .int .i64 7]) (by simp [results, Try.results18, go_sem, HPU]) rfl (.inr ⟨7, HE.out, rfl, HBU.out _ (Below.refl _ _) _⟩)
      · have hAi : (l.length : Int) ≤ (at1 : Int) := by omega
        have HE : Hid (res = .error 7) := HSH.out (round_short HF1.out (short_name (by rw [counts_no (by omega)])))
        go_wp2
        refine bodyPost_ret (v := .tuple #[.agg #[.slice none 0 0], .int .i64 7]) (by simp [results, Try.results18, go_sem, HPU]) rfl (.inr ⟨7, HE.out, rfl, HBU.out _ (Below.refl _ _) _⟩)
    · obtain rfl : k = n := by omega
      have HRE : Hid (R = (X.map FX.fil, at1, 0)) := by
        have := hf.out
        rw [Nat.sub_self, rFiles] at this
        exact this.symm
      have hR := HRE.out
      subst hR
      simp only at hcost
      have hlM : X.length = (X.map FX.fil).length := by simp
      have HLA : Hid (ListAt wr va (X.map FX.fil)) := (own_list hw.out.out.list hw.out.out.files (by omega)).1
      have HRI := right_any wr va vc (X.map FX.fil) HLA.out hcost
      rw [← hlM] at HRI
      have HDG2 : Hid (res = if 0 < l.length - at1 ∨ rightB (X.map FX.fil) = false then .error 150 else .ok (X.map FX.fil)) := HDG.out
      clear HSH HDG HRE hf hlM
      have HPP : Hid (∀ W, Below wr.heap.size wr W → RW w W (.slice va X.length vc) X) := fun W hW => hw.out.later hW
      have HLL : Hid (∀ W, Below wr.heap.size wr W → ∀ u, ListAt (W.setCell ⟨w.heap.size, 0, none⟩ u) va (X.map FX.fil)) := fun W hW u => list_put (HLA.out.later hW) (hw.out.later hW).res u
      by_cases hd : at1 < l.length
      · have HE : Hid (res = .error 150) := by
          have := HDG2.out
          rw [if_pos (.inl (by omega))] at this
          exact this
        have hdi : (at1 : Int) < (l.length : Int) := by omega
        go_wp2
        refine bodyPost_ret (v := .tuple #[.agg #[.slice none 0 0], .int .i64 150]) (by simp [results, Try.results18, go_sem, HPU]) rfl (.inr ⟨150, HE.out, rfl, HBU.out _ (Below.refl _ _) _⟩)
      · have hdi : (l.length : Int) ≤ (at1 : Int) := by omega
        cases hrb : rightB (X.map FX.fil) with
        | false =>
          have HE : Hid (res = .error 150) := by
            have := HDG2.out
            rw [if_pos (.inr hrb)] at this
            exact this
          rw [hrb] at HRI
          clear hrb
          go_wp2_with (go_at_call 11; refine HRI.mono ?_; rintro e w5 ⟨rfl, hq5⟩; obtain ⟨y1, y2, y3, y4, y5⟩ := (HPP.out w5 hq5.out).reads; have HPU5 := (fun u => ((HPP.out w5 hq5.out).put u).1))
          refine bodyPost_ret (v := .tuple #[.agg #[.slice none 0 0], .int .i64 150]) (by simp [results, Try.results18, go_sem, HPU5]) rfl (.inr ⟨150, HE.out, rfl, HBU.out _ hq5.out _⟩)
        | true =>
          have HE : Hid (res = .ok (X.map FX.fil)) := by
            have := HDG2.out
            rw [if_neg (by rintro (h | h); omega; rw [hrb] at h; cases h)] at this
            exact this
          rw [hrb] at HRI
          clear hrb
          go_wp2_with (go_at_call 11; refine HRI.mono ?_; rintro e w5 ⟨rfl, hq5⟩; obtain ⟨y1, y2, y3, y4, y5⟩ := (HPP.out w5 hq5.out).reads; have HPU5 := (fun u => ((HPP.out w5 hq5.out).put u).1))
          refine bodyPost_ret (v := .tuple #[.agg #[.slice va X.length vc], .int .i64 0]) (by simp [results, Try.results18, go_sem, HPU5]) rfl (.inl ⟨X.map FX.fil, va, vc, HE.out, by rw [List.length_map], HLL.out _ hq5.out _, HBU.out _ hq5.out _⟩)

theorem rdecode_any (w : World) (a : Option Addr) (c : Nat) (l : List Nat) (hr : Row w a l) (hz : l.length ≤ 1000000) (hc : l.length ≤ c) (hcm : c ≤ maxLen) :
    Calls Try.prog 18 #[.slice a l.length c] w fun e w' => Decoded w (decG l) e w' := by
  by_cases h2 : 2 ≤ l.length
  · obtain ⟨b, o, rfl, _⟩ := hr.2.2 (by omega)
    exact rdecode_go w b o c l hr hz h2 hc hcm
  · refine (rdecode_small w a c l.length (by omega)).mono ?_
    rintro e w' ⟨rfl, hq⟩
    refine .inr ⟨7, ?_, rfl, hq⟩
    have h : readAll l = ([], 0, 7) := by
      unfold readAll
      rw [takes_short (by omega)]
      exact rFiles_err (by decide) _
    unfold decG
    rw [h]
    rfl
end Go.Proofs.Ytfocejmfmnijpaa
