/- The walks of the references' own High and Both (heliographref01). -/
import Derived.Test.YtfkkaihnmnjadaaR01Same
import Derived.Test.YtfkkaihnmnjadaaPOct
namespace Go.Proofs.Ytfkkaihnmnjadaa
open Go.RowKit
set_option linter.unusedVariables false

theorem own_take {w : World} {b n k : Nat} {v : Value} {l m : List Nat} (hk : k < m.length) (h : w.ownsRow b 5 1 v n (cells (l ++ m.take k) ++ [Value.int .u8 ((m.getD k 0 : Nat) : Int)])) : w.ownsRow b 5 1 v n (cells (l ++ m.take (k + 1))) := by
  rw [take_snoc m k hk, ← List.append_assoc, cells_append (l ++ m.take k), cells_one]
  exact h
set_option maxHeartbeats 2000000 in
theorem both_any (w : World) (a b : Option Addr) (c d : Nat) (l m : List Nat) (hr : Row w a l) (hs : Row w b m) (hz : l.length + m.length ≤ 140737488351232) :
    Calls Try.prog 28 #[.slice a l.length c, .slice b m.length d] w fun e w' => ∃ a' c', e = .returned (.slice a' (l.length + m.length) c') ∧ Hid (Fresh w w' a' c' (l ++ m) ∧ Below w.heap.size w w') := by
  obtain ⟨i0, hi, hz0, hz1, hz2⟩ := info_parts Try.info5
  have HI : Hid (Try.prog.info? 5 = some i0) := hi
  have HR : Hid (Row w a l) := hr
  have HS : Hid (Row w b m) := hs
  clear hr hs hi
  go_enter Try.func28, Try.ntmps28
  go_wp2_with (at_make; go_must (refine wpList_make_own _ rfl (.const (.int .i64 0)) (.tmp 12) 23 rfl w.heap.size 5 i0 (.int .u8 0) 1 Try.underlying23 HI.out hz0 hz1 .i64 .i64 _ (l.length + m.length) rfl rfl ?a1 ?a2 ?a3 (Nat.le_refl _) ?_))
  case a1 => omega
  case a2 => rw [hz2]; omega
  case a3 => unfold maxLen; omega
  intro w1 hown1 hgrow1
  have hb1 : Below w.heap.size w w1 := (Below.refl _ _).grown hgrow1 (Nat.le_refl _) (by intro k h; cases h)
  have H1 : Hid (w1.ownsRow w.heap.size 5 1 (.slice (some ⟨w.heap.size, 0, none⟩) 0 (l.length + m.length)) 0 []) := hown1
  clear hown1 hgrow1
  go_wp2
  go_loopw [5, 6] (fun v i wr => ∃ k : Nat, k ≤ l.length ∧ i = .int .i64 k ∧ Hid (wr.ownsRow w.heap.size 5 1 v k (cells ([] ++ l.take k)) ∧ Below w.heap.size w wr))
    (fun _ i _ => l.length - (intOf i).toNat)
  case atStart => exact ⟨0, by omega, rfl, H1.out, hb1⟩
  case round =>
    obtain ⟨k, hk, rfl, hq⟩ := hrel
    have hbs := hq.out.2.size
    clear hb1
    by_cases hkl : k < l.length
    · obtain ⟨b1, off, rfl, hc⟩ := (HR.out.later hq.out.2).2.2 (by omega)
      have hcell := hc k hkl
      have HT : Hid (∀ (w' : World) (v' : Value), w'.ownsRow w.heap.size 5 1 v' (k + 1) (cells ([] ++ l.take k) ++ [Value.int .u8 ((l.getD k 0 : Nat) : Int)]) → w'.ownsRow w.heap.size 5 1 v' (k + 1) (cells ([] ++ l.take (k + 1)))) := fun w' v' h => own_take hkl h
      clear hc
      generalize l.getD k 0 = x at hcell HT ⊢
      go_wp2_with (at_builtin; go_must (refine wpList_append_own _ rfl (.tmp 20) (.tmp 25) 23 rfl w.heap.size 5 i0 (.int .u8 0) 1 1 Try.underlying23 HI.out hz0 hz1 hz2 rfl (by decide) _ _ _ rfl (hq.out.1.alloc _) ⟨wr.heap.size, 0, none⟩ 1 1 [.int .u8 (x : Int)] rfl rfl ?d1 ?d2 ?d3 ?d4 ?d5 ?_))
      case d1 => exact cell_one_new _ _ _
      case d2 => intro u hu; simp at hu; subst hu; rfl
      case d3 => unfold maxLen; omega
      case d4 => omega
      case d5 => simp; omega
      · intro v' w2 hown hgrow _
        have H2 : Hid (w2.ownsRow w.heap.size 5 1 v' (k + 1) (cells ([] ++ l.take (k + 1))) ∧ Below w.heap.size w w2) := ⟨HT.out _ _ hown, (hq.out.2.alloc hbs _).grown hgrow (by simp; omega) (own_ge hq.out.1)⟩
        clear hown hgrow
        go_wp2
        go_roundw
        case rel => exact ⟨k + 1, by omega, by go_num, H2.out⟩
        case measure => simp [intOf]; omega
    · obtain rfl : k = l.length := by omega
      have H2 : Hid (wr.ownsRow w.heap.size 5 1 u5 (l.length + 0) (cells (l ++ m.take 0)) ∧ Below w.heap.size w wr) := by
        have := hq.out
        rw [List.take_length, List.nil_append] at this
        show _ ∧ _
        simpa using this
      clear hq hbs
      go_wp2
      go_loopw [5, 7] (fun v i wr => ∃ k : Nat, k ≤ m.length ∧ i = .int .i64 k ∧ Hid (wr.ownsRow w.heap.size 5 1 v (l.length + k) (cells (l ++ m.take k)) ∧ Below w.heap.size w wr))
        (fun _ i _ => m.length - (intOf i).toNat)
      case atStart => exact ⟨0, by omega, rfl, H2.out⟩
      case round =>
        obtain ⟨k, hk2, rfl, hq⟩ := hrel
        have hbs := hq.out.2.size
        clear H2
        by_cases hkl : k < m.length
        · obtain ⟨b1, off, rfl, hc⟩ := (HS.out.later hq.out.2).2.2 (by omega)
          have hcell := hc k hkl
          have HT : Hid (∀ (w' : World) (v' : Value), w'.ownsRow w.heap.size 5 1 v' (l.length + k + 1) (cells (l ++ m.take k) ++ [Value.int .u8 ((m.getD k 0 : Nat) : Int)]) → w'.ownsRow w.heap.size 5 1 v' (l.length + (k + 1)) (cells (l ++ m.take (k + 1)))) := fun w' v' h => own_take hkl h
          clear hc
          generalize m.getD k 0 = x at hcell HT ⊢
          go_wp2_with (at_builtin; go_must (refine wpList_append_own _ rfl (.tmp 33) (.tmp 38) 23 rfl w.heap.size 5 i0 (.int .u8 0) 1 1 Try.underlying23 HI.out hz0 hz1 hz2 rfl (by decide) _ _ _ rfl (hq.out.1.alloc _) ⟨_, 0, none⟩ 1 1 [.int .u8 (x : Int)] rfl rfl ?d1 ?d2 ?d3 ?d4 ?d5 ?_))
          case d1 => exact cell_one_new _ _ _
          case d2 => intro u hu; simp at hu; subst hu; rfl
          case d3 => unfold maxLen; omega
          case d4 => omega
          case d5 => simp; omega
          · intro v' w2 hown hgrow _
            have H2 : Hid (w2.ownsRow w.heap.size 5 1 v' (l.length + (k + 1)) (cells (l ++ m.take (k + 1))) ∧ Below w.heap.size w w2) := ⟨HT.out _ _ hown, (hq.out.2.alloc hbs _).grown hgrow (by simp; omega) (own_ge hq.out.1)⟩
            clear hown hgrow
            go_wp2
            go_roundw
            case rel => exact ⟨k + 1, by omega, by go_num, H2.out⟩
            case measure => simp [intOf]; omega
        · obtain rfl : k = m.length := by omega
          have hq2 := hq.out.1
          rw [List.take_length] at hq2
          obtain ⟨a', c', hv, hf⟩ := fresh_of hq2 (by intro x hx; rcases List.mem_append.1 hx with hx | hx; exact HR.out.1 x hx; exact HS.out.1 x hx) (by rw [List.length_append]; unfold maxLen; omega)
          rw [List.length_append] at hv
          subst hv
          have HF : Hid (Fresh w _ a' c' (l ++ m) ∧ Below w.heap.size w _) := ⟨hf, hq.out.2⟩
          clear hf hq2 hq
          go_wp2
          go_ret
          exact ⟨a', c', rfl, HF.out⟩
theorem both_at (w : World) (a b : Option Addr) (c d n k : Nat) (l m : List Nat) (hn : l.length = n) (hk : m.length = k) (hr : Row w a l) (hs : Row w b m) (hz : n + k ≤ 140737488351232) :
    Calls Try.prog 28 #[.slice a n c, .slice b k d] w fun e w' => ∃ a' c', e = .returned (.slice a' (n + k) c') ∧ Hid (Fresh w w' a' c' (l ++ m) ∧ Below w.heap.size w w') := by
  subst hn hk
  exact both_any w a b c d l m hr hs hz
set_option maxRecDepth 20000 in
set_option maxHeartbeats 2000000 in
theorem high_any (x k : Nat) (w : World) (hx : x < 18446744073709551616) (hk : k ≤ 8) :
    Calls Try.prog 29 #[.int .u64 x, .int .i64 k] w fun e w' => e = .returned (.slice (some ⟨w.heap.size, 0, none⟩) k k) ∧ Hid (Bs w' w.heap.size (be x k) ∧ Below w.heap.size w w') := by
  obtain ⟨i0, hi, hz0, hz1, hz2⟩ := info_parts Try.info5
  have HI : Hid _ := hi
  clear hi
  have hb2 : i0.bytes * k ≤ 281474976710656 := by rw [hz2]; omega
  go_enter Try.func29, Try.ntmps29
  go_wp2_with (at_make; refine wpList_make_full _ rfl _ _ 23 rfl w.heap.size 5 i0 _ 1 Try.underlying23 HI.out hz0 hz1 .i64 .i64 _ _ k (by rfl) (by rfl) rfl rfl hb2 (by unfold maxLen; omega) (Nat.le_refl _) ?_; intro w1 hown hgrow; obtain ⟨hm1, hm2⟩ := made_bytes hown hgrow; have HM : Hid (w1.heap[w.heap.size]? = some (.cells (cells ([] ++ List.replicate k 0 ++ be x 0)).toArray 5 (0, 0)) ∧ Below w.heap.size w w1) := ⟨by rw [hm1]; simp [be, leN], hm2⟩; clear hown hgrow hm1 hm2)
  go_loopw [0, 6] (fun u i wr => ∃ j : Nat, j ≤ k ∧ u = .int .u64 (x / 256 ^ j : Nat) ∧ i = .int .i64 ((k : Int) - 1 - (j : Int)) ∧ Hid (wr.heap[w.heap.size]? = some (.cells (cells ([] ++ List.replicate (k - j) 0 ++ be x j)).toArray 5 (0, 0)) ∧ Below w.heap.size w wr))
    (fun _ i _ => (intOf i + 1).toNat)
  case atStart => exact ⟨0, by omega, by simp, by simp, HM.out⟩
  case round =>
    clear HM
    obtain ⟨j, hj, rfl, rfl, HJ⟩ := hrel
    have hq : x / 256 ^ j < 18446744073709551616 := Nat.lt_of_le_of_lt (Nat.div_le_self _ _) hx
    have HD : Hid (x / 256 ^ (j + 1) = x / 256 ^ j / 256) := div_succ x j
    have HL : Hid (be x (j + 1) = x / 256 ^ j % 256 :: be x j) := be_succ x j
    generalize x / 256 ^ j = q at hq HD HL ⊢
    by_cases hjk : j < k
    · obtain ⟨m, hm⟩ : ∃ m, k = m + 1 + j := ⟨k - 1 - j, by omega⟩
      have HM : Hid (k = m + 1 + j) := hm
      rw [show (k : Int) - 1 - (j : Int) = ((m : Nat) : Int) by omega]
      have i1 : (0 : Int) ≤ ((m : Nat) : Int) := Int.natCast_nonneg _
      have i2 : ((m : Nat) : Int) < ((k : Nat) : Int) := by omega
      have i3 : m < k := by omega
      have hblk : wr.heap[w.heap.size]? = some (.cells (cells ([] ++ List.replicate (m + 1) 0 ++ be x j)).toArray 5 (0, 0)) := by
        rw [show m + 1 = k - j by omega]; exact HJ.out.1
      have hcell : ∃ u, wr.cell? ⟨w.heap.size, m, none⟩ = some u := by
        rw [cell_of hblk]
        exact ⟨_, Array.getElem?_eq_getElem (by simp [cells_length]; omega)⟩
      obtain ⟨u, hcell⟩ := hcell
      have hfr := frozen_of hblk m
      have HN : Hid ((wr.setCell ⟨w.heap.size, m, none⟩ (.int .u8 ((q % 256 : Nat) : Int))).heap[w.heap.size]? = some (.cells (cells ([] ++ List.replicate (k - (j + 1)) 0 ++ be x (j + 1))).toArray 5 (0, 0)) ∧ Below w.heap.size w (wr.setCell ⟨w.heap.size, m, none⟩ (.int .u8 ((q % 256 : Nat) : Int)))) := by
        refine ⟨?_, HJ.out.2.setCell (p := ⟨w.heap.size, m, none⟩) (Nat.le_refl _) _⟩
        have hps := put_set [] m (be x j) (q % 256)
        rw [List.length_nil, Nat.zero_add] at hps
        rw [heap_setCell_same _ _ _ _ _ _ hblk, HL.out, show k - (j + 1) = m by omega, hps]
      clear hm hblk i2
      go_wp2
      have hm := HM.out
      refine ⟨⟨j + 1, by omega, ?_, ?_, HN⟩, ?_⟩
      · rw [HD.out]; congr 1
      · congr 1; omega
      · simp only [intOf]; omega
    · obtain rfl : j = k := by omega
      rw [show (j : Int) - 1 - (j : Int) = -1 by omega]
      go_wp2
      go_ret
      refine ⟨rfl, ⟨?_, be_byte _ _, ?_⟩, HJ.out.2⟩
      · have := HJ.out.1
        rw [Nat.sub_self, List.replicate_zero, List.append_nil, List.nil_append] at this
        exact this
      · rw [be_length]; unfold maxLen; omega


set_option maxHeartbeats 2000000 in
theorem rnumber_any (w : World) (a : Option Addr) (c n : Nat) (m : List Nat) (hn : m.length = n) (hm : n ≤ 8) (hr : Row w a m) :
    Calls Try.prog 34 #[.slice a n c] w fun e w' => e = .returned (.int .u64 (numN m : Nat)) ∧ w = w' := by
  have HR : Hid (Row w a m) := hr
  subst hn
  clear hr
  go_enter Try.func34, Try.ntmps34
  go_wp2
  go_loop [3, 4] (fun x i => ∃ k : Nat, k ≤ m.length ∧ i = .int .i64 k ∧ x = .int .u64 (numN (m.take k) : Nat)) (fun _ i => m.length - (intOf i).toNat)
  case atStart => exact ⟨0, Nat.zero_le _, rfl, rfl⟩
  case round =>
    obtain ⟨k, hk, rfl, rfl⟩ := hrel
    by_cases hkl : k < m.length
    · obtain ⟨b, o, rfl, hc⟩ := HR.out.2.2 (by omega)
      have hcell := hc k hkl
      have HS : Hid (numN (m.take (k + 1)) = numN (m.take k) * 256 + m.getD k 0) := by
        show _ = _
        rw [List.take_succ_eq_append_getElem hkl, numN_snoc, List.getD_eq_getElem?_getD, List.getElem?_eq_getElem hkl]; rfl
      have hx : numN (m.take k) < 72057594037927936 := by
        have h1 := numN_lt (m.take k) (fun x hx => HR.out.1 x (List.mem_of_mem_take hx))
        have h2 : (m.take k).length ≤ 7 := by rw [List.length_take]; omega
        exact Nat.lt_of_lt_of_le h1 (Nat.pow_le_pow_right (by omega) h2)
      have hb : m.getD k 0 < 256 := by
        rw [List.getD_eq_getElem?_getD, List.getElem?_eq_getElem hkl]
        exact HR.out.1 _ (List.getElem_mem hkl)
      have hi1 : (k : Int) < (m.length : Int) := by omega
      clear hc
      generalize m.getD k 0 = y at hcell HS hb
      generalize numN (m.take k) = X at HS hx ⊢
      go_wp2
      go_round
      case rel => exact ⟨k + 1, by omega, by go_num, by rw [HS.out]; go_num⟩
      case measure => simp [intOf]; omega
    · obtain rfl : k = m.length := by omega
      rw [List.take_length]
      go_wp2
      go_ret
      exact ⟨rfl, rfl⟩
/-- a text as bytes, in new memory. -/
theorem conv_bytes (w : World) (s : ByteArray) (hs : s.size ≤ 140737488351232) : ∃ c w', (convert 9 23 (.string s)).run Try.prog w = .ok (.slice (some ⟨w.heap.size, 0, none⟩) s.size c) w' ∧ Row w' (some ⟨w.heap.size, 0, none⟩) (nbytes s) ∧ Below w.heap.size w w' := by
  refine ⟨_, _, run_bytes_of_string w 9 23 5 s Try.underlying9 Try.underlying23 Try.underlying5, ⟨nbytes_byte s, by rw [nbytes_length]; unfold maxLen; omega, fun _ => ⟨w.heap.size, 0, rfl, fun i hi => ?_⟩⟩, ((Below.refl _ w).drew).alloc (Nat.le_refl _) _⟩
  rw [nbytes_length] at hi
  have hh : (w.drew.alloc (.cells (bytesRow s (grownCap w s.size 0 5)) 5 ((bytesRow s (grownCap w s.size 0 5)).size, (bytesRow s (grownCap w s.size 0 5)).size + 1))).heap[w.heap.size]? = some (.cells (bytesRow s (grownCap w s.size 0 5)) 5 ((bytesRow s (grownCap w s.size 0 5)).size, (bytesRow s (grownCap w s.size 0 5)).size + 1)) := heap_alloc_new w.drew _
  have hi2 : i < s.data.size := hi
  unfold World.cell?
  simp only [hh, Nat.zero_add]
  unfold bytesRow nbytes
  rw [Array.getElem?_append_left (by simpa using hi2)]
  simp
  exact ⟨s.data[i], Array.getElem?_eq_getElem hi2, by rw [Array.getElem?_eq_getElem hi2]; rfl⟩
end Go.Proofs.Ytfkkaihnmnjadaa
