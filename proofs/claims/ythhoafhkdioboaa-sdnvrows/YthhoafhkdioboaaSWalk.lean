/- The walks of sdnv.Size and sdnv.lay. -/
import Derived.Test.YthhoafhkdioboaaHAppend
import Derived.Test.YthhoafhkdioboaaSPure
namespace Go.Proofs.Ythhoafhkdioboaa
open Go.RowKit
set_option linter.unusedVariables false

set_option maxRecDepth 20000 in
set_option maxHeartbeats 1000000 in
theorem size_any (w : World) (n : Nat) (hn : n < 18446744073709551616) :
    Calls Try.prog 14 #[.int .u64 n] w fun e w' => e = .returned (.int .i64 (sz n : Nat)) ∧ w = w' := by
  have HS := sz_eq n
  have hl := sd_len n hn
  generalize sz n = Z at HS hl ⊢
  have HZ : Hid (Z = (hi (n / 128)).length + 1) := HS
  clear HS
  go_enter Try.func14, Try.ntmps14
  go_wp2
  go_loop [0, 3] (fun u s => ∃ q k : Nat, u = .int .u64 q ∧ s = .int .i64 k ∧ q < 18446744073709551616 ∧ k ≤ Z ∧ Hid (k + (hi q).length = Z)) (fun u _ => (intOf u).toNat)
  case atStart => exact ⟨n / 128, 1, by simp, rfl, by omega, by omega, by show _ = _; rw [HZ.out]; omega⟩
  case round =>
    obtain ⟨q, k, rfl, rfl, hq, hk, HK⟩ := hrel
    by_cases h0 : 0 < q
    · have HN : Hid (k + 1 + (hi (q / 128)).length = Z) := by
        show _ = _
        have := HK.out
        rw [hi_step q hq (by omega)] at this
        simp at this
        omega
      have hk1 : k + 1 ≤ Z := by have := HN.out; omega
      go_wp2
      go_round
      case rel => exact ⟨q / 128, k + 1, by simp, by go_num, by omega, hk1, HN.out⟩
      case measure => simp [intOf]; omega
    · obtain rfl : q = 0 := by omega
      have HN : Hid (k = Z) := by show _ = _; have := HK.out; rw [hi_zero] at this; simpa using this
      go_wp2
      go_ret
      exact ⟨ret_int (by rw [HN.out]), rfl⟩

theorem cells_set (L : List Nat) (i b : Nat) : (cells L).toArray.setIfInBounds i (.int .u8 (b : Nat)) = (cells (L.set i b)).toArray := by
  rw [List.setIfInBounds_toArray]
  unfold cells
  rw [List.map_set]
theorem take_set (L R : List Nat) (m b : Nat) (h : m < L.length) : (L.take (m + 1) ++ R).set m b = L.take m ++ (b :: R) := by
  rw [List.take_succ_eq_append_getElem h, List.append_assoc, List.set_append_right _ _ (by rw [List.length_take]; omega)]
  congr 1
  rw [List.length_take, show m - min m L.length = 0 by omega]
  rfl
/-- one byte more, ahead of those that were laid. -/
theorem lay_step {w wr : World} {g m b : Nat} {L R : List Nat} (h : wr.heap[g]? = some (.cells (cells (L.take (m + 1) ++ R)).toArray 5 (0, 0))) (ho : Off (fun k => k = g) w wr) (hm : m < L.length) :
    (wr.setCell ⟨g, m, none⟩ (.int .u8 (b : Nat))).heap[g]? = some (.cells (cells (L.take m ++ (b :: R))).toArray 5 (0, 0)) ∧ Off (fun k => k = g) w (wr.setCell ⟨g, m, none⟩ (.int .u8 (b : Nat))) := by
  refine ⟨?_, ho.setCell (p := ⟨g, m, none⟩) (.inr rfl) _⟩
  rw [heap_setCell_same _ _ _ _ _ _ h, cells_set, take_set _ _ _ _ hm]
theorem lay_cell {wr : World} {g m : Nat} {L R : List Nat} (h : wr.heap[g]? = some (.cells (cells (L.take (m + 1) ++ R)).toArray 5 (0, 0))) (hm : m < L.length) : ∃ u, wr.cell? ⟨g, m, none⟩ = some u := by
  rw [cell_of h]
  exact ⟨_, Array.getElem?_eq_getElem (by simp [cells_length]; omega)⟩
set_option maxRecDepth 20000 in
set_option maxHeartbeats 1000000 in
theorem lay_any (w : World) (g e cap : Nat) (L : List Nat) (n : Nat) (hn : n < 18446744073709551616) (hB : Bs w g L) (he : e ≤ L.length) (hs : sz n ≤ e) (hz : e ≤ 140737488351232) :
    Calls Try.prog 22 #[.slice (some ⟨g, 0, none⟩) e cap, .int .u64 n] w fun en w' => en = .returned (.tuple #[]) ∧ Hid (Bs w' g (L.take (e - sz n) ++ (sd n ++ L.drop e)) ∧ Off (fun k => k = g) w w') := by
  rw [sz_eq] at hs ⊢
  obtain ⟨m, hm⟩ : ∃ m, e = m + 1 := ⟨e - 1, by omega⟩
  subst hm
  have HW : Hid (Bs w g L) := hB
  have h0 : w.heap[g]? = some (.cells (cells (L.take (m + 1) ++ L.drop (m + 1))).toArray 5 (0, 0)) := by rw [List.take_append_drop]; exact hB.here
  have hmL : m < L.length := by omega
  obtain ⟨u, hc0⟩ := lay_cell h0 hmL
  have hf0 := frozen_of h0 m
  have HA : Hid _ := lay_step (b := n % 128) h0 (Off.refl _ w) hmL
  have HSZ : Hid ((hi (n / 128)).length ≤ m) := by show _ ≤ _; omega
  have i1 : ((m : Nat) : Int) < ((m + 1 : Nat) : Int) := by omega
  clear h0 hB hs
  go_enter Try.func22, Try.ntmps22
  go_wp2
  go_loopw [1, 4] (fun u i wr => ∃ (q j r : Nat) (T : List Nat), u = .int .u64 q ∧ i = .int .i64 r ∧ r + j = m ∧ q < 18446744073709551616 ∧ Hid (T.length = j ∧ hi q ++ T = hi (n / 128) ∧ wr.heap[g]? = some (.cells (cells (L.take r ++ (T ++ (n % 128 :: L.drop (m + 1))))).toArray 5 (0, 0)) ∧ Off (fun k => k = g) w wr)) (fun u _ _ => (intOf u).toNat)
  case atStart => exact ⟨n / 128, 0, m, [], by simp, rfl, rfl, by omega, rfl, by simp, by simpa using HA.out.1, by simpa using HA.out.2⟩
  case round =>
    obtain ⟨q, j, r, T, rfl, rfl, hr, hq, HD⟩ := hrel
    by_cases h0 : 0 < q
    · have HQ : Hid (hi (q / 128) ++ ((q % 128 + 128) :: T) = hi (n / 128)) := by
        show _ = _
        rw [← HD.out.2.1, hi_step q hq (by omega), List.append_assoc]; rfl
      have hrp : 0 < r := by
        have h1 := congrArg List.length HQ.out
        have h2 := HSZ.out
        have h3 := HD.out.1
        simp at h1
        omega
      obtain ⟨r, rfl⟩ : ∃ p, r = p + 1 := ⟨r - 1, by omega⟩
      have hB0 := HD.out.2.2.1
      have hrL : r < L.length := by omega
      obtain ⟨u, hc⟩ := lay_cell hB0 hrL
      have hf := frozen_of hB0 r
      have HN : Hid _ := lay_step (b := q % 128 + 128) hB0 HD.out.2.2.2 hrL
      clear hB0
      have i3 : ((r : Nat) : Int) < ((m + 1 : Nat) : Int) := by omega
      go_wp2
      go_roundw
      case rel =>
        refine ⟨q / 128, j + 1, r, (q % 128 + 128) :: T, by simp, by first | rfl | go_num, by omega, by omega, by simp [HD.out.1], HQ.out, ?_, ?_⟩
        · simpa using HN.out.1
        · simpa using HN.out.2
      case measure => simp [intOf]; omega
    · obtain rfl : q = 0 := by omega
      have HT : Hid (T = hi (n / 128)) := by show _ = _; have := HD.out.2.1; rw [hi_zero] at this; simpa using this
      have HJ : Hid (r = m + 1 - ((hi (n / 128)).length + 1)) := by show _ = _; have h1 := HD.out.1; rw [HT.out] at h1; omega
      go_wp2
      go_end0
      refine ⟨rfl, ⟨?_, ?_, ?_⟩, HD.out.2.2.2⟩
      · have := HD.out.2.2.1
        rw [← HJ.out]
        rw [this, HT.out]
        unfold sd
        simp
      · intro x hx
        rcases List.mem_append.1 hx with h | h
        · exact HW.out.byte x (List.mem_of_mem_take h)
        · rcases List.mem_append.1 h with h | h
          · exact sd_byte n x h
          · exact HW.out.byte x (List.mem_of_mem_drop h)
      · have h2 := HW.out.len
        have h3 := sz_eq n
        have h4 := HSZ.out
        unfold sz at h3
        simp only [List.length_append, List.length_take, List.length_drop, h3]
        omega
end Go.Proofs.Ythhoafhkdioboaa
