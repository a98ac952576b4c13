/- Numbers in a row; the walk of sdnv.Row. -/
import Derived.Test.YthhoafhkdioboaaSGet
import Derived.Test.YthhoafhkdioboaaH64
namespace Go.Proofs.Ythhoafhkdioboaa
open Go.RowKit
set_option linter.unusedVariables false

/-- the bytes of numbers in a row. -/
def rowL : List Nat → List Nat
  | [] => []
  | n :: r => sd n ++ rowL r
theorem rowL_append (l m : List Nat) : rowL (l ++ m) = rowL l ++ rowL m := by
  induction l with
  | nil => rfl
  | cons x r ih => simp [rowL, ih]
theorem rowL_one (n : Nat) : rowL [n] = sd n := by simp [rowL]
theorem rowL_byte (l : List Nat) : ∀ x ∈ rowL l, x < 256 := by
  induction l with
  | nil => intro x hx; simp [rowL] at hx
  | cons n r ih =>
    intro x hx
    rcases List.mem_append.1 hx with h | h
    · exact sd_byte n x h
    · exact ih x h
theorem rowL_len (l : List Nat) (h : ∀ x ∈ l, x < 18446744073709551616) : (rowL l).length ≤ 10 * l.length := by
  induction l with
  | nil => simp [rowL]
  | cons n r ih =>
    have h1 := (sd_len n (h n List.mem_cons_self)).2
    have h2 := ih (fun x hx => h x (List.mem_cons_of_mem _ hx))
    unfold sz at h1
    simp only [rowL, List.length_append, List.length_cons]
    omega
theorem rowL_take (L : List Nat) (k : Nat) (hk : k < L.length) : rowL (L.take (k + 1)) = rowL (L.take k) ++ sd L[k] := by
  rw [List.take_succ_eq_append_getElem hk, rowL_append, rowL_one]
theorem rowL_le (L : List Nat) (k : Nat) : (rowL (L.take k)).length ≤ (rowL L).length := by
  have := congrArg List.length (rowL_append (L.take k) (L.drop k))
  rw [List.take_append_drop, List.length_append] at this
  omega
/-- the bytes of the first numbers, and noughts behind them. -/
def part (Z : Nat) (R : List Nat) : List Nat := R ++ List.replicate (Z - R.length) 0
theorem part_len (Z : Nat) (R : List Nat) (h : R.length ≤ Z) : (part Z R).length = Z := by simp [part]; omega
theorem part_more (Z : Nat) (R S : List Nat) (h : R.length + S.length ≤ Z) : (part Z R).take (R.length + S.length - S.length) ++ (S ++ (part Z R).drop (R.length + S.length)) = part Z (R ++ S) := by
  unfold part
  rw [show R.length + S.length - S.length = R.length by omega, List.take_left, List.drop_append, List.drop_of_length_le (by omega), List.nil_append, show R.length + S.length - R.length = S.length by omega, List.drop_replicate, List.append_assoc, List.length_append]
  rw [show Z - R.length - S.length = Z - (R.length + S.length) by omega]

set_option maxRecDepth 20000 in
set_option maxHeartbeats 1000000 in
theorem row_any (w : World) (a : Option Addr) (c : Nat) (L : List Nat) (hr : Row64 w a L) (hz : L.length ≤ 1000000) :
    Calls Try.prog 15 #[.slice a L.length c] w fun e w' => e = .returned (.slice (some ⟨w.heap.size, 0, none⟩) (rowL L).length (rowL L).length) ∧ Hid (Bs w' w.heap.size (rowL L) ∧ Below w.heap.size w w') := by
  obtain ⟨i0, hi, hz0, hz1, hz2⟩ := info_parts Try.info5
  have HI : Hid _ := hi
  have HR : Hid (Row64 w a L) := hr
  have hZ := rowL_len L hr.1
  clear hi hr
  have HZ : Hid (∃ Z, Z = (rowL L).length) := ⟨_, rfl⟩
  obtain ⟨Z, hZe⟩ := HZ.out
  have HZE : Hid (Z = (rowL L).length) := hZe
  rw [← hZe] at hZ ⊢
  clear hZe HZ
  have hb2 : i0.bytes * Z ≤ 281474976710656 := by rw [hz2]; omega
  go_enter Try.func15, Try.ntmps15
  go_wp2
  go_loop [3, 12] (fun s i => ∃ k m : Nat, k ≤ L.length ∧ i = .int .i64 k ∧ s = .int .i64 m ∧ m ≤ Z ∧ Hid (m = (rowL (L.take k)).length)) (fun _ i => L.length - (intOf i).toNat)
  case atStart => exact ⟨0, 0, by omega, rfl, rfl, by omega, rfl⟩
  case round =>
    obtain ⟨k, m, hk, rfl, rfl, hm, HM⟩ := hrel
    by_cases hlt : k < L.length
    · obtain ⟨b, off, rfl, hc, hx⟩ := row64_at HR.out k hlt
      have HN : Hid (m + sz L[k] = (rowL (L.take (k + 1))).length) := by show _ = _; rw [rowL_take L k hlt, List.length_append, ← HM.out]; rfl
      have hle : m + sz L[k] ≤ Z := by rw [HN.out, HZE.out]; exact rowL_le L _
      have HS := fun w => size_any w L[k] hx
      generalize L[k] = y at hc hx HN HS hle
      generalize sz y = Y at HN HS hle
      go_wp2_with (go_at_call 14; refine (HS _).mono ?_; rintro e w1 ⟨rfl, rfl⟩)
      go_round
      case rel => exact ⟨k + 1, m + Y, by omega, by go_num, by go_num, hle, HN.out⟩
      case measure => simp [intOf]; omega
    · obtain rfl : k = L.length := by omega
      obtain rfl : m = Z := by rw [HM.out, HZE.out, List.take_length]
      go_wp2_with (at_make; refine wpList_make_full _ rfl _ _ 22 rfl w.heap.size 5 i0 _ 1 Try.underlying22 HI.out hz0 hz1 .i64 .i64 _ _ m (by rfl) (by rfl) (by omega) (by omega) hb2 (by unfold maxLen; omega) (Nat.le_refl _) ?_; intro w1 hown hgrow; obtain ⟨hm1, hm2⟩ := made_bytes hown hgrow; have HM1 : Hid _ := hm1; have HM2 : Hid _ := hm2; clear hown hgrow hm1 hm2)
      go_loopw [7, 25] (fun s i wr => ∃ k p : Nat, k ≤ L.length ∧ i = .int .i64 k ∧ s = .int .i64 p ∧ p ≤ m ∧ Hid (p = (rowL (L.take k)).length ∧ Bs wr w.heap.size (part m (rowL (L.take k))) ∧ Below w.heap.size w wr)) (fun _ i _ => L.length - (intOf i).toNat)
      case atStart => exact ⟨0, 0, by omega, rfl, rfl, by omega, rfl, ⟨by rw [HM1.out]; simp [part, rowL], by intro x hx; simp [part, rowL] at hx; omega, by rw [part_len _ _ (by simp [rowL])]; unfold maxLen; omega⟩, HM2.out⟩
      case round =>
        obtain ⟨k, p, hk, rfl, rfl, hp, HP⟩ := hrel
        by_cases hlt : k < L.length
        · obtain ⟨b, off, rfl, hc, hx⟩ := row64_at (HR.out.later HP.out.2.2) k hlt
          have HN : Hid (p + sz L[k] = (rowL (L.take (k + 1))).length) := by show _ = _; rw [rowL_take L k hlt, List.length_append, ← HP.out.1]; rfl
          have hle : p + sz L[k] ≤ m := by rw [HN.out, HZE.out]; exact rowL_le L _
          have HS := fun w => size_any w L[k] hx
          have HPT : Hid ((part m (rowL (L.take k))).take (p + sz L[k] - sz L[k]) ++ (sd L[k] ++ (part m (rowL (L.take k))).drop (p + sz L[k])) = part m (rowL (L.take (k + 1)))) := by
            show _ = _
            have h1 := HP.out.1
            rw [rowL_take L k hlt, h1]
            refine part_more m _ (sd L[k]) ?_
            rw [← h1]; exact hle
          have HLY := lay_any wr w.heap.size (p + sz L[k]) m (part m (rowL (L.take k))) L[k] hx HP.out.2.1 (by rw [part_len _ _ (by rw [← HP.out.1]; exact hp)]; exact hle) (by omega) (by omega)
          rw [HPT.out] at HLY
          generalize L[k] = y at hc hx HN HS hle HLY
          generalize sz y = Y at HN HS hle HLY
          have i1 : ((p : Int) + (Y : Int)) ≤ (m : Int) := by omega
          clear HPT
          go_wp2_with (first | (go_at_call 14; refine (HS _).mono ?_; rintro e w1 ⟨rfl, rfl⟩) | (go_at_call 22; refine HLY.mono ?_; rintro e w2 ⟨rfl, HQ⟩))
          go_roundw
          case rel => exact ⟨k + 1, p + Y, by omega, by go_num, by go_num, hle, HN.out, HQ.out.1, HP.out.2.2.trans (HQ.out.2.below HP.out.2.2.size (fun i e => by omega))⟩
          case measure => simp [intOf]; omega
        · obtain rfl : k = L.length := by omega
          go_wp2
          go_ret
          refine ⟨rfl, ?_, HP.out.2.2⟩
          have := HP.out.2.1
          rw [List.take_length] at this
          have e : part m (rowL L) = rowL L := by unfold part; rw [← HZE.out, Nat.sub_self]; simp
          rw [e] at this
          exact this
end Go.Proofs.Ythhoafhkdioboaa
