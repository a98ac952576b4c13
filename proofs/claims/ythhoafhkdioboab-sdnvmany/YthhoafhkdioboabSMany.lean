/- The walk of SdnvMany. -/
import Derived.Test.YthhoafhkdioboabSRows
import Derived.Test.YthhoafhkdioboabSWakes
namespace Go.Proofs.Ythhoafhkdioboab
open Go.RowKit
set_option linter.unusedVariables false

theorem own_some {w : World} {base g n c : Nat} {l : List Nat} (h : w.ownsRow base 5 1 (.slice (some ⟨g, 0, none⟩) n c) n (cells l)) (hb : ∀ x ∈ l, x < 256) (hm : l.length ≤ maxLen) : Row w (some ⟨g, 0, none⟩) l ∧ l.length = n ∧ n ≤ c := by
  obtain ⟨a, cap, e, h1, h2, h3⟩ := own_row h hb hm
  cases e
  exact ⟨h3, rfl, h1⟩
/-- what Rows tells of numbers in a row. -/
theorem rows_back {w : World} {base g n c m : Nat} {L B : List Nat} (h : w.ownsRow base 5 1 (.slice (some ⟨g, 0, none⟩) n c) n (cells (rowL L ++ B))) (hL : ∀ x ∈ L, x < 18446744073709551616) (hB : ∀ x ∈ B, x < 256) (hm : L.length = m) (h65 : m ≤ 65536) (hn : n ≤ 1000000000) (mi : Int) (hmi : mi = (m : Nat)) :
    Calls Try.prog 6 #[.slice (some ⟨g, 0, none⟩) n c, .int .i64 mi] w fun e w' => ∃ a c, e = .returned (.tuple #[.slice a m c, .int .i64 ((rowL L).length : Nat), .int .i64 0]) ∧ Hid (Row64 w' a L ∧ m ≤ c ∧ Below w.heap.size w w') := by
  subst hmi hm
  have hlen : (rowL L ++ B).length = n := by have := h.1; rw [cells_length] at this; omega
  obtain ⟨hr, h2, h3⟩ := own_some h (fun x hx => (List.mem_append.1 hx).elim (rowL_byte L x) (hB x)) (by unfold maxLen; omega)
  have h4 := rowsA_row L [] [] B hL
  simp only [List.length_nil, List.nil_append, Nat.zero_add] at h4
  have h5 := rows_some w g 0 c (rowL L ++ B) L.length hr (by omega) (by omega) h65
  rw [h4, hlen] at h5
  refine h5.mono ?_
  rintro e w' ⟨v, rfl, hq⟩
  obtain ⟨a, c2, rfl, h6, h7, h8⟩ := own64_row hq.out.1 hL (by show L.length ≤ _; unfold maxLen; omega)
  exact ⟨a, c2, rfl, h8, h6, hq.out.2⟩
set_option maxRecDepth 20000 in
set_option maxHeartbeats 2000000 in
theorem many_any (w : World) (a a1 : Option Addr) (c c1 : Nat) (l b : List Nat) (hr : Row64 w a l) (hz : l.length ≤ 140737488351232) (hcap : l.length ≤ c) (hr1 : Row w a1 b) (hz1 : b.length ≤ 140737488351232) (hcap1 : b.length ≤ c1) :
    Calls Try.prog 3 #[.slice a l.length c, .slice a1 b.length c1] w fun e w' => e = .returned (.bool true) ∧ Hid (Below w.heap.size w w') := by
  have HWK := wakes_any w
  obtain ⟨M, Mi, L, HR, HM, hMi, hMc, hML⟩ : ∃ (M : Nat) (Mi : Int) (L : List Nat), Hid (Row64 w a L) ∧ Hid (L.length = M) ∧ Hid (Mi = (M : Nat)) ∧ M ≤ c ∧ ((200 < l.length ∧ M = 200 ∧ Mi = 200) ∨ (¬ 200 < l.length ∧ M = l.length ∧ Mi = (l.length : Nat))) := by
    by_cases hbig : 200 < l.length
    · exact ⟨200, 200, l.take 200, row64_take hr 200, by show _ = _; rw [List.length_take]; omega, rfl, by omega, .inl ⟨hbig, rfl, rfl⟩⟩
    · exact ⟨l.length, _, l, hr, rfl, rfl, by omega, .inr ⟨hbig, rfl, rfl⟩⟩
  obtain ⟨N, B, HR1, HN, hNc, hNL⟩ : ∃ N B, Hid (Row w a1 B) ∧ Hid (B.length = N) ∧ N ≤ c1 ∧ ((50 < b.length ∧ N = 50) ∨ (¬ 50 < b.length ∧ N = b.length)) := by
    by_cases hbig : 50 < b.length
    · exact ⟨50, b.take 50, row_take hr1 50, by show _ = _; rw [List.length_take]; omega, by omega, .inl ⟨hbig, rfl⟩⟩
    · exact ⟨b.length, b, hr1, rfl, by omega, .inr ⟨hbig, rfl⟩⟩
  have hM2 : M ≤ 200 := by omega
  have hN2 : N ≤ 50 := by omega
  clear hr hr1
  obtain ⟨R, HRR, hRz⟩ : ∃ R, Hid (R = rowL L) ∧ R.length ≤ 2000 := ⟨_, rfl, by have := rowL_len L HR.out.1; have := HM.out; omega⟩
  have HRW : ∀ w1, Below w.heap.size w w1 → Calls Try.prog 5 #[.slice a M c] w1 fun e w' => e = .returned (.slice (some ⟨w1.heap.size, 0, none⟩) R.length R.length) ∧ Hid (Bs w' w1.heap.size R ∧ Below w1.heap.size w1 w') := fun w1 hb => by
    have := row_any w1 a c L (HR.out.later hb) (by have := HM.out; omega)
    rw [HM.out, ← HRR.out] at this
    exact this
  have HRS : ∀ w1 base g n c2, w1.ownsRow base 5 1 (.slice (some ⟨g, 0, none⟩) n c2) n (cells (R ++ B)) → n ≤ 2050 → Calls Try.prog 6 #[.slice (some ⟨g, 0, none⟩) n c2, .int .i64 Mi] w1 fun e w' => ∃ a c, e = .returned (.tuple #[.slice a M c, .int .i64 (R.length : Nat), .int .i64 0]) ∧ Hid (Row64 w' a L ∧ M ≤ c ∧ Below w1.heap.size w1 w') := fun w1 base g n c2 h hn => by
    rw [HRR.out] at h ⊢
    exact rows_back h HR.out.1 HR1.out.1 HM.out (by omega) (by omega) Mi hMi.out
  obtain ⟨Z, HZ⟩ : ∃ Z, Hid (R.length = Z) := ⟨_, rfl⟩
  rw [HZ.out] at HRW HRS hRz
  have hZN : ((Z : Int) != (Z : Int)) = false := by simp
  have hYY : ∀ y : Nat, ((y : Int) != (y : Int)) = false := fun y => by simp
  have HYY : Hid _ := hYY
  clear hYY
  have HJ3 : Hid (∀ j, j < L.length → (j : Int) < Mi ∧ j < M) := fun j hj => by have := HM.out; have := hMi.out; omega
  have HJ4 : Hid (∀ j, ¬ j < L.length → ¬ ((j : Int) < Mi) ∧ ¬ j < M) := fun j hj => by have := HM.out; have := hMi.out; omega
  rcases hML with ⟨hbig, rfl, rfl⟩ | ⟨hbig, rfl, rfl⟩
  all_goals
    rcases hNL with ⟨hbig1, rfl⟩ | ⟨hbig1, rfl⟩
    all_goals
      go_enter Try.func3, Try.ntmps3
      go_wp2_with (first | (go_at_call 4; refine HWK.mono ?_; rintro e w1 ⟨rfl, hb1⟩))
      go_region
      have HBD : Hid (Below w.heap.size w w1.drew) := hb1.out.drew
      generalize w1.drew = wd at HBD ⊢
      go_wp2_with (first | (go_at_call 5; refine (HRW _ HBD.out).mono ?_; rintro e w2 ⟨rfl, HQ⟩) | (at_builtin; (refine wpList_append_some rfl _ _ rfl w2.heap.size g3 c3 R Z _ rfl HO3.out _ _ B HN.out rfl (HR1.out.later (below_of (below_of HBD.out HQ.out.2) HX3.out)) (by omega) HX3.out.size ?_); intro g4 c4 w4 ho4 hg4 hc4; have HX4 : Hid (Below w2.heap.size w2 w4) := app_more HX3.out HO3.out hg4; clear hg4) | (at_builtin; (refine wpList_append_some rfl _ _ rfl w2.heap.size w2.heap.size 0 [] 0 Z rfl (made_none w2) _ _ R HZ.out rfl (HQ.out.1.later ((Below.refl _ _).alloc (Nat.le_refl _) _)).row (by omega) (by simp) ?_); intro g3 c3 w3 ho3 hg3 hc3; have HO3 : Hid (w3.ownsRow w2.heap.size 5 1 (.slice (some ⟨g3, 0, none⟩) Z c3) Z (cells R)) := (by show World.ownsRow _ _ _ _ _ _ _; simpa using ho3); have HX3 : Hid (Below w2.heap.size w2 w3) := app_below (made_none w2) hg3; clear ho3 hg3 hc3) | (go_at_call 6; refine (HRS _ _ _ _ _ ho4 (by omega)).mono ?_; rintro e w5 ⟨a5, c5, rfl, HQ5⟩))
      have HF : Hid (Below w.heap.size w w5 ∧ Row64 w5 a L ∧ Row64 w5 a5 L) := by
        have h1 := below_of (below_of (below_of HBD.out HQ.out.2) HX4.out) HQ5.out.2.2
        exact ⟨h1, HR.out.later h1, HQ5.out.1⟩
      clear HX3 HX4 HO3 ho4 HRW HRS HWK HQ HQ5 hc4 HBD
      go_loopw [53] (fun i wr => ∃ j : Nat, j ≤ L.length ∧ i = .int .i64 j ∧ Hid (Below w5.heap.size w5 wr)) (fun i _ => L.length - (intOf i).toNat)
      case atStart => exact ⟨0, by omega, rfl, Below.refl _ _⟩
      case round =>
        obtain ⟨j, hj, rfl, HD⟩ := hrel
        by_cases hlt : j < L.length
        · obtain ⟨i1, i2⟩ := HJ3.out j hlt
          obtain ⟨b0, o0, rfl, d1, hy⟩ := row64_at (HF.out.2.1.later HD.out) j hlt
          obtain ⟨b5, o5, rfl, d2, _⟩ := row64_at (HF.out.2.2.later HD.out) j hlt
          have hne := HYY.out L[j]
          generalize L[j] = y at d1 d2 hy hne
          go_wp2
          go_quiet (fail)
          go_wp2
          go_roundw
          case rel => exact ⟨j + 1, by omega, by go_num, below_drewN HD.out _⟩
          case measure => simp [intOf]; omega
        · obtain ⟨i1, i2⟩ := HJ4.out j hlt
          go_wp2
          go_ret
          exact ⟨rfl, below_of HF.out.1 HD.out⟩
end Go.Proofs.Ythhoafhkdioboab
