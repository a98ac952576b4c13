/- The walk of SdnvBack. -/
import Derived.Test.YthhoafhkdioboaaSOnce
namespace Go.Proofs.Ythhoafhkdioboaa
open Go.RowKit
set_option linter.unusedVariables false

theorem made_none (w : World) : (w.alloc (.cells #[] 5)).ownsRow w.heap.size 5 1 (.slice (some ⟨w.heap.size, 0, none⟩) 0 0) 0 (cells []) := World.ownsRow_made w #[] 0 (Nat.le_refl _) (Nat.zero_le _) rfl
/-- a number's bytes, and others behind them, in bytes of the call's own. -/
theorem gets_own {w : World} {base j : Nat} {v : Value} {n : Nat} {L : List Nat} (hn : n < 18446744073709551616) (h : w.ownsRow base 5 1 v j (cells (sd n ++ L))) (hb : ∀ x ∈ L, x < 256) (hz : (sd n ++ L).length ≤ 140737488351232) :
    Calls Try.prog 16 #[v] w fun e w' => e = .returned (.tuple #[.int .u64 (n : Nat), .int .i64 (sz n : Nat), .int .i64 0]) ∧ w = w' := by
  obtain ⟨a, c, rfl, _, _, hr⟩ := own_row h (fun x hx => (List.mem_append.1 hx).elim (sd_byte n x) (hb x)) (by unfold maxLen; omega)
  have := get_any w a c _ hr hz
  rw [get_sd n hn] at this
  exact this
theorem gets_cut {w : World} {g c n i : Nat} (hn : n < 18446744073709551616) (h : Bs w g (sd n)) (hi : i < sz n) :
    Calls Try.prog 16 #[.slice (some ⟨g, 0, none⟩) i c] w fun e w' => e = .returned (.tuple #[.int .u64 0, .int .i64 0, .int .i64 7]) ∧ w = w' := by
  have hz := sd_len n hn
  have hl : ((sd n).take i).length = i := by rw [List.length_take]; unfold sz at hi; omega
  have := get_any w _ c _ (row_take h.row i) (by omega)
  rw [get_take n i hn hi, hl] at this
  exact this
theorem app_below {w2 w3 : World} {X : Obj} {v0 v3 : Value} {n0 : Nat} {xs0 : List Value} (ho : (w2.alloc X).ownsRow w2.heap.size 5 1 v0 n0 xs0) (hg : Grew (w2.alloc X) w3 v0 v3) : Below w2.heap.size w2 w3 :=
  ((Below.refl _ w2).alloc (Nat.le_refl _) _).trans (hg.below ho (by simp))
theorem app_more {w2 w3 w4 : World} {v3 v4 : Value} {n3 : Nat} {xs3 : List Value} (h : Below w2.heap.size w2 w3) (ho : w3.ownsRow w2.heap.size 5 1 v3 n3 xs3) (hg : Grew w3 w4 v3 v4) : Below w2.heap.size w2 w4 :=
  h.trans (hg.below ho h.size)
set_option maxRecDepth 20000 in
set_option maxHeartbeats 1000000 in
theorem back_any (w : World) (n : Nat) (a : Option Addr) (c : Nat) (l : List Nat) (hn : n < 18446744073709551616) (hr : Row w a l) (hz : l.length ≤ 140737488351232) (hcap : l.length ≤ c) :
    Calls Try.prog 6 #[.int .u64 n, .slice a l.length c] w fun e w' => e = .returned (.bool true) ∧ Hid (Below w.heap.size w w') := by
  have HWK := wakes_any w
  obtain ⟨M, L, HR, HM, hMc, hML⟩ : ∃ M L, Hid (Row w a L) ∧ Hid (L.length = M) ∧ M ≤ c ∧ ((100 < l.length ∧ M = 100) ∨ (¬ 100 < l.length ∧ M = l.length)) := by
    by_cases hbig : 100 < l.length
    · exact ⟨100, l.take 100, row_take hr 100, by show _ = _; rw [List.length_take]; omega, by omega, .inl ⟨hbig, rfl⟩⟩
    · exact ⟨l.length, l, hr, rfl, by omega, .inr ⟨hbig, rfl⟩⟩
  have hM3 : M ≤ 100 := by omega
  have hsz := sd_len n hn
  have HP : ∀ w1, Calls Try.prog 12 #[.slice none 0 0, .int .u64 n] w1 fun e w' => e = .returned (.slice (some ⟨w1.heap.size, 0, none⟩) (sz n) (sz n)) ∧ Hid (Bs w' w1.heap.size (sd n) ∧ Below w1.heap.size w1 w') := fun w1 => by
    have := put_any w1 none 0 [] n (row_nil _ _) (by simp) hn
    simpa using this
  have HS := fun w1 => size_any w1 n hn
  have HC : ∀ w1 g c i, Bs w1 g (sd n) → i < sz n → Calls Try.prog 16 #[.slice (some ⟨g, 0, none⟩) i c] w1 fun e w' => e = .returned (.tuple #[.int .u64 0, .int .i64 0, .int .i64 7]) ∧ w1 = w' := fun w1 g c i h hi => gets_cut hn h hi
  have HG : ∀ w1 base j v, w1.ownsRow base 5 1 v j (cells (sd n ++ L)) → Calls Try.prog 16 #[v] w1 fun e w' => e = .returned (.tuple #[.int .u64 (n : Nat), .int .i64 (sz n : Nat), .int .i64 0]) ∧ w1 = w' := fun w1 base j v h => gets_own hn h HR.out.1 (by rw [List.length_append, HM.out]; unfold sz at hsz; omega)
  have HL : Hid ((sd n).length = sz n) := rfl
  clear hr hz
  generalize sz n = k at *
  have hN : ((n : Int) != (n : Int)) = false := by simp
  have hK : ((k : Int) != (k : Int)) = false := by simp
  rcases hML with ⟨hbig, rfl⟩ | ⟨hbig, rfl⟩
  all_goals
    go_enter Try.func6, Try.ntmps6
    go_wp2_with (first | (go_at_call 9; refine HWK.mono ?_; rintro e w1 ⟨rfl, hb1⟩) | (go_at_call 12; refine (HP _).mono ?_; rintro e w2 ⟨rfl, HQ⟩) | (at_builtin; (refine wpList_append_row_at rfl _ _ rfl w2.heap.size v3 (sd n) k _ rfl HO3.out _ _ L HM.out rfl (HR.out.later (below_of (below_of hb1.out HQ.out.2) HX3.out)) (.inl (by omega)) (by omega) HX3.out.size ?_); intro v4 w4 ho4 hg4; have HX4 : Hid (Below w2.heap.size w2 w4) := app_more HX3.out HO3.out hg4; clear hg4) | (at_builtin; (refine wpList_append_row_at rfl _ _ rfl w2.heap.size _ [] 0 k rfl (made_none w2) _ _ (sd n) HL.out rfl (HQ.out.1.later ((Below.refl _ _).alloc (Nat.le_refl _) _)).row (.inr (by omega)) (by omega) (by simp) ?_); intro v3 w3 ho3 hg3; have HO3 : Hid (w3.ownsRow w2.heap.size 5 1 v3 k (cells (sd n))) := (by show World.ownsRow _ _ _ _ _ _ _; simpa using ho3); have HX3 : Hid (Below w2.heap.size w2 w3) := app_below (made_none w2) hg3; clear ho3 hg3) | (go_at_call 16; refine (HG _ _ _ _ ho4).mono ?_; rintro e w5 ⟨rfl, rfl⟩) | (go_at_call 14; refine (HS _).mono ?_; rintro e w6 ⟨rfl, rfl⟩))
    have HB4 : Hid (Bs w4 w1.heap.size (sd n)) := HQ.out.1.later HX4.out
    have HF : Hid (Below w.heap.size w w4) := below_of (below_of hb1.out HQ.out.2) HX4.out
    clear HX3 HX4 HO3 ho4 HG HS HP HWK
    go_loop [61] (fun i => ∃ j : Nat, j ≤ k ∧ i = .int .i64 j) (fun i => k - (intOf i).toNat)
    case atStart => exact ⟨0, by omega, rfl⟩
    case round =>
      obtain ⟨j, hj, rfl⟩ := hrel
      by_cases hlt : j < k
      · have i1 : (0 : Int) ≤ (j : Int) := by omega
        have i2 : (j : Int) ≤ (k : Int) := by omega
        go_wp2_with (go_at_call 16; refine (HC w4 _ _ j HB4.out hlt).mono ?_; rintro e w5 ⟨rfl, rfl⟩)
        go_round
        case rel => exact ⟨j + 1, by omega, by go_num⟩
        case measure => simp [intOf]; omega
      · go_wp2
        go_ret
        exact ⟨rfl, HF.out⟩
end Go.Proofs.Ythhoafhkdioboaa
