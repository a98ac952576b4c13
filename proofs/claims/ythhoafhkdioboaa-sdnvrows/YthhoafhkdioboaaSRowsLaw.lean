/- The walk of SdnvRows. -/
import Derived.Test.YthhoafhkdioboaaSRRows
import Derived.Test.YthhoafhkdioboaaHRows
import Derived.Laws.OwnMore
namespace Go.Proofs.Ythhoafhkdioboaa
open Go.RowKit
set_option linter.unusedVariables false

theorem row_left' {w : World} {a : Option Addr} {L m : List Nat} (h : Row w a (L ++ m)) : Row w a L := by have := row_take h L.length; rw [List.take_left] at this; exact this
theorem cells64_set (X : List Nat) (j : Nat) : (cells64 X).set j (.int .u64 ((9 : Nat) : Int)) = cells64 (X.set j 9) := by unfold cells64; rw [List.map_set]
/-- the numbers that were told, those up to j written over. -/
structure Nx (w5 wq : World) (base q m cp j : Nat) (C X : List Nat) : Prop where
  own : wq.ownsRow base 26 1 (.slice (some ⟨q, 0, none⟩) m cp) m (cells64 X)
  len : X.length = m
  rest : X.drop j = C.drop j
  off : Off (fun k => k = q) w5 wq
theorem Nx.cell {w5 wq : World} {base q m cp j : Nat} {C X : List Nat} (h : Nx w5 wq base q m cp j C X) (hj : j < C.length) (hC : C.length = m) : wq.cell? ⟨q, j, none⟩ = some (.int .u64 (C[j] : Nat)) ∧ wq.frozen? ⟨q, j, none⟩ = false := by
  refine ⟨?_, World.ownsRow.frozenAt h.own j⟩
  rw [World.ownsRow.cellAt h.own j (by omega)]
  have h1 := h.len
  unfold cells64
  rw [List.getElem?_map, List.getElem?_eq_getElem (by omega)]
  have h2 := congrArg (fun l => l[0]?) h.rest
  simp only [List.getElem?_drop, Nat.add_zero] at h2
  rw [List.getElem?_eq_getElem (by omega), List.getElem?_eq_getElem hj] at h2
  rw [Option.some.inj h2]
  rfl
theorem Nx.step {w5 wq : World} {base q m cp j : Nat} {C X : List Nat} (h : Nx w5 wq base q m cp j C X) (n : Nat) : Nx w5 ((wq.drewN n).setCell ⟨q, j, none⟩ (.int .u64 9)) base q m cp (j + 1) C (X.set j 9) := by
  have ho : Off (fun _ => False) wq (wq.drewN n) := Off.of_below (below_drewN (Below.refl _ _) n)
  have h2 := World.ownsRow.stored (ho.owns h.own (fun _ _ => id)) j (.int .u64 ((9 : Nat) : Int))
  rw [cells64_set] at h2
  refine ⟨h2.1, by rw [List.length_set]; exact h.len, ?_, ?_⟩
  · rw [List.drop_set_of_lt (by omega)]
    have := congrArg (fun l => l.drop 1) h.rest
    simpa [List.drop_drop] using this
  · exact (h.off.trans ho (fun _ _ h => h.elim)).setCell (p := ⟨q, j, none⟩) (.inr rfl) _

theorem Row64.off {w w' : World} {S : Nat → Prop} {a : Option Addr} {l : List Nat} (h : Row64 w a l) (ho : Off S w w') (hS : ∀ k, k < w.heap.size → ¬ S k) : Row64 w' a l := by
  obtain ⟨h1, h2, h3⟩ := h
  refine ⟨h1, h2, fun h0 => ?_⟩
  obtain ⟨b, off, rfl, hc⟩ := h3 h0
  refine ⟨b, off, rfl, fun i hi => ho.cell (hc i hi) (hS b ?_)⟩
  have h4 := hc i hi
  rcases Nat.lt_or_ge b w.heap.size with hlt | hge
  · exact hlt
  · rw [World.cell?, Array.getElem?_eq_none hge] at h4; cases h4
set_option maxRecDepth 20000 in
set_option maxHeartbeats 2000000 in
theorem rowslaw_any (w : World) (a : Option Addr) (c : Nat) (b : List Nat) (n : Int) (hr : Row w a b) (hz : b.length ≤ 140737488351232) (hcap : b.length ≤ c) :
    Calls Try.prog 5 #[.slice a b.length c, .int .i64 n] w fun e w' => e = .returned (.bool true) ∧ Hid (Below w.heap.size w w') := by
  have HWK := wakes_any w
  obtain ⟨M, L, HR, HM, hMc, hM3, hML⟩ : ∃ M L, Hid (Row w a L) ∧ Hid (L.length = M) ∧ M ≤ c ∧ M ≤ 70000 ∧ ((70000 < b.length ∧ M = 70000) ∨ (¬ 70000 < b.length ∧ M = b.length)) := by
    by_cases hbig : 70000 < b.length
    · exact ⟨70000, b.take 70000, row_take hr 70000, by show _ = _; rw [List.length_take]; omega, by omega, by omega, .inl ⟨hbig, rfl⟩⟩
    · exact ⟨b.length, b, hr, rfl, by omega, by omega, .inr ⟨hbig, rfl⟩⟩
  clear hr
  have HOW : Hid (∀ w1, Below w.heap.size w w1 → Calls Try.prog 10 #[.slice a M c] w1 fun e w' => ∃ g cap, e = .returned (.slice (some ⟨g, 0, none⟩) M cap) ∧ Hid (Own w1 w' g cap L)) := fun w1 h => by
    have := own_any w1 a c L (HR.out.later h) (by have := HM.out; omega)
    rw [HM.out] at this
    exact this
  have HCAP : Hid (∀ w1 w2 g cap, Own w1 w2 g cap L → M ≤ cap) := fun w1 w2 g cap h => by have := h.cap; have := HM.out; omega
  have HEB : Hid (∀ w1 g cap, Row w1 (some ⟨g, 0, none⟩) L → Row w1 a L → Calls Try.prog 13 #[.slice (some ⟨g, 0, none⟩) M cap, .slice a M c] w1 fun e w' => e = .returned (.bool true) ∧ w' = w1) := fun w1 g cap h1 h2 => by
    have := bytesEqual_any (some ⟨g, 0, none⟩) a cap c L L w1 h1 h2
    rw [HM.out] at this
    simpa using this
  have HRF : Hid (∀ w1, Row w1 a L → Calls Try.prog 18 #[.slice a M c, .int .i64 n] w1 fun e w' => RowsR w1 (rowsN n L) e w') := fun w1 h => rrows_all w1 a c L n M HM.out h (by omega) hMc
  have HRG : Hid (∀ w1 g cap, Row w1 (some ⟨g, 0, none⟩) L → M ≤ cap → Calls Try.prog 19 #[.slice (some ⟨g, 0, none⟩) M cap, .int .i64 n] w1 fun e w' => RowsR w1 (rowsN n L) e w') := fun w1 g cap h hc => rows_all w1 g cap L n M HM.out h (by omega) hc
  obtain ⟨C, y, E, HC⟩ : ∃ C y E, Hid (rowsN n L = (C, y, E)) := ⟨_, _, _, rfl⟩
  have HBD : Hid ((∀ x ∈ C, x < 18446744073709551616) ∧ C.length ≤ 65536 ∧ y ≤ M) := by
    show _ ∧ _ ∧ _
    have hc := HC.out
    unfold rowsN at hc
    by_cases hn : n < 0 ∨ 65536 < n
    · rw [if_pos hn] at hc
      cases hc
      exact ⟨by simp, by simp, by simp⟩
    · rw [if_neg hn] at hc
      have := rowsA_bound n.toNat [] 0 L HR.out.1 (by simp) (by omega)
      rw [hc, HM.out] at this
      exact ⟨this.1, by have := this.2.1; simp at this; omega, this.2.2⟩
  rw [HC.out] at HRF HRG
  obtain ⟨m, HCL⟩ : ∃ m, Hid (C.length = m) := ⟨_, rfl⟩
  have hm : m ≤ 65536 := by have := HBD.out.2.1; have := HCL.out; omega
  have hyy : ((y : Int) != (y : Int)) = false := by simp
  have hEE : (E != E) = false := by simp
  have hmm : ((m : Int) != (m : Int)) = false := by simp
  have hy : y ≤ M := HBD.out.2.2
  have HNE : Hid (∀ x : Nat, ((x : Int) != (x : Int)) = false) := fun x => by simp
  have HRF2 : Hid (∀ w1, Row w1 a L → Calls Try.prog 18 #[.slice a M c, .int .i64 n] w1 fun e w' => ∃ A cA, e = .returned (.tuple #[.slice A m cA, .int .i64 (y : Nat), .int .i64 E]) ∧ Hid (Row64 w' A C ∧ m ≤ cA ∧ Below w1.heap.size w1 w')) := fun w1 h => (HRF.out w1 h).mono fun e w' ⟨v, he, hq⟩ => by
    obtain ⟨A, cA, rfl, h1, h2, h3⟩ := own64_row hq.out.1 HBD.out.1 (by show C.length ≤ _; unfold maxLen; have := HBD.out.2.1; omega)
    rw [HCL.out] at he h1
    exact ⟨A, cA, he, h3, h1, hq.out.2⟩
  have HRG2 : Hid (∀ w1 g cap, Row w1 (some ⟨g, 0, none⟩) L → M ≤ cap → Calls Try.prog 19 #[.slice (some ⟨g, 0, none⟩) M cap, .int .i64 n] w1 fun e w' => ∃ A cA, e = .returned (.tuple #[.slice A m cA, .int .i64 (y : Nat), .int .i64 E]) ∧ Hid (w'.ownsRow w1.heap.size 26 1 (.slice A m cA) m (cells64 C) ∧ Below w1.heap.size w1 w')) := fun w1 g cap h hc => (HRG.out w1 g cap h hc).mono fun e w' ⟨v, he, hq⟩ => by
    obtain ⟨A, cA, rfl, h1, h2, h3⟩ := own64_row hq.out.1 HBD.out.1 (by show C.length ≤ _; unfold maxLen; have := HBD.out.2.1; omega)
    have hq1 := hq.out.1
    simp only at hq1
    rw [HCL.out] at he hq1
    exact ⟨A, cA, he, hq1, hq.out.2⟩
  clear HRF HRG
  rcases hML with ⟨hbig, rfl⟩ | ⟨hbig, rfl⟩
  all_goals
    go_enter Try.func5, Try.ntmps5
    go_wp2_with (first
      | (go_at_call 9; refine HWK.mono ?_; rintro e w1 ⟨rfl, hb1⟩)
      | (go_at_call 10; refine (HOW.out _ hb1.out).mono ?_; rintro e w2 ⟨g, cap, rfl, HO⟩; have hcp := HCAP.out _ _ _ _ HO.out; have HB2 : Hid (Below w.heap.size w w2) := below_of hb1.out HO.out.below; have HRA : Hid (Row w2 a L) := HR.out.later HB2.out; have HRC : Hid (Row w2 (some ⟨g, 0, none⟩) L) := row_left' HO.out.row)
      | (go_at_call 18; refine (HRF2.out _ HRA.out).mono ?_; rintro e w3 ⟨A1, c1, rfl, HW⟩))
    clear HOW HCAP HWK HRF2 hb1
    go_loopw [9] (fun u wr => ∃ r : Nat, r ≤ 2 ∧ u = .int .i64 r ∧ Hid (Below w3.heap.size w3 wr)) (fun u _ => 2 - (intOf u).toNat)
    case atStart => exact ⟨0, by omega, rfl, Below.refl _ _⟩
    case round =>
      obtain ⟨r, hr, rfl, HD⟩ := hrel
      by_cases hr2 : r < 2
      · have HBW : Hid (Below w2.heap.size w2 wr) := below_of HW.out.2.2 HD.out
        have HCL' := HRG2.out wr g cap (HRC.out.later HBW.out) hcp
        have HEQ : ∀ w5, Below wr.heap.size wr w5 → _ := fun w5 hb => HEB.out w5 g cap ((HRC.out.later HBW.out).later hb) ((HRA.out.later HBW.out).later hb)
        go_wp2_with (first
          | (go_at_call 19; refine HCL'.mono ?_; rintro e w5 ⟨A2, c2, rfl, HQ⟩)
          | (go_at_call 13; refine (HEQ _ HQ.out.2).mono ?_; rintro e w6 ⟨rfl, rfl⟩))
        rcases Nat.eq_zero_or_pos m with rfl | hm0
        · go_loop [64] (fun i => i = .int .i64 0) (fun _ => 0)
          case atStart => rfl
          case round =>
            obtain rfl := hrel
            go_wp2
            go_roundw
            case rel => exact ⟨r + 1, by omega, by go_num, below_of HD.out HQ.out.2⟩
            case measure => simp [intOf]; omega
        · obtain ⟨q, cp, e2, _, _⟩ := HQ.out.1.form hm0
          cases e2
          have hq := own_ge HQ.out.1 q rfl
          have HWQ : Hid (∀ wq, Off (fun k => k = q) w6 wq → Row64 wq A1 C ∧ Below w3.heap.size w3 wq) := fun wq ho => by
            have h1 : Off (fun k => k = q) wr wq := (Off.of_below (S := fun k => k = q) HQ.out.2).trans ho (fun _ _ h => h)
            refine ⟨(HW.out.1.later HD.out).off h1 (fun k hk e => by omega), HD.out.trans (h1.below HD.out.size (fun i e => by have := HD.out.size; omega))⟩
          have HN0 : Hid (∃ base, Nx w6 w6 base q m c2 0 C C) := ⟨_, HQ.out.1, HCL.out, rfl, Off.refl _ _⟩
          clear HQ HEQ HCL' HBW hq
          go_loopw [64] (fun i wq => ∃ (j : Nat) (X : List Nat), j ≤ m ∧ i = .int .i64 j ∧ Hid (∃ base, Nx w6 wq base q m c2 j C X)) (fun i _ => m - (intOf i).toNat)
          case atStart => exact ⟨0, C, by omega, rfl, HN0.out⟩
          case round =>
            obtain ⟨j, X, hj, rfl, HX⟩ := hrel
            obtain ⟨base, hX⟩ := HX.out
            have HX' : Hid (Nx w6 wr base q m c2 j C X) := hX
            clear hX HX
            by_cases hjm : j < m
            · have hjC : j < C.length := by rw [HCL.out]; exact hjm
              obtain ⟨d1, f1⟩ := HX'.out.cell hjC HCL.out
              obtain ⟨b1, o1, rfl, d2, _⟩ := row64_at (HWQ.out _ HX'.out.off).1 j hjC
              have hne := HNE.out C[j]
              have HST : Hid (∀ n, Nx w6 ((wr.drewN n).setCell ⟨q, j, none⟩ (.int .u64 9)) base q m c2 (j + 1) C (X.set j 9)) := fun n => HX'.out.step n
              generalize C[j] = z at d1 d2 hne
              go_wp2
              go_quiet (fail)
              go_wp2
              go_roundw
              case rel => exact ⟨j + 1, X.set j 9, by omega, by go_num, base, HST.out _⟩
              case measure => simp [intOf]; omega
            · go_wp2
              go_roundw
              case rel => exact ⟨r + 1, by omega, by go_num, (HWQ.out _ HX'.out.off).2⟩
              case measure => simp [intOf]; omega
      · go_wp2
        go_ret
        exact ⟨rfl, below_of (below_of HB2.out HW.out.2.2) HD.out⟩
end Go.Proofs.Ythhoafhkdioboaa
