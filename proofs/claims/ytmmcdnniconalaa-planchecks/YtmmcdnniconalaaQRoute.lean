/- The walks of right (of a search) and of Route. -/
import Derived.Test.YtmmcdnniconalaaQBegin
namespace Go.Proofs.Ytmmcdnniconalaa
open Go.RowKit
set_option linter.unusedVariables false
def nng (n : Int) : Bool := decide (0 ≤ n)
/-- may ways be asked for? -/
def okA (m : Nat) (L : List Int) (nn frm to now need : Int) : Bool := decide (L.length = m) && (decide (0 ≤ need) && (L.all nng && (decide (frm ≠ to) && (wi frm 1 nn && (wi to 1 nn && wi now 0 1048576)))))
theorem all_take {L : List Int} {k : Nat} {d : Int} (h : L[k]? = some d) (p : Int → Bool) : (L.take (k + 1)).all p = ((L.take k).all p && p d) := by
  obtain ⟨hl, rfl⟩ := List.getElem?_eq_some_iff.1 h
  rw [List.take_succ_eq_append_getElem hl, List.all_append]
  simp only [List.all_cons, List.all_nil, Bool.and_true]
theorem all_false {L : List Int} {k : Nat} {d : Int} (h : L[k]? = some d) {p : Int → Bool} (hp : p d = false) : L.all p = false := by
  rw [List.all_eq_false]
  exact ⟨d, List.mem_of_getElem? h, by simp [hp]⟩
set_option maxHeartbeats 2000000 in
theorem sright_any (nn to need frm now : Int) (ad la : Option Addr) (m k lm lk : Nat) (L : List Int) (w : World) (hl : L.length = lm) (hm : m ≤ maxLen) (hlm : lm ≤ maxLen) (hL : RowI (fun _ => False) w la L) :
    Calls Try.prog 16 #[sv nn ad m k la lm lk to need, .int .i64 frm, .int .i64 now] w fun e w' => e = .returned (.bool (okA m L nn frm to now need)) ∧ Below w.heap.size w w' := by
  unfold maxLen at hm hlm
  have hbw : ∀ X : Obj, Below w.heap.size w (w.alloc X) := fun X => (Below.refl _ w).alloc (Nat.le_refl _) _
  unfold sv sc
  obtain ⟨R, HR⟩ : ∃ R, Hid (okA m L nn frm to now need = R) := ⟨_, rfl⟩
  rw [HR.out]
  by_cases h1 : lm = m
  · by_cases h2 : 0 ≤ need
    · subst h1
      have HO : Hid (R = (L.all nng && (decide (frm ≠ to) && (wi frm 1 nn && (wi to 1 nn && wi now 0 1048576))))) := by
        show R = _
        rw [← HR.out]
        unfold okA
        rw [decide_eq_true hl, decide_eq_true h2]
        rfl
      go_enter Try.func16, Try.ntmps16
      go_wp2
      go_loop [25] (fun i => ∃ j : Nat, j ≤ lm ∧ i = .int .i64 j ∧ Hid ((L.take j).all nng = true)) (fun i => lm - (intOf i).toNat)
      case atStart => exact ⟨0, Nat.zero_le _, rfl, rfl⟩
      case round =>
        obtain ⟨j, hj, rfl, HT⟩ := hrel
        by_cases hlt : j < lm
        · obtain ⟨d, hd⟩ : ∃ d, L[j]? = some d := ⟨_, List.getElem?_eq_getElem (by omega)⟩
          obtain ⟨b, o, rfl, c0⟩ := (hL.later (hbw (.cells #[.int .i64 nn, .slice ad lm k, .slice la lm lk, .int .i64 to, .int .i64 need] 48))).at hd
          have HD : Hid (L[j]? = some d) := hd
          clear hd hbw hL
          by_cases hneg : d < 0
          · go_wp2
            go_ret
            exact ⟨ret_bool (by rw [HO.out, all_false HD.out (by simp [nng]; omega)]; rfl), (Below.refl _ w).alloc (Nat.le_refl _) _⟩
          · go_wp2
            go_round
            case rel => exact ⟨j + 1, by omega, by go_num, by show _ = true; rw [all_take HD.out, HT.out]; simp [nng]; omega⟩
            case measure => simp [intOf]; omega
        · have HA : Hid (L.all nng = true) := by have := HT.out; rw [List.take_of_length_le (by omega)] at this; exact this
          go_wp2_with (go_at_call 20; refine (within_any _ _ _ _).mono ?_; rintro e w' ⟨rfl, rfl⟩)
          all_goals
            go_ret
            exact ⟨ret_bool (by rw [HO.out, HA.out]; simp [*] <;> (intros; omega)), (Below.refl _ w).alloc (Nat.le_refl _) _⟩
    · have HO : Hid (R = false) := by
        show R = _
        rw [← HR.out]
        unfold okA
        rw [decide_eq_false h2]
        simp
      have h2' : need < 0 := by omega
      clear h2
      subst h1
      go_enter Try.func16, Try.ntmps16
      go_wp2
      go_ret
      exact ⟨ret_bool HO.out.symm, (Below.refl _ w).alloc (Nat.le_refl _) _⟩
  · have HO : Hid (R = false) := by
      show R = _
      rw [← HR.out]
      unfold okA
      rw [decide_eq_false (by omega)]
      rfl
    have h1' : ((lm : Int) == (m : Int)) = false := by simp; omega
    have h1'' : ((lm : Int) = (m : Int)) = False := by simp; omega
    clear h1
    go_enter Try.func16, Try.ntmps16
    go_wp2
    go_ret
    exact ⟨ret_bool HO.out.symm, (Below.refl _ w).alloc (Nat.le_refl _) _⟩

/-- what Route answers. -/
def rtR (nn : Int) (X : List Ct) (L : List Int) (frm to now need : Int) : Int × Int × Int :=
  if okP nn X = true then (if okA X.length L nn frm to now need = true then (if (bgnK X L frm to now need X.length).2 = nvr then (0, 0, 4) else ((bgnK X L frm to now need X.length).1, (bgnK X L frm to now need X.length).2, 0)) else (0, 0, 2)) else (0, 0, 230)
theorem rt_no {nn : Int} {X : List Ct} {L : List Int} {frm to now need : Int} (h : okP nn X = false) : rtR nn X L frm to now need = (0, 0, 230) := by unfold rtR; rw [if_neg (by simp [h])]
theorem rt_arg {nn : Int} {X : List Ct} {L : List Int} {frm to now need : Int} (h : okP nn X = true) (ha : okA X.length L nn frm to now need = false) : rtR nn X L frm to now need = (0, 0, 2) := by unfold rtR; rw [if_pos h, if_neg (by simp [ha])]
theorem rt_none {nn : Int} {X : List Ct} {L : List Int} {frm to now need : Int} (h : okP nn X = true) (ha : okA X.length L nn frm to now need = true) (hb : (bgnK X L frm to now need X.length).2 = nvr) : rtR nn X L frm to now need = (0, 0, 4) := by unfold rtR; rw [if_pos h, if_pos ha, if_pos hb]
theorem rt_yes {nn : Int} {X : List Ct} {L : List Int} {frm to now need : Int} (h : okP nn X = true) (ha : okA X.length L nn frm to now need = true) (hb : (bgnK X L frm to now need X.length).2 ≠ nvr) : rtR nn X L frm to now need = ((bgnK X L frm to now need X.length).1, (bgnK X L frm to now need X.length).2, 0) := by unfold rtR; rw [if_pos h, if_pos ha, if_neg hb]
theorem okA_of {m : Nat} {L : List Int} {nn frm to now need : Int} (h : okA m L nn frm to now need = true) : L.length = m ∧ 0 ≤ need ∧ frm ≠ to ∧ 1 ≤ frm ∧ frm ≤ nn ∧ 1 ≤ to ∧ to ≤ nn ∧ 0 ≤ now ∧ now ≤ 1048576 := by
  simp only [okA, wi, Bool.and_eq_true, decide_eq_true_eq] at h
  obtain ⟨a1, a2, _, a4, ⟨a5, a6⟩, ⟨a7, a8⟩, a9, b1⟩ := h
  exact ⟨a1, a2, a4, a5, a6, a7, a8, a9, b1⟩
theorem ret3 {a b c a' b' c' : Int} (h : (a, b, c) = (a', b', c')) : Ending.returned (.tuple #[.int .i64 a, .int .i64 b, .int .i64 c]) = .returned (.tuple #[.int .i64 a', .int .i64 b', .int .i64 c']) := by cases h; rfl
set_option maxHeartbeats 2000000 in
theorem route_any (nn frm to now need : Int) (ad la : Option Addr) (m k lm lk : Nat) (X : List Ct) (L : List Int) (w : World) (hm : X.length = m) (hmk : m ≤ k) (hk : k ≤ maxLen) (hl : L.length = lm) (hlm : lm ≤ maxLen) (hX : CtAt (fun _ => False) w ad X) (hL : RowI (fun _ => False) w la L) :
    Calls Try.prog 6 #[pv nn ad m k, .slice la lm lk, .int .i64 frm, .int .i64 to, .int .i64 now, .int .i64 need] w fun e w' => e = .returned (.tuple #[.int .i64 (rtR nn X L frm to now need).1, .int .i64 (rtR nn X L frm to now need).2.1, .int .i64 (rtR nn X L frm to now need).2.2]) ∧ Hid (Below w.heap.size w w') := by
  obtain ⟨R, HR⟩ : ∃ R, Hid (rtR nn X L frm to now need = R) := ⟨_, rfl⟩
  rw [HR.out]
  have hbw : ∀ X : Obj, Below w.heap.size w (w.alloc X) := fun X => (Below.refl _ w).alloc (Nat.le_refl _) _
  have HC : Hid (∀ Y : Obj, Calls Try.prog 12 #[pv nn ad m k] (w.alloc Y) fun e w' => e = .returned (.int .i64 (chk nn X)) ∧ Below (w.alloc Y).heap.size (w.alloc Y) w') := fun Y => check_any nn ad m k X (w.alloc Y) hm hmk hk (hX.later (hbw Y))
  unfold pv at HC ⊢
  by_cases h1 : okP nn X = true
  · have hchk : chk nn X = 0 := by unfold chk; rw [if_pos h1]
    rw [hchk] at HC
    have HS : Hid (∀ W, Below w.heap.size w W → Calls Try.prog 16 #[sv nn ad m k la lm lk to need, .int .i64 frm, .int .i64 now] W fun e w' => e = .returned (.bool (okA m L nn frm to now need)) ∧ Below W.heap.size W w') := fun W hb => sright_any nn to need frm now ad la m k lm lk L W hl (by omega) hlm (hL.later hb)
    by_cases h2 : okA m L nn frm to now need = true
    · obtain ⟨a1, a2, a3, a4, a5, a6, a7, a8, a9⟩ := okA_of h2
      have HB : Hid (∀ W, Below w.heap.size w W → Calls Try.prog 17 #[sv nn ad m k la lm lk to need, .int .i64 frm, .int .i64 now] W fun e w' => e = .returned (.tuple #[.int .i64 (bgnK X L frm to now need m).1, .int .i64 (bgnK X L frm to now need m).2]) ∧ Hid (Below W.heap.size W w')) := fun W hb => by
        have e : lm = m := by omega
        subst e
        exact begin_any W nn to need frm now ad la lm k lk X L (okP_of h1) hm hl a6 a7 a8 (hX.later hb) (hL.later hb)
      have HV : Hid (((bgnK X L frm to now need m).2 = nvr → R = (0, 0, 4)) ∧ ((bgnK X L frm to now need m).2 ≠ nvr → R = ((bgnK X L frm to now need m).1, (bgnK X L frm to now need m).2, 0))) := by
        subst hm
        exact ⟨fun e => by rw [← HR.out]; exact rt_none h1 h2 e, fun e => by rw [← HR.out]; exact rt_yes h1 h2 e⟩
      rw [h2] at HS
      unfold sv sc at HS HB
      generalize bgnK X L frm to now need m = B at HB HV
      clear h1 h2 hchk hX hL a1 a2 a3 a4 a5 a6 a7 a8 a9
      have hne : (B.2 == 9223372036854775807) = true ∨ (B.2 == 9223372036854775807) = false := by cases (B.2 == 9223372036854775807) <;> simp
      rcases hne with hne | hne
      all_goals
        go_enter Try.func6, Try.ntmps6
        go_wp2_with (first | (go_at_call 12; refine (HC.out _).mono ?_; rintro e w1 ⟨rfl, hb1⟩; have HB1 : Hid (Below w.heap.size w w1) := below_of (hbw _) hb1; have q0 := old_block hb1 (heap_alloc_new w _); have q1 := cell_of q0 0; have q2 := cell_of q0 1; simp only [List.getElem?_toArray, List.getElem?_cons_zero, List.getElem?_cons_succ] at q1 q2; clear q0 hb1) | (have gd := HB1; go_at_call 16; refine (HS.out _ (below_of HB1.out ((Below.refl _ w1).alloc (Nat.le_refl _) _))).mono ?_; rintro e w2 ⟨rfl, hb2⟩; have HB2 : Hid (Below w.heap.size w w2) := below_of (below_of HB1.out ((Below.refl _ w1).alloc (Nat.le_refl _) _)) hb2; have r0 := old_block hb2 (heap_alloc_new w1 _); have r1 := cell_of r0 0; have r2 := cell_of r0 1; have r3 := cell_of r0 2; have r4 := cell_of r0 3; have r5 := cell_of r0 4; simp only [List.getElem?_toArray, List.getElem?_cons_zero, List.getElem?_cons_succ] at r1 r2 r3 r4 r5; clear r0 hb2) | (have gd := HB2; go_at_call 17; refine (HB.out _ HB2.out).mono ?_; rintro e w3 ⟨rfl, HB3⟩))
        go_ret3
        first
          | exact ⟨ret3 ((HV.out.1 (by simpa [nvr] using hne)).symm), below_of HB2.out HB3.out⟩
          | exact ⟨ret3 ((HV.out.2 (by simpa [nvr] using hne)).symm), below_of HB2.out HB3.out⟩
    · have h2' : okA m L nn frm to now need = false := by simpa using h2
      have HV : Hid (R = (0, 0, 2)) := by subst hm; show R = _; rw [← HR.out]; exact rt_arg h1 h2'
      rw [h2'] at HS
      unfold sv sc at HS
      clear h1 h2 hchk hX hL h2'
      go_enter Try.func6, Try.ntmps6
      go_wp2_with (first | (go_at_call 12; refine (HC.out _).mono ?_; rintro e w1 ⟨rfl, hb1⟩; have HB1 : Hid (Below w.heap.size w w1) := below_of (hbw _) hb1; have q0 := old_block hb1 (heap_alloc_new w _); have q1 := cell_of q0 0; have q2 := cell_of q0 1; simp only [List.getElem?_toArray, List.getElem?_cons_zero, List.getElem?_cons_succ] at q1 q2; clear q0 hb1) | (have gd := HB1; go_at_call 16; refine (HS.out _ (below_of HB1.out ((Below.refl _ w1).alloc (Nat.le_refl _) _))).mono ?_; rintro e w2 ⟨rfl, hb2⟩; have HB2 : Hid (Below w.heap.size w w2) := below_of (below_of HB1.out ((Below.refl _ w1).alloc (Nat.le_refl _) _)) hb2; clear hb2))
      go_ret3
      exact ⟨ret3 HV.out.symm, HB2.out⟩
  · have h1' : okP nn X = false := by simpa using h1
    have hchk : chk nn X = 230 := by unfold chk; rw [if_neg h1]
    rw [hchk] at HC
    have HV : Hid (R = (0, 0, 230)) := by show R = _; rw [← HR.out]; exact rt_no h1'
    clear h1 h1' hchk hX hL
    go_enter Try.func6, Try.ntmps6
    go_wp2_with (go_at_call 12; refine (HC.out _).mono ?_; rintro e w1 ⟨rfl, hb1⟩)
    go_ret3
    exact ⟨ret3 HV.out.symm, below_of (hbw _) hb1⟩
end Go.Proofs.Ytmmcdnniconalaa
