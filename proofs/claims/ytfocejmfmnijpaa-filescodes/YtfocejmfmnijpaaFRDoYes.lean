/- The reference's own Do: put and drop. -/
import Derived.Test.YtfocejmfmnijpaaFRDoNo
namespace Go.Proofs.Ytfocejmfmnijpaa
open Go.RowKit

section
variable (w : World) (a : Option Addr) (c : Nat) (L : List Fil) (o : OpS) (ab : Option Addr) (cb : Nat)

/-- a result is stored into the block of out. -/
theorem do_stored {w w2 : World} {a a' : Option Addr} {c : Nat} {L M : List Fil} {o : OpS} {ab : Option Addr} {cb q : Nat} {x : Option Addr} {xn xc : Nat} (hD : DoW w a c L o ab cb w2) (hq : w.heap.size + 1 + 1 < q) (kq : w2.heap[q]? = some (.cells #[.slice x xn xc] 24 (0, 0))) (hl : ListAt w2 a' M) (u : Value) :
    DoW w a c L o ab cb (w2.setCell ⟨q, 0, none⟩ u) ∧ (w2.setCell ⟨q, 0, none⟩ u).cell? ⟨q, 0, none⟩ = some u ∧ ListAt (w2.setCell ⟨q, 0, none⟩ u) a' M ∧ q < (w2.setCell ⟨q, 0, none⟩ u).heap.size :=
  ⟨hD.set hq u, by rw [cell_of (heap_setCell_same w2 _ 0 _ _ u kq)]; rfl, list_put hl kq u, by simp [World.setCell]; exact (Array.getElem?_eq_some_iff.1 kq).1⟩
/-- too much, or done. -/
def capE (M : List Fil) : Except Int (List Fil) := if overB M then .error 6 else .ok M
theorem cap_over {M : List Fil} (h : overB M = true) : capE M = .error 6 := by unfold capE; rw [h]; rfl
theorem cap_fits {M : List Fil} (h : overB M = false) : capE M = .ok M := by unfold capE; rw [h]; rfl
/-- the end, behind Cost. -/
theorem do_done_end {w w3 w4 : World} {a a' : Option Addr} {c : Nat} {L M : List Fil} {o : OpS} {ab : Option Addr} {cb : Nat} (hD : DoW w a c L o ab cb w3) (hl : ListAt w3 a' M) (hb : Below w3.heap.size w3 w4) (u : Value) : ListAt (w4.setCell ⟨w.heap.size + 1 + 1, 0, none⟩ u) a' M ∧ Below w.heap.size w (w4.setCell ⟨w.heap.size + 1 + 1, 0, none⟩ u) :=
  ⟨list_put (hl.later hb) (hD.later hb).res u, ((hD.later hb).put u).2⟩
set_option maxRecDepth 100000 in
set_option maxHeartbeats 8000000 in
theorem rdo_put (hL : ListAt w a L) (hk : o.kind = 1) (hs : o.name.size ≤ 140737488351232) (hn : nameB o.name = true) (tb : Bool) (hth : thereB L o.name = tb) (hlong : o.bytes.length ≤ 4096) (hrow : Row w ab o.bytes) (hcb : o.bytes.length ≤ cb) (hcm : cb ≤ maxLen) (h500 : L.length ≤ 400) (hcost : costS (withL L o.name o.bytes) ≤ 4611686018427387904) :
    Calls Try.prog 31 #[.agg #[.slice a L.length c], opv o ab cb] w fun e w' => RDo w a c L (capE (withL L o.name o.bytes)) e w' := by
  have HW : Hid (∀ w1, Below _ _ w1 → DoW w a c L o ab cb w1) := fun w1 hb => (doW_start w a c L o ab cb).later hb
  have HL : Hid (ListAt w a L) := hL
  have HST : Hid (ListAt _ a L) := hL.later (doW_start w a c L o ab cb).below
  have HPL := rplace_any _ a c L HST.out o.name
  rw [hth] at HPL
  obtain ⟨k, n, m, t, b⟩ := o
  simp only [opv] at *
  subst hk
  have H1 : Hid (∀ w, Calls Try.prog 29 #[.string n] w fun e w' => e = .returned (.bool true) ∧ w' = w) := fun w => by have := rname_any n w hs; rw [hn] at this; exact this
  have hl2 : (b.length : Int) ≤ 4096 := by omega
  have HROW : Hid (Row w ab b) := hrow
  clear hrow
  generalize atS L n = p at *
  go_enter Try.func31, Try.ntmps31
  go_wp2_with fail
  refine (H1.out _).mono ?_
  rintro e w0 ⟨rfl, rfl⟩
  go_wp2_with fail
  refine HPL.mono ?_
  rintro e w1 ⟨rfl, hq⟩
  have HD : Hid (DoW w a c L ⟨1, n, m, t, b⟩ ab cb w1) := HW.out w1 hq
  obtain ⟨d0, d1, d2, d3, d4, d5, d6, d7, d8⟩ := HD.out.reads
  clear hq HPL HW H1 HST
  have HD2 : Hid (DoW w a c L ⟨1, n, m, t, b⟩ ab cb (w1.alloc (.cells #[.slice a L.length c] 24))) := HD.out.later ((Below.refl _ w1).alloc (Nat.le_refl _) _)
  have HE := fun u A => cell_later ((Below.refl _ _).alloc (Nat.le_refl _) A) (HD.out.put u).1
  obtain ⟨q0, q1, q2, q3, q4, q5, q6, q7, q8⟩ := HD2.out.reads
  have HB : Hid (∀ u A, Below w.heap.size w ((w1.setCell ⟨w.heap.size + 1 + 1, 0, none⟩ u).alloc A)) := fun u A => (HD.out.put u).2.alloc (HD.out.put u).2.size A
  have HWT := with_any (w1.alloc (.cells #[.slice a L.length c] 24)) a ab c cb L n b (HL.out.later HD2.out.below) hs (HROW.out.later HD2.out.below) hcb hcm (by omega)
  go_upto_region 11 with (go_at_call 59; refine HWT.mono ?_; rintro e w2 ⟨a', c', rfl, hq2⟩; have kq : w2.heap[w1.heap.size]? = some (.cells #[.slice a L.length c] 24 (0, 0)) := old_block hq2.out.2.2.2 (heap_alloc_new w1 _); have s1 := cell_of kq 0; simp only [List.getElem?_toArray, List.getElem?_cons_zero] at s1; have s2 := frozen_of kq 0)
  obtain ⟨w3, hw3⟩ : ∃ w3, w3 = w2.setCell ⟨w1.heap.size, 0, none⟩ (.slice a' (withL L n b).length c') := ⟨_, rfl⟩
  rw [← hw3]
  obtain ⟨t1, s3, t3, t4⟩ := do_stored (HD2.out.later hq2.out.2.2.2) d8 kq hq2.out.1 (.slice a' (withL L n b).length c')
  rw [← hw3] at t1 s3 t3 t4
  have HD3 : Hid _ := t1
  have HL3 : Hid _ := t3
  clear t1 t3 hw3 hq2 kq s1 s2 HE HB q0 q1 q2 q3 q4 q5 q6 q7 q8 d0 d1 d2 d3 d4 d5 d6 d7
  obtain ⟨M, hM⟩ : ∃ M, M = withL L n b := ⟨_, rfl⟩
  rw [← hM] at s3 HL3 hcost
  try rw [← hM]
  have HM : Hid (capE (withL L n b) = capE M) := by show _ = _; rw [hM]
  clear hM
  obtain ⟨r0, r1, r2, r3, r4, r5, r6, r7, r8⟩ := HD3.out.reads
  by_cases h64 : M.length ≤ 64
  · have HC := rcost_any w3 a' c' M HL3.out hcost
    by_cases hco : costS M ≤ 32768
    · have HO : Hid (capE M = .ok M) := cap_fits (decide_eq_false (by omega))
      have hcoi : (costS M : Int) ≤ 32768 := by omega
      have h64i : (M.length : Int) ≤ 64 := by omega
      go_wp2_with (go_at_call 30; refine HC.mono ?_; rintro e w4 ⟨rfl, nd, hw4⟩; have hb4 : Below w3.heap.size w3 w4 := (by rw [hw4]; exact below_drewN (Below.refl _ _) nd); obtain ⟨v0, v1, v2, v3, v4, v5, v6, v7, v8⟩ := (HD3.out.later hb4).reads; have s4 := cell_later hb4 s3; have HE4 := (fun u => ((HD3.out.later hb4).put u).1); have HB4 : Hid (Below w3.heap.size w3 w4) := hb4; clear hb4 hw4)
      refine bodyPost_ret (v := .tuple #[.agg #[.slice a' M.length c'], .int .i64 0]) (by simp [results, Try.results31, go_sem, HE4]) rfl (.inl ⟨M, a', c', HM.out.trans HO.out, rfl, do_done_end HD3.out HL3.out HB4.out _⟩)
    · have HO : Hid (capE M = .error 6) := cap_over (decide_eq_true (by omega))
      have hcoi : (32768 : Int) < (costS M : Int) := by omega
      have h64i : (M.length : Int) ≤ 64 := by omega
      go_wp2_with (go_at_call 30; refine HC.mono ?_; rintro e w4 ⟨rfl, nd, hw4⟩; have hb4 : Below w3.heap.size w3 w4 := (by rw [hw4]; exact below_drewN (Below.refl _ _) nd); obtain ⟨v0, v1, v2, v3, v4, v5, v6, v7, v8⟩ := (HD3.out.later hb4).reads; have s4 := cell_later hb4 s3; have HE4 := (fun u => ((HD3.out.later hb4).put u).1); have HB4 : Hid (Below w3.heap.size w3 w4) := hb4; clear hb4 hw4)
      refine bodyPost_ret (v := .tuple #[.agg #[.slice a L.length c], .int .i64 6]) (by simp [results, Try.results31, go_sem, HE4]) rfl (.inr ⟨6, HM.out.trans HO.out, rfl, (do_done_end HD3.out HL3.out HB4.out _).2⟩)
  · have HO : Hid (capE M = .error 6) := cap_over (decide_eq_true (by omega))
    have h64i : (64 : Int) < (M.length : Int) := by omega
    have HE4 := fun u => (HD3.out.put u).1
    go_wp2
    refine bodyPost_ret (v := .tuple #[.agg #[.slice a L.length c], .int .i64 6]) (by simp [results, Try.results31, go_sem, HE4]) rfl (.inr ⟨6, HM.out.trans HO.out, rfl, (do_done_end HD3.out HL3.out (Below.refl _ _) _).2⟩)

set_option maxRecDepth 100000 in
set_option maxHeartbeats 8000000 in
theorem rdo_drop (hL : ListAt w a L) (hk : o.kind = 4) (hs : o.name.size ≤ 140737488351232) (hn : nameB o.name = true) (hth : thereB L o.name = true) (h500 : L.length ≤ 400) (hcost : costS (L.filter (neB o.name)) ≤ 4611686018427387904) :
    Calls Try.prog 31 #[.agg #[.slice a L.length c], opv o ab cb] w fun e w' => RDo w a c L (capE (L.filter (neB o.name))) e w' := by
  have HW : Hid (∀ w1, Below _ _ w1 → DoW w a c L o ab cb w1) := fun w1 hb => (doW_start w a c L o ab cb).later hb
  have HL : Hid (ListAt w a L) := hL
  have HST : Hid (ListAt _ a L) := hL.later (doW_start w a c L o ab cb).below
  have HPL := rplace_any _ a c L HST.out o.name
  rw [hth] at HPL
  obtain ⟨k, n, m, t, b⟩ := o
  simp only [opv] at *
  subst hk
  have H1 : Hid (∀ w, Calls Try.prog 29 #[.string n] w fun e w' => e = .returned (.bool true) ∧ w' = w) := fun w => by have := rname_any n w hs; rw [hn] at this; exact this
  generalize atS L n = p at *
  go_enter Try.func31, Try.ntmps31
  go_wp2_with fail
  refine (H1.out _).mono ?_
  rintro e w0 ⟨rfl, rfl⟩
  go_wp2_with fail
  refine HPL.mono ?_
  rintro e w1 ⟨rfl, hq⟩
  have HD : Hid (DoW w a c L ⟨4, n, m, t, b⟩ ab cb w1) := HW.out w1 hq
  obtain ⟨d0, d1, d2, d3, d4, d5, d6, d7, d8⟩ := HD.out.reads
  clear hq HPL HW H1 HST
  have HD2 : Hid (DoW w a c L ⟨4, n, m, t, b⟩ ab cb (w1.alloc (.cells #[.slice a L.length c] 24))) := HD.out.later ((Below.refl _ w1).alloc (Nat.le_refl _) _)
  have HE := fun u A => cell_later ((Below.refl _ _).alloc (Nat.le_refl _) A) (HD.out.put u).1
  obtain ⟨q0, q1, q2, q3, q4, q5, q6, q7, q8⟩ := HD2.out.reads
  have HB : Hid (∀ u A, Below w.heap.size w ((w1.setCell ⟨w.heap.size + 1 + 1, 0, none⟩ u).alloc A)) := fun u A => (HD.out.put u).2.alloc (HD.out.put u).2.size A
  have HWT := without_any (w1.alloc (.cells #[.slice a L.length c] 24)) a c L n (HL.out.later HD2.out.below) (by omega)
  go_upto_region 26 with (go_at_call 60; refine HWT.mono ?_; rintro e w2 ⟨a', c', rfl, hq2⟩; have kq : w2.heap[w1.heap.size]? = some (.cells #[.slice a L.length c] 24 (0, 0)) := old_block hq2.out.2.2.2 (heap_alloc_new w1 _); have s1 := cell_of kq 0; simp only [List.getElem?_toArray, List.getElem?_cons_zero] at s1; have s2 := frozen_of kq 0)
  obtain ⟨w3, hw3⟩ : ∃ w3, w3 = w2.setCell ⟨w1.heap.size, 0, none⟩ (.slice a' (L.filter (neB n)).length c') := ⟨_, rfl⟩
  rw [← hw3]
  obtain ⟨t1, s3, t3, t4⟩ := do_stored (HD2.out.later hq2.out.2.2.2) d8 kq hq2.out.1 (.slice a' (L.filter (neB n)).length c')
  rw [← hw3] at t1 s3 t3 t4
  have HD3 : Hid _ := t1
  have HL3 : Hid _ := t3
  clear t1 t3 hw3 hq2 kq s1 s2 HE HB q0 q1 q2 q3 q4 q5 q6 q7 q8 d0 d1 d2 d3 d4 d5 d6 d7
  obtain ⟨M, hM⟩ : ∃ M, M = L.filter (neB n) := ⟨_, rfl⟩
  rw [← hM] at s3 HL3 hcost
  try rw [← hM]
  have HM : Hid (capE (L.filter (neB n)) = capE M) := by show _ = _; rw [hM]
  clear hM
  obtain ⟨r0, r1, r2, r3, r4, r5, r6, r7, r8⟩ := HD3.out.reads
  by_cases h64 : M.length ≤ 64
  · have HC := rcost_any w3 a' c' M HL3.out hcost
    by_cases hco : costS M ≤ 32768
    · have HO : Hid (capE M = .ok M) := cap_fits (decide_eq_false (by omega))
      have hcoi : (costS M : Int) ≤ 32768 := by omega
      have h64i : (M.length : Int) ≤ 64 := by omega
      go_wp2_with (go_at_call 30; refine HC.mono ?_; rintro e w4 ⟨rfl, nd, hw4⟩; have hb4 : Below w3.heap.size w3 w4 := (by rw [hw4]; exact below_drewN (Below.refl _ _) nd); obtain ⟨v0, v1, v2, v3, v4, v5, v6, v7, v8⟩ := (HD3.out.later hb4).reads; have s4 := cell_later hb4 s3; have HE4 := (fun u => ((HD3.out.later hb4).put u).1); have HB4 : Hid (Below w3.heap.size w3 w4) := hb4; clear hb4 hw4)
      refine bodyPost_ret (v := .tuple #[.agg #[.slice a' M.length c'], .int .i64 0]) (by simp [results, Try.results31, go_sem, HE4]) rfl (.inl ⟨M, a', c', HM.out.trans HO.out, rfl, do_done_end HD3.out HL3.out HB4.out _⟩)
    · have HO : Hid (capE M = .error 6) := cap_over (decide_eq_true (by omega))
      have hcoi : (32768 : Int) < (costS M : Int) := by omega
      have h64i : (M.length : Int) ≤ 64 := by omega
      go_wp2_with (go_at_call 30; refine HC.mono ?_; rintro e w4 ⟨rfl, nd, hw4⟩; have hb4 : Below w3.heap.size w3 w4 := (by rw [hw4]; exact below_drewN (Below.refl _ _) nd); obtain ⟨v0, v1, v2, v3, v4, v5, v6, v7, v8⟩ := (HD3.out.later hb4).reads; have s4 := cell_later hb4 s3; have HE4 := (fun u => ((HD3.out.later hb4).put u).1); have HB4 : Hid (Below w3.heap.size w3 w4) := hb4; clear hb4 hw4)
      refine bodyPost_ret (v := .tuple #[.agg #[.slice a L.length c], .int .i64 6]) (by simp [results, Try.results31, go_sem, HE4]) rfl (.inr ⟨6, HM.out.trans HO.out, rfl, (do_done_end HD3.out HL3.out HB4.out _).2⟩)
  · have HO : Hid (capE M = .error 6) := cap_over (decide_eq_true (by omega))
    have h64i : (64 : Int) < (M.length : Int) := by omega
    have HE4 := fun u => (HD3.out.put u).1
    go_wp2
    refine bodyPost_ret (v := .tuple #[.agg #[.slice a L.length c], .int .i64 6]) (by simp [results, Try.results31, go_sem, HE4]) rfl (.inr ⟨6, HM.out.trans HO.out, rfl, (do_done_end HD3.out HL3.out (Below.refl _ _) _).2⟩)

end
end Go.Proofs.Ytfocejmfmnijpaa
