/- The reference's own Do: write and rename. -/
import Derived.Test.YtfocejmfmnijpaaFRDoYes
namespace Go.Proofs.Ytfocejmfmnijpaa
open Go.RowKit
set_option linter.unusedVariables false

section
variable (w : World) (a : Option Addr) (c : Nat) (L : List Fil) (o : OpS) (ab : Option Addr) (cb : Nat)

theorem with_at (w : World) (a ab : Option Addr) (c cb nb : Nat) (L : List Fil) (n : ByteArray) (bl : List Nat) (hnb : bl.length = nb) (h : ListAt w a L) (hn : n.size ≤ 140737488351232) (hrow : Row w ab bl) (hb1 : bl.length ≤ cb) (hb2 : cb ≤ maxLen) (h5 : L.length ≤ 500) :
    Calls Try.prog 59 #[.agg #[.slice a L.length c], .string n, .slice ab nb cb] w fun e w' => WithEnd w L n bl e w' := by
  subst hnb
  exact with_any w a ab c cb L n bl h hn hrow hb1 hb2 h5
theorem over_in {old b : List Nat} {t : Nat} : overS old t b = (old.take t ++ b) ++ old.drop (t + b.length) := rfl
theorem over_out {old b : List Nat} {t : Nat} (h : old.length ≤ t + b.length) : overS old t b = old.take t ++ b := by
  rw [over_in, List.drop_eq_nil_of_le h, List.append_nil]

set_option maxRecDepth 100000 in
set_option maxHeartbeats 8000000 in
theorem rdo_write_out (hL : ListAt w a L) (hk : o.kind = 2) (hs : o.name.size ≤ 140737488351232) (hn : nameB o.name = true) (hth : thereB L o.name = true) (t0 : Nat) (ht : o.at_ = (t0 : Int)) (ha : t0 ≤ (bytesOf L o.name).length) (hby : (bytesOf L o.name).length ≤ 4096) (hl : t0 + o.bytes.length ≤ 4096) (hrow : Row w ab o.bytes) (hcb : o.bytes.length ≤ cb) (hcm : cb ≤ maxLen) (h500 : L.length ≤ 400) (hcost : costS (withL L o.name (overS (bytesOf L o.name) t0 o.bytes)) ≤ 4611686018427387904) (hin : (bytesOf L o.name).length ≤ t0 + o.bytes.length) :
    Calls Try.prog 31 #[.agg #[.slice a L.length c], opv o ab cb] w fun e w' => RDo w a c L (capE (withL L o.name (overS (bytesOf L o.name) t0 o.bytes))) e w' := by
  obtain ⟨hlt, _⟩ := there_get hth
  obtain ⟨bL, oL, rfl, hc⟩ := hL.2.2 (by omega)
  have HFA : Hid (FileAt w bL (oL + atS L o.name * 2) L[atS L o.name]) := hc _ hlt
  have hlt2 : (atS L o.name : Int) < (L.length : Int) := by omega
  rw [bytesOf_at hlt] at ha hby hcost hin ⊢
  clear hc
  have HW : Hid (∀ w1, Below _ _ w1 → DoW w (some ⟨bL, oL, none⟩) c L o ab cb w1) := fun w1 hb => (doW_start w (some ⟨bL, oL, none⟩) c L o ab cb).later hb
  have HL : Hid (ListAt w (some ⟨bL, oL, none⟩) L) := hL
  have HST : Hid (ListAt _ (some ⟨bL, oL, none⟩) L) := hL.later (doW_start w (some ⟨bL, oL, none⟩) c L o ab cb).below
  have HPL := rplace_any _ (some ⟨bL, oL, none⟩) c L HST.out o.name
  rw [hth] at HPL
  obtain ⟨k, n, m, t, b⟩ := o
  simp only [opv] at *
  subst hk
  have H1 : Hid (∀ w, Calls Try.prog 29 #[.string n] w fun e w' => e = .returned (.bool true) ∧ w' = w) := fun w => by have := rname_any n w hs; rw [hn] at this; exact this
  subst ht
  have HROW : Hid (Row w ab b) := hrow
  clear hrow
  obtain ⟨x, hx⟩ : ∃ x, x = L[atS L n] := ⟨_, rfl⟩
  rw [← hx] at HFA ha hby hcost hin ⊢
  clear hx hth
  generalize atS L n = p at *
  go_enter Try.func31, Try.ntmps31
  go_wp2_with fail
  refine (H1.out _).mono ?_
  rintro e w0 ⟨rfl, rfl⟩
  go_wp2_with fail
  refine HPL.mono ?_
  rintro e w1 ⟨rfl, hq⟩
  have HD : Hid (DoW w (some ⟨bL, oL, none⟩) c L ⟨2, n, m, (t0 : Nat), b⟩ ab cb w1) := HW.out w1 hq
  obtain ⟨d0, d1, d2, d3, d4, d5, d6, d7, d8⟩ := HD.out.reads
  clear hq HPL HW H1 HST
  obtain ⟨_, ax, cx, e2, e3, _, e5⟩ := HFA.out.later HD.out.below
  have HX : Hid (Row w1 ax x.bytes) := e5
  have g2 : ∀ A, (w1.alloc A).cell? ⟨bL, oL + p * 2 + 1, none⟩ = some (.slice ax x.bytes.length cx) := fun A => cell_later ((Below.refl _ w1).alloc (Nat.le_refl _) A) e2
  have hti : ((t0 : Nat) : Int) ≤ (cx : Int) := by omega
  clear e5
  have HD2 : Hid (DoW w (some ⟨bL, oL, none⟩) c L ⟨2, n, m, (t0 : Nat), b⟩ ab cb (w1.alloc (.cells #[.slice (some ⟨bL, oL, none⟩) L.length c] 24))) := HD.out.later ((Below.refl _ w1).alloc (Nat.le_refl _) _)
  have HE := fun u A => cell_later ((Below.refl _ _).alloc (Nat.le_refl _) A) (HD.out.put u).1
  obtain ⟨q0, q1, q2, q3, q4, q5, q6, q7, q8⟩ := HD2.out.reads
  have HB : Hid (∀ u A, Below w.heap.size w ((w1.setCell ⟨w.heap.size + 1 + 1, 0, none⟩ u).alloc A)) := fun u A => (HD.out.put u).2.alloc (HD.out.put u).2.size A
  have HDA : Hid (DoW w (some ⟨bL, oL, none⟩) c L ⟨2, n, m, (t0 : Nat), b⟩ ab cb (w1.alloc (.cells #[.slice (some ⟨bL, oL, none⟩) L.length c] 24)).drew) := HD2.out.later ((Below.refl _ _).drew)
  have HXA : Hid (Row (w1.alloc (.cells #[.slice (some ⟨bL, oL, none⟩) L.length c] 24)).drew ax x.bytes) := HX.out.later (((Below.refl _ w1).alloc (Nat.le_refl _) _).drew)
  have HBT := both_at (w1.alloc (.cells #[.slice (some ⟨bL, oL, none⟩) L.length c] 24)).drew ax ab cx cb t0 b.length (x.bytes.take t0) b (by rw [List.length_take]; omega) rfl (HXA.out.front t0) (HROW.out.later HDA.out.below) (by omega)
  have hX0 : Below (w1.alloc (.cells #[.slice (some ⟨bL, oL, none⟩) L.length c] 24)).drew.heap.size (w1.alloc (.cells #[.slice (some ⟨bL, oL, none⟩) L.length c] 24)).drew (w1.alloc (.cells #[.slice (some ⟨bL, oL, none⟩) L.length c] 24)).drew := Below.refl _ _
  go_upto_region 17 with fail
  go_region_held3 (fun W => W.cell? ⟨w.heap.size + 1, 3, none⟩ = some (.int .i64 (t0 : Nat)) ∧ W.cell? ⟨w.heap.size + 1, 4, none⟩ = some (.slice ab b.length cb)) (first | exact ⟨q4, q5⟩ | exact ⟨cell_later hX1.out.2 q4, cell_later hX1.out.2 q5⟩) (first | (go_at_call 36; refine HBT.mono ?_; rintro e w4 ⟨a4, c4, rfl, hX1⟩))
  have HD4 : Hid (DoW w (some ⟨bL, oL, none⟩) c L ⟨2, n, m, (t0 : Nat), b⟩ ab cb w4) := HDA.out.later hX1.out.2
  have HF4 : Hid (Fresh _ w4 a4 c4 (x.bytes.take t0 ++ b)) := hX1.out.1
  have HX4 : Hid (Row w4 ax x.bytes) := HXA.out.later hX1.out.2
  have k4 : w4.heap[w1.heap.size]? = some (.cells #[.slice (some ⟨bL, oL, none⟩) L.length c] 24 (0, 0)) := old_block hX1.out.2 (heap_alloc_new w1 _)
  clear hX1 HBT HXA HDA HE HB q0 q1 q2 q3 q4 q5 q6 q7 q8 d0 d1 d2 d3 d4 d5 d6 d7 e2 g2
  obtain ⟨u0, u1, u2, u3, u4, u5, u6, u7, u8⟩ := HD4.out.reads
  have HOV : Hid (overS x.bytes t0 b = x.bytes.take t0 ++ b) := over_out hin
  rw [HOV.out] at hcost
  have hini : (x.bytes.length : Int) ≤ (t0 : Int) + (b.length : Int) := by omega
  have HWT := with_at w4 (some ⟨bL, oL, none⟩) a4 c c4 (t0 + b.length) L n (x.bytes.take t0 ++ b) (by rw [List.length_append, List.length_take]; omega) (HL.out.later HD4.out.below) hs HF4.out.row HF4.out.le HF4.out.cap (by omega)
  go_upto_region 21 with (go_at_call 59; refine HWT.mono ?_; rintro e w2 ⟨a', c', rfl, hq2⟩; have kq : w2.heap[w1.heap.size]? = some (.cells #[.slice (some ⟨bL, oL, none⟩) L.length c] 24 (0, 0)) := old_block hq2.out.2.2.2 k4; have s1 := cell_of kq 0; simp only [List.getElem?_toArray, List.getElem?_cons_zero] at s1; have s2 := frozen_of kq 0)
  obtain ⟨w3, hw3⟩ : ∃ w3, w3 = w2.setCell ⟨w1.heap.size, 0, none⟩ (.slice a' (withL L n (x.bytes.take t0 ++ b)).length c') := ⟨_, rfl⟩
  rw [← hw3]
  obtain ⟨t1, s3, t3, t4⟩ := do_stored (HD4.out.later hq2.out.2.2.2) d8 kq hq2.out.1 (.slice a' (withL L n (x.bytes.take t0 ++ b)).length c')
  rw [← hw3] at t1 s3 t3 t4
  have HD3 : Hid _ := t1
  have HL3 : Hid _ := t3
  clear t1 t3 hw3 hq2 kq s1 s2 k4 u0 u1 u2 u3 u4 u5 u6 u7 u8
  obtain ⟨M, hM⟩ : ∃ M, M = withL L n (x.bytes.take t0 ++ b) := ⟨_, rfl⟩
  rw [← hM] at s3 HL3 hcost
  try rw [← hM]
  have HM : Hid (capE (withL L n (overS x.bytes t0 b)) = capE M) := by show _ = _; rw [HOV.out, hM]
  clear hM
  obtain ⟨r0, r1, r2, r3, r4, r5, r6, r7, r8⟩ := HD3.out.reads
  by_cases h64 : M.length ≤ 64
  · have HC := rcost_any w3 a' c' M HL3.out hcost
    by_cases hco : costS M ≤ 32768
    · have HO : Hid (capE M = .ok M) := cap_fits (decide_eq_false (by omega))
      have hcoi : (costS M : Int) ≤ 32768 := by omega
      have h64i : (M.length : Int) ≤ 64 := by omega
      go_wp2_with (go_at_call 30; refine HC.mono ?_; rintro e w4 ⟨rfl, nd, hw4⟩; have hb4 : Below w3.heap.size w3 w4 := (by rw [hw4]; exact below_drewN (Below.refl _ _) nd); obtain ⟨v0, v1, v2, v3, v4, v5, v6, v7, v8⟩ := (HD3.out.later hb4).reads; have s4 := cell_later hb4 s3; have HE4 := (fun u => ((HD3.out.later hb4).put u).1); have HB4 : Hid (Below w3.heap.size w3 w4) := hb4; clear hb4 hw4)
      refine bodyPost_ret (v := .tuple #[.agg #[.slice a' M.length c'], .int .i64 0]) (by simp [results, Try.results31, go_sem, HE4]) rfl (.inl ⟨M, a', c', HM.out.trans HO.out, rfl, do_done_end HD3.out HL3.out HB4.out _⟩)
    · have HO : Hid (capE M = .error 6) := cap_over (decide_eq_true (by omega))
      have hcoi : (32768 : Int) < (costS M : Int) := by omega
      have h64i : (M.length : Int) ≤ 64 := by omega
      go_wp2_with (go_at_call 30; refine HC.mono ?_; rintro e w4 ⟨rfl, nd, hw4⟩; have hb4 : Below w3.heap.size w3 w4 := (by rw [hw4]; exact below_drewN (Below.refl _ _) nd); obtain ⟨v0, v1, v2, v3, v4, v5, v6, v7, v8⟩ := (HD3.out.later hb4).reads; have s4 := cell_later hb4 s3; have HE4 := (fun u => ((HD3.out.later hb4).put u).1); have HB4 : Hid (Below w3.heap.size w3 w4) := hb4; clear hb4 hw4)
      refine bodyPost_ret (v := .tuple #[.agg #[.slice (some ⟨bL, oL, none⟩) L.length c], .int .i64 6]) (by simp [results, Try.results31, go_sem, HE4]) rfl (.inr ⟨6, HM.out.trans HO.out, rfl, (do_done_end HD3.out HL3.out HB4.out _).2⟩)
  · have HO : Hid (capE M = .error 6) := cap_over (decide_eq_true (by omega))
    have h64i : (64 : Int) < (M.length : Int) := by omega
    have HE4 := fun u => (HD3.out.put u).1
    go_wp2
    refine bodyPost_ret (v := .tuple #[.agg #[.slice (some ⟨bL, oL, none⟩) L.length c], .int .i64 6]) (by simp [results, Try.results31, go_sem, HE4]) rfl (.inr ⟨6, HM.out.trans HO.out, rfl, (do_done_end HD3.out HL3.out (Below.refl _ _) _).2⟩)

set_option maxRecDepth 100000 in
set_option maxHeartbeats 8000000 in
theorem rdo_write_in (hL : ListAt w a L) (hk : o.kind = 2) (hs : o.name.size ≤ 140737488351232) (hn : nameB o.name = true) (hth : thereB L o.name = true) (t0 : Nat) (ht : o.at_ = (t0 : Int)) (ha : t0 ≤ (bytesOf L o.name).length) (hby : (bytesOf L o.name).length ≤ 4096) (hl : t0 + o.bytes.length ≤ 4096) (hrow : Row w ab o.bytes) (hcb : o.bytes.length ≤ cb) (hcm : cb ≤ maxLen) (h500 : L.length ≤ 400) (hcost : costS (withL L o.name (overS (bytesOf L o.name) t0 o.bytes)) ≤ 4611686018427387904) (hin : t0 + o.bytes.length < (bytesOf L o.name).length) :
    Calls Try.prog 31 #[.agg #[.slice a L.length c], opv o ab cb] w fun e w' => RDo w a c L (capE (withL L o.name (overS (bytesOf L o.name) t0 o.bytes))) e w' := by
  obtain ⟨hlt, _⟩ := there_get hth
  obtain ⟨bL, oL, rfl, hc⟩ := hL.2.2 (by omega)
  have HFA : Hid (FileAt w bL (oL + atS L o.name * 2) L[atS L o.name]) := hc _ hlt
  have hlt2 : (atS L o.name : Int) < (L.length : Int) := by omega
  rw [bytesOf_at hlt] at ha hby hcost hin ⊢
  clear hc
  have HW : Hid (∀ w1, Below _ _ w1 → DoW w (some ⟨bL, oL, none⟩) c L o ab cb w1) := fun w1 hb => (doW_start w (some ⟨bL, oL, none⟩) c L o ab cb).later hb
  have HL : Hid (ListAt w (some ⟨bL, oL, none⟩) L) := hL
  have HST : Hid (ListAt _ (some ⟨bL, oL, none⟩) L) := hL.later (doW_start w (some ⟨bL, oL, none⟩) c L o ab cb).below
  have HPL := rplace_any _ (some ⟨bL, oL, none⟩) c L HST.out o.name
  rw [hth] at HPL
  obtain ⟨k, n, m, t, b⟩ := o
  simp only [opv] at *
  subst hk
  have H1 : Hid (∀ w, Calls Try.prog 29 #[.string n] w fun e w' => e = .returned (.bool true) ∧ w' = w) := fun w => by have := rname_any n w hs; rw [hn] at this; exact this
  subst ht
  have HROW : Hid (Row w ab b) := hrow
  clear hrow
  obtain ⟨x, hx⟩ : ∃ x, x = L[atS L n] := ⟨_, rfl⟩
  rw [← hx] at HFA ha hby hcost hin ⊢
  clear hx hth
  generalize atS L n = p at *
  go_enter Try.func31, Try.ntmps31
  go_wp2_with fail
  refine (H1.out _).mono ?_
  rintro e w0 ⟨rfl, rfl⟩
  go_wp2_with fail
  refine HPL.mono ?_
  rintro e w1 ⟨rfl, hq⟩
  have HD : Hid (DoW w (some ⟨bL, oL, none⟩) c L ⟨2, n, m, (t0 : Nat), b⟩ ab cb w1) := HW.out w1 hq
  obtain ⟨d0, d1, d2, d3, d4, d5, d6, d7, d8⟩ := HD.out.reads
  clear hq HPL HW H1 HST
  obtain ⟨_, ax, cx, e2, e3, _, e5⟩ := HFA.out.later HD.out.below
  have HX : Hid (Row w1 ax x.bytes) := e5
  have g2 : ∀ A, (w1.alloc A).cell? ⟨bL, oL + p * 2 + 1, none⟩ = some (.slice ax x.bytes.length cx) := fun A => cell_later ((Below.refl _ w1).alloc (Nat.le_refl _) A) e2
  have hti : ((t0 : Nat) : Int) ≤ (cx : Int) := by omega
  clear e5
  have HD2 : Hid (DoW w (some ⟨bL, oL, none⟩) c L ⟨2, n, m, (t0 : Nat), b⟩ ab cb (w1.alloc (.cells #[.slice (some ⟨bL, oL, none⟩) L.length c] 24))) := HD.out.later ((Below.refl _ w1).alloc (Nat.le_refl _) _)
  have HE := fun u A => cell_later ((Below.refl _ _).alloc (Nat.le_refl _) A) (HD.out.put u).1
  obtain ⟨q0, q1, q2, q3, q4, q5, q6, q7, q8⟩ := HD2.out.reads
  have HB : Hid (∀ u A, Below w.heap.size w ((w1.setCell ⟨w.heap.size + 1 + 1, 0, none⟩ u).alloc A)) := fun u A => (HD.out.put u).2.alloc (HD.out.put u).2.size A
  have HDA : Hid (DoW w (some ⟨bL, oL, none⟩) c L ⟨2, n, m, (t0 : Nat), b⟩ ab cb (w1.alloc (.cells #[.slice (some ⟨bL, oL, none⟩) L.length c] 24)).drew) := HD2.out.later ((Below.refl _ _).drew)
  have HXA : Hid (Row (w1.alloc (.cells #[.slice (some ⟨bL, oL, none⟩) L.length c] 24)).drew ax x.bytes) := HX.out.later (((Below.refl _ w1).alloc (Nat.le_refl _) _).drew)
  have HBT := both_at (w1.alloc (.cells #[.slice (some ⟨bL, oL, none⟩) L.length c] 24)).drew ax ab cx cb t0 b.length (x.bytes.take t0) b (by rw [List.length_take]; omega) rfl (HXA.out.front t0) (HROW.out.later HDA.out.below) (by omega)
  have hX0 : Below (w1.alloc (.cells #[.slice (some ⟨bL, oL, none⟩) L.length c] 24)).drew.heap.size (w1.alloc (.cells #[.slice (some ⟨bL, oL, none⟩) L.length c] 24)).drew (w1.alloc (.cells #[.slice (some ⟨bL, oL, none⟩) L.length c] 24)).drew := Below.refl _ _
  go_upto_region 17 with fail
  go_region_held3 (fun W => W.cell? ⟨w.heap.size + 1, 3, none⟩ = some (.int .i64 (t0 : Nat)) ∧ W.cell? ⟨w.heap.size + 1, 4, none⟩ = some (.slice ab b.length cb)) (first | exact ⟨q4, q5⟩ | exact ⟨cell_later hX1.out.2 q4, cell_later hX1.out.2 q5⟩) (first | (go_at_call 36; refine HBT.mono ?_; rintro e w4 ⟨a4, c4, rfl, hX1⟩))
  have HD4 : Hid (DoW w (some ⟨bL, oL, none⟩) c L ⟨2, n, m, (t0 : Nat), b⟩ ab cb w4) := HDA.out.later hX1.out.2
  have HF4 : Hid (Fresh _ w4 a4 c4 (x.bytes.take t0 ++ b)) := hX1.out.1
  have HX4 : Hid (Row w4 ax x.bytes) := HXA.out.later hX1.out.2
  have k4 : w4.heap[w1.heap.size]? = some (.cells #[.slice (some ⟨bL, oL, none⟩) L.length c] 24 (0, 0)) := old_block hX1.out.2 (heap_alloc_new w1 _)
  clear hX1 HBT HXA HDA HE HB q0 q1 q2 q3 q4 q5 q6 q7 q8 d0 d1 d2 d3 d4 d5 d6 d7 e2 g2
  obtain ⟨u0, u1, u2, u3, u4, u5, u6, u7, u8⟩ := HD4.out.reads
  have hini : (t0 : Int) + (b.length : Int) < (x.bytes.length : Int) := by omega
  obtain ⟨bx, ox, rfl, _⟩ := HX4.out.2.2 (by omega)
  go_wp2_with fail
  refine (both_at w4 a4 (some ⟨bx, ox + (t0 + b.length), none⟩) c4 _ (t0 + b.length) (x.bytes.length - (t0 + b.length)) (x.bytes.take t0 ++ b) (x.bytes.drop (t0 + b.length)) (by rw [List.length_append, List.length_take]; omega) (by rw [List.length_drop]) HF4.out.row (HX4.out.back _) (by omega)).mono ?_
  rintro e w5 ⟨a5, c5, rfl, hq5⟩
  have HD5 : Hid (DoW w (some ⟨bL, oL, none⟩) c L ⟨2, n, m, (t0 : Nat), b⟩ ab cb w5) := HD4.out.later hq5.out.2
  have HF5 : Hid (Fresh _ w5 a5 c5 (overS x.bytes t0 b)) := hq5.out.1
  have k5 : w5.heap[w1.heap.size]? = some (.cells #[.slice (some ⟨bL, oL, none⟩) L.length c] 24 (0, 0)) := old_block hq5.out.2 k4
  clear hq5 k4 u0 u1 u2 u3 u4 u5 u6 u7 u8
  obtain ⟨u0, u1, u2, u3, u4, u5, u6, u7, u8⟩ := HD5.out.reads
  have HWT := with_at w5 (some ⟨bL, oL, none⟩) a5 c c5 (t0 + b.length + (x.bytes.length - (t0 + b.length))) L n (overS x.bytes t0 b) (by rw [overS_length _ _ _ ha]; omega) (HL.out.later HD5.out.below) hs HF5.out.row HF5.out.le HF5.out.cap (by omega)
  go_upto_region 21 with (go_at_call 59; refine HWT.mono ?_; rintro e w2 ⟨a', c', rfl, hq2⟩; have kq : w2.heap[w1.heap.size]? = some (.cells #[.slice (some ⟨bL, oL, none⟩) L.length c] 24 (0, 0)) := old_block hq2.out.2.2.2 k5; have s1 := cell_of kq 0; simp only [List.getElem?_toArray, List.getElem?_cons_zero] at s1; have s2 := frozen_of kq 0)
  obtain ⟨w3, hw3⟩ : ∃ w3, w3 = w2.setCell ⟨w1.heap.size, 0, none⟩ (.slice a' (withL L n (overS x.bytes t0 b)).length c') := ⟨_, rfl⟩
  rw [← hw3]
  obtain ⟨t1, s3, t3, t4⟩ := do_stored (HD5.out.later hq2.out.2.2.2) d8 kq hq2.out.1 (.slice a' (withL L n (overS x.bytes t0 b)).length c')
  rw [← hw3] at t1 s3 t3 t4
  have HD3 : Hid _ := t1
  have HL3 : Hid _ := t3
  clear t1 t3 hw3 hq2 kq s1 s2 k5 u0 u1 u2 u3 u4 u5 u6 u7 u8
  obtain ⟨M, hM⟩ : ∃ M, M = withL L n (overS x.bytes t0 b) := ⟨_, rfl⟩
  rw [← hM] at s3 HL3 hcost
  try rw [← hM]
  have HM : Hid (capE (withL L n (overS x.bytes t0 b)) = capE M) := by show _ = _; rw [hM]
  clear hM
  obtain ⟨r0, r1, r2, r3, r4, r5, r6, r7, r8⟩ := HD3.out.reads
  by_cases h64 : M.length ≤ 64
  · have HC := rcost_any w3 a' c' M HL3.out hcost
    by_cases hco : costS M ≤ 32768
    · have HO : Hid (capE M = .ok M) := cap_fits (decide_eq_false (by omega))
      have hcoi : (costS M : Int) ≤ 32768 := by omega
      have h64i : (M.length : Int) ≤ 64 := by omega
      go_wp2_with (go_at_call 30; refine HC.mono ?_; rintro e w4 ⟨rfl, nd, hw4⟩; have hb4 : Below w3.heap.size w3 w4 := (by rw [hw4]; exact below_drewN (Below.refl _ _) nd); obtain ⟨v0, v1, v2, v3, v4, v5, v6, v7, v8⟩ := (HD3.out.later hb4).reads; have s4 := cell_later hb4 s3; have HE4 := (fun u => ((HD3.out.later hb4).put u).1); have HB4 : Hid (Below w3.heap.size w3 w4) := hb4; clear hb4 hw4)
      refine bodyPost_ret (v := .tuple #[.agg #[.slice a' M.length c'], .int .i64 0]) (by simp [results, Try.results31, go_sem, HE4]) rfl (.inl ⟨M, a', c', HM.out.trans HO.out, rfl, do_done_end HD3.out HL3.out HB4.out _⟩)
    · have HO : Hid (capE M = .error 6) := cap_over (decide_eq_true (by omega))
      have hcoi : (32768 : Int) < (costS M : Int) := by omega
      have h64i : (M.length : Int) ≤ 64 := by omega
      go_wp2_with (go_at_call 30; refine HC.mono ?_; rintro e w4 ⟨rfl, nd, hw4⟩; have hb4 : Below w3.heap.size w3 w4 := (by rw [hw4]; exact below_drewN (Below.refl _ _) nd); obtain ⟨v0, v1, v2, v3, v4, v5, v6, v7, v8⟩ := (HD3.out.later hb4).reads; have s4 := cell_later hb4 s3; have HE4 := (fun u => ((HD3.out.later hb4).put u).1); have HB4 : Hid (Below w3.heap.size w3 w4) := hb4; clear hb4 hw4)
      refine bodyPost_ret (v := .tuple #[.agg #[.slice (some ⟨bL, oL, none⟩) L.length c], .int .i64 6]) (by simp [results, Try.results31, go_sem, HE4]) rfl (.inr ⟨6, HM.out.trans HO.out, rfl, (do_done_end HD3.out HL3.out HB4.out _).2⟩)
  · have HO : Hid (capE M = .error 6) := cap_over (decide_eq_true (by omega))
    have h64i : (64 : Int) < (M.length : Int) := by omega
    have HE4 := fun u => (HD3.out.put u).1
    go_wp2
    refine bodyPost_ret (v := .tuple #[.agg #[.slice (some ⟨bL, oL, none⟩) L.length c], .int .i64 6]) (by simp [results, Try.results31, go_sem, HE4]) rfl (.inr ⟨6, HM.out.trans HO.out, rfl, (do_done_end HD3.out HL3.out (Below.refl _ _) _).2⟩)

set_option maxRecDepth 100000 in
set_option maxHeartbeats 8000000 in
theorem rdo_name3 (hL : ListAt w a L) (hk : o.kind = 3) (hs : o.name.size ≤ 140737488351232) (hn : nameB o.name = true) (hs2 : o.new.size ≤ 140737488351232) (hn2 : nameB o.new = true) (hth : thereB L o.name = true) (hby : (bytesOf L o.name).length ≤ 4096) (h500 : L.length ≤ 400) (hcost : costS (withL (L.filter (neB o.name)) o.new (bytesOf L o.name)) ≤ 4611686018427387904) :
    Calls Try.prog 31 #[.agg #[.slice a L.length c], opv o ab cb] w fun e w' => RDo w a c L (capE (withL (L.filter (neB o.name)) o.new (bytesOf L o.name))) e w' := by
  obtain ⟨hlt, _⟩ := there_get hth
  obtain ⟨bL, oL, rfl, hc⟩ := hL.2.2 (by omega)
  have HFA : Hid (FileAt w bL (oL + atS L o.name * 2) L[atS L o.name]) := hc _ hlt
  have hlt2 : (atS L o.name : Int) < (L.length : Int) := by omega
  rw [bytesOf_at hlt] at hby hcost ⊢
  clear hc
  have HW : Hid (∀ w1, Below _ _ w1 → DoW w (some ⟨bL, oL, none⟩) c L o ab cb w1) := fun w1 hb => (doW_start w (some ⟨bL, oL, none⟩) c L o ab cb).later hb
  have HL : Hid (ListAt w (some ⟨bL, oL, none⟩) L) := hL
  have HST : Hid (ListAt _ (some ⟨bL, oL, none⟩) L) := hL.later (doW_start w (some ⟨bL, oL, none⟩) c L o ab cb).below
  have HPL := rplace_any _ (some ⟨bL, oL, none⟩) c L HST.out o.name
  rw [hth] at HPL
  obtain ⟨k, n, m, t, b⟩ := o
  simp only [opv] at *
  subst hk
  have H1 : Hid (∀ w, Calls Try.prog 29 #[.string n] w fun e w' => e = .returned (.bool true) ∧ w' = w) := fun w => by have := rname_any n w hs; rw [hn] at this; exact this
  have H2 : Hid (∀ w, Calls Try.prog 29 #[.string m] w fun e w' => e = .returned (.bool true) ∧ w' = w) := fun w => by have := rname_any m w hs2; rw [hn2] at this; exact this
  obtain ⟨x, hx⟩ : ∃ x, x = L[atS L n] := ⟨_, rfl⟩
  rw [← hx] at HFA hby hcost ⊢
  clear hx hth
  generalize atS L n = p at *
  go_enter Try.func31, Try.ntmps31
  go_wp2_with fail
  refine (H1.out _).mono ?_
  rintro e w0 ⟨rfl, rfl⟩
  go_wp2_with fail
  refine (H2.out _).mono ?_
  rintro e w0 ⟨rfl, rfl⟩
  go_wp2_with fail
  refine HPL.mono ?_
  rintro e w1 ⟨rfl, hq⟩
  have HD : Hid (DoW w (some ⟨bL, oL, none⟩) c L ⟨3, n, m, t, b⟩ ab cb w1) := HW.out w1 hq
  obtain ⟨d0, d1, d2, d3, d4, d5, d6, d7, d8⟩ := HD.out.reads
  clear hq HPL HW H1 HST
  obtain ⟨_, ax, cx, e2, e3, e4, e5⟩ := HFA.out.later HD.out.below
  have HX : Hid (Row w1 ax x.bytes) := e5
  have g2 : ∀ A, (w1.alloc A).cell? ⟨bL, oL + p * 2 + 1, none⟩ = some (.slice ax x.bytes.length cx) := fun A => cell_later ((Below.refl _ w1).alloc (Nat.le_refl _) A) e2
  clear e5
  have HD2 : Hid (DoW w (some ⟨bL, oL, none⟩) c L ⟨3, n, m, t, b⟩ ab cb (w1.alloc (.cells #[.slice (some ⟨bL, oL, none⟩) L.length c] 24))) := HD.out.later ((Below.refl _ w1).alloc (Nat.le_refl _) _)
  have HE := fun u A => cell_later ((Below.refl _ _).alloc (Nat.le_refl _) A) (HD.out.put u).1
  obtain ⟨q0, q1, q2, q3, q4, q5, q6, q7, q8⟩ := HD2.out.reads
  have HB : Hid (∀ u A, Below w.heap.size w ((w1.setCell ⟨w.heap.size + 1 + 1, 0, none⟩ u).alloc A)) := fun u A => (HD.out.put u).2.alloc (HD.out.put u).2.size A
  have HDA : Hid (∀ W, Below w1.heap.size w1 W → DoW w (some ⟨bL, oL, none⟩) c L ⟨3, n, m, t, b⟩ ab cb W) := fun W hW => HD.out.later hW
  have HWO : Hid (∀ W, Below w1.heap.size w1 W → Calls Try.prog 60 #[.agg #[.slice (some ⟨bL, oL, none⟩) L.length c], .string n] W fun e w' => ∃ a' c', e = .returned (.agg #[.slice a' (L.filter (neB n)).length c']) ∧ Hid (ListAt w' a' (L.filter (neB n)) ∧ (L.filter (neB n)).length ≤ c' ∧ c' ≤ maxLen ∧ Below W.heap.size W w')) := fun W hW => without_any W (some ⟨bL, oL, none⟩) c L n (HL.out.later (HDA.out W hW).below) (by omega)
  have HWI : Hid (∀ W a5 c5, Below w1.heap.size w1 W → ListAt W a5 (L.filter (neB n)) → Calls Try.prog 59 #[.agg #[.slice a5 (L.filter (neB n)).length c5], .string m, .slice ax x.bytes.length cx] W fun e w' => WithEnd W (L.filter (neB n)) m x.bytes e w') := fun W a5 c5 hW h5 => with_any W a5 ax c5 cx (L.filter (neB n)) m x.bytes h5 hs2 (HX.out.later hW) e3 e4 (by have := List.length_filter_le (neB n) L; omega)
  have hX0 : Below w1.heap.size w1 (w1.alloc (.cells #[.slice (some ⟨bL, oL, none⟩) L.length c] 24)).drew := ((Below.refl _ w1).alloc (Nat.le_refl _) _).drew
  have K0 : Hid ((w1.alloc (.cells #[.slice (some ⟨bL, oL, none⟩) L.length c] 24)).drew.heap[w1.heap.size]? = some (.cells #[.slice (some ⟨bL, oL, none⟩) L.length c] 24 (0, 0))) := heap_alloc_new w1 _
  go_upto_region 23 with fail
  go_region_held3 (fun W => W.cell? ⟨w.heap.size, 0, none⟩ = some (.slice (some ⟨bL, oL, none⟩) L.length c) ∧ W.cell? ⟨w.heap.size + 1, 1, none⟩ = some (.string n) ∧ W.cell? ⟨w.heap.size + 1, 2, none⟩ = some (.string m)) (first | exact ⟨q0, q2, q3⟩ | exact ⟨g0, g1, g2⟩ | exact ⟨j0, j1, j2⟩ | exact ⟨cell_other j0 (by simp; omega), cell_other j1 (by simp; omega), cell_other j2 (by simp; omega)⟩) (first
    | (go_at_call 60; refine (HWO.out _ hX0).mono ?_; rintro e w4 ⟨a4, c4, rfl, hq4⟩; have hX4 := below_of hX0 hq4.out.2.2.2; obtain ⟨g0, _, g1, g2, _, _, _, _, _⟩ := (HDA.out _ hX4).reads)
    | (go_at_call 59; refine (HWI.out _ a4 c4 hX4 hq4.out.1).mono ?_; rintro e w2 ⟨a', c', rfl, hq2⟩; obtain ⟨j0, _, j1, j2, _, _, _, _, _⟩ := (HDA.out _ (below_of hX4 hq2.out.2.2.2)).reads; have kq : w2.heap[w1.heap.size]? = some (.cells #[.slice (some ⟨bL, oL, none⟩) L.length c] 24 (0, 0)) := old_block (below_of hq4.out.2.2.2 hq2.out.2.2.2) K0.out; have s1 := cell_of kq 0; simp only [List.getElem?_toArray, List.getElem?_cons_zero] at s1; have s2 := frozen_of kq 0))
  have HD4 : Hid (DoW w (some ⟨bL, oL, none⟩) c L ⟨3, n, m, t, b⟩ ab cb w4) := HDA.out w4 hX4
  obtain ⟨w3, hw3⟩ : ∃ w3, w3 = w2.setCell ⟨w1.heap.size, 0, none⟩ (.slice a' (withL (L.filter (neB n)) m x.bytes).length c') := ⟨_, rfl⟩
  rw [← hw3]
  obtain ⟨t1, s3, t3, t4⟩ := do_stored (HD4.out.later hq2.out.2.2.2) d8 kq hq2.out.1 (.slice a' (withL (L.filter (neB n)) m x.bytes).length c')
  rw [← hw3] at t1 s3 t3 t4
  have HD3 : Hid _ := t1
  have HL3 : Hid _ := t3
  clear t1 t3 hw3 hq2 kq s1 s2 hX0 hX4 hq4 g0 g1 j0 j1 j2 HE HB q0 q1 q2 q3 q4 q5 q6 q7 q8 d0 d1 d2 d3 d4 d5 d6 d7 e2
  obtain ⟨M, hM⟩ : ∃ M, M = withL (L.filter (neB n)) m x.bytes := ⟨_, rfl⟩
  rw [← hM] at s3 HL3 hcost
  try rw [← hM]
  have HM : Hid (capE (withL (L.filter (neB n)) m x.bytes) = capE M) := by show _ = _; rw [hM]
  clear hM
  obtain ⟨r0, r1, r2, r3, r4, r5, r6, r7, r8⟩ := HD3.out.reads
  by_cases h64 : M.length ≤ 64
  · have HC := rcost_any w3 a' c' M HL3.out hcost
    by_cases hco : costS M ≤ 32768
    · have HO : Hid (capE M = .ok M) := cap_fits (decide_eq_false (by omega))
      have hcoi : (costS M : Int) ≤ 32768 := by omega
      have h64i : (M.length : Int) ≤ 64 := by omega
      go_wp2_with (go_at_call 30; refine HC.mono ?_; rintro e w4 ⟨rfl, nd, hw4⟩; have hb4 : Below w3.heap.size w3 w4 := (by rw [hw4]; exact below_drewN (Below.refl _ _) nd); obtain ⟨v0, v1, v2, v3, v4, v5, v6, v7, v8⟩ := (HD3.out.later hb4).reads; have s4 := cell_later hb4 s3; have HE4 := (fun u => ((HD3.out.later hb4).put u).1); have HB4 : Hid (Below w3.heap.size w3 w4) := hb4; clear hb4 hw4)
      refine bodyPost_ret (v := .tuple #[.agg #[.slice a' M.length c'], .int .i64 0]) (by simp [results, Try.results31, go_sem, HE4]) rfl (.inl ⟨M, a', c', HM.out.trans HO.out, rfl, do_done_end HD3.out HL3.out HB4.out _⟩)
    · have HO : Hid (capE M = .error 6) := cap_over (decide_eq_true (by omega))
      have hcoi : (32768 : Int) < (costS M : Int) := by omega
      have h64i : (M.length : Int) ≤ 64 := by omega
      go_wp2_with (go_at_call 30; refine HC.mono ?_; rintro e w4 ⟨rfl, nd, hw4⟩; have hb4 : Below w3.heap.size w3 w4 := (by rw [hw4]; exact below_drewN (Below.refl _ _) nd); obtain ⟨v0, v1, v2, v3, v4, v5, v6, v7, v8⟩ := (HD3.out.later hb4).reads; have s4 := cell_later hb4 s3; have HE4 := (fun u => ((HD3.out.later hb4).put u).1); have HB4 : Hid (Below w3.heap.size w3 w4) := hb4; clear hb4 hw4)
      refine bodyPost_ret (v := .tuple #[.agg #[.slice (some ⟨bL, oL, none⟩) L.length c], .int .i64 6]) (by simp [results, Try.results31, go_sem, HE4]) rfl (.inr ⟨6, HM.out.trans HO.out, rfl, (do_done_end HD3.out HL3.out HB4.out _).2⟩)
  · have HO : Hid (capE M = .error 6) := cap_over (decide_eq_true (by omega))
    have h64i : (64 : Int) < (M.length : Int) := by omega
    have HE4 := fun u => (HD3.out.put u).1
    go_wp2
    refine bodyPost_ret (v := .tuple #[.agg #[.slice (some ⟨bL, oL, none⟩) L.length c], .int .i64 6]) (by simp [results, Try.results31, go_sem, HE4]) rfl (.inr ⟨6, HM.out.trans HO.out, rfl, (do_done_end HD3.out HL3.out (Below.refl _ _) _).2⟩)

end
end Go.Proofs.Ytfocejmfmnijpaa
