/- The reference's own Do: where an operation has an error behind its place. -/
import Derived.Test.YtfocejmfmnijpaaFRDo
namespace Go.Proofs.Ytfocejmfmnijpaa
open Go.RowKit

section
variable (w : World) (a : Option Addr) (c : Nat) (L : List Fil) (o : OpS) (ab : Option Addr) (cb : Nat)
set_option maxRecDepth 100000 in
set_option maxHeartbeats 8000000 in
theorem rdo_none2 (hL : ListAt w a L) (hk : o.kind = 2) (hs : o.name.size ≤ 140737488351232) (hn : nameB o.name = true) (hth : thereB L o.name = false) :
    Calls Try.prog 31 #[.agg #[.slice a L.length c], opv o ab cb] w fun e w' => e = .returned (.tuple #[.agg #[.slice a L.length c], .int .i64 4]) ∧ Hid (Below w.heap.size w w') := by
  have HW : Hid (∀ w1, Below _ _ w1 → DoW w a c L o ab cb w1) := fun w1 hb => (doW_start w a c L o ab cb).later hb
  have HL : Hid (ListAt w a L) := hL
  have HST : Hid (ListAt _ a L) := hL.later (doW_start w a c L o ab cb).below
  have HPL := rplace_any _ a c L HST.out o.name
  rw [hth] at HPL
  obtain ⟨k, n, m, t, b⟩ := o
  simp only [opv] at *
  subst hk
  have H1 : Hid (∀ w, Calls Try.prog 29 #[.string n] w fun e w' => e = .returned (.bool true) ∧ w' = w) := fun w => by have := rname_any n w hs; rw [hn] at this; exact this
  generalize atS L n = p at *
  go_enter Try.func31, Try.ntmps31
  go_wp2_with fail
  refine (H1.out _).mono ?_
  rintro e w0 ⟨rfl, rfl⟩
  go_wp2_with fail
  refine HPL.mono ?_
  rintro e w1 ⟨rfl, hq⟩
  have HD : Hid (DoW w a c L ⟨2, n, m, t, b⟩ ab cb w1) := HW.out w1 hq
  obtain ⟨d0, d1, d2, d3, d4, d5, d6, d7, d8⟩ := HD.out.reads
  clear hq HPL HW H1 HST
  have HE := fun u => (HD.out.put u).1
  have HB : Hid (∀ u, Below w.heap.size w (w1.setCell ⟨w.heap.size + 1 + 1, 0, none⟩ u)) := fun u => (HD.out.put u).2
  go_wp2
  refine bodyPost_ret (v := .tuple #[.agg #[.slice a L.length c], .int .i64 4]) (by simp [results, Try.results31, go_sem, HE]) rfl ⟨rfl, HB.out _⟩

set_option maxRecDepth 100000 in
set_option maxHeartbeats 8000000 in
theorem rdo_none3 (hL : ListAt w a L) (hk : o.kind = 3) (hs : o.name.size ≤ 140737488351232) (hn : nameB o.name = true) (hs2 : o.new.size ≤ 140737488351232) (hn2 : nameB o.new = true) (hth : thereB L o.name = false) :
    Calls Try.prog 31 #[.agg #[.slice a L.length c], opv o ab cb] w fun e w' => e = .returned (.tuple #[.agg #[.slice a L.length c], .int .i64 4]) ∧ Hid (Below w.heap.size w w') := by
  have HW : Hid (∀ w1, Below _ _ w1 → DoW w a c L o ab cb w1) := fun w1 hb => (doW_start w a c L o ab cb).later hb
  have HL : Hid (ListAt w a L) := hL
  have HST : Hid (ListAt _ a L) := hL.later (doW_start w a c L o ab cb).below
  have HPL := rplace_any _ a c L HST.out o.name
  rw [hth] at HPL
  obtain ⟨k, n, m, t, b⟩ := o
  simp only [opv] at *
  subst hk
  have H1 : Hid (∀ w, Calls Try.prog 29 #[.string n] w fun e w' => e = .returned (.bool true) ∧ w' = w) := fun w => by have := rname_any n w hs; rw [hn] at this; exact this
  have H2 : Hid (∀ w, Calls Try.prog 29 #[.string m] w fun e w' => e = .returned (.bool true) ∧ w' = w) := fun w => by have := rname_any m w hs2; rw [hn2] at this; exact this
  generalize atS L n = p at *
  go_enter Try.func31, Try.ntmps31
  go_wp2_with fail
  refine (H1.out _).mono ?_
  rintro e w0 ⟨rfl, rfl⟩
  go_wp2_with fail
  refine (H2.out _).mono ?_
  rintro e w0 ⟨rfl, rfl⟩
  go_wp2_with fail
  refine HPL.mono ?_
  rintro e w1 ⟨rfl, hq⟩
  have HD : Hid (DoW w a c L ⟨3, n, m, t, b⟩ ab cb w1) := HW.out w1 hq
  obtain ⟨d0, d1, d2, d3, d4, d5, d6, d7, d8⟩ := HD.out.reads
  clear hq HPL HW H1 HST
  have HE := fun u => (HD.out.put u).1
  have HB : Hid (∀ u, Below w.heap.size w (w1.setCell ⟨w.heap.size + 1 + 1, 0, none⟩ u)) := fun u => (HD.out.put u).2
  go_wp2
  refine bodyPost_ret (v := .tuple #[.agg #[.slice a L.length c], .int .i64 4]) (by simp [results, Try.results31, go_sem, HE]) rfl ⟨rfl, HB.out _⟩

set_option maxRecDepth 100000 in
set_option maxHeartbeats 8000000 in
theorem rdo_none4 (hL : ListAt w a L) (hk : o.kind = 4) (hs : o.name.size ≤ 140737488351232) (hn : nameB o.name = true) (hth : thereB L o.name = false) :
    Calls Try.prog 31 #[.agg #[.slice a L.length c], opv o ab cb] w fun e w' => e = .returned (.tuple #[.agg #[.slice a L.length c], .int .i64 4]) ∧ Hid (Below w.heap.size w w') := by
  have HW : Hid (∀ w1, Below _ _ w1 → DoW w a c L o ab cb w1) := fun w1 hb => (doW_start w a c L o ab cb).later hb
  have HL : Hid (ListAt w a L) := hL
  have HST : Hid (ListAt _ a L) := hL.later (doW_start w a c L o ab cb).below
  have HPL := rplace_any _ a c L HST.out o.name
  rw [hth] at HPL
  obtain ⟨k, n, m, t, b⟩ := o
  simp only [opv] at *
  subst hk
  have H1 : Hid (∀ w, Calls Try.prog 29 #[.string n] w fun e w' => e = .returned (.bool true) ∧ w' = w) := fun w => by have := rname_any n w hs; rw [hn] at this; exact this
  generalize atS L n = p at *
  go_enter Try.func31, Try.ntmps31
  go_wp2_with fail
  refine (H1.out _).mono ?_
  rintro e w0 ⟨rfl, rfl⟩
  go_wp2_with fail
  refine HPL.mono ?_
  rintro e w1 ⟨rfl, hq⟩
  have HD : Hid (DoW w a c L ⟨4, n, m, t, b⟩ ab cb w1) := HW.out w1 hq
  obtain ⟨d0, d1, d2, d3, d4, d5, d6, d7, d8⟩ := HD.out.reads
  clear hq HPL HW H1 HST
  have HE := fun u => (HD.out.put u).1
  have HB : Hid (∀ u, Below w.heap.size w (w1.setCell ⟨w.heap.size + 1 + 1, 0, none⟩ u)) := fun u => (HD.out.put u).2
  go_wp2
  refine bodyPost_ret (v := .tuple #[.agg #[.slice a L.length c], .int .i64 4]) (by simp [results, Try.results31, go_sem, HE]) rfl ⟨rfl, HB.out _⟩

set_option maxRecDepth 100000 in
set_option maxHeartbeats 8000000 in
theorem rdo_long1 (hL : ListAt w a L) (hk : o.kind = 1) (hs : o.name.size ≤ 140737488351232) (hn : nameB o.name = true) (tb : Bool) (hth : thereB L o.name = tb) (hlong : 4096 < o.bytes.length) :
    Calls Try.prog 31 #[.agg #[.slice a L.length c], opv o ab cb] w fun e w' => e = .returned (.tuple #[.agg #[.slice a L.length c], .int .i64 3]) ∧ Hid (Below w.heap.size w w') := by
  have HW : Hid (∀ w1, Below _ _ w1 → DoW w a c L o ab cb w1) := fun w1 hb => (doW_start w a c L o ab cb).later hb
  have HL : Hid (ListAt w a L) := hL
  have HST : Hid (ListAt _ a L) := hL.later (doW_start w a c L o ab cb).below
  have HPL := rplace_any _ a c L HST.out o.name
  rw [hth] at HPL
  obtain ⟨k, n, m, t, b⟩ := o
  simp only [opv] at *
  subst hk
  have H1 : Hid (∀ w, Calls Try.prog 29 #[.string n] w fun e w' => e = .returned (.bool true) ∧ w' = w) := fun w => by have := rname_any n w hs; rw [hn] at this; exact this
  have hl2 : (4096 : Int) < (b.length : Int) := by omega
  generalize atS L n = p at *
  go_enter Try.func31, Try.ntmps31
  go_wp2_with fail
  refine (H1.out _).mono ?_
  rintro e w0 ⟨rfl, rfl⟩
  go_wp2_with fail
  refine HPL.mono ?_
  rintro e w1 ⟨rfl, hq⟩
  have HD : Hid (DoW w a c L ⟨1, n, m, t, b⟩ ab cb w1) := HW.out w1 hq
  obtain ⟨d0, d1, d2, d3, d4, d5, d6, d7, d8⟩ := HD.out.reads
  clear hq HPL HW H1 HST
  have HD2 : Hid (DoW w a c L ⟨1, n, m, t, b⟩ ab cb (w1.alloc (.cells #[.slice a L.length c] 24))) := HD.out.later ((Below.refl _ w1).alloc (Nat.le_refl _) _)
  have HE := fun u A => cell_later ((Below.refl _ _).alloc (Nat.le_refl _) A) (HD.out.put u).1
  obtain ⟨q0, q1, q2, q3, q4, q5, q6, q7, q8⟩ := HD2.out.reads
  have HB : Hid (∀ u A, Below w.heap.size w ((w1.setCell ⟨w.heap.size + 1 + 1, 0, none⟩ u).alloc A)) := fun u A => (HD.out.put u).2.alloc (HD.out.put u).2.size A
  go_wp2
  refine bodyPost_ret (v := .tuple #[.agg #[.slice a L.length c], .int .i64 3]) (by simp [results, Try.results31, go_sem, HE]) rfl ⟨rfl, HB.out _ _⟩

set_option maxRecDepth 100000 in
set_option maxHeartbeats 8000000 in
theorem rdo_arg2 (hL : ListAt w a L) (hk : o.kind = 2) (hs : o.name.size ≤ 140737488351232) (hn : nameB o.name = true) (hth : thereB L o.name = true) (ha : o.at_ < 0 ∨ ((bytesOf L o.name).length : Int) < o.at_) :
    Calls Try.prog 31 #[.agg #[.slice a L.length c], opv o ab cb] w fun e w' => e = .returned (.tuple #[.agg #[.slice a L.length c], .int .i64 2]) ∧ Hid (Below w.heap.size w w') := by
  obtain ⟨hlt, _⟩ := there_get hth
  obtain ⟨bL, oL, rfl, hc⟩ := hL.2.2 (by omega)
  have HFA : Hid (FileAt w bL (oL + atS L o.name * 2) L[atS L o.name]) := hc _ hlt
  have hlt2 : (atS L o.name : Int) < (L.length : Int) := by omega
  rw [bytesOf_at hlt] at ha
  clear hc
  have HW : Hid (∀ w1, Below _ _ w1 → DoW w (some ⟨bL, oL, none⟩) c L o ab cb w1) := fun w1 hb => (doW_start w (some ⟨bL, oL, none⟩) c L o ab cb).later hb
  have HL : Hid (ListAt w (some ⟨bL, oL, none⟩) L) := hL
  have HST : Hid (ListAt _ (some ⟨bL, oL, none⟩) L) := hL.later (doW_start w (some ⟨bL, oL, none⟩) c L o ab cb).below
  have HPL := rplace_any _ (some ⟨bL, oL, none⟩) c L HST.out o.name
  rw [hth] at HPL
  obtain ⟨k, n, m, t, b⟩ := o
  simp only [opv] at *
  subst hk
  have H1 : Hid (∀ w, Calls Try.prog 29 #[.string n] w fun e w' => e = .returned (.bool true) ∧ w' = w) := fun w => by have := rname_any n w hs; rw [hn] at this; exact this
  obtain ⟨x, hx⟩ : ∃ x, x = L[atS L n] := ⟨_, rfl⟩
  rw [← hx] at HFA ha
  clear hx hth
  generalize atS L n = p at *
  by_cases h0 : t < 0
  · clear ha
    go_enter Try.func31, Try.ntmps31
    go_wp2_with fail
    refine (H1.out _).mono ?_
    rintro e w0 ⟨rfl, rfl⟩
    go_wp2_with fail
    refine HPL.mono ?_
    rintro e w1 ⟨rfl, hq⟩
    have HD : Hid (DoW w (some ⟨bL, oL, none⟩) c L ⟨2, n, m, t, b⟩ ab cb w1) := HW.out w1 hq
    obtain ⟨d0, d1, d2, d3, d4, d5, d6, d7, d8⟩ := HD.out.reads
    clear hq HPL HW H1 HST
    obtain ⟨_, ax, cx, e2, _, _, e5⟩ := HFA.out.later HD.out.below
    have HX : Hid (Row w1 ax x.bytes) := e5
    have g2 : ∀ A, (w1.alloc A).cell? ⟨bL, oL + p * 2 + 1, none⟩ = some (.slice ax x.bytes.length cx) := fun A => cell_later ((Below.refl _ w1).alloc (Nat.le_refl _) A) e2
    clear e5
    have HD2 : Hid (DoW w (some ⟨bL, oL, none⟩) c L ⟨2, n, m, t, b⟩ ab cb (w1.alloc (.cells #[.slice (some ⟨bL, oL, none⟩) L.length c] 24))) := HD.out.later ((Below.refl _ w1).alloc (Nat.le_refl _) _)
    have HE := fun u A => cell_later ((Below.refl _ _).alloc (Nat.le_refl _) A) (HD.out.put u).1
    obtain ⟨q0, q1, q2, q3, q4, q5, q6, q7, q8⟩ := HD2.out.reads
    have HB : Hid (∀ u A, Below w.heap.size w ((w1.setCell ⟨w.heap.size + 1 + 1, 0, none⟩ u).alloc A)) := fun u A => (HD.out.put u).2.alloc (HD.out.put u).2.size A
    go_wp2
    refine bodyPost_ret (v := .tuple #[.agg #[.slice (some ⟨bL, oL, none⟩) L.length c], .int .i64 2]) (by simp [results, Try.results31, go_sem, HE]) rfl ⟨rfl, HB.out _ _⟩
  · have h1 : (x.bytes.length : Int) < t := by omega
    clear ha
    go_enter Try.func31, Try.ntmps31
    go_wp2_with fail
    refine (H1.out _).mono ?_
    rintro e w0 ⟨rfl, rfl⟩
    go_wp2_with fail
    refine HPL.mono ?_
    rintro e w1 ⟨rfl, hq⟩
    have HD : Hid (DoW w (some ⟨bL, oL, none⟩) c L ⟨2, n, m, t, b⟩ ab cb w1) := HW.out w1 hq
    obtain ⟨d0, d1, d2, d3, d4, d5, d6, d7, d8⟩ := HD.out.reads
    clear hq HPL HW H1 HST
    obtain ⟨_, ax, cx, e2, _, _, e5⟩ := HFA.out.later HD.out.below
    have HX : Hid (Row w1 ax x.bytes) := e5
    have g2 : ∀ A, (w1.alloc A).cell? ⟨bL, oL + p * 2 + 1, none⟩ = some (.slice ax x.bytes.length cx) := fun A => cell_later ((Below.refl _ w1).alloc (Nat.le_refl _) A) e2
    clear e5
    have HD2 : Hid (DoW w (some ⟨bL, oL, none⟩) c L ⟨2, n, m, t, b⟩ ab cb (w1.alloc (.cells #[.slice (some ⟨bL, oL, none⟩) L.length c] 24))) := HD.out.later ((Below.refl _ w1).alloc (Nat.le_refl _) _)
    have HE := fun u A => cell_later ((Below.refl _ _).alloc (Nat.le_refl _) A) (HD.out.put u).1
    obtain ⟨q0, q1, q2, q3, q4, q5, q6, q7, q8⟩ := HD2.out.reads
    have HB : Hid (∀ u A, Below w.heap.size w ((w1.setCell ⟨w.heap.size + 1 + 1, 0, none⟩ u).alloc A)) := fun u A => (HD.out.put u).2.alloc (HD.out.put u).2.size A
    go_wp2
    refine bodyPost_ret (v := .tuple #[.agg #[.slice (some ⟨bL, oL, none⟩) L.length c], .int .i64 2]) (by simp [results, Try.results31, go_sem, HE]) rfl ⟨rfl, HB.out _ _⟩

set_option maxRecDepth 100000 in
set_option maxHeartbeats 8000000 in
theorem rdo_long2 (hL : ListAt w a L) (hk : o.kind = 2) (hs : o.name.size ≤ 140737488351232) (hn : nameB o.name = true) (hth : thereB L o.name = true) (t0 : Nat) (ht : o.at_ = (t0 : Int)) (ha : t0 ≤ (bytesOf L o.name).length) (hby : (bytesOf L o.name).length ≤ 4096) (hlong : 4096 < t0 + o.bytes.length) (hlm : o.bytes.length ≤ 140737488351232) :
    Calls Try.prog 31 #[.agg #[.slice a L.length c], opv o ab cb] w fun e w' => e = .returned (.tuple #[.agg #[.slice a L.length c], .int .i64 3]) ∧ Hid (Below w.heap.size w w') := by
  obtain ⟨hlt, _⟩ := there_get hth
  obtain ⟨bL, oL, rfl, hc⟩ := hL.2.2 (by omega)
  have HFA : Hid (FileAt w bL (oL + atS L o.name * 2) L[atS L o.name]) := hc _ hlt
  have hlt2 : (atS L o.name : Int) < (L.length : Int) := by omega
  rw [bytesOf_at hlt] at ha hby
  clear hc
  have HW : Hid (∀ w1, Below _ _ w1 → DoW w (some ⟨bL, oL, none⟩) c L o ab cb w1) := fun w1 hb => (doW_start w (some ⟨bL, oL, none⟩) c L o ab cb).later hb
  have HL : Hid (ListAt w (some ⟨bL, oL, none⟩) L) := hL
  have HST : Hid (ListAt _ (some ⟨bL, oL, none⟩) L) := hL.later (doW_start w (some ⟨bL, oL, none⟩) c L o ab cb).below
  have HPL := rplace_any _ (some ⟨bL, oL, none⟩) c L HST.out o.name
  rw [hth] at HPL
  obtain ⟨k, n, m, t, b⟩ := o
  simp only [opv] at *
  subst hk
  have H1 : Hid (∀ w, Calls Try.prog 29 #[.string n] w fun e w' => e = .returned (.bool true) ∧ w' = w) := fun w => by have := rname_any n w hs; rw [hn] at this; exact this
  subst ht
  obtain ⟨x, hx⟩ : ∃ x, x = L[atS L n] := ⟨_, rfl⟩
  rw [← hx] at HFA ha hby
  clear hx hth
  generalize atS L n = p at *
  go_enter Try.func31, Try.ntmps31
  go_wp2_with fail
  refine (H1.out _).mono ?_
  rintro e w0 ⟨rfl, rfl⟩
  go_wp2_with fail
  refine HPL.mono ?_
  rintro e w1 ⟨rfl, hq⟩
  have HD : Hid (DoW w (some ⟨bL, oL, none⟩) c L ⟨2, n, m, (t0 : Nat), b⟩ ab cb w1) := HW.out w1 hq
  obtain ⟨d0, d1, d2, d3, d4, d5, d6, d7, d8⟩ := HD.out.reads
  clear hq HPL HW H1 HST
  obtain ⟨_, ax, cx, e2, _, _, e5⟩ := HFA.out.later HD.out.below
  have HX : Hid (Row w1 ax x.bytes) := e5
  have g2 : ∀ A, (w1.alloc A).cell? ⟨bL, oL + p * 2 + 1, none⟩ = some (.slice ax x.bytes.length cx) := fun A => cell_later ((Below.refl _ w1).alloc (Nat.le_refl _) A) e2
  clear e5
  have HD2 : Hid (DoW w (some ⟨bL, oL, none⟩) c L ⟨2, n, m, (t0 : Nat), b⟩ ab cb (w1.alloc (.cells #[.slice (some ⟨bL, oL, none⟩) L.length c] 24))) := HD.out.later ((Below.refl _ w1).alloc (Nat.le_refl _) _)
  have HE := fun u A => cell_later ((Below.refl _ _).alloc (Nat.le_refl _) A) (HD.out.put u).1
  obtain ⟨q0, q1, q2, q3, q4, q5, q6, q7, q8⟩ := HD2.out.reads
  have HB : Hid (∀ u A, Below w.heap.size w ((w1.setCell ⟨w.heap.size + 1 + 1, 0, none⟩ u).alloc A)) := fun u A => (HD.out.put u).2.alloc (HD.out.put u).2.size A
  go_wp2
  refine bodyPost_ret (v := .tuple #[.agg #[.slice (some ⟨bL, oL, none⟩) L.length c], .int .i64 3]) (by simp [results, Try.results31, go_sem, HE]) rfl ⟨rfl, HB.out _ _⟩

end
end Go.Proofs.Ytfocejmfmnijpaa
