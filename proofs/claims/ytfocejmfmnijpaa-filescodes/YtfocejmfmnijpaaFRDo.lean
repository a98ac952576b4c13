/- The reference's own Do: how its world lies, what it answers where an operation has an error. -/
import Derived.Test.YtfocejmfmnijpaaFWith
import Derived.Test.YtfocejmfmnijpaaFBoth
namespace Go.Proofs.Ytfocejmfmnijpaa
open Go.RowKit

/-- The blocks of a call of Do: the files, the operation, the result. -/
structure DoW (w : World) (a : Option Addr) (c : Nat) (L : List Fil) (o : OpS) (ab : Option Addr) (cb : Nat) (wr : World) : Prop where
  f : wr.heap[w.heap.size]? = some (.cells #[.slice a L.length c] 24 (0, 0))
  op : wr.heap[w.heap.size + 1]? = some (.cells #[.int .i64 o.kind, .string o.name, .string o.new, .int .i64 o.at_, .slice ab o.bytes.length cb] 44 (0, 0))
  res : wr.heap[w.heap.size + 1 + 1]? = some (.cells #[.slice none 0 0] 24 (0, 0))
  below : Below w.heap.size w wr
theorem DoW.later {w wr w2 : World} {a : Option Addr} {c : Nat} {L : List Fil} {o : OpS} {ab : Option Addr} {cb : Nat} (h : DoW w a c L o ab cb wr) (hb : Below wr.heap.size wr w2) : DoW w a c L o ab cb w2 :=
  ⟨old_block hb h.f, old_block hb h.op, old_block hb h.res, below_of h.below hb⟩
theorem DoW.set {w wr : World} {a : Option Addr} {c : Nat} {L : List Fil} {o : OpS} {ab : Option Addr} {cb : Nat} (h : DoW w a c L o ab cb wr) {q : Nat} (hq : w.heap.size + 1 + 1 < q) (u : Value) : DoW w a c L o ab cb (wr.setCell ⟨q, 0, none⟩ u) := by
  have ho : Off (fun k => k = q) wr (wr.setCell ⟨q, 0, none⟩ u) := (Off.refl (fun k => k = q) wr).setCell (p := ⟨q, 0, none⟩) (.inr rfl) u
  exact ⟨ho.at h.f (by omega), ho.at h.op (by omega), ho.at h.res (by omega), h.below.setCell (by simp; omega) u⟩
theorem doW_start (w : World) (a : Option Addr) (c : Nat) (L : List Fil) (o : OpS) (ab : Option Addr) (cb : Nat) : DoW w a c L o ab cb (((w.alloc (.cells #[.slice a L.length c] 24)).alloc (.cells #[.int .i64 o.kind, .string o.name, .string o.new, .int .i64 o.at_, .slice ab o.bytes.length cb] 44)).alloc (.cells #[.slice none 0 0] 24)) := by
  obtain ⟨t1, t2, t3⟩ := three_new (w := w) (A := .cells #[.slice a L.length c] 24) (B := .cells #[.int .i64 o.kind, .string o.name, .string o.new, .int .i64 o.at_, .slice ab o.bytes.length cb] 44) (C := .cells #[.slice none 0 0] 24)
  exact ⟨t1, t2, t3, (((Below.refl _ w).alloc (Nat.le_refl _) _).alloc (by simp) _).alloc (by simp; omega) _⟩
/-- what is read there. -/
theorem DoW.reads {w wr : World} {a : Option Addr} {c : Nat} {L : List Fil} {o : OpS} {ab : Option Addr} {cb : Nat} (h : DoW w a c L o ab cb wr) :
    wr.cell? ⟨w.heap.size, 0, none⟩ = some (.slice a L.length c) ∧ wr.cell? ⟨w.heap.size + 1, 0, none⟩ = some (.int .i64 o.kind) ∧ wr.cell? ⟨w.heap.size + 1, 1, none⟩ = some (.string o.name) ∧ wr.cell? ⟨w.heap.size + 1, 2, none⟩ = some (.string o.new) ∧ wr.cell? ⟨w.heap.size + 1, 3, none⟩ = some (.int .i64 o.at_) ∧ wr.cell? ⟨w.heap.size + 1, 4, none⟩ = some (.slice ab o.bytes.length cb) ∧ wr.cell? ⟨w.heap.size + 1 + 1, 0, none⟩ = some (.slice none 0 0) ∧ wr.frozen? ⟨w.heap.size + 1 + 1, 0, none⟩ = false ∧ w.heap.size + 1 + 1 < wr.heap.size :=
  ⟨by rw [cell_of h.f]; rfl, by rw [cell_of h.op]; rfl, by rw [cell_of h.op]; rfl, by rw [cell_of h.op]; rfl, by rw [cell_of h.op]; rfl, by rw [cell_of h.op]; rfl, by rw [cell_of h.res]; rfl, frozen_of h.res 0, (Array.getElem?_eq_some_iff.1 h.res).1⟩
theorem DoW.put {w wr : World} {a : Option Addr} {c : Nat} {L : List Fil} {o : OpS} {ab : Option Addr} {cb : Nat} (h : DoW w a c L o ab cb wr) (u : Value) : (wr.setCell ⟨w.heap.size + 1 + 1, 0, none⟩ u).cell? ⟨w.heap.size + 1 + 1, 0, none⟩ = some u ∧ Below w.heap.size w (wr.setCell ⟨w.heap.size + 1 + 1, 0, none⟩ u) :=
  ⟨by rw [cell_of (heap_setCell_same wr _ 0 _ _ u h.res)]; rfl, h.below.setCell (by simp; omega) u⟩

/-- What Do answers. -/
def RDo (w : World) (a : Option Addr) (c : Nat) (L : List Fil) (res : Except Int (List Fil)) (e : Ending) (w' : World) : Prop :=
  (∃ L' a' c', res = .ok L' ∧ e = .returned (.tuple #[.agg #[.slice a' L'.length c'], .int .i64 0]) ∧ Hid (ListAt w' a' L' ∧ Below w.heap.size w w')) ∨
  (∃ r, res = .error r ∧ e = .returned (.tuple #[.agg #[.slice a L.length c], .int .i64 r]) ∧ Hid (Below w.heap.size w w'))

section
variable (w : World) (a : Option Addr) (c : Nat) (L : List Fil) (o : OpS) (ab : Option Addr) (cb : Nat)

theorem three_below (w : World) (A B C : Obj) : Below w.heap.size w (((w.alloc A).alloc B).alloc C) := (((Below.refl _ w).alloc (Nat.le_refl _) _).alloc (by simp) _).alloc (by simp; omega) _

set_option maxRecDepth 100000 in
set_option maxHeartbeats 4000000 in
theorem rdo_kind (hk : o.kind < 1 ∨ 4 < o.kind) :
    Calls Try.prog 31 #[.agg #[.slice a L.length c], opv o ab cb] w fun e w' => e = .returned (.tuple #[.agg #[.slice a L.length c], .int .i64 2]) ∧ Hid (Below w.heap.size w w') := by
  obtain ⟨k, n, m, t, b⟩ := o
  simp only [opv] at *
  by_cases h1 : k < 1
  · clear hk
    go_enter Try.func31, Try.ntmps31
    go_wp2
    refine bodyPost_ret (v := .tuple #[.agg #[.slice a L.length c], .int .i64 2]) (by simp [results, Try.results31, go_sem]) rfl ⟨rfl, three_below _ _ _ _⟩
  · have h2 : 4 < k := by omega
    clear hk
    go_enter Try.func31, Try.ntmps31
    go_wp2
    refine bodyPost_ret (v := .tuple #[.agg #[.slice a L.length c], .int .i64 2]) (by simp [results, Try.results31, go_sem]) rfl ⟨rfl, three_below _ _ _ _⟩

set_option maxRecDepth 100000 in
set_option maxHeartbeats 4000000 in
theorem rdo_name (h1 : 1 ≤ o.kind) (h4 : o.kind ≤ 4) (hs : o.name.size ≤ 140737488351232) (hn : nameB o.name = false) :
    Calls Try.prog 31 #[.agg #[.slice a L.length c], opv o ab cb] w fun e w' => e = .returned (.tuple #[.agg #[.slice a L.length c], .int .i64 2]) ∧ Hid (Below w.heap.size w w') := by
  obtain ⟨k, n, m, t, b⟩ := o
  simp only [opv] at *
  go_enter Try.func31, Try.ntmps31
  go_wp2_with (go_at_call 29; refine (rname_any n _ hs).mono ?_; rw [hn]; rintro e w0 ⟨rfl, rfl⟩)
  refine bodyPost_ret (v := .tuple #[.agg #[.slice a L.length c], .int .i64 2]) (by simp [results, Try.results31, go_sem]) rfl ⟨rfl, three_below _ _ _ _⟩

set_option maxRecDepth 100000 in
set_option maxHeartbeats 4000000 in
theorem rdo_new (h3 : o.kind = 3) (hs : o.name.size ≤ 140737488351232) (hn : nameB o.name = true) (hs2 : o.new.size ≤ 140737488351232) (hn2 : nameB o.new = false) :
    Calls Try.prog 31 #[.agg #[.slice a L.length c], opv o ab cb] w fun e w' => e = .returned (.tuple #[.agg #[.slice a L.length c], .int .i64 2]) ∧ Hid (Below w.heap.size w w') := by
  obtain ⟨k, n, m, t, b⟩ := o
  simp only [opv] at *
  subst h3
  have H1 : Hid (∀ w, Calls Try.prog 29 #[.string n] w fun e w' => e = .returned (.bool true) ∧ w' = w) := fun w => by have := rname_any n w hs; rw [hn] at this; exact this
  have H2 : Hid (∀ w, Calls Try.prog 29 #[.string m] w fun e w' => e = .returned (.bool false) ∧ w' = w) := fun w => by have := rname_any m w hs2; rw [hn2] at this; exact this
  clear hn hn2
  go_enter Try.func31, Try.ntmps31
  go_wp2_with fail
  refine (H1.out _).mono ?_
  rintro e w0 ⟨rfl, rfl⟩
  go_wp2_with fail
  refine (H2.out _).mono ?_
  rintro e w0 ⟨rfl, rfl⟩
  go_wp2
  refine bodyPost_ret (v := .tuple #[.agg #[.slice a L.length c], .int .i64 2]) (by simp [results, Try.results31, go_sem]) rfl ⟨rfl, three_below _ _ _ _⟩
end
end Go.Proofs.Ytfocejmfmnijpaa
