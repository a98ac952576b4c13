/- The walk of files.readOp. -/
import Derived.Test.YtfocejmfmnijpaaDRead
import Derived.Test.YtfocejmfmnijpaaFApply
import Derived.Test.YtfocejmfmnijpaaFLaw
import Derived.Deep.CutRange
namespace Go.Proofs.Ytfocejmfmnijpaa
open Go.RowKit

/-- what is read of an operation: it, where it ends, the error. -/
def rOp (l : List Nat) (at_ : Nat) (er : Int) : OpS × Nat × Int :=
  let t := takes l at_ er 1
  let s := counts l 1 t.2.1 t.2.2
  if numN t.1 = 1 then (⟨1, nameOf s.1, ⟨#[]⟩, 0, (counts l 2 s.2.1 s.2.2).1⟩, (counts l 2 s.2.1 s.2.2).2)
  else if numN t.1 = 2 then (⟨2, nameOf s.1, ⟨#[]⟩, (numN (takes l s.2.1 s.2.2 2).1 : Nat), (counts l 2 (takes l s.2.1 s.2.2 2).2.1 (takes l s.2.1 s.2.2 2).2.2).1⟩, (counts l 2 (takes l s.2.1 s.2.2 2).2.1 (takes l s.2.1 s.2.2 2).2.2).2)
  else if numN t.1 = 3 then (⟨3, nameOf s.1, nameOf (counts l 1 s.2.1 s.2.2).1, 0, []⟩, (counts l 1 s.2.1 s.2.2).2)
  else (⟨(numN t.1 : Nat), nameOf s.1, ⟨#[]⟩, 0, []⟩, s.2)

/-- the world within readOp: the operation so far, the result, the Reader. -/
structure RO (w : World) (p q : Nat) (l : List Nat) (at_ : Nat) (er : Int) (x : Nat) (wr : World) (k : Int) (n m : ByteArray) (t : Int) (v : Value) : Prop where
  box : wr.heap[x]? = some (.cells #[.int .i64 k, .string n, .string m, .int .i64 t, v] 44 (0, 0))
  res : wr.heap[w.heap.size]? = some (.cells #[.int .i64 0, .string ⟨#[]⟩, .string ⟨#[]⟩, .int .i64 0, .slice none 0 0] 44 (0, 0))
  rd : Rd wr p q l at_ er
  off : Off (fun k => k = p) w wr
  px : p < w.heap.size ∧ q < w.heap.size ∧ w.heap.size < x
theorem RO.read {w wr w' : World} {p q : Nat} {l : List Nat} {at_ : Nat} {er : Int} {x : Nat} {k : Int} {n m : ByteArray} {t : Int} {v : Value} {s : List Nat × Nat × Int} (h : RO w p q l at_ er x wr k n m t v) (hr : Reads wr p q l s w') : RO w p q l s.2.1 s.2.2 x w' k n m t v :=
  ⟨hr.2.at h.box (by have := h.px; omega), hr.2.at h.res (by have := h.px; omega), hr.1, h.off.trans hr.2 (fun _ _ t => t), h.px⟩
theorem RO.set {w wr : World} {p q : Nat} {l : List Nat} {at_ : Nat} {er : Int} {x : Nat} {k : Int} {n m : ByteArray} {t : Int} {v : Value} (h : RO w p q l at_ er x wr k n m t v) (j : Nat) (u : Value) :
    (wr.setCell ⟨x, j, none⟩ u).heap[w.heap.size]? = some (.cells #[.int .i64 0, .string ⟨#[]⟩, .string ⟨#[]⟩, .int .i64 0, .slice none 0 0] 44 (0, 0)) ∧ Rd (wr.setCell ⟨x, j, none⟩ u) p q l at_ er ∧ Off (fun k => k = p) w (wr.setCell ⟨x, j, none⟩ u) ∧ (wr.setCell ⟨x, j, none⟩ u).heap[x]? = some (.cells (#[.int .i64 k, .string n, .string m, .int .i64 t, v].setIfInBounds j u) 44 (0, 0)) := by
  have hp := h.px
  have ho := off_set wr x j u
  exact ⟨ho.at h.res (by omega), h.rd.off ho (by omega) (by omega), h.off.trans ho (fun i hi e => by omega), heap_setCell_same wr x j _ _ u h.box⟩
theorem RO.name {w wr : World} {p q : Nat} {l : List Nat} {at_ : Nat} {er : Int} {x : Nat} {k : Int} {n m : ByteArray} {t : Int} {v : Value} (h : RO w p q l at_ er x wr k n m t v) (n' : ByteArray) : RO w p q l at_ er x (wr.setCell ⟨x, 1, none⟩ (.string n')) k n' m t v := by
  obtain ⟨h1, h2, h3, h4⟩ := h.set 1 (.string n')
  exact ⟨h4, h1, h2, h3, h.px⟩
theorem RO.new {w wr : World} {p q : Nat} {l : List Nat} {at_ : Nat} {er : Int} {x : Nat} {k : Int} {n m : ByteArray} {t : Int} {v : Value} (h : RO w p q l at_ er x wr k n m t v) (m' : ByteArray) : RO w p q l at_ er x (wr.setCell ⟨x, 2, none⟩ (.string m')) k n m' t v := by
  obtain ⟨h1, h2, h3, h4⟩ := h.set 2 (.string m')
  exact ⟨h4, h1, h2, h3, h.px⟩
theorem RO.at {w wr : World} {p q : Nat} {l : List Nat} {at_ : Nat} {er : Int} {x : Nat} {k : Int} {n m : ByteArray} {t : Int} {v : Value} (h : RO w p q l at_ er x wr k n m t v) (t' : Int) : RO w p q l at_ er x (wr.setCell ⟨x, 3, none⟩ (.int .i64 t')) k n m t' v := by
  obtain ⟨h1, h2, h3, h4⟩ := h.set 3 (.int .i64 t')
  exact ⟨h4, h1, h2, h3, h.px⟩
theorem RO.bytes {w wr : World} {p q : Nat} {l : List Nat} {at_ : Nat} {er : Int} {x : Nat} {k : Int} {n m : ByteArray} {t : Int} {v : Value} (h : RO w p q l at_ er x wr k n m t v) (v' : Value) : RO w p q l at_ er x (wr.setCell ⟨x, 4, none⟩ v') k n m t v' := by
  obtain ⟨h1, h2, h3, h4⟩ := h.set 4 v'
  exact ⟨h4, h1, h2, h3, h.px⟩
theorem RO.reads {w wr : World} {p q : Nat} {l : List Nat} {at_ : Nat} {er : Int} {x : Nat} {k : Int} {n m : ByteArray} {t : Int} {v : Value} (h : RO w p q l at_ er x wr k n m t v) : wr.cell? ⟨x, 0, none⟩ = some (.int .i64 k) ∧ wr.cell? ⟨x, 1, none⟩ = some (.string n) ∧ wr.cell? ⟨x, 2, none⟩ = some (.string m) ∧ wr.cell? ⟨x, 3, none⟩ = some (.int .i64 t) ∧ wr.cell? ⟨x, 4, none⟩ = some v ∧ ∀ j, wr.frozen? ⟨x, j, none⟩ = false :=
  ⟨by rw [cell_of h.box]; rfl, by rw [cell_of h.box]; rfl, by rw [cell_of h.box]; rfl, by rw [cell_of h.box]; rfl, by rw [cell_of h.box]; rfl, fun j => frozen_of h.box j⟩
theorem RO.resr {w wr : World} {p q : Nat} {l : List Nat} {at_ : Nat} {er : Int} {x : Nat} {k : Int} {n m : ByteArray} {t : Int} {v : Value} (h : RO w p q l at_ er x wr k n m t v) : wr.cell? ⟨w.heap.size, 0, none⟩ = some (.int .i64 0) ∧ wr.cell? ⟨w.heap.size, 1, none⟩ = some (.string ⟨#[]⟩) ∧ wr.cell? ⟨w.heap.size, 2, none⟩ = some (.string ⟨#[]⟩) ∧ wr.cell? ⟨w.heap.size, 3, none⟩ = some (.int .i64 0) ∧ wr.cell? ⟨w.heap.size, 4, none⟩ = some (.slice none 0 0) ∧ ∀ j, wr.frozen? ⟨w.heap.size, j, none⟩ = false :=
  ⟨by rw [cell_of h.res]; rfl, by rw [cell_of h.res]; rfl, by rw [cell_of h.res]; rfl, by rw [cell_of h.res]; rfl, by rw [cell_of h.res]; rfl, fun j => frozen_of h.res j⟩

/-- the world behind the last store. -/
def put5 (W : World) (N : Nat) (k : Int) (n m : ByteArray) (t : Int) (v : Value) : World := ((((W.setCell ⟨N, 0, none⟩ (.int .i64 k)).setCell ⟨N, 1, none⟩ (.string n)).setCell ⟨N, 2, none⟩ (.string m)).setCell ⟨N, 3, none⟩ (.int .i64 t)).setCell ⟨N, 4, none⟩ v
theorem RO.ends {w wr : World} {p q : Nat} {l : List Nat} {at_ : Nat} {er : Int} {x : Nat} {k : Int} {n m : ByteArray} {t : Int} {v : Value} (h : RO w p q l at_ er x wr k n m t v) :
    (put5 wr w.heap.size k n m t v).heap[w.heap.size]? = some (.cells #[.int .i64 k, .string n, .string m, .int .i64 t, v] 44 (0, 0)) ∧ Rd (put5 wr w.heap.size k n m t v) p q l at_ er ∧ Off (fun k => k = p) w (put5 wr w.heap.size k n m t v) ∧ Off (fun k => k = w.heap.size) wr (put5 wr w.heap.size k n m t v) := by
  have hp := h.px
  have ho : Off (fun k => k = w.heap.size) wr (put5 wr w.heap.size k n m t v) := ((((off_set wr _ 0 _).trans (off_set _ _ 1 _) (fun _ _ t => t)).trans (off_set _ _ 2 _) (fun _ _ t => t)).trans (off_set _ _ 3 _) (fun _ _ t => t)).trans (off_set _ _ 4 _) (fun _ _ t => t)
  refine ⟨?_, h.rd.off ho (by omega) (by omega), h.off.trans ho (fun i hi e => by omega), ho⟩
  have e1 := heap_setCell_same wr _ 0 _ _ (.int .i64 k) h.res
  have e2 := heap_setCell_same _ _ 1 _ _ (.string n) e1
  have e3 := heap_setCell_same _ _ 2 _ _ (.string m) e2
  have e4 := heap_setCell_same _ _ 3 _ _ (.int .i64 t) e3
  have e5 := heap_setCell_same _ _ 4 _ _ v e4
  exact e5
theorem RO.endr {w wr : World} {p q : Nat} {l : List Nat} {at_ : Nat} {er : Int} {x : Nat} {k : Int} {n m : ByteArray} {t : Int} {v : Value} (h : RO w p q l at_ er x wr k n m t v) : (put5 wr w.heap.size k n m t v).cell? ⟨w.heap.size, 0, none⟩ = some (.int .i64 k) ∧ (put5 wr w.heap.size k n m t v).cell? ⟨w.heap.size, 1, none⟩ = some (.string n) ∧ (put5 wr w.heap.size k n m t v).cell? ⟨w.heap.size, 2, none⟩ = some (.string m) ∧ (put5 wr w.heap.size k n m t v).cell? ⟨w.heap.size, 3, none⟩ = some (.int .i64 t) ∧ (put5 wr w.heap.size k n m t v).cell? ⟨w.heap.size, 4, none⟩ = some v :=
  ⟨by rw [cell_of h.ends.1]; rfl, by rw [cell_of h.ends.1]; rfl, by rw [cell_of h.ends.1]; rfl, by rw [cell_of h.ends.1]; rfl, by rw [cell_of h.ends.1]; rfl⟩

/-- What readOp leaves. -/
def ReadOp (w : World) (p q : Nat) (l : List Nat) (r : OpS × Nat × Int) (e : Ending) (w' : World) : Prop :=
  ∃ a' c', e = .returned (.agg #[.int .i64 r.1.kind, .string r.1.name, .string r.1.new, .int .i64 r.1.at_, .slice a' r.1.bytes.length c']) ∧ Hid (Row w' a' r.1.bytes ∧ r.1.bytes.length ≤ c' ∧ c' ≤ maxLen ∧ (0 < r.1.bytes.length → ∀ b, a' = some b → w.heap.size ≤ b.block) ∧ Rd w' p q l r.2.1 r.2.2 ∧ Off (fun k => k = p) w w')

set_option maxRecDepth 100000 in
set_option maxHeartbeats 8000000 in
theorem readOp_any (w : World) (p q : Nat) (l : List Nat) (at_ : Nat) (er : Int) (h : Rd w p q l at_ er) (hz : l.length ≤ 1000000) :
    Calls Try.prog 47 #[.pointer (some ⟨p, 0, none⟩)] w fun e w' => ReadOp w p q l (rOp l at_ er) e w' := by
  have hlt := h.lt
  have HBY : Hid (∀ x ∈ l, x < 256) := h.all.byte
  have hb0 : Below w.heap.size w (w.alloc (.cells #[.int .i64 0, .string ⟨#[]⟩, .string ⟨#[]⟩, .int .i64 0, .slice none 0 0] 44)) := (Below.refl _ w).alloc (Nat.le_refl _) _
  have HU := u8_any _ p q l at_ er (h.later hb0) (by omega)
  have hkn := takes_num (l := l) (at_ := at_) (er := er) (n := 1) HBY.out (by omega)
  obtain ⟨R, hR⟩ : ∃ R, R = rOp l at_ er := ⟨_, rfl⟩
  rw [← hR]
  have HR : Hid (R = rOp l at_ er) := hR
  unfold rOp at HR
  simp only at HR
  clear hR
  generalize takes l at_ er 1 = t at HU hkn HR
  obtain ⟨kn, hknE⟩ : ∃ kn, kn = numN t.1 := ⟨_, rfl⟩
  rw [← hknE] at HU hkn HR
  have HRO : Hid (∀ w1, Reads (w.alloc (.cells #[.int .i64 0, .string ⟨#[]⟩, .string ⟨#[]⟩, .int .i64 0, .slice none 0 0] 44)) p q l t w1 → RO w p q l t.2.1 t.2.2 w1.heap.size (w1.alloc (.cells #[.int .i64 (kn : Nat), .string ⟨#[]⟩, .string ⟨#[]⟩, .int .i64 0, .slice none 0 0] 44)) (kn : Nat) ⟨#[]⟩ ⟨#[]⟩ 0 (.slice none 0 0)) := fun w1 hr => by
    have hs := hr.2.size
    have hs1 : (w.alloc (.cells #[.int .i64 0, .string ⟨#[]⟩, .string ⟨#[]⟩, .int .i64 0, .slice none 0 0] 44)).heap.size = w.heap.size + 1 := by simp
    have hb1 : Below w1.heap.size w1 (w1.alloc (.cells #[.int .i64 (kn : Nat), .string ⟨#[]⟩, .string ⟨#[]⟩, .int .i64 0, .slice none 0 0] 44)) := (Below.refl _ w1).alloc (Nat.le_refl _) _
    exact ⟨heap_alloc_new w1 _, old_block hb1 (hr.2.at (heap_alloc_new w _) (by omega)), hr.1.later hb1, ((Off.of_below hb0).trans hr.2 (fun _ _ t => t)).trans (Off.of_below (S := fun _ => False) hb1) (fun _ _ t => t.elim), hlt.1, hlt.2, by omega⟩
  clear hknE h hb0
  have HRN : Hid (∀ W, Rd W p q l t.2.1 t.2.2 → Calls Try.prog 63 #[.pointer (some ⟨p, 0, none⟩)] W fun e w' => e = .returned (.string (nameOf (counts l 1 t.2.1 t.2.2).1)) ∧ Hid (Reads W p q l (counts l 1 t.2.1 t.2.2) w')) := fun W hW => readName_any W p q l _ _ hW (by omega)
  generalize counts l 1 t.2.1 t.2.2 = s at HRN HR
  obtain ⟨nm, hnm⟩ : ∃ nm, nm = nameOf s.1 := ⟨_, rfl⟩
  rw [← hnm] at HRN HR
  clear hnm
  go_enter Try.func47, Try.ntmps47
  go_upto_region 3 with (first | (go_at_call 66; refine HU.mono ?_; rintro e w1 ⟨rfl, hq1⟩; have HR1 : Hid _ := HRO.out w1 hq1.out) | (go_at_call 63; refine (HRN.out _ HR1.out.rd).mono ?_; rintro e w2 ⟨rfl, hq2⟩; have hr2 := HR1.out.read hq2.out; obtain ⟨r0, r1, r2, r3, r4, r5⟩ := hr2.reads))
  obtain ⟨w3, hw3⟩ : ∃ w3, w3 = w2.setCell ⟨w1.heap.size, 1, none⟩ (.string nm) := ⟨_, rfl⟩
  rw [← hw3]
  have hr3 : RO w p q l s.2.1 s.2.2 w1.heap.size w3 (kn : Nat) nm ⟨#[]⟩ 0 (.slice none 0 0) := by rw [hw3]; exact hr2.name nm
  have HR3 : Hid _ := hr3
  generalize w1.heap.size = x at *
  clear hw3 hr2 HR1 HRO HU HRN r0 r1 r2 r3 r4 r5 hq1 hq2 hr3
  obtain ⟨r0, r1, r2, r3, r4, r5⟩ := HR3.out.reads
  have hwl := HR3.out.off.size
  have HXL : Hid (x < w3.heap.size) := (Array.getElem?_eq_some_iff.1 HR3.out.box).1
  by_cases k1 : kn = 1
  · subst k1
    rw [if_pos rfl] at HR
    have HR3b : Hid (RO w p q l s.2.1 s.2.2 x w3 1 nm ⟨#[]⟩ 0 (.slice none 0 0)) := HR3.out
    have HRB : Hid (∀ W, Rd W p q l s.2.1 s.2.2 → Calls Try.prog 64 #[.pointer (some ⟨p, 0, none⟩)] W fun e w' => ∃ g, e = .returned (.slice (some ⟨g, 0, none⟩) (counts l 2 s.2.1 s.2.2).1.length (counts l 2 s.2.1 s.2.2).1.length) ∧ Hid (Bs w' g (counts l 2 s.2.1 s.2.2).1 ∧ W.heap.size ≤ g ∧ Reads W p q l (counts l 2 s.2.1 s.2.2) w')) := fun W hW => readBytes_any W p q l _ _ hW (by omega)
    generalize counts l 2 s.2.1 s.2.2 = z at HRB HR
    obtain ⟨zb, za, ze⟩ := z
    simp only at HRB HR
    obtain rfl := HR.out
    go_wp2_with (go_at_call 64; refine (HRB.out w3 HR3b.out.rd).mono ?_; rintro e w4 ⟨g, rfl, hq4⟩; have hr4 := HR3b.out.read hq4.out.2.2; obtain ⟨s0, s1, s2, s3, s4, s5⟩ := hr4.reads; have hr5 := hr4.bytes (.slice (some ⟨g, 0, none⟩) zb.length zb.length); obtain ⟨y0, y1, y2, y3, y4, y5⟩ := hr5.reads; obtain ⟨q0, q1, q2, q3, q4, q5⟩ := hr5.resr; have HBS : Hid (Bs w4 g zb ∧ w3.heap.size ≤ g) := ⟨hq4.out.1, hq4.out.2.1⟩; clear hq4)
    have hE := hr5.endr
    have HE : Hid _ := hr5.ends
    unfold put5 at hE
    obtain ⟨z0, z1, z2, z3, z4⟩ := hE
    refine bodyPost_ret (v := .agg #[.int .i64 1, .string nm, .string ⟨#[]⟩, .int .i64 0, .slice (some ⟨g, 0, none⟩) zb.length zb.length]) (by simp [results, Try.results47, go_sem, z0, z1, z2, z3, z4]) rfl ⟨some ⟨g, 0, none⟩, zb.length, rfl, ?_⟩
    exact ⟨((HBS.out.1.off (off_set w4 x 4 _) (by have := HBS.out.2; have := HXL.out; omega)).off HE.out.2.2.2 (by have := HBS.out.2; have := hwl; have := HXL.out; have := HR3.out.px; omega)).row, Nat.le_refl _, HBS.out.1.len, fun _ b hb => by cases hb; show _ ≤ g; have := HBS.out.2; omega, HE.out.2.1, HE.out.2.2.1⟩
  · by_cases k2 : kn = 2
    · subst k2
      rw [if_neg (by omega), if_pos rfl] at HR
      have HR3b : Hid (RO w p q l s.2.1 s.2.2 x w3 2 nm ⟨#[]⟩ 0 (.slice none 0 0)) := HR3.out
      have HU2 := u16_any w3 p q l s.2.1 s.2.2 HR3b.out.rd (by omega)
      have htn := takes_num (l := l) (at_ := s.2.1) (er := s.2.2) (n := 2) HBY.out (by omega)
      generalize takes l s.2.1 s.2.2 2 = y at HU2 HR htn
      have HRB : Hid (∀ W, Rd W p q l y.2.1 y.2.2 → Calls Try.prog 64 #[.pointer (some ⟨p, 0, none⟩)] W fun e w' => ∃ g, e = .returned (.slice (some ⟨g, 0, none⟩) (counts l 2 y.2.1 y.2.2).1.length (counts l 2 y.2.1 y.2.2).1.length) ∧ Hid (Bs w' g (counts l 2 y.2.1 y.2.2).1 ∧ W.heap.size ≤ g ∧ Reads W p q l (counts l 2 y.2.1 y.2.2) w')) := fun W hW => readBytes_any W p q l _ _ hW (by omega)
      generalize counts l 2 y.2.1 y.2.2 = z at HRB HR
      obtain ⟨zb, za, ze⟩ := z
      simp only at HRB HR
      obtain ⟨tn, htne⟩ : ∃ tn, tn = numN y.1 := ⟨_, rfl⟩
      rw [← htne] at HR HU2 htn
      obtain rfl := HR.out
      clear htne
      go_wp2_with (first | (go_at_call 46; refine HU2.mono ?_; rintro e w5 ⟨rfl, hq5⟩; have hr5 := HR3b.out.read hq5.out; obtain ⟨t0, t1, t2, t3, t4, t5⟩ := hr5.reads; have hr6 := hr5.at (tn : Nat); have hs5 := hq5.out.2.size; have hs6 : (w5.setCell ⟨x, 3, none⟩ (.int .i64 (tn : Nat))).heap.size = w5.heap.size := (by simp [World.setCell]); have HR6 : Hid _ := hr6) | (go_at_call 64; refine (HRB.out _ HR6.out.rd).mono ?_; rintro e w4 ⟨g, rfl, hq4⟩; have hr4 := HR6.out.read hq4.out.2.2; obtain ⟨s0, s1, s2, s3, s4, s5⟩ := hr4.reads; have hr7 := hr4.bytes (.slice (some ⟨g, 0, none⟩) zb.length zb.length); obtain ⟨y0, y1, y2, y3, y4, y5⟩ := hr7.reads; obtain ⟨q0, q1, q2, q3, q4, q5⟩ := hr7.resr; have HBS : Hid (Bs w4 g zb ∧ w3.heap.size ≤ g) := ⟨hq4.out.1, (by have := hq4.out.2.1; omega)⟩; clear hq4))
      have hE := hr7.endr
      have HE : Hid _ := hr7.ends
      unfold put5 at hE
      obtain ⟨z0, z1, z2, z3, z4⟩ := hE
      refine bodyPost_ret (v := .agg #[.int .i64 2, .string nm, .string ⟨#[]⟩, .int .i64 (tn : Nat), .slice (some ⟨g, 0, none⟩) zb.length zb.length]) (by simp [results, Try.results47, go_sem, z0, z1, z2, z3, z4]) rfl ⟨some ⟨g, 0, none⟩, zb.length, rfl, ?_⟩
      exact ⟨((HBS.out.1.off (off_set w4 x 4 _) (by have := HBS.out.2; have := HXL.out; omega)).off HE.out.2.2.2 (by have := HBS.out.2; have := hwl; have := HXL.out; have := HR3.out.px; omega)).row, Nat.le_refl _, HBS.out.1.len, fun _ b hb => by cases hb; show _ ≤ g; have := HBS.out.2; omega, HE.out.2.1, HE.out.2.2.1⟩
    · by_cases k3 : kn = 3
      · subst k3
        rw [if_neg (by omega), if_neg (by omega), if_pos rfl] at HR
        have HR3b : Hid (RO w p q l s.2.1 s.2.2 x w3 3 nm ⟨#[]⟩ 0 (.slice none 0 0)) := HR3.out
        have HRN := readName_any w3 p q l s.2.1 s.2.2 HR3b.out.rd (by omega)
        generalize counts l 1 s.2.1 s.2.2 = z at HRN HR
        obtain ⟨zb, za, ze⟩ := z
        simp only at HRN HR
        obtain ⟨nw, hnwe⟩ : ∃ nw, nw = nameOf zb := ⟨_, rfl⟩
        rw [← hnwe] at HR HRN
        obtain rfl := HR.out
        clear hnwe
        go_wp2_with (go_at_call 63; refine HRN.mono ?_; rintro e w4 ⟨rfl, hq4⟩; have hr4 := HR3b.out.read hq4.out; obtain ⟨s0, s1, s2, s3, s4, s5⟩ := hr4.reads; have hr5 := hr4.new nw; obtain ⟨y0, y1, y2, y3, y4, y5⟩ := hr5.reads; obtain ⟨q0, q1, q2, q3, q4, q5⟩ := hr5.resr)
        have hE := hr5.endr
        have HE : Hid _ := hr5.ends
        unfold put5 at hE
        obtain ⟨z0, z1, z2, z3, z4⟩ := hE
        refine bodyPost_ret (v := .agg #[.int .i64 3, .string nm, .string nw, .int .i64 0, .slice none 0 0]) (by simp [results, Try.results47, go_sem, z0, z1, z2, z3, z4]) rfl ⟨none, 0, rfl, ?_⟩
        exact ⟨row_nil _ _, Nat.le_refl _, Nat.zero_le _, fun h => absurd h (by simp), HE.out.2.1, HE.out.2.2.1⟩
      · rw [if_neg k1, if_neg k2, if_neg k3] at HR
        obtain rfl := HR.out
        have g1 : ((kn : Int) == 1) = false := beq_eq_false_iff_ne.2 (by omega)
        have g2 : ((kn : Int) == 2) = false := beq_eq_false_iff_ne.2 (by omega)
        have g3 : ((kn : Int) == 3) = false := beq_eq_false_iff_ne.2 (by omega)
        obtain ⟨q0, q1, q2, q3, q4, q5⟩ := HR3.out.resr
        clear k1 k2 k3
        go_wp2
        have hE := HR3.out.endr
        have HE : Hid _ := HR3.out.ends
        unfold put5 at hE
        obtain ⟨z0, z1, z2, z3, z4⟩ := hE
        refine bodyPost_ret (v := .agg #[.int .i64 (kn : Nat), .string nm, .string ⟨#[]⟩, .int .i64 0, .slice none 0 0]) (by simp [results, Try.results47, go_sem, z0, z1, z2, z3, z4]) rfl ⟨none, 0, rfl, ?_⟩
        exact ⟨row_nil _ _, Nat.le_refl _, Nat.zero_le _, fun h => absurd h (by simp), HE.out.2.1, HE.out.2.2.1⟩
end Go.Proofs.Ytfocejmfmnijpaa
