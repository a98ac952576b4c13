/- A segment that is being read into; (*segment.reader).raw whichever way. -/
import Derived.Test.YthmfbhanmncfgaaZRData
import Derived.Test.YthmfbhanmncfgaaZPut
namespace Go.Proofs.Ythmfbhanmncfgaa
open Go.RowKit
set_option linter.unusedVariables false
/-- raw, whichever way. -/
theorem raw_any (w : World) (p B : Nat) (st : List Nat × Bool) (n : Nat) (hn : n ≤ 1000) (h : Rdr w p B st) :
    Calls Try.prog 45 #[.pointer (some ⟨p, 0, none⟩), .int .i64 n] w fun e w' => ∃ a c, e = .returned (.slice a (rawR n st).1.length c) ∧ Hid (Rd1 w p B (rawR n st).2 w' ∧ Fresh w w' a c (rawR n st).1) := by
  obtain ⟨l, f⟩ := st
  unfold rawR
  simp only
  by_cases hc : l.length < n
  · rw [if_pos hc]
    refine (raw_bad w p B l f n hn h hc).mono ?_
    rintro e w' ⟨rfl, hq⟩
    exact ⟨none, 0, rfl, hq.out, row_nil _ _, by simp, by simp, fun b hb => by cases hb⟩
  · rw [if_neg hc]
    simp only
    have hl : (l.take n).length = n := by rw [List.length_take]; omega
    by_cases h0 : 0 < l.length
    · rw [hl]
      exact raw_ok w p B l f n hn h (by omega) h0
    · obtain rfl : l = [] := List.eq_nil_of_length_eq_zero (by omega)
      obtain rfl : n = 0 := by simp at hc; exact hc
      exact raw_nil w p B f h
/-- a reader at p of bytes in block B, a segment at q that is being filled. -/
structure Seg (w : World) (p B q : Nat) (st : List Nat × Bool) (s : Sg) (a : Option Addr) (c : Nat) (a2 : Option Addr) (c2 : Nat) : Prop where
  seg : w.heap[q]? = some (sc s a c a2 c2)
  rdr : Rdr w p B st
  qp : q ≠ p
  qB : q ≠ B
theorem Rdr.off {w w' : World} {p B : Nat} {st : List Nat × Bool} {S : Nat → Prop} (h : Rdr w p B st) (ho : Off S w w') (hp : ¬ S p) (hB : ¬ S B) : Rdr w' p B st := by
  obtain ⟨a, c, h1, h2, h3, h4, h5, h6⟩ := h
  refine ⟨a, c, ho.at h1 hp, h2.off ho (fun h0 b hb => ?_), h3, h4, h5, h6⟩
  rcases h6 with ⟨e, _⟩ | ⟨o', e, _⟩
  · rw [e] at hb; cases hb
  · rw [e] at hb; cases hb; exact hB
theorem Seg.read {w w' : World} {p B q : Nat} {st st2 : List Nat × Bool} {s : Sg} {a : Option Addr} {c : Nat} {a2 : Option Addr} {c2 : Nat} (h : Seg w p B q st s a c a2 c2) (hr : Rd1 w p B st2 w') : Seg w' p B q st2 s a c a2 c2 :=
  ⟨hr.2.at h.seg h.qp, hr.1, h.qp, h.qB⟩
theorem Seg.later {w w' : World} {p B q : Nat} {st : List Nat × Bool} {s : Sg} {a : Option Addr} {c : Nat} {a2 : Option Addr} {c2 : Nat} (h : Seg w p B q st s a c a2 c2) (hb : Below w.heap.size w w') : Seg w' p B q st s a c a2 c2 :=
  ⟨old_block hb h.seg, h.rdr.off (S := fun _ => False) (Off.of_below hb) id id, h.qp, h.qB⟩
theorem Seg.set {w : World} {p B q : Nat} {st : List Nat × Bool} {s s2 : Sg} {a b : Option Addr} {c d : Nat} {a2 b2 : Option Addr} {c2 d2 : Nat} (h : Seg w p B q st s a c a2 c2) (j : Nat) (u : Value)
    (e : #[Value.int .i64 s.knd, .int .i64 s.src, .int .u32 (s.ses : Nat), .int .u32 (s.ser : Nat), .int .u32 (s.cks : Nat), .int .i64 s.off, .int .i64 s.tot, .int .i64 s.low, .int .i64 s.upp, .int .i64 s.rea, .bool s.chk, .slice a s.dat.length c, .slice a2 s.cls.length c2].setIfInBounds j u = #[Value.int .i64 s2.knd, .int .i64 s2.src, .int .u32 (s2.ses : Nat), .int .u32 (s2.ser : Nat), .int .u32 (s2.cks : Nat), .int .i64 s2.off, .int .i64 s2.tot, .int .i64 s2.low, .int .i64 s2.upp, .int .i64 s2.rea, .bool s2.chk, .slice b s2.dat.length d, .slice b2 s2.cls.length d2]) :
    Seg (w.setCell ⟨q, j, none⟩ u) p B q st s2 b d b2 d2 := by
  have ho : Off (fun k => k = q) w (w.setCell ⟨q, j, none⟩ u) := (Off.refl (fun k => k = q) w).setCell (p := ⟨q, j, none⟩) (.inr rfl) u
  refine ⟨?_, h.rdr.off ho (fun e => h.qp e.symm) (fun e => h.qB e.symm), h.qp, h.qB⟩
  rw [heap_setCell_same _ _ _ _ _ _ h.seg]
  show some (Obj.cells _ _ _) = some (Obj.cells _ _ _)
  rw [e]
/-- nothing but the reader, the segment and new memory has turned. -/
abbrev OffS (p q : Nat) (w w' : World) : Prop := Off (fun k => k = p ∨ k = q) w w'
theorem OffS.read {w w1 w2 : World} {p B q : Nat} {st : List Nat × Bool} (h : OffS p q w w1) (hr : Rd1 w1 p B st w2) : OffS p q w w2 := h.trans hr.2 (fun _ _ t => .inl t)
theorem OffS.set {w w1 : World} {p q : Nat} (h : OffS p q w w1) (j : Nat) (u : Value) : OffS p q w (w1.setCell ⟨q, j, none⟩ u) := h.setCell (p := ⟨q, j, none⟩) (.inr (.inr rfl)) u
end Go.Proofs.Ythmfbhanmncfgaa
