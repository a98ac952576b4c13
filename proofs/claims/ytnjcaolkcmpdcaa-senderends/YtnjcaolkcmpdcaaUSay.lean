/- (*turn).say: one more segment is sent. -/
import Derived.Test.YtnjcaolkcmpdcaaUBegin
import Derived.Deep.RegionLaw
import Derived.Deep.AppendLies
import Derived.Deep.RegionHeld3
import Derived.Deep.CutRange
namespace Go.Proofs.Ytnjcaolkcmpdcaa
open Go.RowKit
set_option linter.unusedVariables false
/-- a segment, and where its rows lie. -/
structure SD where
  s : Sg
  a : Option Addr
  c : Nat
  a2 : Option Addr
  c2 : Nat
def SD.cells (x : SD) : List Value := sgcells x.s x.a x.c x.a2 x.c2
def dcl (L : List SD) : List Value := L.flatMap SD.cells
theorem SD.cells_len (x : SD) : x.cells.length = 13 := rfl
theorem dcl_len : ∀ L : List SD, (dcl L).length = L.length * 13
  | [] => rfl
  | x :: r => by
    have := dcl_len r
    unfold dcl at this ⊢
    rw [List.flatMap_cons, List.length_append, this, SD.cells_len, List.length_cons]
    omega
theorem dcl_app (P Q : List SD) : dcl (P ++ Q) = dcl P ++ dcl Q := by unfold dcl; rw [List.flatMap_append]
theorem dcl_one (x : SD) : dcl [x] = x.cells := by simp [dcl]
theorem sd_all (x : SD) : ∀ u ∈ x.cells, u.oneCell' = true := by
  intro u hu
  simp only [SD.cells, sgcells, List.mem_cons, List.not_mem_nil, or_false] at hu
  rcases hu with rfl | rfl | rfl | rfl | rfl | rfl | rfl | rfl | rfl | rfl | rfl | rfl | rfl <;> rfl
theorem usg_range {W : World} {b : Nat} {s : Sg} {a : Option Addr} {c : Nat} {a2 : Option Addr} {c2 : Nat} (h : W.heap[b]? = some (sc s a c a2 c2)) : W.rangeAt b 0 (sgcells s a c a2 c2) := by
  intro j v hv
  rw [Nat.zero_add, cell_of h]
  rw [← List.getElem?_toArray] at hv
  exact hv
theorem new_src (w : World) (x : SD) : ∀ j u, x.cells[j]? = some u → (w.alloc (sc x.s x.a x.c x.a2 x.c2)).drew.cell? ((⟨w.heap.size, 0, none⟩ : Addr).add j) = some u := by
  intro j u hu
  have := usg_range (W := (w.alloc (sc x.s x.a x.c x.a2 x.c2)).drew) (heap_alloc_new w (sc x.s x.a x.c x.a2 x.c2)) j u hu
  rw [Nat.zero_add] at this
  rw [Go.WideShapes.add_plain, Nat.zero_add]
  exact this
theorem Try.info29 : (Try.prog.info? 29).map (fun i => (i.zero, i.size, i.bytes)) = some (some (.agg #[.int .i64 0, .int .i64 0, .int .u32 0, .int .u32 0, .int .u32 0, .int .i64 0, .int .i64 0, .int .i64 0, .int .i64 0, .int .i64 0, .bool false, .slice none 0 0, .slice none 0 0]), 13, 128) := by kernel_rfl
/-- what a turn and what it sends are. -/
structure Sy (w : World) (tb n0 : Nat) (s : Sn) (p : Pt) (v : Value) (L : List SD) : Prop where
  box : w.heap[tb]? = some (tnc s p v)
  own : w.ownsRow n0 29 13 v L.length (dcl L)
  lt : tb < n0
  le : n0 ≤ w.heap.size
theorem say_fin {w wc w2 : World} {tb n0 : Nat} {s : Sn} {p : Pt} {v v' : Value} {L M : List SD} (h : Sy w tb n0 s p v L) (hb : Below w.heap.size w wc) (hf : Off (fun k => v.ownBlock = some k) wc w2) (ho : w2.ownsRow n0 29 13 v' M.length (dcl M)) :
    w2.cell? ⟨tb, 24, none⟩ = some v ∧ w2.frozen? ⟨tb, 24, none⟩ = false ∧ Hid (Sy (w2.setCell ⟨tb, 24, none⟩ v') tb n0 s p v' M ∧ Off (fun i => i = tb ∨ v.ownBlock = some i) w (w2.setCell ⟨tb, 24, none⟩ v')) := by
  have hv : ∀ k, v.ownBlock = some k → n0 ≤ k := own_ge h.own
  have h2 : w2.heap[tb]? = some (tnc s p v) := hf.at (old_block hb h.box) (fun e => by have := hv tb e; have := h.lt; omega)
  have hs : Off (fun i => i = tb) w2 (w2.setCell ⟨tb, 24, none⟩ v') := (Off.refl (fun i => i = tb) w2).setCell (p := ⟨tb, 24, none⟩) (.inr rfl) _
  refine ⟨by rw [cell_of h2]; rfl, frozen_of h2 24, ⟨?_, hs.owns ho (fun k e t => by have := own_ge ho k e; have := h.lt; have : k = tb := t; omega), h.lt, Nat.le_trans h.le (Nat.le_trans hb.size (Nat.le_trans hf.size hs.size))⟩, ?_⟩
  · rw [heap_setCell_same _ _ _ _ _ _ h2]
    rfl
  · exact (((Off.of_below (S := fun i => i = tb ∨ v.ownBlock = some i) hb).trans hf (fun i _ t => .inr t)).trans hs (fun i _ t => .inl t))
set_option maxRecDepth 20000 in
set_option maxHeartbeats 8000000 in
theorem say_any (s : Sn) (p : Pt) (v : Value) (tb n0 : Nat) (L : List SD) (x : SD) (w : World) (h : Sy w tb n0 s p v L) (hz : L.length ≤ 1000) :
    Calls Try.prog 49 #[.pointer (some ⟨tb, 0, none⟩), sv x.s x.a x.c x.a2 x.c2] w fun e w' => e = .returned (.tuple #[]) ∧ Hid (∃ v', Sy w' tb n0 s p v' (L ++ [{ x with s := { x.s with src := s.bgn.src, ses := s.bgn.ses } }]) ∧ Off (fun i => i = tb ∨ v.ownBlock = some i) w w' ∧ ∀ k, v'.ownBlock = some k → v.ownBlock = some k ∨ w.heap.size ≤ k) := by
  have HT : Hid (Sy w tb n0 s p v L) := h
  obtain ⟨x, xa, xc, a2, c2⟩ := x
  simp only
  clear h
  go_enter Try.func49, Try.ntmps49
  have H0 : ∀ X, (w.alloc X).cell? ⟨tb, 0, none⟩ = some (.int .i64 s.bgn.src) := fun X => (tcells_get (old_block ((Below.refl _ w).alloc (Nat.le_refl _) X) HT.out.box)).1
  have H1 : ∀ X, (w.alloc X).cell? ⟨tb, 1, none⟩ = some (.int .u32 (s.bgn.ses : Nat)) := fun X => (tcells_get (old_block ((Below.refl _ w).alloc (Nat.le_refl _) X) HT.out.box)).2.1
  have HX : Hid ((w.alloc (sc x xa xc a2 c2)).heap[w.heap.size]? = some (sc x xa xc a2 c2)) := heap_alloc_new w _
  have ff := frozen_of HX.out
  have hx1 := (scells HX.out).2.1
  have hx2 := (scells HX.out).2.2.1
  go_wp2_with fail
  go_cut [] from 4 (fun wd => Hid (wd.heap[tb]? = some (tnc s p v) ∧ wd.heap[w.heap.size]? = some (sc { x with src := s.bgn.src, ses := s.bgn.ses } xa xc a2 c2) ∧ Below w.heap.size w wd))
  case first =>
    go_region_with (fail)
    all_goals
      go_wp2
      go_meet
      case rel => exact ⟨old_block (((Below.refl _ w).alloc (Nat.le_refl _) _).drew) HT.out.box, heap_alloc_new w _, ((Below.refl _ w).alloc (Nat.le_refl _) _).drew⟩
  case rest =>
    clear H0 H1 HX ff hx1 hx2
    obtain ⟨h1, h2, h3⟩ := hcut.out
    obtain ⟨i0, hi, hz0, hz1, hz2⟩ := info_parts Try.info29
    have HI : Hid (Try.prog.info? 29 = some i0) := hi
    clear hi
    generalize hX : ({ x with src := s.bgn.src, ses := s.bgn.ses } : Sg) = X at *
    have HXX : Hid (({ x with src := s.bgn.src, ses := s.bgn.ses } : Sg) = X) := hX
    clear hX
    obtain ⟨z0, z1, z2, z3, z4, z5, z6, z7, z8, z9, z10, z11, z12⟩ := scells h2
    have z9' : wc.cell? ⟨tb, 24, none⟩ = some v := by rw [cell_of h1]; rfl
    have z9'' : ∀ Y, (wc.alloc Y).cell? ⟨tb, 24, none⟩ = some v := fun Y => by rw [cell_of (old_block ((Below.refl _ wc).alloc (Nat.le_refl _) Y) h1)]; rfl
    have HB3 : Hid (Below w.heap.size w wc) := h3
    have HNW : Hid (n0 ≤ (wc.alloc (sc X xa xc a2 c2)).drew.heap.size) := by have := HT.out.le; have := HB3.out.size; show _ ≤ _; simp; omega
    have HOW : Hid ((wc.alloc (sc X xa xc a2 c2)).drew.ownsRow n0 29 13 v L.length (dcl L)) := (Off.of_below (S := fun _ => False) (below_of h3 (((Below.refl _ wc).alloc (Nat.le_refl _) _).drew))).owns HT.out.own (fun _ _ t => t)
    clear h2 h1 h3 hcut
    go_wp2_with fail
    go_region_law (refine step_append_lies _ rfl _ _ 33 rfl n0 29 i0 _ 13 128 Try.underlying33 HI.out hz0 hz1 hz2 rfl (by decide) v L.length (dcl L) (by rfl) HOW.out ⟨wc.heap.size, 0, none⟩ 1 1 (SD.cells ⟨X, xa, xc, a2, c2⟩) (by rfl) rfl (new_src wc ⟨X, xa, xc, a2, c2⟩) (sd_all _) (by decide) (by unfold maxLen; omega) (by omega) HNW.out (wc.alloc (sc X xa xc a2 c2)).drew.heap.size rfl ?_; intro g2 cap2 w2 q1 q2 q3 q4; have HQ1 : Hid _ := q1; have HQ2 : Hid _ := q2; have HQ3 : Hid (v.ownBlock = some g2 ∨ w.heap.size ≤ g2) := (by rcases q3 with q3 | q3; exact .inl q3; right; have := HB3.out.size; rw [q3]; simp; omega); clear q1 q2 q3 q4; obtain ⟨y1, y2, HF⟩ := say_fin (M := L ++ [⟨X, xa, xc, a2, c2⟩]) HT.out (below_of HB3.out (((Below.refl _ wc).alloc (Nat.le_refl _) (sc X xa xc a2 c2)).drew)) ((Off.refl (fun k => v.ownBlock = some k) _).grown HQ2.out (fun k e => .inr e)) (by rw [dcl_app, dcl_one, List.length_append]; exact HQ1.out))
    all_goals
      go_wp2
      go_end0
      exact ⟨rfl, by rw [HXX.out]; exact ⟨_, HF.out.1, HF.out.2, fun k e => by cases e; exact HQ3.out⟩⟩
end Go.Proofs.Ytnjcaolkcmpdcaa
