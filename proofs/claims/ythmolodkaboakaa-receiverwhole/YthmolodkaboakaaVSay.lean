/- (*turn).say, sayStop: a segment is sent, the first of the call. -/
import Derived.Test.YthmolodkaboakaaVBegin
import Derived.Deep.RegionLaw
namespace Go.Proofs.Ythmolodkaboakaa
open Go.RowKit
set_option linter.unusedVariables false
abbrev sgcells (s : Sg) (a : Option Addr) (c : Nat) (a2 : Option Addr) (c2 : Nat) : List Value := [.int .i64 s.knd, .int .i64 s.src, .int .u32 (s.ses : Nat), .int .u32 (s.ser : Nat), .int .u32 (s.cks : Nat), .int .i64 s.off, .int .i64 s.tot, .int .i64 s.low, .int .i64 s.upp, .int .i64 s.rea, .bool s.chk, .slice a s.dat.length c, .slice a2 s.cls.length c2]
theorem sg_range {W : World} {b : Nat} {s : Sg} {a : Option Addr} {c : Nat} {a2 : Option Addr} {c2 : Nat} (h : W.heap[b]? = some (sc s a c a2 c2)) : W.rangeAt b 0 (sgcells s a c a2 c2) := by
  intro j v hv
  rw [Nat.zero_add, cell_of h]
  rw [← List.getElem?_toArray] at hv
  exact hv
theorem sg_one (s : Sg) (a : Option Addr) (c : Nat) (a2 : Option Addr) (c2 : Nat) : (sgcells s a c a2 c2).toArray.all (·.oneCell') = true := by simp [Value.oneCell']
theorem Try.info28 : (Try.prog.info? 28).map (fun i => (i.zero, i.size, i.bytes)) = some (some (.agg #[.int .i64 0, .int .i64 0, .int .u32 0, .int .u32 0, .int .u32 0, .int .i64 0, .int .i64 0, .int .i64 0, .int .i64 0, .int .i64 0, .bool false, .slice none 0 0, .slice none 0 0]), 13, 128) := by kernel_rfl
theorem new_src (w : World) (s : Sg) (a : Option Addr) (c : Nat) (a2 : Option Addr) (c2 : Nat) : ∃ ad : Addr, some (⟨w.heap.size, 0, none⟩ : Addr) = some ad ∧ ∀ j u, (sgcells s a c a2 c2)[j]? = some u → (w.alloc (sc s a c a2 c2)).drew.cell? (ad.add j) = some u := by
  refine ⟨_, rfl, fun j u hu => ?_⟩
  have := sg_range (W := (w.alloc (sc s a c a2 c2)).drew) (heap_alloc_new w (sc s a c a2 c2)) j u hu
  rw [Go.WideShapes.add_plain]
  exact this
theorem sg_all (s : Sg) (a : Option Addr) (c : Nat) (a2 : Option Addr) (c2 : Nat) : ∀ u ∈ sgcells s a c a2 c2, u.oneCell' = true := by
  intro u hu
  simp only [sgcells, List.mem_cons, List.not_mem_nil, or_false] at hu
  rcases hu with rfl | rfl | rfl | rfl | rfl | rfl | rfl | rfl | rfl | rfl | rfl | rfl | rfl <;> rfl
theorem say_cell {w w' : World} {s : Tk} {a : Option Addr} {c : Nat} {g : Option Addr} {d tb : Nat} {o : Obj} {e : TypeId} {a' : Option Addr} {c' : Nat} {news : List Value} (h : w.heap[tb]? = some (tc s a c g d (.slice none 0 0))) (hq : App0 (w.alloc o).drew w' e 13 none a' 1 c' news) : w'.cell? ⟨tb, 9, none⟩ = some (.slice none 0 0) ∧ w'.frozen? ⟨tb, 9, none⟩ = false := by
  have hh : w'.heap[tb]? = some (tc s a c g d (.slice none 0 0)) := old_block hq.bel (old_block (((Below.refl _ w).alloc (Nat.le_refl _) o).drew) h)
  exact ⟨(tc_get hh).2.2.2.2.2.2.2.2.2, frozen_of hh 9⟩
/-- a segment was sent, the first one. -/
def Said (w w' : World) (tb : Nat) (s : Tk) (a : Option Addr) (c : Nat) (g : Option Addr) (d : Nat) (X : Sg) (xa : Option Addr) (xc : Nat) (a2 : Option Addr) (c2 : Nat) : Prop :=
  ∃ g2 cap, w'.heap[tb]? = some (tc s a c g d (.slice (some ⟨g2, 0, none⟩) 1 cap)) ∧ w'.rangeAt g2 0 (sgcells X xa xc a2 c2) ∧ Off (fun i => i = tb) w w' ∧ w.heap.size ≤ g2 ∧ 1 ≤ cap ∧ cap ≤ maxLen
theorem say_end {w wc w' : World} {s : Tk} {a : Option Addr} {c : Nat} {g0 : Option Addr} {d tb : Nat} {X : Sg} {xa : Option Addr} {xc : Nat} {a2 : Option Addr} {c2 : Nat} {a' : Option Addr} {c' : Nat} (h : wc.heap[tb]? = some (tc s a c g0 d (.slice none 0 0))) (hb : Below w.heap.size w wc) (hq : App0 (wc.alloc (sc X xa xc a2 c2)).drew w' 28 13 none a' 1 c' (sgcells X xa xc a2 c2)) :
    Hid (Said w (w'.setCell ⟨tb, 9, none⟩ (.slice a' 1 c')) tb s a c g0 d X xa xc a2 c2) := by
  have hb2 : Below wc.heap.size wc w' := below_of (((Below.refl _ wc).alloc (Nat.le_refl _) _).drew) hq.bel
  have hh := old_block hb2 h
  have hsz := (Array.getElem?_eq_some_iff.1 h).1
  obtain ⟨_, h2⟩ := hq.own (by omega)
  rcases h2 with ⟨_, h0⟩ | ⟨g2, cap, cur, hv, hge, hcur, hle, hcm, hcs, ht⟩
  · cases h0
  · simp only [Value.slice.injEq, true_and] at hv
    obtain ⟨rfl, rfl⟩ := hv
    have hge' : wc.heap.size < g2 := by
      have : (wc.alloc (sc X xa xc a2 c2)).drew.heap.size = wc.heap.size + 1 := by simp
      omega
    have ho : Off (fun i => i = tb) w' (w'.setCell ⟨tb, 9, none⟩ (.slice (some ⟨g2, 0, none⟩) 1 c')) := (Off.refl (fun i => i = tb) w').setCell (p := ⟨tb, 9, none⟩) (.inr rfl) _
    refine ⟨g2, c', ?_, ?_, ((Off.of_below (S := fun i => i = tb) (below_of hb hb2))).trans ho (fun _ _ t => t), by have := hb.size; omega, hle, hcm⟩
    · rw [heap_setCell_same _ _ _ _ _ _ hh]
      rfl
    · intro j u hu
      have hj : j < 13 := (List.getElem?_eq_some_iff.1 hu).1
      refine ho.cell ?_ (by show ¬ (g2 = tb); omega)
      have h1 : (cur.toList.take (1 * 13))[j]? = cur.toList[j]? := List.getElem?_take_of_lt (by omega)
      rw [ht, hu] at h1
      rw [Nat.zero_add, cell_of hcur, ← Array.getElem?_toList]
      exact h1.symm
set_option maxRecDepth 20000 in
set_option maxHeartbeats 8000000 in
theorem vsay_any (s : Tk) (a : Option Addr) (c : Nat) (g : Option Addr) (d : Nat) (tb : Nat) (x : Sg) (xa : Option Addr) (xc : Nat) (a2 : Option Addr) (c2 : Nat) (w : World) (h : w.heap[tb]? = some (tc s a c g d (.slice none 0 0))) :
    Calls Try.prog 33 #[.pointer (some ⟨tb, 0, none⟩), sv x xa xc a2 c2] w fun e w' => e = .returned (.tuple #[]) ∧ Hid (Said w w' tb s a c g d { x with src := s.src, ses := s.ses } xa xc a2 c2) := by
  have HT : Hid (w.heap[tb]? = some (tc s a c g d (.slice none 0 0))) := h
  clear h
  go_enter Try.func33, Try.ntmps33
  have H0 : ∀ X, (w.alloc X).cell? ⟨tb, 0, none⟩ = some (.int .i64 s.src) := fun X => (tc_get (old_block ((Below.refl _ w).alloc (Nat.le_refl _) X) HT.out)).1
  have H1 : ∀ X, (w.alloc X).cell? ⟨tb, 1, none⟩ = some (.int .u32 (s.ses : Nat)) := fun X => (tc_get (old_block ((Below.refl _ w).alloc (Nat.le_refl _) X) HT.out)).2.1
  have HX : Hid ((w.alloc (sc x xa xc a2 c2)).heap[w.heap.size]? = some (sc x xa xc a2 c2)) := heap_alloc_new w _
  have ff := frozen_of HX.out
  have hx1 := (scells HX.out).2.1
  have hx2 := (scells HX.out).2.2.1
  go_wp2_with fail
  go_cut [] from 4 (fun wd => Hid (wd.heap[tb]? = some (tc s a c g d (.slice none 0 0)) ∧ wd.heap[w.heap.size]? = some (sc { x with src := s.src, ses := s.ses } xa xc a2 c2) ∧ Below w.heap.size w wd))
  case first =>
    go_region_with (fail)
    all_goals
      go_wp2
      go_meet
      case rel => exact ⟨old_block (((Below.refl _ w).alloc (Nat.le_refl _) _).drew) HT.out, heap_alloc_new w _, ((Below.refl _ w).alloc (Nat.le_refl _) _).drew⟩
  case rest =>
    clear H0 H1 HX ff hx1 hx2 HT
    obtain ⟨h1, h2, h3⟩ := hcut.out
    obtain ⟨i0, hi, hz0, hz1, hz2⟩ := info_parts Try.info28
    have HI : Hid (Try.prog.info? 28 = some i0) := hi
    clear hi
    generalize hX : ({ x with src := s.src, ses := s.ses } : Sg) = X at *
    have HXX : Hid (({ x with src := s.src, ses := s.ses } : Sg) = X) := hX
    clear hX
    obtain ⟨z0, z1, z2, z3, z4, z5, z6, z7, z8, z9, z10, z11, z12⟩ := scells h2
    have z9' := (tc_get h1).2.2.2.2.2.2.2.2.2
    have z9'' : ∀ Y, (wc.alloc Y).cell? ⟨tb, 9, none⟩ = some (.slice none 0 0) := fun Y => (tc_get (old_block ((Below.refl _ wc).alloc (Nat.le_refl _) Y) h1)).2.2.2.2.2.2.2.2.2
    clear h2
    go_wp2_with fail
    have HSR : Hid (0 < 1 → ∃ ad : Addr, some (⟨wc.heap.size, 0, none⟩ : Addr) = some ad ∧ ∀ j u, (sgcells X xa xc a2 c2)[j]? = some u → (wc.alloc (sc X xa xc a2 c2)).drew.cell? (ad.add j) = some u) := fun _ => new_src wc X xa xc a2 c2
    go_region_law (refine step_app0 rfl _ _ 31 rfl 28 i0 _ 13 128 Try.underlying31 HI.out hz0 hz1 hz2 rfl (by decide) none (by rfl) (some ⟨wc.heap.size, 0, none⟩) 1 1 (sgcells X xa xc a2 c2) (by rfl) (by rfl) HSR.out (sg_all _ _ _ _ _) (by decide) (by decide) ?_; intro a' c' w' hq; have HQ : Hid _ := hq; clear hq; obtain ⟨y1, y2⟩ := say_cell h1 HQ.out)
    all_goals
      have HF := say_end (g0 := g) h1 h3 HQ.out
      go_wp2
      go_end0
      exact ⟨rfl, by rw [HXX.out]; exact HF⟩
set_option maxRecDepth 20000 in
set_option maxHeartbeats 8000000 in
theorem vstop_any (s : Tk) (a : Option Addr) (c : Nat) (g : Option Addr) (d : Nat) (tb : Nat) (r : Int) (w : World) (h : w.heap[tb]? = some (tc s a c g d (.slice none 0 0))) :
    Calls Try.prog 40 #[.pointer (some ⟨tb, 0, none⟩), .int .i64 r] w fun e w' => e = .returned (.tuple #[]) ∧ Hid (Said w w' tb s a c g d ⟨6, s.src, s.ses, 0, 0, 0, 0, 0, 0, r, false, [], []⟩ none 0 none 0) := by
  have HC : Hid (Calls Try.prog 33 #[.pointer (some ⟨tb, 0, none⟩), sv ⟨6, 0, 0, 0, 0, 0, 0, 0, 0, r, false, [], []⟩ none 0 none 0] w fun e w' => e = .returned (.tuple #[]) ∧ Hid (Said w w' tb s a c g d ⟨6, s.src, s.ses, 0, 0, 0, 0, 0, 0, r, false, [], []⟩ none 0 none 0)) := vsay_any s a c g d tb _ none 0 none 0 w h
  clear h
  go_enter Try.func40, Try.ntmps40
  go_wp2_with (go_at_call 33; refine HC.out.mono ?_; rintro e w1 ⟨rfl, hq⟩)
  go_end0
  exact ⟨rfl, hq⟩
end Go.Proofs.Ythmolodkaboakaa
