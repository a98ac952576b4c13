/- sender.deepSegment. -/
import Derived.Test.YtnjcaolkcmpdcaaUCopy
import Derived.Deep.Cut
import Derived.Deep.RegionWith
namespace Go.Proofs.Ytnjcaolkcmpdcaa
open Go.RowKit
set_option linter.unusedVariables false
/-- a segment's cells. -/
abbrev sgcells (s : Sg) (a : Option Addr) (c : Nat) (a2 : Option Addr) (c2 : Nat) : List Value := [.int .i64 s.knd, .int .i64 s.src, .int .u32 (s.ses : Nat), .int .u32 (s.ser : Nat), .int .u32 (s.cks : Nat), .int .i64 s.off, .int .i64 s.tot, .int .i64 s.low, .int .i64 s.upp, .int .i64 s.rea, .bool s.chk, .slice a s.dat.length c, .slice a2 s.cls.length c2]
theorem sv_cells (s : Sg) (a : Option Addr) (c : Nat) (a2 : Option Addr) (c2 : Nat) : sv s a c a2 c2 = .agg (sgcells s a c a2 c2).toArray := rfl
theorem sg_range {W : World} {b : Nat} {s : Sg} {a : Option Addr} {c : Nat} {a2 : Option Addr} {c2 : Nat} (h : W.heap[b]? = some (sc s a c a2 c2)) : W.rangeAt b 0 (sgcells s a c a2 c2) := by
  intro j v hv
  rw [Nat.zero_add, cell_of h]
  rw [← List.getElem?_toArray] at hv
  exact hv
theorem sg_there {W : World} {b : Nat} {s : Sg} {a : Option Addr} {c : Nat} {a2 : Option Addr} {c2 : Nat} (h : W.heap[b]? = some (sc s a c a2 c2)) : W.there b 0 13 := by
  intro j hj
  rw [Nat.zero_add]
  refine ⟨?_, frozen_of h j⟩
  rw [cell_of h, Array.getElem?_eq_getElem (by simpa using hj)]
  rfl
theorem sg_one (s : Sg) (a : Option Addr) (c : Nat) (a2 : Option Addr) (c2 : Nat) : (sgcells s a c a2 c2).toArray.all (·.oneCell') = true := by simp [Value.oneCell']
theorem size_two {W : World} {n : Nat} {o : Obj} (h : W.heap[n + 1]? = some o) : n + 2 ≤ W.heap.size := by
  obtain ⟨h, _⟩ := Array.getElem?_eq_some_iff.1 h
  omega
theorem RowC.off {w w' : World} {S : Nat → Prop} {a : Option Addr} {l : List (Int × Int)} (h : RowC w a l) (ho : Off S w w') (hS : 0 < l.length → ∀ b, a = some b → ¬ S b.block) : RowC w' a l := by
  obtain ⟨h2, h3⟩ := h
  refine ⟨h2, fun h0 => ?_⟩
  obtain ⟨b, off, rfl, hc⟩ := h3 h0
  exact ⟨b, off, rfl, fun i hi => ⟨ho.cell (hc i hi).1 (hS h0 ⟨b, off, none⟩ rfl), ho.cell (hc i hi).2 (hS h0 ⟨b, off, none⟩ rfl)⟩⟩
theorem heap_setCells {q : Nat} {t : TypeId} : ∀ (vs pre zs : List Value) (W : World), zs.length = vs.length → W.heap[q]? = some (.cells (pre ++ zs).toArray t (0, 0)) → (W.setCells q pre.length vs).heap[q]? = some (.cells (pre ++ vs).toArray t (0, 0))
  | [], pre, zs, W, hl, h => by
    obtain rfl : zs = [] := List.eq_nil_of_length_eq_zero hl
    exact h
  | v :: vs, pre, [], W, hl, h => by cases hl
  | v :: vs, pre, z :: zs, W, hl, h => by
    have h1 : (W.setCell ⟨q, pre.length, none⟩ v).heap[q]? = _ := heap_setCell_same _ _ _ _ _ _ h
    have h2 := heap_setCells (q := q) (t := t) vs (pre ++ [v]) zs (W.setCell ⟨q, pre.length, none⟩ v) (by simpa using hl) (by rw [h1]; simp)
    rw [List.length_append, List.length_singleton, List.append_assoc, List.singleton_append] at h2
    exact h2
/-- a whole block is stored. -/
theorem block_stored {W : World} {q : Nat} {t : TypeId} {zs vs : List Value} (h : W.heap[q]? = some (.cells zs.toArray t (0, 0))) (hl : zs.length = vs.length) : (W.setCells q 0 vs).heap[q]? = some (.cells vs.toArray t (0, 0)) := heap_setCells vs [] zs W hl h
/-- the argument's block with the copies in it, the result's block ahead of its store. -/
structure DS (w wd : World) (s : Sg) (a : Option Addr) (c : Nat) (a2 : Option Addr) (c2 : Nat) : Prop where
  one : wd.heap[w.heap.size]? = some (sc s a c a2 c2)
  two : wd.heap[w.heap.size + 1]? = some (sc zeroS none 0 none 0)
  bel : Below w.heap.size w wd
  came : Came wd s a c a2 c2
  n1 : ∀ bb, a = some bb → w.heap.size + 2 ≤ bb.block
  n2 : ∀ bb, a2 = some bb → w.heap.size + 2 ≤ bb.block
theorem ds_set {w W : World} {s : Sg} {a : Option Addr} {c : Nat} {a2 : Option Addr} {c2 : Nat} {b : Option Addr} {d : Nat} {b2 : Option Addr} {d2 : Nat} (hb : Below w.heap.size w W) (h1 : W.heap[w.heap.size]? = some (sc s a c a2 c2)) (h2 : W.heap[w.heap.size + 1]? = some (sc zeroS none 0 none 0)) (hc : Came W s b d b2 d2) (n1 : ∀ bb, b = some bb → w.heap.size + 2 ≤ bb.block) (n2 : ∀ bb, b2 = some bb → w.heap.size + 2 ≤ bb.block) :
    DS w ((W.setCell ⟨w.heap.size, 11, none⟩ (.slice b s.dat.length d)).setCell ⟨w.heap.size, 12, none⟩ (.slice b2 s.cls.length d2)) s b d b2 d2 := by
  have ho : Off (fun i => i = w.heap.size) W ((W.setCell ⟨w.heap.size, 11, none⟩ (.slice b s.dat.length d)).setCell ⟨w.heap.size, 12, none⟩ (.slice b2 s.cls.length d2)) := ((Off.refl (fun i => i = w.heap.size) W).setCell (p := ⟨w.heap.size, 11, none⟩) (.inr rfl) _).setCell (p := ⟨w.heap.size, 12, none⟩) (.inr rfl) _
  refine ⟨?_, ?_, hb.trans (ho.below hb.size (fun i e => by have : i = w.heap.size := e; omega)), ⟨hc.fit, hc.row.off ho (fun _ bb hb e => by have := n1 bb hb; have e2 : bb.block = w.heap.size := e; omega), hc.rowc.off ho (fun _ bb hb e => by have := n2 bb hb; have e2 : bb.block = w.heap.size := e; omega), hc.le, hc.cap, hc.lec, hc.capc⟩, n1, n2⟩
  · rw [heap_setCell_same _ _ _ _ _ _ (heap_setCell_same _ _ _ _ _ _ h1)]
    rfl
  · rw [ho.block _ (by have := size_two h2; omega) (by show ¬ (_ = _); omega)]
    exact h2
set_option maxRecDepth 20000 in
set_option maxHeartbeats 4000000 in
theorem deepS_any (s : Sg) (a : Option Addr) (c : Nat) (a2 : Option Addr) (c2 : Nat) (w : World) (hc : Came w s a c a2 c2) (hd : s.dat.length ≤ 1000) (hl : s.cls.length ≤ 1000) :
    Calls Try.prog 67 #[sv s a c a2 c2] w fun e w' => ∃ a' c' a2' c2', e = .returned (sv s a' c' a2' c2') ∧ Hid (Below w.heap.size w w' ∧ Came w' s a' c' a2' c2' ∧ (∀ bb, a' = some bb → w.heap.size ≤ bb.block) ∧ (∀ bb, a2' = some bb → w.heap.size ≤ bb.block)) := by
  have HC : Hid (Came w s a c a2 c2) := hc
  have HB0 : Hid (Below w.heap.size w ((w.alloc (sc s a c a2 c2)).alloc (sc zeroS none 0 none 0))) := ((Below.refl _ w).alloc (Nat.le_refl _) _).alloc (by simp) _
  have HP0 : Hid (((w.alloc (sc s a c a2 c2)).alloc (sc zeroS none 0 none 0)).heap[w.heap.size]? = some (sc s a c a2 c2) ∧ ((w.alloc (sc s a c a2 c2)).alloc (sc zeroS none 0 none 0)).heap[w.heap.size + 1]? = some (sc zeroS none 0 none 0)) := by
    refine ⟨old_block ((Below.refl _ (w.alloc (sc s a c a2 c2))).alloc (Nat.le_refl _) _) (heap_alloc_new w _), ?_⟩
    have := heap_alloc_new (w.alloc (sc s a c a2 c2)) (sc zeroS none 0 none 0)
    rw [show (w.alloc (sc s a c a2 c2)).heap.size = w.heap.size + 1 by simp] at this
    exact this
  have HCB : Hid (∀ W, Below w.heap.size w W → Calls Try.prog 64 #[.slice a s.dat.length c] W fun e w' => ∃ a' c', e = .returned (.slice a' s.dat.length c') ∧ Hid (Below W.heap.size W w' ∧ Row w' a' s.dat ∧ s.dat.length ≤ c' ∧ c' ≤ maxLen ∧ ∀ bb, a' = some bb → W.heap.size ≤ bb.block)) := fun W hb => copiedB_any W a c s.dat (hc.row.later hb) hd
  have HCC : Hid (∀ W, Below w.heap.size w W → Calls Try.prog 65 #[.slice a2 s.cls.length c2] W fun e w' => ∃ a' c', e = .returned (.slice a' s.cls.length c') ∧ Hid (Below W.heap.size W w' ∧ RowC w' a' s.cls ∧ s.cls.length ≤ c' ∧ c' ≤ maxLen ∧ ∀ bb, a' = some bb → W.heap.size ≤ bb.block)) := fun W hb => copiedC_any W a2 c2 s.cls (hc.rowc.later hb) hl
  have HFI : Hid (Sz s) := hc.fit
  clear hc
  go_enter Try.func67, Try.ntmps67
  go_wp2_with fail
  go_cut [] from 3 (fun wd => ∃ a' c' a2' c2', Hid (DS w wd s a' c' a2' c2'))
  case first =>
    go_region_with (first
      | (go_at_call 64; refine (HCB.out _ (by repeat (first | exact HB0.out | apply Below.drew))).mono ?_; rintro e w2 ⟨b, d, rfl, hq2⟩; have HX2 : Hid (Below w.heap.size w w2) := below_of (by repeat (first | exact HB0.out | apply Below.drew)) hq2.out.1; have HP2 : Hid (w2.heap[w.heap.size]? = some (sc s a c a2 c2) ∧ w2.heap[w.heap.size + 1]? = some (sc zeroS none 0 none 0)) := ⟨old_block hq2.out.1 HP0.out.1, old_block hq2.out.1 HP0.out.2⟩; have k12 := (scells HP2.out.1).2.2.2.2.2.2.2.2.2.2.2.2)
      | (go_at_call 65; refine (HCC.out _ HX2.out).mono ?_; rintro e w3 ⟨b2, d2, rfl, hq3⟩; have HX3 : Hid (Below w.heap.size w w3) := below_of HX2.out hq3.out.1; have HP3 : Hid (w3.heap[w.heap.size]? = some (sc s a c a2 c2) ∧ w3.heap[w.heap.size + 1]? = some (sc zeroS none 0 none 0)) := ⟨old_block hq3.out.1 HP2.out.1, old_block hq3.out.1 HP2.out.2⟩; have m11 := (scells HP3.out.1).2.2.2.2.2.2.2.2.2.2.2.1; have m12 := (scells HP3.out.1).2.2.2.2.2.2.2.2.2.2.2.2; have ff := frozen_of HP3.out.1))
    all_goals
      go_wp2
      go_meet
      case rel => exact ⟨b, d, b2, d2, ds_set HX3.out HP3.out.1 HP3.out.2 ⟨HFI.out, hq2.out.2.1.later hq3.out.1, hq3.out.2.1, hq2.out.2.2.1, hq2.out.2.2.2.1, hq3.out.2.2.1, hq3.out.2.2.2.1⟩ (fun bb e => Nat.le_trans (size_two HP0.out.2) (hq2.out.2.2.2.2 bb e)) (fun bb e => Nat.le_trans (size_two HP2.out.2) (hq3.out.2.2.2.2 bb e))⟩
  case rest =>
    obtain ⟨b, d, b2, d2, HD⟩ := hcut
    obtain ⟨cs, hcs⟩ : ∃ cs, Hid (cs = sgcells s b d b2 d2) := ⟨_, rfl⟩
    have hs13 : Hid ((Try.prog.info? 29).map (·.size) = some 13) := by show _ = _; kernel_rfl
    have hl13 : cs.length = 13 := by rw [hcs.out]; rfl
    have HR1 : Hid (wc.rangeAt w.heap.size 0 cs) := by rw [hcs.out]; exact sg_range HD.out.one
    have HT1 : Hid (wc.there (w.heap.size + 1) 0 13) := sg_there HD.out.two
    have HN : Hid ((wc.setCells (w.heap.size + 1) 0 cs).heap[w.heap.size + 1]? = some (sc s b d b2 d2)) := by
      show _ = _
      rw [hcs.out]
      exact block_stored (zs := sgcells zeroS none 0 none 0) HD.out.two rfl
    have HO : Hid (Off (fun i => i = w.heap.size + 1) wc (wc.setCells (w.heap.size + 1) 0 cs)) := Off.setCells (S := fun i => i = w.heap.size + 1) (.inr rfl) _ _ _ (Off.refl _ _)
    have hth : wc.there (w.heap.size + 1) 0 cs.toArray.size := by rw [show cs.toArray.size = 13 from hl13]; exact HT1.out
    have hsz2 : (Try.prog.info? 29).map (·.size) = some cs.toArray.size := by rw [show cs.toArray.size = 13 from hl13]; exact hs13.out
    have hsz1 : (Try.prog.info? 29).map (·.size) = some cs.length := by rw [hl13]; exact hs13.out
    have h1c : cs.toArray.all (·.oneCell') = true := by rw [hcs.out]; exact sg_one _ _ _ _ _
    have HR2 := HR1.out
    clear HC HB0 HP0 HCB HCC HFI
    go_wp2_with (first | (refine wpList_load_mid rfl 29 _ rfl w.heap.size 0 (by rfl) cs _ HR2 Try.underlying29 rfl hsz1 ?_) | (refine wpList_store_mid rfl 29 _ _ rfl (w.heap.size + 1) 0 cs.toArray (by rfl) (by rfl) hth hsz2 h1c ?_))
    obtain ⟨z0, z1, z2, z3, z4, z5, z6, z7, z8, z9, z10, z11, z12⟩ := scells HN.out
    have HFIN : Hid (Below w.heap.size w (wc.setCells (w.heap.size + 1) 0 cs) ∧ Came (wc.setCells (w.heap.size + 1) 0 cs) s b d b2 d2 ∧ (∀ bb, b = some bb → w.heap.size ≤ bb.block) ∧ (∀ bb, b2 = some bb → w.heap.size ≤ bb.block)) := by
      have h := HD.out
      refine ⟨h.bel.trans (HO.out.below h.bel.size (fun i e => by have : i = w.heap.size + 1 := e; omega)), ⟨h.came.fit, h.came.row.off HO.out (fun _ bb hb e => by have := h.n1 bb hb; have e2 : bb.block = w.heap.size + 1 := e; omega), h.came.rowc.off HO.out (fun _ bb hb e => by have := h.n2 bb hb; have e2 : bb.block = w.heap.size + 1 := e; omega), h.came.le, h.came.cap, h.came.lec, h.came.capc⟩, fun bb e => by have := h.n1 bb e; omega, fun bb e => by have := h.n2 bb e; omega⟩
    exact bodyPost_ret (v := sv s b d b2 d2) (by simp [results, Try.results67, go_sem, z0, z1, z2, z3, z4, z5, z6, z7, z8, z9, z10, z11, z12]) rfl ⟨_, _, _, _, rfl, HFIN⟩
end Go.Proofs.Ytnjcaolkcmpdcaa
