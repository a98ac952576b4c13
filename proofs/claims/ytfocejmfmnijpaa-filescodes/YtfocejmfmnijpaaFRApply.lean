/- The walk of the reference's own Apply. -/
import Derived.Test.YtfocejmfmnijpaaFRDoAll
namespace Go.Proofs.Ytfocejmfmnijpaa
open Go.RowKit

/-- What the reference's Apply answers. -/
def RApply (w : World) (res : Except Int (List Fil)) (e : Ending) (w' : World) : Prop :=
  (∃ L' a' c', res = .ok L' ∧ e = .returned (.tuple #[.agg #[.slice a' L'.length c'], .int .i64 0]) ∧ Hid (ListAt w' a' L' ∧ Below w.heap.size w w')) ∨
  (∃ r, res = .error r ∧ e = .returned (.tuple #[.agg #[.slice none 0 0], .int .i64 r]) ∧ Hid (Below w.heap.size w w'))

set_option maxRecDepth 100000 in
set_option maxHeartbeats 4000000 in
theorem rapply_many (w : World) (a a2 : Option Addr) (c c2 n2 : Nat) (L : List Fil) (hn : 64 < n2) :
    Calls Try.prog 12 #[.agg #[.slice a L.length c], .slice a2 n2 c2] w fun e w' => e = .returned (.tuple #[.agg #[.slice none 0 0], .int .i64 3]) ∧ Hid (Below w.heap.size w w') := by
  have hn2 : (64 : Int) < (n2 : Int) := by omega
  go_enter Try.func12, Try.ntmps12
  go_wp2
  refine bodyPost_ret (v := .tuple #[.agg #[.slice none 0 0], .int .i64 3]) (by simp [results, Try.results12, go_sem]) rfl ⟨rfl, ((Below.refl _ w).alloc (Nat.le_refl _) _).alloc (by simp) _⟩

/-- the world within the loop: the files so far, the result. -/
structure ApW (w wr : World) (af : Option Addr) (cf : Nat) (Lf : List Fil) : Prop where
  f : wr.heap[w.heap.size]? = some (.cells #[.slice af Lf.length cf] 24 (0, 0))
  res : wr.heap[w.heap.size + 1]? = some (.cells #[.slice none 0 0] 24 (0, 0))
  list : ListAt wr af Lf
  below : Below w.heap.size w wr

theorem apW_start {w : World} {a : Option Addr} {c : Nat} {L : List Fil} (h : ListAt w a L) : ApW w ((w.alloc (.cells #[.slice a L.length c] 24)).alloc (.cells #[.slice none 0 0] 24)) a c L := by
  have hb : Below w.heap.size w ((w.alloc (.cells #[.slice a L.length c] 24)).alloc (.cells #[.slice none 0 0] 24)) := ((Below.refl _ w).alloc (Nat.le_refl _) _).alloc (by simp) _
  refine ⟨?_, ?_, h.later hb, hb⟩
  · rw [Below.heap_alloc _ _ _ (by simp)]; exact heap_alloc_new w _
  · exact second_new w _ _
theorem ApW.later {w wr w2 : World} {af : Option Addr} {cf : Nat} {Lf : List Fil} (h : ApW w wr af cf Lf) (hb : Below wr.heap.size wr w2) : ApW w w2 af cf Lf :=
  ⟨old_block hb h.f, old_block hb h.res, h.list.later hb, below_of h.below hb⟩
/-- the files are replaced. -/
theorem ApW.next {w wr : World} {af a2 : Option Addr} {cf c2 : Nat} {Lf L2 : List Fil} (h : ApW w wr af cf Lf) (hl : ListAt wr a2 L2) : ApW w (wr.setCell ⟨w.heap.size, 0, none⟩ (.slice a2 L2.length c2)) a2 c2 L2 := by
  have ho : Off (fun k => k = w.heap.size) wr (wr.setCell ⟨w.heap.size, 0, none⟩ (.slice a2 L2.length c2)) := (Off.refl (fun k => k = w.heap.size) wr).setCell (p := ⟨w.heap.size, 0, none⟩) (.inr rfl) _
  refine ⟨?_, ho.at h.res (by omega), list_put hl h.f _, h.below.setCell (Nat.le_refl _) _⟩
  rw [heap_setCell_same _ _ _ _ _ _ h.f]; rfl
theorem ApW.put {w wr : World} {af : Option Addr} {cf : Nat} {Lf : List Fil} (h : ApW w wr af cf Lf) (u : Value) : (wr.setCell ⟨w.heap.size + 1, 0, none⟩ u).cell? ⟨w.heap.size + 1, 0, none⟩ = some u ∧ Below w.heap.size w (wr.setCell ⟨w.heap.size + 1, 0, none⟩ u) ∧ ListAt (wr.setCell ⟨w.heap.size + 1, 0, none⟩ u) af Lf :=
  ⟨by rw [cell_of (heap_setCell_same wr _ 0 _ _ u h.res)]; rfl, h.below.setCell (by simp) u, list_put h.list h.res u⟩
theorem ApW.reads {w wr : World} {af : Option Addr} {cf : Nat} {Lf : List Fil} (h : ApW w wr af cf Lf) : wr.cell? ⟨w.heap.size, 0, none⟩ = some (.slice af Lf.length cf) ∧ wr.frozen? ⟨w.heap.size, 0, none⟩ = false ∧ wr.cell? ⟨w.heap.size + 1, 0, none⟩ = some (.slice none 0 0) ∧ wr.frozen? ⟨w.heap.size + 1, 0, none⟩ = false ∧ w.heap.size + 1 < wr.heap.size :=
  ⟨by rw [cell_of h.f]; rfl, frozen_of h.f 0, by rw [cell_of h.res]; rfl, frozen_of h.res 0, (Array.getElem?_eq_some_iff.1 h.res).1⟩

/-- a cell of another struct of files is written. -/
theorem ApW.side {w wr : World} {af : Option Addr} {cf : Nat} {Lf : List Fil} (h : ApW w wr af cf Lf) {q : Nat} {x : Option Addr} {xn xc : Nat} (kq : wr.heap[q]? = some (.cells #[.slice x xn xc] 24 (0, 0))) (hq : w.heap.size + 1 < q) (u : Value) : ApW w (wr.setCell ⟨q, 0, none⟩ u) af cf Lf := by
  have ho : Off (fun k => k = q) wr (wr.setCell ⟨q, 0, none⟩ u) := (Off.refl (fun k => k = q) wr).setCell (p := ⟨q, 0, none⟩) (.inr rfl) u
  exact ⟨ho.at h.f (by omega), ho.at h.res (by omega), list_put h.list kq u, h.below.setCell (by simp; omega) u⟩
/-- what was answered lies in the block q, whichever way it came there. -/
theorem side_old {w wr w3 : World} {af a' : Option Addr} {cf : Nat} {Lf L2 : List Fil} (h : ApW w wr af cf Lf) (h3 : Below wr.heap.size wr w3) (k7 : w3.heap[wr.heap.size]? = some (.cells #[.slice none 0 0] 24 (0, 0))) (hl : ListAt w3 a' L2) (u : Value) : ApW w (w3.setCell ⟨wr.heap.size, 0, none⟩ u) af cf Lf ∧ ListAt (w3.setCell ⟨wr.heap.size, 0, none⟩ u) a' L2 ∧ (w3.setCell ⟨wr.heap.size, 0, none⟩ u).cell? ⟨wr.heap.size, 0, none⟩ = some u :=
  ⟨(h.later h3).side k7 h.reads.2.2.2.2 u, list_put hl k7 u, by rw [cell_of (heap_setCell_same w3 _ 0 _ _ u k7)]; rfl⟩
theorem side_new {w wr w3 : World} {af a' : Option Addr} {cf : Nat} {Lf L2 : List Fil} (h : ApW w wr af cf Lf) (h3 : Below wr.heap.size wr w3) (hl : ListAt w3 a' L2) (u : Value) : ApW w (w3.alloc (.cells #[u] 24)) af cf Lf ∧ ListAt (w3.alloc (.cells #[u] 24)) a' L2 ∧ (w3.alloc (.cells #[u] 24)).cell? ⟨w3.heap.size, 0, none⟩ = some u :=
  ⟨(h.later h3).later ((Below.refl _ w3).alloc (Nat.le_refl _) _), hl.later ((Below.refl _ w3).alloc (Nat.le_refl _) _), by rw [cell_of (heap_alloc_new w3 _)]; rfl⟩

set_option maxRecDepth 100000 in
set_option maxHeartbeats 8000000 in
theorem rapply_fold (w : World) (a a2 : Option Addr) (c c2 : Nat) (L : List Fil) (l : List OpS) (h : ListAt w a L) (ho : OpsAt w a2 l) (hr : rightB L = true) (hn : l.length ≤ 64) :
    Calls Try.prog 12 #[.agg #[.slice a L.length c], .slice a2 l.length c2] w fun e w' => RApply w (foldE L l) e w' := by
  have HO : Hid (OpsAt w a2 l) := ho
  have HS0 : Hid (ApW w _ a c L) := apW_start h
  have HR : Hid (rightB L = true) := hr
  obtain ⟨res, hres⟩ : ∃ res, foldE L l = res := ⟨_, rfl⟩
  rw [hres]
  have HRES : Hid (foldE L l = res) := hres
  have hn2 : (l.length : Int) ≤ 64 := by omega
  clear h ho hr hres
  go_enter Try.func12, Try.ntmps12
  go_wp2
  go_loopw [6] (fun i wr => ∃ (k : Nat) (af : Option Addr) (cf : Nat) (Lf : List Fil), k ≤ l.length ∧ i = .int .i64 k ∧ Hid (ApW w wr af cf Lf) ∧ Hid (foldE Lf (l.drop k) = res ∧ rightB Lf = true)) (fun i _ => l.length - (intOf i).toNat)
  case atStart => exact ⟨0, a, c, L, Nat.zero_le _, rfl, HS0.out, HRES.out, HR.out⟩
  case round =>
    clear HS0
    obtain ⟨k, af, cf, Lf, hk, rfl, hq, hf⟩ := hrel
    obtain ⟨r0, r1, r2, r3, r4⟩ := hq.out.reads
    by_cases hkl : k < l.length
    · obtain ⟨b, o, rfl, hc⟩ := HO.out.2.2 (by omega)
      obtain ⟨g0, g1, g2, g3, ab, cb, g4, g5, g6, g7⟩ := (hc k hkl).later hq.out.below
      have HFI : Hid (OpFits l[k]) := HO.out.1 _ (List.getElem_mem hkl)
      have HD : Hid (l.drop k = l[k] :: l.drop (k + 1)) := List.drop_eq_getElem_cons hkl
      have HROW : Hid (l[k].bytes.length ≤ cb ∧ cb ≤ maxLen ∧ Row wr ab l[k].bytes) := ⟨g5, g6, g7⟩
      obtain ⟨x, hx⟩ : ∃ x, x = l[k] := ⟨_, rfl⟩
      rw [← hx] at g0 g1 g2 g3 g4 HFI HD HROW
      clear hc g5 g6 g7 hx
      have hi1 : (k : Int) < (l.length : Int) := by omega
      have HDO : Hid (∀ W, Below wr.heap.size wr W → Calls Try.prog 31 #[.agg #[.slice af Lf.length cf], opv x ab cb] W fun e w' => RDo W af cf Lf (doE Lf x) e w') := fun W hW => rdo_any W af cf Lf x ab cb (hq.out.list.later hW) hf.out.2 HFI.out (HROW.out.2.2.later hW) HROW.out.1 HROW.out.2.1
      have hX0 : Below wr.heap.size wr wr.drew := (Below.refl _ wr).drew
      have hXA : Below wr.heap.size wr (wr.alloc (.cells #[.slice none 0 0] 24)).drew := ((Below.refl _ wr).alloc (Nat.le_refl _) _).drew
      have HSW : Hid (∀ W, Below wr.heap.size wr W → W.cell? ⟨w.heap.size, 0, none⟩ = some (.slice af Lf.length cf) ∧ W.cell? ⟨b, o + k * 5, none⟩ = some (.int .i64 x.kind) ∧ W.cell? ⟨b, o + k * 5 + 1, none⟩ = some (.string x.name) ∧ W.cell? ⟨b, o + k * 5 + 2, none⟩ = some (.string x.new) ∧ W.cell? ⟨b, o + k * 5 + 3, none⟩ = some (.int .i64 x.at_) ∧ W.cell? ⟨b, o + k * 5 + 4, none⟩ = some (.slice ab x.bytes.length cb)) := fun W hW => ⟨cell_later hW r0, cell_later hW g0, cell_later hW g1, cell_later hW g2, cell_later hW g3, cell_later hW g4⟩
      cases hd : doE Lf x with
      | ok L2 =>
        have HE : Hid (foldE L2 (l.drop (k + 1)) = res ∧ rightB L2 = true) := by
          have := hf.out.1
          rw [HD.out, foldE, hd] at this
          exact ⟨this, do_right hf.out.2 hd⟩
        have HDY : Hid (∀ W, Below wr.heap.size wr W → Calls Try.prog 31 #[.agg #[.slice af Lf.length cf], opv x ab cb] W fun e w' => ∃ a' c', e = .returned (.tuple #[.agg #[.slice a' L2.length c'], .int .i64 0]) ∧ Hid (ListAt w' a' L2 ∧ Below W.heap.size W w')) := fun W hW => (HDO.out W hW).mono fun e w' hh => by
          rw [hd] at hh
          rcases hh with ⟨L', a', c', h1, h2, h3⟩ | ⟨r, h1, _⟩
          · cases h1; exact ⟨a', c', h2, h3⟩
          · cases h1
        clear hd HDO HFI HROW HD
        obtain ⟨xk, xn, xm, xt, xb⟩ := x
        simp only [opv] at *
        go_wp2
        go_region_held3 (fun W => W.cell? ⟨w.heap.size, 0, none⟩ = some (.slice af Lf.length cf) ∧ W.cell? ⟨b, o + k * 5, none⟩ = some (.int .i64 xk) ∧ W.cell? ⟨b, o + k * 5 + 1, none⟩ = some (.string xn) ∧ W.cell? ⟨b, o + k * 5 + 2, none⟩ = some (.string xm) ∧ W.cell? ⟨b, o + k * 5 + 3, none⟩ = some (.int .i64 xt) ∧ W.cell? ⟨b, o + k * 5 + 4, none⟩ = some (.slice ab xb.length cb)) (first | exact HSW.out _ hX0 | exact HSW.out _ hXA | exact HSW.out _ hX3 | exact HSW.out _ (hX3.alloc hX3.size _) | exact HSW.out _ (hX3.setCell (Nat.le_refl _) _) | exact HSW.out _ (Below.refl _ _)) (first | (go_at_call 31; refine (HDY.out _ hX0).mono ?_; rintro e w3 ⟨a', c', rfl, hq3⟩; have hX3 := below_of hX0 hq3.out.2) | (go_at_call 31; refine (HDY.out _ hXA).mono ?_; rintro e w3 ⟨a', c', rfl, hq3⟩; have hX3 := below_of hXA hq3.out.2; have k7 : w3.heap[wr.heap.size]? = some (.cells #[.slice none 0 0] 24 (0, 0)) := old_block hq3.out.2 (heap_alloc_new wr _); have k8 := cell_of k7 0; simp only [List.getElem?_toArray, List.getElem?_cons_zero] at k8; have k9 := frozen_of k7 0))
        · have hsd := side_new (L2 := L2) hq.out hX3 hq3.out.1 (.slice a' L2.length c')
          obtain ⟨hs1, hs2, hs3⟩ := hsd
          obtain ⟨m0, m1, m2, m3, m4⟩ := hs1.reads
          have HN : Hid (ApW w _ a' c' L2) := hs1.next hs2
          clear hs1 hs2 hX3 hXA hX0
          go_wp2
          go_roundw
          case rel => exact ⟨k + 1, a', c', L2, by omega, by go_num, HN.out, HE.out⟩
          case measure => simp [intOf]; omega
        · have hsd := side_old (L2 := L2) hq.out hX3 k7 hq3.out.1 (.slice a' L2.length c')
          obtain ⟨hs1, hs2, hs3⟩ := hsd
          obtain ⟨m0, m1, m2, m3, m4⟩ := hs1.reads
          have HN : Hid (ApW w _ a' c' L2) := hs1.next hs2
          clear hs1 hs2 hX3 hXA hX0
          go_wp2
          go_roundw
          case rel => exact ⟨k + 1, a', c', L2, by omega, by go_num, HN.out, HE.out⟩
          case measure => simp [intOf]; omega
      | error r =>
        have hr0 := doE_err hd
        have HE : Hid (res = .error r) := by
          have := hf.out.1
          rw [HD.out, foldE, hd] at this
          exact this.symm
        have HDN : Hid (∀ W, Below wr.heap.size wr W → Calls Try.prog 31 #[.agg #[.slice af Lf.length cf], opv x ab cb] W fun e w' => e = .returned (.tuple #[.agg #[.slice af Lf.length cf], .int .i64 r]) ∧ Hid (Below W.heap.size W w')) := fun W hW => (HDO.out W hW).mono fun e w' hh => by
          rw [hd] at hh
          rcases hh with ⟨L', a', c', h1, h2, h3⟩ | ⟨r, h1, h2, h3⟩
          · cases h1
          · cases h1; exact ⟨h2, h3⟩
        clear hd HDO HFI HROW HD
        obtain ⟨xk, xn, xm, xt, xb⟩ := x
        simp only [opv] at *
        go_wp2
        go_region_held3 (fun W => W.cell? ⟨w.heap.size, 0, none⟩ = some (.slice af Lf.length cf) ∧ W.cell? ⟨b, o + k * 5, none⟩ = some (.int .i64 xk) ∧ W.cell? ⟨b, o + k * 5 + 1, none⟩ = some (.string xn) ∧ W.cell? ⟨b, o + k * 5 + 2, none⟩ = some (.string xm) ∧ W.cell? ⟨b, o + k * 5 + 3, none⟩ = some (.int .i64 xt) ∧ W.cell? ⟨b, o + k * 5 + 4, none⟩ = some (.slice ab xb.length cb)) (first | exact HSW.out _ hX0 | exact HSW.out _ hXA | exact HSW.out _ hX3 | exact HSW.out _ (hX3.alloc hX3.size _) | exact HSW.out _ (hX3.setCell (Nat.le_refl _) _) | exact HSW.out _ (Below.refl _ _)) (first | (go_at_call 31; refine (HDN.out _ hX0).mono ?_; rintro e w3 ⟨rfl, hq3⟩; have hX3 := below_of hX0 hq3.out) | (go_at_call 31; refine (HDN.out _ hXA).mono ?_; rintro e w3 ⟨rfl, hq3⟩; have hX3 := below_of hXA hq3.out; have k7 : w3.heap[wr.heap.size]? = some (.cells #[.slice none 0 0] 24 (0, 0)) := old_block hq3.out (heap_alloc_new wr _); have k8 := cell_of k7 0; simp only [List.getElem?_toArray, List.getElem?_cons_zero] at k8; have k9 := frozen_of k7 0))
        · have hsd := side_new (L2 := Lf) hq.out hX3 (hq.out.list.later hX3) (.slice af Lf.length cf)
          obtain ⟨hs1, _, _⟩ := hsd
          obtain ⟨m0, m1, m2, m3, m4⟩ := hs1.reads
          have HPU := fun u => (hs1.put u).1
          have HBU : Hid (∀ u, Below w.heap.size w _) := fun u => (hs1.put u).2.1
          clear hs1 hX3 hXA hX0
          go_wp2
          refine bodyPost_ret (v := .tuple #[.agg #[.slice none 0 0], .int .i64 r]) (by simp [results, Try.results12, go_sem, HPU]) rfl (.inr ⟨r, HE.out, rfl, HBU.out _⟩)
        · have hsd := side_old (L2 := Lf) hq.out hX3 k7 (hq.out.list.later hX3) (.slice af Lf.length cf)
          obtain ⟨hs1, _, _⟩ := hsd
          obtain ⟨m0, m1, m2, m3, m4⟩ := hs1.reads
          have HPU := fun u => (hs1.put u).1
          have HBU : Hid (∀ u, Below w.heap.size w _) := fun u => (hs1.put u).2.1
          clear hs1 hX3 hXA hX0
          go_wp2
          refine bodyPost_ret (v := .tuple #[.agg #[.slice none 0 0], .int .i64 r]) (by simp [results, Try.results12, go_sem, HPU]) rfl (.inr ⟨r, HE.out, rfl, HBU.out _⟩)
    · obtain rfl : k = l.length := by omega
      have HE : Hid (res = .ok Lf) := by
        have := hf.out.1
        rw [List.drop_length, foldE] at this
        exact this.symm
      have HPU := fun u => (hq.out.put u).1
      go_wp2
      refine bodyPost_ret (v := .tuple #[.agg #[.slice af Lf.length cf], .int .i64 0]) (by simp [results, Try.results12, go_sem, HPU]) rfl (.inl ⟨Lf, af, cf, HE.out, rfl, (hq.out.put _).2.2, (hq.out.put _).2.1⟩)

theorem rapply_any (w : World) (a a2 : Option Addr) (c c2 : Nat) (L : List Fil) (l : List OpS) (h : ListAt w a L) (ho : OpsAt w a2 l) (hr : rightB L = true) :
    Calls Try.prog 12 #[.agg #[.slice a L.length c], .slice a2 l.length c2] w fun e w' => RApply w (applyE L l) e w' := by
  unfold applyE
  rw [hr]
  by_cases hn : 64 < l.length
  · refine (rapply_many w a a2 c c2 l.length L hn).mono ?_
    rintro e w' ⟨rfl, hq⟩
    exact .inr ⟨3, by simp [hn], rfl, hq⟩
  · simp only [Bool.true_eq_false, if_false, hn]
    exact rapply_fold w a a2 c c2 L l h ho hr (by omega)
end Go.Proofs.Ytfocejmfmnijpaa
