/- The walk of files.readFiles. -/
import Derived.Test.YtfocejmfmnijpaaDRead
import Derived.Test.YtfocejmfmnijpaaFCopied
namespace Go.Proofs.Ytfocejmfmnijpaa
open Go.RowKit

/-- what is read, file by file. -/
def rFiles (l : List Nat) : Nat → Nat → Int → List Fil → List Fil × Nat × Int
  | 0, at_, er, acc => (acc, at_, er)
  | n + 1, at_, er, acc => if (er != 0) = true then (acc, at_, er) else rFiles l n (counts l 2 (counts l 1 at_ er).2.1 (counts l 1 at_ er).2.2).2.1 (counts l 2 (counts l 1 at_ er).2.1 (counts l 1 at_ er).2.2).2.2 (acc ++ [⟨nameOf (counts l 1 at_ er).1, (counts l 2 (counts l 1 at_ er).2.1 (counts l 1 at_ er).2.2).1⟩])

/-- the world within readFiles: the files so far, the result, the Reader. -/
structure FW (w : World) (p q : Nat) (l : List Nat) (at_ : Nat) (er : Int) (wr : World) (v : Value) (X : List FX) : Prop where
  out : Out wr (w.heap.size + 1) v X
  res : wr.heap[w.heap.size]? = some (.cells #[.slice none 0 0] 24 (0, 0))
  rd : Rd wr p q l at_ er
  off : Off (fun k => k = p) w wr
  pq : p < w.heap.size ∧ q < w.heap.size
  bytes : ∀ x ∈ X, 0 < x.bytes.length → ∀ b, x.ad = some b → w.heap.size ≤ b.block

theorem Out.off {w w' : World} {q : Nat} {v : Value} {X : List FX} {S : Nat → Prop} (h : Out w q v X) (ho : Off S w w') (hq : ¬ S q) (hv : ∀ g, v.ownBlock = some g → ¬ S g) (hX : ∀ x ∈ X, 0 < x.bytes.length → ∀ b, x.ad = some b → ¬ S b.block) : Out w' q v X :=
  ⟨ho.at h.here hq, ho.owns h.list hv, fun x hx => ⟨(h.files x hx).1, (h.files x hx).2.1, (h.files x hx).2.2.1, (h.files x hx).2.2.2.1.off ho (hX x hx), (h.files x hx).2.2.2.2⟩⟩
/-- the Reader reads. -/
theorem FW.read {w wr w' : World} {p q : Nat} {l : List Nat} {at_ : Nat} {er : Int} {v : Value} {X : List FX} {t : List Nat × Nat × Int} (h : FW w p q l at_ er wr v X) (hr : Reads wr p q l t w') : FW w p q l t.2.1 t.2.2 w' v X :=
  ⟨h.out.off hr.2 (by have := h.pq.1; omega) (fun g hg => by have := (h.out.list.lt g hg).1; have := h.pq.1; omega) (fun x hx h0 b hb => by have := h.bytes x hx h0 b hb; have := h.pq.1; omega), hr.2.at h.res (by have := h.pq.1; omega), hr.1, h.off.trans hr.2 (fun _ _ t => t), h.pq, h.bytes⟩
theorem FW.later {w wr w' : World} {p q : Nat} {l : List Nat} {at_ : Nat} {er : Int} {v : Value} {X : List FX} (h : FW w p q l at_ er wr v X) (hb : Below wr.heap.size wr w') : FW w p q l at_ er w' v X :=
  ⟨h.out.later hb, old_block hb h.res, h.rd.later hb, h.off.trans (Off.of_below (S := fun _ => False) hb) (fun _ _ t => t.elim), h.pq, h.bytes⟩
/-- a file more. -/
theorem FW.push {w wr wc : World} {p q : Nat} {l : List Nat} {at_ : Nat} {er : Int} {va : Option Addr} {vc : Nat} {X : List FX} {y : FX} {A : Obj} {g cap : Nat} (h : FW w p q l at_ er wr (.slice va X.length vc) X)
    (hown : wc.ownsRow (w.heap.size + 1 + 1) 53 2 (.slice (some ⟨g, 0, none⟩) (X.length + 1) cap) (X.length + 1) (fcells X ++ [.string y.name, y.val])) (hgrow : (wr.alloc A).grownBy wc (Value.ownBlock (.slice va X.length vc))) (hat : Value.ownBlock (.slice va X.length vc) = some g ∨ g = (wr.alloc A).heap.size)
    (hy : Good wr (own (w.heap.size + 1) (.slice va X.length vc)) y ∧ (0 < y.bytes.length → ∀ b, y.ad = some b → w.heap.size ≤ b.block)) : FW w p q l at_ er (wc.setCell ⟨w.heap.size + 1, 0, none⟩ (.slice (some ⟨g, 0, none⟩) (X.length + 1) cap)) (.slice (some ⟨g, 0, none⟩) (X.length + 1) cap) (X ++ [y]) := by
  obtain ⟨h1, h2⟩ := out_snoc (wa := wr) h.out (Below.refl _ _) hown hgrow ((Below.refl _ wr).alloc (Nat.le_refl _) _) hat (good_later hy.1 ((Below.refl _ wr).alloc (Nat.le_refl _) _))
  have hlo : ∀ k, own (w.heap.size + 1) (.slice va X.length vc) k → w.heap.size + 1 ≤ k := by
    rintro k (rfl | hk)
    · exact Nat.le_refl _
    · have := (h.out.list.lt k hk).1; omega
  refine ⟨h1, h2.at h.res (fun e => by have := hlo _ e; omega), h.rd.off h2 (fun e => by have := hlo _ e; have := h.pq.1; omega) (fun e => by have := hlo _ e; have := h.pq.2; omega), h.off.trans h2 (fun i hi e => by have := hlo _ e; omega), h.pq, fun x hx => ?_⟩
  rcases List.mem_append.1 hx with hx | hx
  · exact h.bytes x hx
  · obtain rfl : x = y := by simpa using hx
    exact hy.2

/-- the end: the files are stored into the result. -/
theorem FW.ends {w wr : World} {p q : Nat} {l : List Nat} {at_ : Nat} {er : Int} {va : Option Addr} {vc : Nat} {X : List FX} (h : FW w p q l at_ er wr (.slice va X.length vc) X) (hX : X.length ≤ 100000) (u : Value) : ListAt (wr.setCell ⟨w.heap.size, 0, none⟩ u) va (X.map FX.fil) ∧ Rd (wr.setCell ⟨w.heap.size, 0, none⟩ u) p q l at_ er ∧ Off (fun k => k = p) w (wr.setCell ⟨w.heap.size, 0, none⟩ u) := by
  have hl := (own_list h.out.list h.out.files (by omega)).1
  have ho : Off (fun k => k = w.heap.size) wr (wr.setCell ⟨w.heap.size, 0, none⟩ u) := off_set wr w.heap.size 0 u
  exact ⟨list_put hl h.res u, h.rd.off ho (by have := h.pq.1; omega) (by have := h.pq.2; omega), h.off.trans ho (fun i hi e => by omega)⟩

set_option maxRecDepth 100000 in
set_option maxHeartbeats 8000000 in
theorem readFiles_any (w : World) (p q : Nat) (l : List Nat) (h : Rd w p q l 0 0) (hz : l.length ≤ 1000000) :
    Calls Try.prog 40 #[.pointer (some ⟨p, 0, none⟩)] w fun e w' => ∃ a' c', e = .returned (.agg #[.slice a' (rFiles l (numN (takes l 0 0 2).1) (takes l 0 0 2).2.1 (takes l 0 0 2).2.2 []).1.length c']) ∧ Hid (ListAt w' a' (rFiles l (numN (takes l 0 0 2).1) (takes l 0 0 2).2.1 (takes l 0 0 2).2.2 []).1 ∧ Rd w' p q l (rFiles l (numN (takes l 0 0 2).1) (takes l 0 0 2).2.1 (takes l 0 0 2).2.2 []).2.1 (rFiles l (numN (takes l 0 0 2).1) (takes l 0 0 2).2.1 (takes l 0 0 2).2.2 []).2.2 ∧ Off (fun k => k = p) w w') := by
  obtain ⟨i0, hi, hz0, hz1, hz2⟩ := info_parts Try.info53
  have HI : Hid (Try.prog.info? 53 = some i0) := hi
  have hlt := h.lt
  have hbyte := h.all.byte
  have hb0 : Below w.heap.size w ((w.alloc (.cells #[.slice none 0 0] 24)).alloc (.cells #[.slice none 0 0] 24)) := ((Below.refl _ w).alloc (Nat.le_refl _) _).alloc (by simp) _
  have HF0 : Hid (FW w p q l 0 0 ((w.alloc (.cells #[.slice none 0 0] 24)).alloc (.cells #[.slice none 0 0] 24)) (.slice none 0 0) []) := ⟨⟨second_new w _ _, World.ownsRow_nil _ _ _ _, by simp⟩, by rw [Below.heap_alloc _ _ _ (by simp)]; exact heap_alloc_new w _, h.later hb0, Off.of_below hb0, hlt, by simp⟩
  have HU := u16_any _ p q l 0 0 HF0.out.rd (by omega)
  have hnn := takes_num (l := l) (at_ := 0) (er := 0) (n := 2) hbyte (by omega)
  have HBY : Hid (∀ x ∈ l, x < 256) := hbyte
  generalize takes l 0 0 2 = t at HU hnn ⊢
  generalize numN t.1 = n at HU hnn ⊢
  obtain ⟨R, hR⟩ : ∃ R, R = rFiles l n t.2.1 t.2.2 [] := ⟨_, rfl⟩
  rw [← hR]
  have HR : Hid (rFiles l n t.2.1 t.2.2 [] = R) := hR.symm
  clear h hi hb0 hR hbyte
  go_enter Try.func40, Try.ntmps40
  go_wp2_with (go_at_call 46; refine HU.mono ?_; rintro e w1 ⟨rfl, hq1⟩)
  go_loopw [7] (fun i wr => ∃ (k : Nat) (v : Value) (X : List FX) (at_ : Nat) (er : Int), k ≤ n ∧ i = .int .u16 k ∧ X.length ≤ k ∧ Hid (FW w p q l at_ er wr v X) ∧ Hid (rFiles l (n - k) at_ er (X.map FX.fil) = R)) (fun i _ => n - (intOf i).toNat)
  case atStart => exact ⟨0, .slice none 0 0, [], t.2.1, t.2.2, Nat.zero_le _, rfl, Nat.le_refl _, HF0.out.read hq1.out, HR.out⟩
  case round =>
    clear hq1 HU HF0
    obtain ⟨k, v, X, at1, er1, hk, rfl, hXk, hw, hf⟩ := hrel
    obtain ⟨va, vc, rfl, hv1, hv2⟩ := own_form hw.out.out.list
    have d1 := cell_of hw.out.out.here 0
    simp only [List.getElem?_toArray, List.getElem?_cons_zero] at d1
    have HEND : Hid (R = (X.map FX.fil, at1, er1) → ∀ u, ∃ a' c', Ending.returned (.agg #[.slice va X.length vc]) = .returned (.agg #[.slice a' R.1.length c']) ∧ Hid (ListAt (wr.setCell ⟨w.heap.size, 0, none⟩ u) a' R.1 ∧ Rd (wr.setCell ⟨w.heap.size, 0, none⟩ u) p q l R.2.1 R.2.2 ∧ Off (fun k => k = p) w (wr.setCell ⟨w.heap.size, 0, none⟩ u))) := fun e u => by
      rw [e]
      exact ⟨va, vc, by simp, hw.out.ends (by omega) u⟩
    have r1 := cell_of hw.out.res 0
    simp only [List.getElem?_toArray, List.getElem?_cons_zero] at r1
    have r2 := frozen_of hw.out.res 0
    have r3 : ∀ u, (wr.setCell ⟨w.heap.size, 0, none⟩ u).cell? ⟨w.heap.size, 0, none⟩ = some u := fun u => by
      rw [cell_of (heap_setCell_same wr _ 0 _ _ u hw.out.res)]; rfl
    have hNr : w.heap.size + 1 < wr.heap.size := (Array.getElem?_eq_some_iff.1 hw.out.out.here).1
    by_cases hkl : k < n
    · have hki : (k : Int) < (n : Int) := by omega
      have HER := err_any wr p q l at1 er1 hw.out.rd
      by_cases he : (er1 != 0) = true
      · have HRE : Hid (R = (X.map FX.fil, at1, er1)) := by
          have := hf.out
          rw [show n - k = (n - k - 1) + 1 by omega, rFiles, if_pos he] at this
          exact this.symm
        go_wp2_with (go_at_call 41; refine HER.mono ?_; rintro e w2 ⟨rfl, rfl⟩)
        refine bodyPost_ret (v := .agg #[.slice va X.length vc]) (by simp [results, Try.results40, go_sem, r3]) rfl (HEND.out HRE.out _)
      · obtain rfl := er_zero he
        have HRN := readName_any wr p q l at1 0 hw.out.rd (by omega)
        have HNX : Hid (rFiles l (n - (k + 1)) (counts l 2 (counts l 1 at1 0).2.1 (counts l 1 at1 0).2.2).2.1 (counts l 2 (counts l 1 at1 0).2.1 (counts l 1 at1 0).2.2).2.2 (X.map FX.fil ++ [⟨nameOf (counts l 1 at1 0).1, (counts l 2 (counts l 1 at1 0).2.1 (counts l 1 at1 0).2.2).1⟩]) = R) := by
          have := hf.out
          rw [show n - k = (n - (k + 1)) + 1 by omega, rFiles, if_neg he] at this
          exact this
        have hnmb : (nameOf (counts l 1 at1 0).1).size ≤ 65536 := by
          rw [nameOf_size]
          have h1 := takes_len (l := l) (at_ := (takes l at1 0 1).2.1) (er := (takes l at1 0 1).2.2) (n := numN (takes l at1 0 1).1)
          have h2 := takes_num (l := l) (at_ := at1) (er := 0) (n := 1) HBY.out (by omega)
          unfold counts
          omega
        clear hf he HEND r1 r2 r3
        generalize counts l 1 at1 0 = s at HRN HNX hnmb
        have hml : (counts l 2 s.2.1 s.2.2).1.length ≤ 65536 := by
          have h1 := takes_len (l := l) (at_ := (takes l s.2.1 s.2.2 2).2.1) (er := (takes l s.2.1 s.2.2 2).2.2) (n := numN (takes l s.2.1 s.2.2 2).1)
          have h2 := takes_num (l := l) (at_ := s.2.1) (er := s.2.2) (n := 2) HBY.out (by omega)
          unfold counts
          omega
        have HRB0 : Hid (∀ W, FW w p q l s.2.1 s.2.2 W (.slice va X.length vc) X → Calls Try.prog 64 #[.pointer (some ⟨p, 0, none⟩)] W fun e w' => ∃ g, e = .returned (.slice (some ⟨g, 0, none⟩) (counts l 2 s.2.1 s.2.2).1.length (counts l 2 s.2.1 s.2.2).1.length) ∧ Hid (Bs w' g (counts l 2 s.2.1 s.2.2).1 ∧ W.heap.size ≤ g ∧ Reads W p q l (counts l 2 s.2.1 s.2.2) w')) := fun W hW => readBytes_any W p q l s.2.1 s.2.2 hW.rd (by omega)
        generalize counts l 2 s.2.1 s.2.2 = z at HRB0 HNX hml
        obtain ⟨m, at2, er2⟩ := z
        generalize nameOf s.1 = nm at HRN HNX hnmb
        simp only at HRB0 HNX hml
        go_wp2_with (first | (go_at_call 41; refine HER.mono ?_; rintro e w2 ⟨rfl, rfl⟩) | (go_at_call 63; refine HRN.mono ?_; rintro e w2 ⟨rfl, hq2⟩))
        have HW2 : Hid (FW w p q l s.2.1 s.2.2 w2.drew (.slice va X.length vc) X) := (hw.out.read hq2.out).later ((Below.refl _ w2).drew)
        have HRB := HRB0.out w2.drew HW2.out
        have e1 : w2.cell? ⟨w.heap.size + 1, 0, none⟩ = some (.slice va X.length vc) := by
          have := cell_of HW2.out.out.here 0
          simp only [List.getElem?_toArray, List.getElem?_cons_zero] at this
          exact this
        have HK3 : Hid (∀ w3 g, Bs w3 g m ∧ w2.drew.heap.size ≤ g ∧ Reads w2.drew p q l (m, at2, er2) w3 → FW w p q l at2 er2 w3 (.slice va X.length vc) X ∧ w3.cell? ⟨w.heap.size + 1, 0, none⟩ = some (.slice va X.length vc)) := fun w3 g hh => by
          have h3 : FW w p q l at2 er2 w3 (.slice va X.length vc) X := HW2.out.read hh.2.2
          exact ⟨h3, by rw [cell_of h3.out.here]; rfl⟩
        have HK4 : Hid (∀ w3 g, Bs w3 g m ∧ w2.drew.heap.size ≤ g ∧ Reads w2.drew p q l (m, at2, er2) w3 → FW w p q l at2 er2 w3 (.slice va X.length vc) X → Good w3 (own (w.heap.size + 1) (.slice va X.length vc)) (⟨nm, some ⟨g, 0, none⟩, m.length, m⟩ : FX) ∧ (0 < m.length → ∀ b, some (⟨g, 0, none⟩ : Addr) = some b → w.heap.size ≤ b.block)) := fun w3 g hh h3 => by
          have hs2 := HW2.out.off.size
          have hg := hh.2.1
          refine ⟨⟨by show nm.size ≤ _; omega, Nat.le_refl _, hh.1.len, hh.1.row, fun _ b hb e => ?_⟩, fun _ b hb => by cases hb; show _ ≤ g; omega⟩
          cases hb
          rcases e with e | e
          · have := (Array.getElem?_eq_some_iff.1 HW2.out.out.here).1; simp only at e; omega
          · have := (HW2.out.out.list.lt _ e).2; simp only at this; omega
        have hX1 : X.length ≤ 65536 := by omega
        clear HRN HER hq2 hw HRB0 d1
        refine wp_region_noPanic ?_
        refine wp_region_held_drew (S := fun _ => True) (by kernel_rfl) trivial (fun hHeld => ?_)
        refine takeH 0 (.pointer (some ⟨w.heap.size + 1, 0, none⟩)) rfl (by kernel_rfl) (by kernel_rfl) (by kernel_rfl) (fun _ _ _ h => h) (Or.inl ⟨by rfl, ?_⟩) (by assumption) ?_
        · (intro w hSw; go_simp)
        try simp only [Act.put, List.setIfInBounds_toArray, List.set_cons_zero, List.set_cons_succ]
        refine takeH 2 (.string nm) rfl (by kernel_rfl) (by kernel_rfl) (by kernel_rfl) (fun _ _ _ h => h) (Or.inl ⟨by rfl, ?_⟩) (by assumption) ?_
        · (intro w hSw; go_simp)
        try simp only [Act.put, List.setIfInBounds_toArray, List.set_cons_zero, List.set_cons_succ]
        refine takeH 3 (.pointer (some ⟨p, 0, none⟩)) rfl (by kernel_rfl) (by kernel_rfl) (by kernel_rfl) (fun _ _ _ h => h) (Or.inl ⟨by rfl, ?_⟩) (by assumption) ?_
        · (intro w hSw; go_simp)
        try simp only [Act.put, List.setIfInBounds_toArray, List.set_cons_zero, List.set_cons_succ]
        refine wpAnyH_ready (rs := [1, 4]) (by kernel_rfl) (by simp) ?_
        refine stepH 1 rfl (fun K hK => ?_) (stepH 4 rfl (fun K hK => ?_) AllReadyH.nil)
        · go_simp
          refine hK.out _ _ (trivial) (fun hHeld => ?_)
          clear hK K
          try simp only [Act.put, List.setIfInBounds_toArray, List.set_cons_zero, List.set_cons_succ]
          refine wpAnyH_ready (rs := [4]) (by kernel_rfl) (by simp) ?_
          refine stepH 4 rfl (fun K hK => ?_) AllReadyH.nil
          go_simp
          refine HRB.mono ?_
          rintro e w3 ⟨g, rfl, hq3⟩
          obtain ⟨h3, hA3⟩ := HK3.out w3 g hq3.out
          have hA4 : ∀ A, (w3.alloc A).cell? ⟨w.heap.size + 1, 0, none⟩ = some (.slice va X.length vc) := fun A => cell_later ((Below.refl _ w3).alloc (Nat.le_refl _) A) hA3
          refine hK.out _ _ (trivial) (fun hHeld => ?_)
          clear hK K
          try simp only [Act.put, List.setIfInBounds_toArray, List.set_cons_zero, List.set_cons_succ]
          refine takeH 5 (.agg #[.string nm, .slice (some ⟨g, 0, none⟩) m.length m.length]) rfl (by kernel_rfl) (by kernel_rfl) (by kernel_rfl) (fun _ _ _ h => h) (Or.inl ⟨by rfl, ?_⟩) (by assumption) ?_
          · (intro w hSw; go_simp)
          try simp only [Act.put, List.setIfInBounds_toArray, List.set_cons_zero, List.set_cons_succ]
          refine wpAnyH_ready (rs := [6]) (by kernel_rfl) (by simp) ?_
          refine stepH 6 rfl (fun K hK => ?_) AllReadyH.nil
          go_simp
          refine hK.out _ _ (trivial) (fun hHeld => ?_)
          clear hK K
          try simp only [Act.put, List.setIfInBounds_toArray, List.set_cons_zero, List.set_cons_succ]
          refine wpAnyH_ready (rs := [7]) (by kernel_rfl) (by simp) ?_
          refine stepH 7 rfl (fun K hK => ?_) AllReadyH.nil
          refine step_append_lies _ (by rfl) _ _ _ (by rfl) (w.heap.size + 1 + 1) 53 i0 (.agg #[.string ⟨#[]⟩, .slice none 0 0]) 2 40 Try.underlying22 HI.out hz0 hz1 hz2 rfl (by decide) (.slice va X.length vc) X.length (fcells X) (by rfl) (World.ownsRow.alloc (w := w3) h3.out.list _) ⟨w3.heap.size, 0, none⟩ 1 1 [.string nm, .slice (some ⟨g, 0, none⟩) m.length m.length] (by rfl) (by rfl) (World.news_of_block (heap_alloc_new w3 _)) (by intro u hu; simp at hu; rcases hu with rfl | rfl <;> rfl) (by decide) (by unfold maxLen; omega) (by omega) (by have := (Array.getElem?_eq_some_iff.1 h3.out.here).1; simp; omega) (w3.heap.size + 1) (by simp) ?_
          intro g5 cap w5 hown5 hgrow5 hat hlt
          obtain ⟨hx1, hx2⟩ := copied_five h3.out (Below.refl _ w3) hgrow5
          refine hK.out _ _ (trivial) (fun hHeld => ?_)
          clear hK K
          try simp only [Act.put, List.setIfInBounds_toArray, List.set_cons_zero, List.set_cons_succ]
          refine takeH 8 (.pointer (some ⟨w.heap.size + 1, 0, none⟩)) rfl (by kernel_rfl) (by kernel_rfl) (by kernel_rfl) (fun _ _ _ h => h) (Or.inl ⟨by rfl, ?_⟩) (by assumption) ?_
          · (intro w hSw; go_simp)
          try simp only [Act.put, List.setIfInBounds_toArray, List.set_cons_zero, List.set_cons_succ]
          refine wpAnyH_ready (rs := [9]) (by kernel_rfl) (by simp) ?_
          refine stepH 9 rfl (fun K hK => ?_) AllReadyH.nil
          go_simp
          refine hK.out _ _ (trivial) (fun hHeld => ?_)
          clear hK K
          try simp only [Act.put, List.setIfInBounds_toArray, List.set_cons_zero, List.set_cons_succ]
          refine wpAnyH_done (by kernel_rfl) ?_ _
          refine NoPanic.normal ?_
          have HP : Hid (FW w p q l at2 er2 (w5.setCell ⟨w.heap.size + 1, 0, none⟩ (.slice (some ⟨g5, 0, none⟩) (X.length + 1) cap)) (.slice (some ⟨g5, 0, none⟩) (X.length + 1) cap) (X ++ [⟨nm, some ⟨g, 0, none⟩, m.length, m⟩])) := h3.push (y := ⟨nm, some ⟨g, 0, none⟩, m.length, m⟩) hown5 hgrow5 (by simpa using hat) (HK4.out w3 g hq3.out h3)
          clear hown5 hgrow5 hat hx1 hx2 hHeld
          go_wp2
          go_roundw
          case rel => exact ⟨k + 1, _, _, at2, er2, by omega, by go_num, by rw [List.length_append]; simp; omega, HP.out, by show _ = _; have := HNX.out; simpa [FX.fil] using this⟩
          case measure => simp [intOf]; omega
        · go_simp
          refine HRB.mono ?_
          rintro e w3 ⟨g, rfl, hq3⟩
          obtain ⟨h3, hA3⟩ := HK3.out w3 g hq3.out
          have hA4 : ∀ A, (w3.alloc A).cell? ⟨w.heap.size + 1, 0, none⟩ = some (.slice va X.length vc) := fun A => cell_later ((Below.refl _ w3).alloc (Nat.le_refl _) A) hA3
          refine hK.out _ _ (trivial) (fun hHeld => ?_)
          clear hK K
          try simp only [Act.put, List.setIfInBounds_toArray, List.set_cons_zero, List.set_cons_succ]
          refine takeH 5 (.agg #[.string nm, .slice (some ⟨g, 0, none⟩) m.length m.length]) rfl (by kernel_rfl) (by kernel_rfl) (by kernel_rfl) (fun _ _ _ h => h) (Or.inl ⟨by rfl, ?_⟩) (by assumption) ?_
          · (intro w hSw; go_simp)
          try simp only [Act.put, List.setIfInBounds_toArray, List.set_cons_zero, List.set_cons_succ]
          refine wpAnyH_ready (rs := [1, 6]) (by kernel_rfl) (by simp) ?_
          refine stepH 1 rfl (fun K hK => ?_) (stepH 6 rfl (fun K hK => ?_) AllReadyH.nil)
          · go_simp
            refine hK.out _ _ (trivial) (fun hHeld => ?_)
            clear hK K
            try simp only [Act.put, List.setIfInBounds_toArray, List.set_cons_zero, List.set_cons_succ]
            refine wpAnyH_ready (rs := [6]) (by kernel_rfl) (by simp) ?_
            refine stepH 6 rfl (fun K hK => ?_) AllReadyH.nil
            go_simp
            refine hK.out _ _ (trivial) (fun hHeld => ?_)
            clear hK K
            try simp only [Act.put, List.setIfInBounds_toArray, List.set_cons_zero, List.set_cons_succ]
            refine wpAnyH_ready (rs := [7]) (by kernel_rfl) (by simp) ?_
            refine stepH 7 rfl (fun K hK => ?_) AllReadyH.nil
            refine step_append_lies _ (by rfl) _ _ _ (by rfl) (w.heap.size + 1 + 1) 53 i0 (.agg #[.string ⟨#[]⟩, .slice none 0 0]) 2 40 Try.underlying22 HI.out hz0 hz1 hz2 rfl (by decide) (.slice va X.length vc) X.length (fcells X) (by rfl) (World.ownsRow.alloc (w := w3) h3.out.list _) ⟨w3.heap.size, 0, none⟩ 1 1 [.string nm, .slice (some ⟨g, 0, none⟩) m.length m.length] (by rfl) (by rfl) (World.news_of_block (heap_alloc_new w3 _)) (by intro u hu; simp at hu; rcases hu with rfl | rfl <;> rfl) (by decide) (by unfold maxLen; omega) (by omega) (by have := (Array.getElem?_eq_some_iff.1 h3.out.here).1; simp; omega) (w3.heap.size + 1) (by simp) ?_
            intro g5 cap w5 hown5 hgrow5 hat hlt
            obtain ⟨hx1, hx2⟩ := copied_five h3.out (Below.refl _ w3) hgrow5
            refine hK.out _ _ (trivial) (fun hHeld => ?_)
            clear hK K
            try simp only [Act.put, List.setIfInBounds_toArray, List.set_cons_zero, List.set_cons_succ]
            refine takeH 8 (.pointer (some ⟨w.heap.size + 1, 0, none⟩)) rfl (by kernel_rfl) (by kernel_rfl) (by kernel_rfl) (fun _ _ _ h => h) (Or.inl ⟨by rfl, ?_⟩) (by assumption) ?_
            · (intro w hSw; go_simp)
            try simp only [Act.put, List.setIfInBounds_toArray, List.set_cons_zero, List.set_cons_succ]
            refine wpAnyH_ready (rs := [9]) (by kernel_rfl) (by simp) ?_
            refine stepH 9 rfl (fun K hK => ?_) AllReadyH.nil
            go_simp
            refine hK.out _ _ (trivial) (fun hHeld => ?_)
            clear hK K
            try simp only [Act.put, List.setIfInBounds_toArray, List.set_cons_zero, List.set_cons_succ]
            refine wpAnyH_done (by kernel_rfl) ?_ _
            refine NoPanic.normal ?_
            have HP : Hid (FW w p q l at2 er2 (w5.setCell ⟨w.heap.size + 1, 0, none⟩ (.slice (some ⟨g5, 0, none⟩) (X.length + 1) cap)) (.slice (some ⟨g5, 0, none⟩) (X.length + 1) cap) (X ++ [⟨nm, some ⟨g, 0, none⟩, m.length, m⟩])) := h3.push (y := ⟨nm, some ⟨g, 0, none⟩, m.length, m⟩) hown5 hgrow5 (by simpa using hat) (HK4.out w3 g hq3.out h3)
            clear hown5 hgrow5 hat hx1 hx2 hHeld
            go_wp2
            go_roundw
            case rel => exact ⟨k + 1, _, _, at2, er2, by omega, by go_num, by rw [List.length_append]; simp; omega, HP.out, by show _ = _; have := HNX.out; simpa [FX.fil] using this⟩
            case measure => simp [intOf]; omega
          · go_simp
            refine hK.out _ _ (trivial) (fun hHeld => ?_)
            clear hK K
            try simp only [Act.put, List.setIfInBounds_toArray, List.set_cons_zero, List.set_cons_succ]
            refine wpAnyH_ready (rs := [1]) (by kernel_rfl) (by simp) ?_
            refine stepH 1 rfl (fun K hK => ?_) AllReadyH.nil
            go_simp
            refine hK.out _ _ (trivial) (fun hHeld => ?_)
            clear hK K
            try simp only [Act.put, List.setIfInBounds_toArray, List.set_cons_zero, List.set_cons_succ]
            refine wpAnyH_ready (rs := [7]) (by kernel_rfl) (by simp) ?_
            refine stepH 7 rfl (fun K hK => ?_) AllReadyH.nil
            refine step_append_lies _ (by rfl) _ _ _ (by rfl) (w.heap.size + 1 + 1) 53 i0 (.agg #[.string ⟨#[]⟩, .slice none 0 0]) 2 40 Try.underlying22 HI.out hz0 hz1 hz2 rfl (by decide) (.slice va X.length vc) X.length (fcells X) (by rfl) (World.ownsRow.alloc (w := w3) h3.out.list _) ⟨w3.heap.size, 0, none⟩ 1 1 [.string nm, .slice (some ⟨g, 0, none⟩) m.length m.length] (by rfl) (by rfl) (World.news_of_block (heap_alloc_new w3 _)) (by intro u hu; simp at hu; rcases hu with rfl | rfl <;> rfl) (by decide) (by unfold maxLen; omega) (by omega) (by have := (Array.getElem?_eq_some_iff.1 h3.out.here).1; simp; omega) (w3.heap.size + 1) (by simp) ?_
            intro g5 cap w5 hown5 hgrow5 hat hlt
            obtain ⟨hx1, hx2⟩ := copied_five h3.out (Below.refl _ w3) hgrow5
            refine hK.out _ _ (trivial) (fun hHeld => ?_)
            clear hK K
            try simp only [Act.put, List.setIfInBounds_toArray, List.set_cons_zero, List.set_cons_succ]
            refine takeH 8 (.pointer (some ⟨w.heap.size + 1, 0, none⟩)) rfl (by kernel_rfl) (by kernel_rfl) (by kernel_rfl) (fun _ _ _ h => h) (Or.inl ⟨by rfl, ?_⟩) (by assumption) ?_
            · (intro w hSw; go_simp)
            try simp only [Act.put, List.setIfInBounds_toArray, List.set_cons_zero, List.set_cons_succ]
            refine wpAnyH_ready (rs := [9]) (by kernel_rfl) (by simp) ?_
            refine stepH 9 rfl (fun K hK => ?_) AllReadyH.nil
            go_simp
            refine hK.out _ _ (trivial) (fun hHeld => ?_)
            clear hK K
            try simp only [Act.put, List.setIfInBounds_toArray, List.set_cons_zero, List.set_cons_succ]
            refine wpAnyH_done (by kernel_rfl) ?_ _
            refine NoPanic.normal ?_
            have HP : Hid (FW w p q l at2 er2 (w5.setCell ⟨w.heap.size + 1, 0, none⟩ (.slice (some ⟨g5, 0, none⟩) (X.length + 1) cap)) (.slice (some ⟨g5, 0, none⟩) (X.length + 1) cap) (X ++ [⟨nm, some ⟨g, 0, none⟩, m.length, m⟩])) := h3.push (y := ⟨nm, some ⟨g, 0, none⟩, m.length, m⟩) hown5 hgrow5 (by simpa using hat) (HK4.out w3 g hq3.out h3)
            clear hown5 hgrow5 hat hx1 hx2 hHeld
            go_wp2
            go_roundw
            case rel => exact ⟨k + 1, _, _, at2, er2, by omega, by go_num, by rw [List.length_append]; simp; omega, HP.out, by show _ = _; have := HNX.out; simpa [FX.fil] using this⟩
            case measure => simp [intOf]; omega
    · obtain rfl : k = n := by omega
      have HRE : Hid (R = (X.map FX.fil, at1, er1)) := by
        have := hf.out
        rw [Nat.sub_self, rFiles] at this
        exact this.symm
      go_wp2
      refine bodyPost_ret (v := .agg #[.slice va X.length vc]) (by simp [results, Try.results40, go_sem, r3]) rfl (HEND.out HRE.out _)
end Go.Proofs.Ytfocejmfmnijpaa
