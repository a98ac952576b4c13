/- The walks of slices.Clone of items, cbor.fresh, List, Number and Bytes. -/
import Derived.Test.YtjfmgokpnpmdpaaDoorCRow
namespace Go.Proofs.YtjfmgokpnpmdpaaDoor
open Go.RowKit
set_option linter.unusedVariables false

/-- Items that lie in memory: where each one's bytes and Items lie. -/
theorem LieL.rows {A : Nat → Prop} {w : World} {n : Nat} {a : Option Addr} {L : List T} (h : LieL A w n a L) : ∃ X : List IX, X.map IX.x = L ∧ (∀ y ∈ X, Lie A w n y.a1 y.x y.a2 ∧ (bs y.x).length ≤ y.c1) ∧ (0 < L.length → ∃ b o, a = some ⟨b, o, none⟩ ∧ ∀ j u, (icells X)[j]? = some u → w.cell? ⟨b, o + j, none⟩ = some u) := by
  obtain ⟨h2, h3⟩ := h
  by_cases h0 : 0 < L.length
  · obtain ⟨b, o, rfl, _, hc⟩ := h3 h0
    suffices hs : ∀ (M : List T) (s : Nat), (∀ i (h : i < M.length), ∃ b1 c1 b2 c2, Cells4 w b (s + i * 4) M[i] b1 c1 b2 c2 ∧ Lie A w n b1 M[i] b2 ∧ (bs M[i]).length ≤ c1) → ∃ X : List IX, X.map IX.x = M ∧ (∀ y ∈ X, Lie A w n y.a1 y.x y.a2 ∧ (bs y.x).length ≤ y.c1) ∧ ∀ j u, (icells X)[j]? = some u → w.cell? ⟨b, s + j, none⟩ = some u by
      obtain ⟨X, e1, e2, e3⟩ := hs L o hc
      exact ⟨X, e1, e2, fun _ => ⟨b, o, rfl, e3⟩⟩
    intro M
    induction M with
    | nil => intro s _; exact ⟨[], rfl, by simp, by simp [icells]⟩
    | cons x r ih =>
      intro s hx
      obtain ⟨X, e1, e2, e3⟩ := ih (s + 4) (fun i hi => by
        have := hx (i + 1) (by simpa using hi)
        rw [show s + (i + 1) * 4 = s + 4 + i * 4 by omega] at this
        exact this)
      obtain ⟨b1, c1, b2, c2, ⟨f0, f1, f2, f3⟩, f4⟩ := hx 0 (by simp)
      simp only [Nat.zero_mul, Nat.add_zero, List.getElem_cons_zero] at f0 f1 f2 f3 f4
      refine ⟨⟨x, b1, c1, b2, c2⟩ :: X, by simp [e1], ?_, ?_⟩
      · intro y hy
        rcases List.mem_cons.1 hy with rfl | hy
        · exact f4
        · exact e2 y hy
      · intro j u hu
        match j with
        | 0 => simp only [icells, List.getElem?_cons_zero, Option.some.injEq] at hu; rw [← hu]; exact f0
        | 1 => simp only [icells, List.getElem?_cons_succ, List.getElem?_cons_zero, Option.some.injEq] at hu; rw [← hu]; exact f1
        | 2 => simp only [icells, List.getElem?_cons_succ, List.getElem?_cons_zero, Option.some.injEq] at hu; rw [← hu]; exact f2
        | 3 => simp only [icells, List.getElem?_cons_succ, List.getElem?_cons_zero, Option.some.injEq] at hu; rw [← hu]; exact f3
        | j + 4 =>
          simp only [icells, List.getElem?_cons_succ] at hu
          have := e3 j u hu
          rw [show s + 4 + j = s + (j + 4) by omega] at this
          exact this
  · obtain rfl : L = [] := List.eq_nil_of_length_eq_zero (by omega)
    exact ⟨[], rfl, by simp, fun h => absurd h (by simp)⟩

theorem eqlItems (w : World) (a : Option Addr) (n c n' c' : Nat) : (binOp .eql 50 (.slice a n c) (.slice none n' c')).run Tryd.prog w = .ok (.bool a.isNone) w := Lib.run_eql_slice_nil w _ _ a n c n' c' Tryd.underlying50

set_option maxRecDepth 20000 in
set_option maxHeartbeats 1000000 in
theorem iclone_any (w : World) (a : Option Addr) (cap : Nat) (X : List IX) (hz : X.length ≤ 1000000000000) (hc : 0 < X.length → ∃ b o, a = some ⟨b, o, none⟩ ∧ ∀ j u, (icells X)[j]? = some u → w.cell? ⟨b, o + j, none⟩ = some u) :
    Calls Tryd.prog 64 #[.slice a X.length cap] w fun e w' => ∃ v, e = .returned v ∧ Hid (w'.ownsRow w.heap.size 52 4 v X.length (icells X) ∧ Below w.heap.size w w') := by
  have q := eqlItems
  cases a with
  | none =>
    obtain rfl : X = [] := by
      rcases Nat.eq_zero_or_pos X.length with h0 | h0
      · exact List.eq_nil_of_length_eq_zero h0
      · obtain ⟨_, _, h1, _⟩ := hc h0
        cases h1
    go_enter Tryd.func64, Tryd.ntmps64
    go_wp2
    go_ret
    exact ⟨_, rfl, World.ownsRow_nil w _ _ _, Below.refl _ _⟩
  | some ad =>
    obtain ⟨i0, hi, hz0, hz1, hz2⟩ := info_parts Tryd.info52
    have HI : Hid _ := hi
    have HC : Hid (∀ j u, (icells X)[j]? = some u → w.cell? (ad.add j) = some u) := by
      intro j u hu
      have hj := (List.getElem?_eq_some_iff.1 hu).1
      rw [icells_length] at hj
      obtain ⟨b, o, hb, hcc⟩ := hc (by omega)
      cases hb
      rw [Go.WideShapes.add_plain]
      exact hcc j u hu
    clear hi hc
    go_enter Tryd.func64, Tryd.ntmps64
    go_wp2_with (at_builtin; go_must (refine wpList_append_own _ rfl _ _ 50 rfl w.heap.size 52 i0 _ 4 64 Tryd.underlying50 HI.out hz0 hz1 hz2 rfl (by decide) _ _ _ rfl (World.ownsRow_made w #[] 0 (Nat.le_refl _) (Nat.zero_le _) rfl) ad X.length cap (icells X) rfl (by rw [icells_length]) (fun j u hu => cell_later ((Below.refl _ w).alloc (Nat.le_refl _) _) (HC.out j u hu)) (icells_one X) (by unfold maxLen; omega) (by omega) (by simp) ?_); intro v' w1 hown hgrow hnil)
    have HO : Hid (w1.ownsRow w.heap.size 52 4 v' X.length (icells X) ∧ Below w.heap.size w w1) := ⟨by simpa using hown, ((Below.refl _ w).alloc (Nat.le_refl _) _).grown hgrow (by simp) (by intro k hk; cases hk; exact Nat.le_refl _)⟩
    clear hown hgrow hnil
    go_wp2
    go_ret
    exact ⟨v', rfl, HO⟩

theorem icells_set : ∀ (X : List IX) (i : Nat) (h : i < X.length) (a1 : Option Addr) (c1 : Nat) (a2 : Option Addr) (c2 : Nat), ((icells X).set (i * 4 + 2) (.slice a1 (bs X[i].x).length c1)).set (i * 4 + 3) (.slice a2 (its X[i].x).length c2) = icells (X.set i ⟨X[i].x, a1, c1, a2, c2⟩)
  | [], _, h, _, _, _, _ => by simp at h
  | x :: r, 0, _, _, _, _, _ => by simp [icells]
  | x :: r, i + 1, h, a1, c1, a2, c2 => by
    rw [show (i + 1) * 4 + 2 = i * 4 + 2 + 1 + 1 + 1 + 1 by omega, show (i + 1) * 4 + 3 = i * 4 + 3 + 1 + 1 + 1 + 1 by omega]
    simp only [icells, List.set_cons_succ, List.getElem_cons_succ]
    rw [icells_set r i (by simpa using h) a1 c1 a2 c2]

/-! what stands while items are copied, the lists within them, too: so many are done -/
theorem off_setG (w : World) (p j : Nat) (u : Value) : Off (fun k => k = p) w (w.setCell ⟨p, j, none⟩ u) := (Off.refl (fun k => k = p) w).setCell (p := ⟨p, j, none⟩) (.inr rfl) u
/-- (as above) -/
structure Fr (A : Nat → Prop) (w wr : World) (n g cap k : Nat) (X : List IX) : Prop where
  own : wr.ownsRow w.heap.size 52 4 (.slice (some ⟨g, 0, none⟩) X.length cap) X.length (icells X)
  done : ∀ i (h : i < X.length), i < k → Lie (fun q => q < w.heap.size ∨ q = g) wr n X[i].a1 X[i].x X[i].a2 ∧ (bs X[i].x).length ≤ X[i].c1
  todo : ∀ i (h : i < X.length), k ≤ i → Lie A w n X[i].a1 X[i].x X[i].a2
  below : Below w.heap.size w wr

theorem Fr.step {A : Nat → Prop} {w wr w2 w3 : World} {m g cap k : Nat} {X : List IX} (h : Fr A w wr (m + 1) g cap k X) (hk : k < X.length) (Z : Obj) (hb2 : Below (wr.alloc Z).heap.size (wr.alloc Z) w2) {a' : Option Addr} {c' : Nat} (hf : Fresh (wr.alloc Z) w2 a' c' (bs X[k].x))
    (hb3 : Below (w2.setCell ⟨g, k * 4 + 2, none⟩ (.slice a' (bs X[k].x).length c')).heap.size (w2.setCell ⟨g, k * 4 + 2, none⟩ (.slice a' (bs X[k].x).length c')) w3) {a3 : Option Addr} {c3 : Nat} (hl : LieL (fun q => q < (w2.setCell ⟨g, k * 4 + 2, none⟩ (.slice a' (bs X[k].x).length c')).heap.size) w3 m a3 (its X[k].x)) :
    Fr A w (w3.setCell ⟨g, k * 4 + 3, none⟩ (.slice a3 (its X[k].x).length c3)) (m + 1) g cap (k + 1) (X.set k ⟨X[k].x, a', c', a3, c3⟩) := by
  obtain ⟨hwg, hgl⟩ := h.own.lt g rfl
  have hA := (Below.refl wr.heap.size wr).alloc (Nat.le_refl _) Z
  have hs2 := hb2.size
  have hs3 := hb3.size
  simp at hs2 hs3
  have o1 : Off (fun q => q = g) wr w2 := Off.of_below (below_of hA hb2)
  have o2 := off_setG w2 g (k * 4 + 2) (.slice a' (bs X[k].x).length c')
  have o3 : Off (fun q => q = g) (w2.setCell ⟨g, k * 4 + 2, none⟩ (.slice a' (bs X[k].x).length c')) w3 := Off.of_below hb3
  have o4 := off_setG w3 g (k * 4 + 3) (.slice a3 (its X[k].x).length c3)
  have oo : Off (fun q => q = g) wr (w3.setCell ⟨g, k * 4 + 3, none⟩ (.slice a3 (its X[k].x).length c3)) := ((o1.trans o2 (fun _ _ t => t)).trans o3 (fun _ _ t => t)).trans o4 (fun _ _ t => t)
  have e1 : w2.ownsRow w.heap.size 52 4 (.slice (some ⟨g, 0, none⟩) X.length cap) X.length (icells X) := (Off.of_below (S := fun _ => False) (below_of hA hb2)).owns h.own (fun _ _ => id)
  have e2 := (e1.stored (k * 4 + 2) (.slice a' (bs X[k].x).length c')).1
  have e3 := (Off.of_below (S := fun _ => False) hb3).owns e2 (fun _ _ => id)
  have e4 := (e3.stored (k * 4 + 3) (.slice a3 (its X[k].x).length c3)).1
  rw [icells_set X k hk] at e4
  refine ⟨by rw [List.length_set]; exact e4, ?_, ?_, ?_⟩
  · intro i hi2 hik
    have hi : i < X.length := by rw [List.length_set] at hi2; exact hi2
    by_cases he : i = k
    · subst he
      rw [List.getElem_set_self]
      refine ⟨⟨(h.todo i hi (Nat.le_refl _)).1, ?_, ?_, ?_⟩, hf.le⟩
      · refine ((hf.row.off o2 ?_).later hb3).off o4 ?_
        · intro _ b hb e; have := hf.new b hb; simp at this; omega
        · intro _ b hb e; have := hf.new b hb; simp at this; omega
      · intro _ b hb e; have := hf.new b hb; simp at this; rcases e with e | e <;> omega
      · refine LieL.apart ?_ (LieL.off hl o4 (fun q e => by simp; omega))
        intro q _ e
        simp
        rcases e with e | e <;> omega
    · rw [List.getElem_set_ne (fun e => he e.symm)]
      have := h.done i hi (by omega)
      exact ⟨Lie.off oo (fun q e => .inr e) (m + 1) this.1, this.2⟩
  · intro i hi2 hik
    have hi : i < X.length := by rw [List.length_set] at hi2; exact hi2
    rw [List.getElem_set_ne (by omega)]
    exact h.todo i hi (by omega)
  · exact h.below.trans (oo.below h.below.size (fun i e => by omega))

/-- what fresh does with items that are at most n deep. -/
def FreshOk (n : Nat) : Prop := ∀ (A : Nat → Prop) (w : World) (a : Option Addr) (c : Nat) (L : List T), LieL A w n a L →
  Calls Tryd.prog 49 #[.slice a L.length c] w fun e w' => ∃ a' c', e = .returned (.slice a' L.length c') ∧ Hid (LieL (fun k => k < w.heap.size) w' n a' L ∧ Below w.heap.size w w')

set_option maxRecDepth 20000 in
set_option maxHeartbeats 2000000 in
theorem fresh_none (n : Nat) (w : World) (a : Option Addr) (c : Nat) : Calls Tryd.prog 49 #[.slice a 0 c] w fun e w' => ∃ a' c', e = .returned (.slice a' 0 c') ∧ Hid (LieL (fun k => k < w.heap.size) w' n a' [] ∧ Below w.heap.size w w') := by
  have HC := iclone_any w a c [] (by simp) (fun h => absurd h (by simp))
  simp only [List.length_nil] at HC
  go_enter Tryd.func49, Tryd.ntmps49
  go_wp2_with (go_at_call 64; refine HC.mono ?_; rintro e w1 ⟨v, rfl, hq⟩; obtain ⟨a', c', rfl, _, _⟩ := own_form hq.out.1)
  refine wp_loop_rounds 1 ?_
  rw [rounds_succ]
  go_wp2
  go_ret
  exact ⟨a', c', rfl, LieL.nil _ _ _ _, hq.out.2⟩

set_option maxRecDepth 20000 in
set_option maxHeartbeats 4000000 in
theorem fresh_step (m : Nat) (hs : FreshOk m) : FreshOk (m + 1) := by
  intro A w a c L hL
  rcases Nat.eq_zero_or_pos L.length with h0 | h0
  · obtain rfl : L = [] := List.eq_nil_of_length_eq_zero h0
    exact fresh_none (m + 1) w a c
  obtain ⟨X, e1, e2, e3⟩ := LieL.rows hL
  have hlx : X.length = L.length := by rw [← e1]; simp
  have hz := hL.1
  have HC := iclone_any w a c X (by omega) (fun h => e3 h0)
  rw [hlx] at HC
  have HSO : Hid (FreshOk m) := hs
  have HX : Hid (X.map IX.x = L ∧ ∀ y ∈ X, Lie A w (m + 1) y.a1 y.x y.a2 ∧ (bs y.x).length ≤ y.c1) := ⟨e1, e2⟩
  have HLX : Hid (X.length = L.length) := hlx
  clear hs e1 e2 e3 hlx hL
  go_enter Tryd.func49, Tryd.ntmps49
  go_wp2_with (go_at_call 64; refine HC.mono ?_; rintro e w1 ⟨v, rfl, hq⟩; obtain ⟨g, cap, rfl, hcap, _⟩ := hq.out.1.form h0)
  have HF1 : Hid (Fr A w w1 (m + 1) g cap 0 X) := by
    have h1 := hq.out.1
    rw [← HLX.out] at h1
    exact ⟨h1, fun i _ h => by omega, fun i hi _ => (HX.out.2 _ (List.getElem_mem hi)).1, hq.out.2⟩
  go_loopw [10] (fun i wr => ∃ (k : Nat) (Y : List IX), k ≤ L.length ∧ i = .int .i64 k ∧ Hid (Y.length = L.length ∧ Y.map IX.x = L ∧ Fr A w wr (m + 1) g cap k Y)) (fun i _ => L.length - (intOf i).toNat)
  case atStart => exact ⟨0, X, Nat.zero_le _, rfl, HLX.out, HX.out.1, HF1.out⟩
  case round =>
    obtain ⟨k, Y, hk, rfl, HY⟩ := hrel
    by_cases hkl : k < L.length
    · have hkY : k < Y.length := by rw [HY.out.1]; exact hkl
      have own := HY.out.2.2.own
      rw [HY.out.1] at own
      obtain ⟨d0, d1, d2, d3⟩ := icells_at Y k hkY
      have f0 := own.cellAt (k * 4) (by omega)
      have f1 := own.cellAt (k * 4 + 1) (by omega)
      have f2 := own.cellAt (k * 4 + 2) (by omega)
      have f3 := own.cellAt (k * 4 + 3) (by omega)
      rw [d0] at f0
      rw [d1] at f1
      rw [d2] at f2
      rw [d3] at f3
      obtain ⟨hwg, hgl⟩ := own.lt g rfl
      have hsrc := HY.out.2.2.todo k hkY (Nat.le_refl _)
      have HSRC : Hid (Lie A w (m + 1) Y[k].a1 Y[k].x Y[k].a2) := hsrc
      have HBW : Hid (Below w.heap.size w wr) := HY.out.2.2.below
      have HSTEP : Hid (∀ w2 w3 Z, _) := fun w2 w3 Z => @Fr.step A w wr w2 w3 m g cap k Y HY.out.2.2 hkY Z
      have HOW : Hid (∀ W, Below wr.heap.size wr W → W.cell? ⟨g, k * 4 + 2, none⟩ = some (.slice Y[k].a1 (bs Y[k].x).length Y[k].c1) ∧ W.cell? ⟨g, k * 4 + 3, none⟩ = some (.slice Y[k].a2 (its Y[k].x).length Y[k].c2) ∧ ∀ j, W.frozen? ⟨g, j, none⟩ = false) := fun W hb => ⟨cell_later hb f2, cell_later hb f3, fun j => by rw [show W.frozen? ⟨g, j, none⟩ = wr.frozen? ⟨g, j, none⟩ from hb.frozen (p := ⟨g, j, none⟩) hgl]; exact own.frozenAt j⟩
      clear own d0 d1 d2 d3 hsrc
      have HSET : Hid (∀ a' c' a3 c3, (Y.set k ⟨Y[k].x, a', c', a3, c3⟩).length = L.length ∧ (Y.set k ⟨Y[k].x, a', c', a3, c3⟩).map IX.x = L) := fun a' c' a3 c3 => ⟨by rw [List.length_set]; exact HY.out.1, by
        rw [List.map_set]
        have he : Y[k].x = (Y.map IX.x)[k]'(by simpa using hkY) := by simp
        show (Y.map IX.x).set k Y[k].x = L
        rw [he, List.set_getElem_self]
        exact HY.out.2.1⟩
      generalize Y[k] = y at *
      have hle := HBW.out.size
      go_wp2_with (first | (go_at_call 50; go_must (refine (bclone_any _ _ _ (bs y.x) (HSRC.out.2.1.later (HBW.out.trans ((Below.refl _ wr).alloc (Nat.le_refl _) _ |>.mono HBW.out.size))) HSRC.out.1.2.2.2).mono ?_; rintro e w2 ⟨a', c', rfl, hq2⟩; obtain ⟨g2, g3, gf⟩ := HOW.out w2 (below_of ((Below.refl _ wr).alloc (Nat.le_refl _) _) hq2.out.2); have lx := hq2.out.2.block wr.heap.size (by simp); rw [heap_alloc_new] at lx; have l3 := cell_of lx 3; simp at l3; clear lx; have HW2 : Hid (∀ u, Below w.heap.size w (w2.setCell ⟨g, k * 4 + 2, none⟩ u)) := (fun u => (HBW.out.trans ((below_of ((Below.refl _ wr).alloc (Nat.le_refl _) _) hq2.out.2).mono hle)).setCell (p := ⟨g, k * 4 + 2, none⟩) hwg u); have q3 : ∀ u, (w2.setCell ⟨g, k * 4 + 2, none⟩ u).cell? ⟨g, k * 4 + 3, none⟩ = some (.slice y.a2 (its y.x).length y.c2) := (fun u => by simp [go_sem, g3]); have qf : ∀ u j, (w2.setCell ⟨g, k * 4 + 2, none⟩ u).frozen? ⟨g, j, none⟩ = false := (fun u j => by simp [go_sem, gf]); have hgs : g < w2.heap.size := cell_lt g2)) | (go_at_call 49; refine (HSO.out A _ y.a2 y.c2 (its y.x) (LieL.later HSRC.out.2.2.2 (HW2.out _))).mono ?_; rintro e w3 ⟨a3, c3, rfl, hq3⟩; have r3 := cell_later hq3.out.2 (q3 _); have rf : ∀ j, w3.frozen? ⟨g, j, none⟩ = false := (fun j => by rw [hq3.out.2.frozen (p := ⟨g, j, none⟩) (by simp; exact hgs)]; exact qf _ j)))
      go_roundw
      case rel =>
        obtain ⟨h1, h2⟩ := HSET.out a' c' a3 c3
        exact ⟨k + 1, _, by omega, by go_num, h1, h2, HSTEP.out w2 w3 _ hq2.out.2 hq2.out.1 hq3.out.2 hq3.out.1⟩
      case measure => simp [intOf]; omega
    · obtain rfl : k = L.length := by omega
      go_wp2
      go_ret
      have h1 := HY.out.2.2.own
      obtain ⟨hwg, _⟩ := h1.lt g rfl
      have h2 := (own_items (A := fun k => k < w.heap.size) (m := m + 1) h1 (fun y hy => by
        obtain ⟨i, hi, rfl⟩ := List.getElem_of_mem hy
        have := HY.out.2.2.done i hi (by rw [← HY.out.1]; exact hi)
        exact ⟨Lie.apart (fun q _ e => .inl e) (m + 1) this.1, this.2⟩) (by rw [HY.out.1]; omega) (fun q hq e => by cases hq; exact absurd hwg (Nat.not_le.2 e))).1
      rw [HY.out.2.1] at h2
      exact ⟨_, _, rfl, h2, HY.out.2.2.below⟩

theorem fresh_all : ∀ n, FreshOk n
  | 0 => fun A w a c L hL => by
    rcases Nat.eq_zero_or_pos L.length with h0 | h0
    · obtain rfl : L = [] := List.eq_nil_of_length_eq_zero h0
      exact fresh_none 0 w a c
    · obtain ⟨_, _, _, _, hc⟩ := hL.2 h0
      obtain ⟨_, _, _, _, _, h, _⟩ := hc 0 h0
      exact h.elim
  | n + 1 => fresh_step n (fresh_all n)

theorem number_made (w : World) (n : Nat) (hn : n < 18446744073709551616) : Calls Tryd.prog 31 #[.int .u64 n] w fun e w' => e = .returned (iv (mkI 1 n [] []) none 0 none 0) ∧ Hid (Below w.heap.size w w') := by
  go_enter Tryd.func31, Tryd.ntmps31
  go_wp2
  exact bodyPost_ret (v := iv (mkI 1 n [] []) none 0 none 0) (by simp [results, Tryd.results31, go_sem, kd_mk, nm_mk, bs_mk, its_mk]) rfl ⟨rfl, (Below.refl _ w).alloc (Nat.le_refl _) _⟩
set_option maxRecDepth 20000 in
set_option maxHeartbeats 1000000 in
theorem bytes_made (w : World) (a : Option Addr) (c : Nat) (l : List Nat) (hr : Row w a l) (hz : l.length ≤ 140737488351232) : Calls Tryd.prog 29 #[.slice a l.length c] w fun e w' => ∃ a' c', e = .returned (iv (mkI 2 0 l []) a' c' none 0) ∧ Hid (Lie (fun k => k < w.heap.size) w' 1 a' (mkI 2 0 l []) none ∧ l.length ≤ c' ∧ Below w.heap.size w w') := by
  have HB : Hid (∀ X : Obj, Below w.heap.size w (w.alloc X)) := fun X => (Below.refl _ w).alloc (Nat.le_refl _) X
  have HC : Hid (∀ X : Obj, Calls Tryd.prog 50 #[.slice a l.length c] (w.alloc X) fun e w' => ∃ a' c', e = .returned (.slice a' l.length c') ∧ Hid (Fresh (w.alloc X) w' a' c' l ∧ Below (w.alloc X).heap.size (w.alloc X) w')) := fun X => bclone_any _ a c l (hr.later (HB.out X)) hz
  clear hr
  go_enter Tryd.func29, Tryd.ntmps29
  go_wp2_with (go_at_call 50; refine (HC.out _).mono ?_; rintro e w1 ⟨a', c', rfl, hq⟩; have hz0 := old_block hq.out.2 (heap_alloc_new w _); have z0 := cell_of hz0 0; have z1 := cell_of hz0 1; have z2 := cell_of hz0 2; have z3 := cell_of hz0 3; simp at z0 z1 z2 z3; have fz := frozen_of hz0; clear hz0)
  refine bodyPost_ret (v := iv (mkI 2 0 l []) a' c' none 0) (by simp [results, Tryd.results29, go_sem, z0, z1, z2, z3, kd_mk, nm_mk, bs_mk, its_mk]) rfl ?_
  have ho : Off (fun k => k = w.heap.size) w1 ((((w1.setCell ⟨w.heap.size, 0, none⟩ (.int .i64 2)).setCell ⟨w.heap.size, 1, none⟩ (.int .u64 0)).setCell ⟨w.heap.size, 2, none⟩ (.slice a' l.length c')).setCell ⟨w.heap.size, 3, none⟩ (.slice none 0 0)) := ((((Off.refl (fun k => k = w.heap.size) w1).setCell (p := ⟨w.heap.size, 0, none⟩) (.inr rfl) _).setCell (p := ⟨w.heap.size, 1, none⟩) (.inr rfl) _).setCell (p := ⟨w.heap.size, 2, none⟩) (.inr rfl) _).setCell (p := ⟨w.heap.size, 3, none⟩) (.inr rfl) _
  refine ⟨a', c', rfl, ⟨⟨by simp [nm_mk], by simp [kd_mk], by simp [kd_mk], hz⟩, hq.out.1.row.off ho ?_, ?_, LieL.nil _ _ _ _⟩, hq.out.1.le, (below_of (HB.out _) hq.out.2).trans (ho.below (below_of (HB.out _) hq.out.2).size (fun i e => by omega))⟩
  · intro _ b hb e; have := hq.out.1.new b hb; simp at this; omega
  · intro _ b hb e; have := hq.out.1.new b hb; simp at this; omega

set_option maxRecDepth 20000 in
set_option maxHeartbeats 1000000 in
theorem list_made (n : Nat) (A : Nat → Prop) (w : World) (a : Option Addr) (c : Nat) (L : List T) (hL : LieL A w n a L) : Calls Tryd.prog 28 #[.slice a L.length c] w fun e w' => ∃ a' c', e = .returned (iv (mkI 4 0 [] L) none 0 a' c') ∧ Hid (Lie (fun k => k < w.heap.size) w' (n + 1) none (mkI 4 0 [] L) a' ∧ Below w.heap.size w w') := by
  have HB : Hid (∀ X : Obj, Below w.heap.size w (w.alloc X)) := fun X => (Below.refl _ w).alloc (Nat.le_refl _) X
  have HC : Hid (∀ X : Obj, Calls Tryd.prog 49 #[.slice a L.length c] (w.alloc X) fun e w' => ∃ a' c', e = .returned (.slice a' L.length c') ∧ Hid (LieL (fun k => k < (w.alloc X).heap.size) w' n a' L ∧ Below (w.alloc X).heap.size (w.alloc X) w')) := fun X => fresh_all n A _ a c L (hL.later (HB.out X))
  clear hL
  go_enter Tryd.func28, Tryd.ntmps28
  go_wp2_with (go_at_call 49; refine (HC.out _).mono ?_; rintro e w1 ⟨a', c', rfl, hq⟩; have hz0 := old_block hq.out.2 (heap_alloc_new w _); have z0 := cell_of hz0 0; have z1 := cell_of hz0 1; have z2 := cell_of hz0 2; have z3 := cell_of hz0 3; simp at z0 z1 z2 z3; have fz := frozen_of hz0; clear hz0)
  refine bodyPost_ret (v := iv (mkI 4 0 [] L) none 0 a' c') (by simp [results, Tryd.results28, go_sem, z0, z1, z2, z3, kd_mk, nm_mk, bs_mk, its_mk]) rfl ?_
  have ho : Off (fun k => k = w.heap.size) w1 ((((w1.setCell ⟨w.heap.size, 0, none⟩ (.int .i64 4)).setCell ⟨w.heap.size, 1, none⟩ (.int .u64 0)).setCell ⟨w.heap.size, 2, none⟩ (.slice none 0 0)).setCell ⟨w.heap.size, 3, none⟩ (.slice a' L.length c')) := ((((Off.refl (fun k => k = w.heap.size) w1).setCell (p := ⟨w.heap.size, 0, none⟩) (.inr rfl) _).setCell (p := ⟨w.heap.size, 1, none⟩) (.inr rfl) _).setCell (p := ⟨w.heap.size, 2, none⟩) (.inr rfl) _).setCell (p := ⟨w.heap.size, 3, none⟩) (.inr rfl) _
  refine ⟨a', c', rfl, ⟨⟨by simp [nm_mk], by simp [kd_mk], by simp [kd_mk], by simp [bs_mk]⟩, ⟨by simp [bs_mk], by simp [bs_mk], fun h => absurd h (by simp [bs_mk])⟩, fun h => absurd h (by simp [bs_mk]), ?_⟩, (below_of (HB.out _) hq.out.2).trans (ho.below (below_of (HB.out _) hq.out.2).size (fun i e => by omega))⟩
  exact LieL.apart (fun k _ e => by simp; omega) (LieL.off hq.out.1 ho (fun k e => by simp; omega))
end Go.Proofs.YtjfmgokpnpmdpaaDoor
