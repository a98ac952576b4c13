/- The walk of link's Deliver. -/
import Derived.Test.YtopfpdkknfjgoaaLRound
import Derived.Test.YtopfpdkknfjgoaaLLose
namespace Go.Proofs.Ytopfpdkknfjgoaa
open Go.RowKit Go.Shelf
set_option linter.unusedVariables false

theorem off_at {w w' : World} {mb k : Nat} {C : Array Value} {t : TypeId} {fr : Nat × Nat} (ho : Off (fun k => k = mb) w w') (hm : ∃ es c, w.heap[mb]? = some (.map es c)) (hk : w.heap[k]? = some (.cells C t fr)) : w'.heap[k]? = some (.cells C t fr) :=
  ho.at hk (fun e => by subst e; obtain ⟨es, c, h⟩ := hm; rw [hk] at h; cases h)
theorem off_fx {N : Nat → Prop} {w w' : World} {mb : Nat} {a : Option Addr} {X : List FX} (ho : Off (fun k => k = mb) w w') (hm : ∃ es c, w.heap[mb]? = some (.map es c)) (h : FxAt N w a X) : FxAt N w' a X :=
  h.off ho (fun k C t fr hk e => by subst e; obtain ⟨es, c, h⟩ := hm; rw [hk] at h; cases h)
/-- the boxes of Deliver. -/
structure DvB (w W : World) (lb : Nat) (a b k : Int) (v : Value) (r : Int) (ad : Option Addr) (m g : Nat) : Prop where
  c0 : W.heap[w.heap.size]? = some (.cells #[.pointer (some ⟨lb, 0, none⟩)] 24 (0, 0))
  c1 : W.heap[w.heap.size + 1]? = some (.cells #[.int .i64 a] 3 (0, 0))
  c2 : W.heap[w.heap.size + 1 + 1]? = some (.cells #[.int .i64 b] 3 (0, 0))
  c3 : W.heap[w.heap.size + 1 + 1 + 1]? = some (.cells #[.int .i64 k] 3 (0, 0))
  r1 : W.heap[w.heap.size + 1 + 1 + 1 + 1]? = some (.cells #[v] 30 (0, 0))
  r2 : W.heap[w.heap.size + 1 + 1 + 1 + 1 + 1]? = some (.cells #[.int .i64 r] 41 (0, 0))
  l : W.heap[g]? = some (.cells #[.slice ad m m] 26 (0, 0))
  g6 : w.heap.size + 6 ≤ g
theorem DvB.map {w W W' : World} {lb : Nat} {a b k : Int} {v : Value} {r : Int} {ad : Option Addr} {m g : Nat} (h : DvB w W lb a b k v r ad m g) (f : ∀ (j : Nat) (C : Array Value) (t : TypeId) (fr : Nat × Nat), W.heap[j]? = some (Obj.cells C t fr) → W'.heap[j]? = some (Obj.cells C t fr)) : DvB w W' lb a b k v r ad m g :=
  ⟨f _ _ _ _ h.c0, f _ _ _ _ h.c1, f _ _ _ _ h.c2, f _ _ _ _ h.c3, f _ _ _ _ h.r1, f _ _ _ _ h.r2, f _ _ _ _ h.l, h.g6⟩
/-- between two rounds: cnt have come. -/
structure DvI (w w1 W : World) (lb : Nat) (a b k : Int) (ad : Option Addr) (m cnt : Nat) : Prop where
  box : DvB w W lb a b k (.slice none 0 0) 0 ad m w1.heap.size
  cn : W.heap[w1.heap.size + 1]? = some (.cells #[.int .i64 (cnt : Nat)] 3 (0, 0))
  bel : Below w.heap.size w W
  bel1 : Below w1.heap.size w1 W
theorem lk_grown {N : Nat → Prop} {W W' : World} {row : Option Nat} {B lb mb n : Nat} {L : List Fl} (h : Lk N W lb mb n L) (hB : mb < B) (hg : W.grownBy W' row) (hr : ∀ r, row = some r → B ≤ r ∧ ∃ o : Obj, W.heap[r]? = some o ∧ o.isCells = false) : Lk N W' lb mb n L :=
  h.off (S := fun k => row = some k) ((Off.refl _ W).grown hg (fun _ e => .inr e)) (fun e => by have := (hr mb e).1; omega) (fun k C t fr hk e => by obtain ⟨_, o, h1, h2⟩ := hr k e; rw [hk] at h1; cases h1; simp [Obj.isCells] at h2)
theorem fx_grown {N : Nat → Prop} {W W' : World} {row : Option Nat} {B : Nat} {a : Option Addr} {X : List FX} (h : FxAt N W a X) (hg : W.grownBy W' row) (hr : ∀ r, row = some r → B ≤ r ∧ ∃ o : Obj, W.heap[r]? = some o ∧ o.isCells = false) : FxAt N W' a X :=
  h.off (S := fun k => row = some k) ((Off.refl _ W).grown hg (fun _ e => .inr e)) (fun k C t fr hk e => by obtain ⟨_, o, h1, h2⟩ := hr k e; rw [hk] at h1; cases h1; simp [Obj.isCells] at h2)
theorem DvI.grown {w w1 W W' : World} {lb : Nat} {a b k : Int} {ad : Option Addr} {m cnt B : Nat} {row : Option Nat} (h : DvI w w1 W lb a b k ad m cnt) (hw : w.heap.size ≤ B) (hw1 : w1.heap.size ≤ B) (hg : W.grownBy W' row) (hr : ∀ r, row = some r → B ≤ r ∧ ∃ o : Obj, W.heap[r]? = some o ∧ o.isCells = false) : DvI w w1 W' lb a b k ad m cnt :=
  ⟨h.box.map (fun k C t fr hk => kept_cells hk hg hr), kept_cells h.cn hg hr, h.bel.grown hg h.bel.size (fun k e => by have := (hr k e).1; omega), h.bel1.grown hg h.bel1.size (fun k e => by have := (hr k e).1; omega)⟩
/-- what is left when the i-th of the pair's flights has been taken. -/
structure DvX (w W : World) (N : Nat → Prop) (lb mb n : Nat) (L : List Fl) (a b : Int) (i : Nat) (x : Fl) (a' : Option Addr) (c' : Nat) : Prop where
  hx : (L.filter (pf a b))[i]? = some x
  r1 : W.heap[w.heap.size + 1 + 1 + 1 + 1]? = some (.cells #[.slice a' x.bytes.length c'] 30 (0, 0))
  r2 : W.heap[w.heap.size + 1 + 1 + 1 + 1 + 1]? = some (.cells #[.int .i64 0] 41 (0, 0))
  row : Row W a' x.bytes
  new : ∀ b, a' = some b → w.heap.size ≤ b.block
  lk : Lk N W lb mb (n + 1) (dropF (pf a b) i L)
  off : Off (fun k => k = mb) w W
theorem DvX.grown {w W W' : World} {N : Nat → Prop} {lb mb n : Nat} {L : List Fl} {a b : Int} {i : Nat} {x : Fl} {a' : Option Addr} {c' B : Nat} {row : Option Nat} (h : DvX w W N lb mb n L a b i x a' c') (hB : mb < B) (hw : w.heap.size ≤ B) (hg : W.grownBy W' row) (hr : ∀ r, row = some r → B ≤ r ∧ ∃ o : Obj, W.heap[r]? = some o ∧ o.isCells = false) : DvX w W' N lb mb n L a b i x a' c' :=
  ⟨h.hx, kept_cells h.r1 hg hr, kept_cells h.r2 hg hr, h.row.off (S := fun k => row = some k) ((Off.refl _ W).grown hg (fun _ e => .inr e)) (fun h0 b hb e => by obtain ⟨C, t, fr, hk⟩ := h.row.is h0 b hb; obtain ⟨_, o, h1, h2⟩ := hr _ e; rw [hk] at h1; cases h1; simp [Obj.isCells] at h2), h.new, lk_grown h.lk hB hg hr, h.off.grown hg (fun k e => .inl (by have := (hr k e).1; omega))⟩
theorem del_result {W : World} {g1 g2 : Nat} {v : Value} {r : Int} {a : Option Addr} {n c : Nat} {tmps : Array Value} (hv : v = .slice a n c) (h1 : W.heap[g1]? = some (.cells #[v] 30 (0, 0))) (h2 : W.heap[g2]? = some (.cells #[.int .i64 r] 41 (0, 0))) (t1 : tmps.getD 10 undef = .pointer (some ⟨g1, 0, none⟩)) (t2 : tmps.getD 11 undef = .pointer (some ⟨g2, 0, none⟩)) : (results Try.f20 tmps).run Try.prog W = .ok (.tuple #[.slice a n c, .int .i64 r]) W := by
  subst hv
  have hc1 := cell_of h1 0
  have hc2 := cell_of h2 0
  simp only [List.getElem?_toArray, List.getElem?_cons_zero] at hc1 hc2
  have t1' : tmps[10]?.getD undef = .pointer (some ⟨g1, 0, none⟩) := by simpa using t1
  have t2' : tmps[11]?.getD undef = .pointer (some ⟨g2, 0, none⟩) := by simpa using t2
  simp [results, t1', t2', asAddr, loadVar, isAgg, run_underlying Try.underlying41, run_underlying Try.underlying30, load, Sem.run, hc1, hc2]
theorem alloc6w (w : World) (a b c d e f : Obj) : ∃ W0, W0 = ((((((w.alloc a).alloc b).alloc c).alloc d).alloc e).alloc f) ∧ W0.heap.size = w.heap.size + 6 ∧ Below w.heap.size w W0 ∧ W0.heap[w.heap.size]? = some a ∧ W0.heap[w.heap.size + 1]? = some b ∧ W0.heap[w.heap.size + 2]? = some c ∧ W0.heap[w.heap.size + 3]? = some d ∧ W0.heap[w.heap.size + 4]? = some e ∧ W0.heap[w.heap.size + 5]? = some f := by
  refine ⟨_, rfl, by simp, ?_, ?_, ?_, ?_, ?_, ?_, ?_⟩
  · exact ((((((Below.refl _ w).alloc (Nat.le_refl _) _).alloc (by simp) _).alloc (by simp; omega) _).alloc (by simp; omega) _).alloc (by simp; omega) _).alloc (by simp; omega) _
  all_goals (show ((((((w.heap.push a).push b).push c).push d).push e).push f)[_]? = _; simp only [Array.getElem?_push, Array.size_push]; repeat (first | (rw [if_neg (by omega)]) | (rw [if_pos trivial]) | (rw [if_pos rfl])))
theorem alloc4w (w : World) (a b c d : Obj) : ∃ W0, W0 = ((((w.alloc a).alloc b).alloc c).alloc d) ∧ W0.heap.size = w.heap.size + 4 ∧ Below w.heap.size w W0 ∧ W0.heap[w.heap.size]? = some a ∧ W0.heap[w.heap.size + 1]? = some b ∧ W0.heap[w.heap.size + 2]? = some c ∧ W0.heap[w.heap.size + 3]? = some d := by
  refine ⟨_, rfl, by simp, ?_, ?_, ?_, ?_, ?_⟩
  · exact ((((Below.refl _ w).alloc (Nat.le_refl _) _).alloc (by simp) _).alloc (by simp; omega) _).alloc (by simp; omega) _
  all_goals (show ((((w.heap.push a).push b).push c).push d)[_]? = _; simp only [Array.getElem?_push, Array.size_push]; repeat (first | (rw [if_neg (by omega)]) | (rw [if_pos trivial]) | (rw [if_pos rfl])))

theorem keeps_off {B mb : Nat} {W W' : World} (h : Off (fun k => k = mb) W W') (hB : mb < B) : KeepsFrom B W W' := ⟨h.size, fun k o hk hko _ => h.at hko (by omega)⟩
theorem keeps_below {B : Nat} {W W' : World} (h : Below W.heap.size W W') : KeepsFrom B W W' := ⟨h.size, fun k o hk hko _ => old_block h hko⟩
theorem set2 {W : World} {g1 g2 : Nat} {u u' v v' : Value} {t1 t2 : TypeId} (h1 : W.heap[g1]? = some (.cells #[u] t1 (0, 0))) (h2 : W.heap[g2]? = some (.cells #[v] t2 (0, 0))) (hne : g1 ≠ g2) :
    ((W.setCell ⟨g1, 0, none⟩ u').setCell ⟨g2, 0, none⟩ v').heap[g1]? = some (.cells #[u'] t1 (0, 0)) ∧ ((W.setCell ⟨g1, 0, none⟩ u').setCell ⟨g2, 0, none⟩ v').heap[g2]? = some (.cells #[v'] t2 (0, 0)) ∧ Off (fun k => k = g1 ∨ k = g2) W ((W.setCell ⟨g1, 0, none⟩ u').setCell ⟨g2, 0, none⟩ v') ∧ ∀ B, KeepsFrom B W ((W.setCell ⟨g1, 0, none⟩ u').setCell ⟨g2, 0, none⟩ v') := by
  refine ⟨?_, ?_, ((Off.refl _ W).setCell (p := ⟨g1, 0, none⟩) (.inr (.inl rfl)) _).setCell (p := ⟨g2, 0, none⟩) (.inr (.inr rfl)) _, fun B => ((KeepsOthers.setCell _ _ _).from B).trans ((KeepsOthers.setCell _ _ _).from B)⟩
  · rw [Below.heap_setCell _ _ _ _ hne, heap_setCell_same _ _ _ _ _ _ h1]; rfl
  · rw [heap_setCell_same _ _ _ _ _ _ (by rw [Below.heap_setCell _ _ _ _ (Ne.symm hne)]; exact h2)]; rfl
theorem del_end {w W w1 w2 w3 w4 : World} {N M : Nat → Prop} {lb mb n : Nat} {L : List Fl} {a b k : Int} {ad a4 : Option Addr} {m i c4 B : Nat} {x : Fl} (hmb : mb < w.heap.size) (hB : mb < B) (hbel : Below w.heap.size w W) (hb2 : Below W.heap.size W w2) (hx : (L.filter (pf a b))[i]? = some x)
    (HP : Lk M w3 lb mb (n + 1) (dropF (pf a b) i L) ∧ Off (fun k => k = mb) w2 w3) (HB : DvB w w3 lb a b k (.slice none 0 0) 0 ad m w1.heap.size) (HC : Fresh w3 w4 a4 c4 x.bytes ∧ Below w3.heap.size w3 w4) (hNM : ∀ k, N k → M k) (hMw : ∀ k, w.heap.size ≤ k → k < w.heap.size + 6 → M k) :
    KeepsFrom B W ((w4.setCell ⟨w.heap.size + 1 + 1 + 1 + 1, 0, none⟩ (.slice a4 x.bytes.length c4)).setCell ⟨w.heap.size + 1 + 1 + 1 + 1 + 1, 0, none⟩ (.int .i64 0)) ∧ DvX w ((w4.setCell ⟨w.heap.size + 1 + 1 + 1 + 1, 0, none⟩ (.slice a4 x.bytes.length c4)).setCell ⟨w.heap.size + 1 + 1 + 1 + 1 + 1, 0, none⟩ (.int .i64 0)) N lb mb n L a b i x a4 c4 := by
  have q1 := old_block HC.2 HB.r1
  have q2 := old_block HC.2 HB.r2
  obtain ⟨p1, p2, p3, p4⟩ := set2 (u' := .slice a4 x.bytes.length c4) (v' := .int .i64 0) q1 q2 (by omega)
  have hl3 := (Array.getElem?_eq_some_iff.1 HB.r2).1
  have hlk4 := (HP.1.later HC.2)
  have hoff : Off (fun k => k = mb) w w4 := (((Off.of_below (S := fun k => k = mb) hbel).trans (Off.of_below (S := fun k => k = mb) hb2) (fun _ _ e => e)).trans HP.2 (fun _ _ e => e)).trans (Off.of_below (S := fun k => k = mb) HC.2) (fun _ _ e => e)
  refine ⟨(((keeps_below hb2).trans (keeps_off HP.2 hB)).trans (keeps_below HC.2)).trans (p4 B), hx, p1, p2, ?_, fun b hb => ?_, ?_, ?_⟩
  · exact HC.1.row.off p3 (fun _ b hb e => by have := HC.1.new b hb; omega)
  · have := HC.1.new b hb; omega
  · exact (hlk4.off p3 (by omega) (fun k C t fr hk e => hMw k (by omega) (by omega))).sub (fun k _ hk => hNM k hk)
  · exact (hoff.setCell (p := ⟨w.heap.size + 1 + 1 + 1 + 1, 0, none⟩) (.inl (by show _ ≤ w.heap.size + 1 + 1 + 1 + 1; omega)) _).setCell (p := ⟨w.heap.size + 1 + 1 + 1 + 1 + 1, 0, none⟩) (.inl (by show _ ≤ w.heap.size + 1 + 1 + 1 + 1 + 1; omega)) _
theorem del_more {w w1 W : World} {lb : Nat} {a b k : Int} {ad : Option Addr} {m cnt B : Nat} (h : DvI w w1 W lb a b k ad m cnt) :
    KeepsFrom B W (W.setCell ⟨w1.heap.size + 1, 0, none⟩ (.int .i64 ((cnt : Int) + 1))) ∧ KpT (fun k => k = w1.heap.size + 1) W (W.setCell ⟨w1.heap.size + 1, 0, none⟩ (.int .i64 ((cnt : Int) + 1))) ∧ DvI w w1 (W.setCell ⟨w1.heap.size + 1, 0, none⟩ (.int .i64 ((cnt : Int) + 1))) lb a b k ad m (cnt + 1) := by
  have ho : Off (fun k => k = w1.heap.size + 1) W (W.setCell ⟨w1.heap.size + 1, 0, none⟩ (.int .i64 ((cnt : Int) + 1))) := (Off.refl (fun k => k = w1.heap.size + 1) W).setCell (p := ⟨w1.heap.size + 1, 0, none⟩) (.inr rfl) _
  have h6 := h.box.g6
  have ne : ∀ j : Nat, j ≠ w1.heap.size + 1 → ∀ {o : Obj}, W.heap[j]? = some o → (W.setCell ⟨w1.heap.size + 1, 0, none⟩ (.int .i64 ((cnt : Int) + 1))).heap[j]? = some o := fun j hj o hk => ho.at hk hj
  refine ⟨(KeepsOthers.setCell _ _ _).from _, KpT.of_off ho (fun _ _ _ _ _ e => e), ⟨ne _ (by omega) h.box.c0, ne _ (by omega) h.box.c1, ne _ (by omega) h.box.c2, ne _ (by omega) h.box.c3, ne _ (by omega) h.box.r1, ne _ (by omega) h.box.r2, ne _ (by omega) h.box.l, h6⟩, ?_, h.bel.setCell (p := ⟨w1.heap.size + 1, 0, none⟩) (by show _ ≤ w1.heap.size + 1; omega) _, h.bel1.setCell (p := ⟨w1.heap.size + 1, 0, none⟩) (by show _ ≤ w1.heap.size + 1; omega) _⟩
  rw [heap_setCell_same _ _ _ _ _ _ h.cn]
  rfl
theorem put_def {W : World} {D : Nat} {o : Obj} : Off (fun k => k = D) W (W.putObj D o) := ⟨rfl, rfl, rfl, by simp [World.putObj], fun k _ hn => by simp [World.putObj, Array.getElem?_setIfInBounds_ne (Ne.symm hn)]⟩

attribute [local go_sem] Oper.semAt_some
set_option maxRecDepth 20000 in
set_option maxHeartbeats 4000000 in
theorem deliver_raw (w : World) (N : Nat → Prop) (lb mb n : Nat) (L : List Fl) (h : Lk N w lb mb n L) (hn : n < 1000000000) (hN : ∀ k, N k → k < w.heap.size) (a b now k : Int) (ha : In64 a) (hb : In64 b) :
    Calls Try.prog 20 #[.pointer (some ⟨lb, 0, none⟩), .int .i64 a, .int .i64 b, .int .i64 now, .int .i64 k] w fun e w' => ∃ X : List FX, X.map FX.x = L.filter (pf a b) ∧
      ((∃ (i : Nat) (x : Fl) (a' : Option Addr) (c' : Nat), 0 ≤ k ∧ (arrK X now X.length)[k.toNat]? = some i ∧ (L.filter (pf a b))[i]? = some x ∧ e = .returned (.tuple #[.slice a' x.bytes.length c', .int .i64 0]) ∧ Hid (Row w' a' x.bytes ∧ (∀ b, a' = some b → w.heap.size ≤ b.block) ∧ Lk N w' lb mb (n + 1) (dropF (pf a b) i L) ∧ Off (fun k => k = mb) w w')) ∨
        (¬ (0 ≤ k ∧ k < ((arrK X now X.length).length : Int)) ∧ e = .returned (.tuple #[.slice none 0 0, .int .i64 4]) ∧ Hid (Lk N w' lb mb n L ∧ Below w.heap.size w w'))) := by
  obtain ⟨M, hM⟩ : ∃ M : Nat → Prop, M = fun k => N k ∨ (w.heap.size ≤ k ∧ k < w.heap.size + 6) := ⟨_, rfl⟩
  have hNM : ∀ k, N k → M k := fun k hk => by rw [hM]; exact .inl hk
  have hMw : ∀ k, w.heap.size ≤ k → k < w.heap.size + 6 → M k := fun k h1 h2 => by rw [hM]; exact .inr ⟨h1, h2⟩
  have hMs : ∀ k, M k → k < w.heap.size + 6 := fun k hk => by rw [hM] at hk; rcases hk with hk | hk; have := hN k hk; omega; omega
  have h : Lk M w lb mb n L := h.sub (fun k hk hm => by rw [hM] at hm; rcases hm with hm | hm; exact hm; omega)
  clear hM
  have HO : Hid (∀ W, Below w.heap.size w W → Calls Try.prog 41 #[.pointer (some ⟨lb, 0, none⟩), .agg #[.int .i64 a, .int .i64 b]] W fun e w' => ∃ ad X, e = .returned (.slice ad X.length X.length) ∧ Hid (FxAt M w' ad X ∧ X.map FX.x = L.filter (pf a b) ∧ Below W.heap.size W w') ∧ X.length ≤ 512) := fun W hW => by
    refine (of_any W _ lb mb n L (h.later hW) a b ha hb).mono ?_
    rintro e w' ⟨ad, X, rfl, q1, q2, q3⟩
    exact ⟨ad, X, rfl, ⟨q1, q2, q3⟩, by rw [← List.length_map (f := FX.x), q2]; exact Nat.le_trans (List.length_filter_le _ _) h.len⟩
  have HBW : Hid (∀ X0 X1 X2 X3 X4 X5 : Obj, Below w.heap.size w ((((((w.alloc X0).alloc X1).alloc X2).alloc X3).alloc X4).alloc X5)) := fun _ _ _ _ _ _ => (((((((Below.refl _ w).alloc (Nat.le_refl _) _).alloc (by simp) _).alloc (by simp; omega) _).alloc (by simp; omega) _).alloc (by simp; omega) _).alloc (by simp; omega) _)
  refine (callsIn_wide (n := 5)).1 ?_
  refine callsIn_of_wp_marks Try.func20 rfl trivial ?_
  simp only [Try.ntmps20, List.size_toArray, List.length_cons, List.length_nil, Nat.reduceAdd, Nat.reduceSub, Array.replicate_succ, Array.replicate_zero, List.push_toArray, List.append_toArray, List.nil_append, List.cons_append]
  gi_wp2_with (first | (refine ⟨trivial, ?_⟩; gi_at_call 41; refine (callsIn_wide.2 (HO.out _ (HBW.out _ _ _ _ _ _))).mono ?_; rintro e w1 ⟨ad, X, rfl, HX, hx5⟩) | (refine ⟨trivial, ?_⟩; gi_at_call 42; refine (callsIn_wide.2 (arrived_fn _ _ _ _ _)).mono ?_; rintro e w2 ⟨rfl, rfl⟩))
  obtain ⟨m, hm⟩ : ∃ m, X.length = m := ⟨_, rfl⟩
  rw [hm]
  rw [hm] at hx5
  obtain ⟨W6, hW6, z6, zb6, s0, s1, s2, s3, s4, s5⟩ := alloc6w w (.cells #[.pointer (some ⟨lb, 0, none⟩)] 24) (.cells #[.int .i64 a] 3) (.cells #[.int .i64 b] 3) (.cells #[.int .i64 k] 3) (.cells #[.slice none 0 0] 30) (.cells #[.int .i64 0] 41)
  rw [← hW6] at HX
  obtain ⟨W0, hW0, z0, zb0, d1, d2, d3, d4⟩ := alloc4w w1 (.cells #[.slice ad m m] 26) (.cells #[.int .i64 0] 3) (.cells #[.slice ad m m] 26) (.cells #[.int .i64 now] 3)
  have hb10 : Below w.heap.size w w1 := below_of zb6 HX.out.2.2
  have hbw : Below w.heap.size w W0 := below_of hb10 zb0
  have h6 : w.heap.size + 6 ≤ w1.heap.size := by have := HX.out.2.2.size; omega
  have old : ∀ {k : Nat} {o : Obj}, W6.heap[k]? = some o → W0.heap[k]? = some o := fun hk => old_block zb0 (old_block HX.out.2.2 hk)
  have hbox : DvB w W0 lb a b k (.slice none 0 0) 0 ad m w1.heap.size := ⟨old s0, old s1, old s2, old s3, old s4, old s5, d1, h6⟩
  have hI0 : DvI w w1 W0 lb a b k ad m 0 := ⟨hbox, d2, hbw, zb0⟩
  have hmb := h.mb_lt
  have hseq := arrived_stops (5 - 1) (w1.heap.size + 1 + 1) (w1.heap.size + 1 + 1 + 1) m (fun k => k = w1.heap.size + 1) ad X now (by decide) hm hx5 W0 (by rw [cell_of d3]; rfl) (by rw [cell_of d4]; rfl) (by omega) (by omega) ((HX.out.1.sub (M := fun k => k = w1.heap.size + 1) (fun k hk e => by omega)).later zb0)
  rw [← hW0]
  have HL : Hid (X.map FX.x = L.filter (pf a b)) := HX.out.2.1
  have HH : Hid (In64 a ∧ In64 b ∧ Lk M w lb mb n L ∧ FxAt M w1 ad X ∧ X.length = m ∧ X.map FX.x = L.filter (pf a b)) := ⟨ha, hb, h, HX.out.1, hm, HX.out.2.1⟩
  clear hW0 hW6 s0 s1 s2 s3 s4 s5 d1 d2 d3 d4 HO HBW HX hbox old h ha hb hN
  refine wpIn_rangeFunc_ownG rfl (by decide) (gf := 50) rfl trivial (enters_of Try.func50 (by kernel_rfl) rfl) hseq KpT.trans (fun W l o o' hl ho hc _ => KpT.put ho hc) (Below.refl _ _) (fun _ => rfl)
    (fun pre W => DvI w w1 W lb a b k ad m pre.length ∧ ∀ j : Nat, j < pre.length → (j : Int) ≠ k) (fun c pre W => c = .ret ∧ ∃ q y, pre = q ++ [y] ∧ (q.length : Int) = k ∧ ∃ x a' c', DvX w W N lb mb n L a b y.1 x a' c')
    (fun pre W W' row h hg hr => ⟨h.1.grown (by omega) (by omega) hg hr, h.2⟩)
    (fun c pre W W' row h hg hr => by obtain ⟨h1, q, y, h2, h3, x, a', c', h4⟩ := h; exact ⟨h1, q, y, h2, h3, x, a', c', h4.grown (by omega) (by omega) hg hr⟩) ⟨hI0, fun j hj => by simp at hj⟩
    (fun x => { tmps := #[.pointer (some ⟨lb, 0, none⟩), .int .i64 a, .int .i64 b, .int .i64 now, .int .i64 k, .pointer (some ⟨w.heap.size, 0, none⟩), .pointer (some ⟨w.heap.size + 1, 0, none⟩), .pointer (some ⟨w.heap.size + 1 + 1, 0, none⟩), undef, .pointer (some ⟨w.heap.size + 1 + 1 + 1, 0, none⟩), .pointer (some ⟨w.heap.size + 1 + 1 + 1 + 1, 0, none⟩), .pointer (some ⟨w.heap.size + 1 + 1 + 1 + 1 + 1, 0, none⟩), .pointer (some ⟨w1.heap.size, 0, none⟩), .pointer (some ⟨w1.heap.size + 1, 0, none⟩), .int .i64 (x.1 : Nat), .pointer (some ⟨lb, 0, none⟩), .bool false, .pointer (some ⟨lb, 0, none⟩), .int .i64 a, .int .i64 b, .agg #[.int .i64 a, .int .i64 b], .slice ad m m, .slice ad m m, .int .i64 now, .func (.func 50) #[] #[.pointer (some ⟨w1.heap.size + 1 + 1, 0, none⟩), .pointer (some ⟨w1.heap.size + 1 + 1 + 1, 0, none⟩)], .int .i64 (x.1 : Nat), undef, undef, undef, undef, undef, undef, undef, undef, undef, undef, undef, undef, undef, undef, undef, undef, undef, undef, undef], defers := [] })
    ?assign ?body ?done ?stop
  case assign =>
    intro l x W K hK
    dsimp only [encI]
    gi_wp2
    exact hK
  case body =>
    rintro l pre x W ⟨hI, hj⟩ hpl
    have e0 := cell_of hI.cn 0
    have e1 := frozen_of hI.cn 0
    have e2 := cell_of hI.box.c3 0
    simp only [List.getElem?_toArray, List.getElem?_cons_zero] at e0 e2
    have HI : Hid _ := hI
    have HJ : Hid _ := hj
    clear hj hseq hI0
    by_cases hk : (pre.length : Int) = k
    · have e3 := cell_of hI.box.c0 0
      have e4 := cell_of hI.box.c1 0
      have e5 := cell_of hI.box.c2 0
      have e6 := cell_of hI.box.l 0
      simp only [List.getElem?_toArray, List.getElem?_cons_zero] at e3 e4 e5 e6
      clear hI
      subst hk
      obtain ⟨b0, o0, rfl, _, _, _, _⟩ := HH.out.2.2.2.1.cells4 x.1 (by rw [HH.out.2.2.2.2.1]; exact x.2)
      gi_wp2
      refine region_round (fun W' => W'.cell? ⟨w.heap.size, 0, none⟩ = some (.pointer (some ⟨lb, 0, none⟩)) ∧ W'.cell? ⟨w.heap.size + 1, 0, none⟩ = some (.int .i64 a) ∧ W'.cell? ⟨w.heap.size + 1 + 1, 0, none⟩ = some (.int .i64 b) ∧ W'.cell? ⟨w1.heap.size, 0, none⟩ = some (Value.slice (some ⟨b0, o0, none⟩) m m)) (by kernel_rfl) (by rfl) (by rintro ⟨_, _, h⟩; exact h) ⟨e3, e4, e5, e6⟩ (fun hHeld => ?_)
      refine takeH 0 (.pointer (some ⟨lb, 0, none⟩)) rfl (by kernel_rfl) (by kernel_rfl) (by kernel_rfl) (fun _ _ _ h => h) (Or.inl ⟨by rfl, ?_⟩) (by assumption) ?_
      · (intro w hSw; obtain ⟨hS1, hS2, hS3, hS4⟩ := hSw; go_simp)
      try simp only [Act.put, List.setIfInBounds_toArray, List.set_cons_zero, List.set_cons_succ]
      refine takeH 1 (.int .i64 a) rfl (by kernel_rfl) (by kernel_rfl) (by kernel_rfl) (fun _ _ _ h => h) (Or.inl ⟨by rfl, ?_⟩) (by assumption) ?_
      · (intro w hSw; obtain ⟨hS1, hS2, hS3, hS4⟩ := hSw; go_simp)
      try simp only [Act.put, List.setIfInBounds_toArray, List.set_cons_zero, List.set_cons_succ]
      refine takeH 2 (.int .i64 b) rfl (by kernel_rfl) (by kernel_rfl) (by kernel_rfl) (fun _ _ _ h => h) (Or.inl ⟨by rfl, ?_⟩) (by assumption) ?_
      · (intro w hSw; obtain ⟨hS1, hS2, hS3, hS4⟩ := hSw; go_simp)
      try simp only [Act.put, List.setIfInBounds_toArray, List.set_cons_zero, List.set_cons_succ]
      refine takeH 3 (.agg #[.int .i64 a, .int .i64 b]) rfl (by kernel_rfl) (by kernel_rfl) (by kernel_rfl) (fun _ _ _ h => h) (Or.inl ⟨by rfl, ?_⟩) (by assumption) ?_
      · (intro w hSw; obtain ⟨hS1, hS2, hS3, hS4⟩ := hSw; go_simp)
      try simp only [Act.put, List.setIfInBounds_toArray, List.set_cons_zero, List.set_cons_succ]
      refine takeH 4 (Value.slice (some ⟨b0, o0, none⟩) m m) rfl (by kernel_rfl) (by kernel_rfl) (by kernel_rfl) (fun _ _ _ h => h) (Or.inl ⟨by rfl, ?_⟩) (by assumption) ?_
      · (intro w hSw; obtain ⟨hS1, hS2, hS3, hS4⟩ := hSw; go_simp)
      try simp only [Act.put, List.setIfInBounds_toArray, List.set_cons_zero, List.set_cons_succ]
      refine takeH 5 (.int .i64 (x.1 : Nat)) rfl (by kernel_rfl) (by kernel_rfl) (by kernel_rfl) (fun _ _ _ h => h) (Or.inl ⟨by rfl, ?_⟩) (by assumption) ?_
      · (intro w hSw; obtain ⟨hS1, hS2, hS3, hS4⟩ := hSw; go_simp)
      try simp only [Act.put, List.setIfInBounds_toArray, List.set_cons_zero, List.set_cons_succ]
      refine wpAnyH_ready (rs := [6]) (by kernel_rfl) (by simp) ?_
      refine stepH 6 rfl (fun K hK => ?_) AllReadyH.nil
      go_simp
      go_at_call 40
      refine (without_any _ M _ X m x.1 (HH.out.2.2.2.1.later HI.out.bel1.drew) HH.out.2.2.2.2.1 x.2 hx5 (fun k hk => by have := hMs k hk; have := HI.out.bel1.size; show k < W.heap.size; omega)).mono ?_
      rintro e w2 ⟨a2, c2, rfl, HF⟩
      have hb2 : Below W.heap.size W w2 := (Below.refl _ W).drew.trans HF.out.2.2.2
      refine hK.out _ _ ⟨cell_later hb2 e3, cell_later hb2 e4, cell_later hb2 e5, cell_later hb2 e6⟩ (fun hHeld => ?_)
      clear hK K
      try simp only [Act.put, List.setIfInBounds_toArray, List.set_cons_zero, List.set_cons_succ]
      refine wpAnyH_ready (rs := [7]) (by kernel_rfl) (by simp) ?_
      refine stepH 7 rfl (fun K hK => ?_) AllReadyH.nil
      go_simp
      go_at_call 39
      refine (put_at _ M lb mb n L (dropF (pf a b) x.1 L) _ _ _ (X.eraseIdx x.1) _ _ (by rw [List.length_eraseIdx, if_pos (by rw [HH.out.2.2.2.2.1]; exact x.2), HH.out.2.2.2.2.1]) (HH.out.2.2.1.later (below_of HI.out.bel hb2)) hn HH.out.1 HH.out.2.1 HF.out.1 HF.out.2.1 HF.out.2.2.1 (by rw [dropF_filter, ← HL.out, map_erase]) (fun c d hcd => dropF_other _ _ (pf_apart hcd) _ _) (fun z hz => HH.out.2.2.1.ok z (dropF_mem _ _ _ z hz)) (Nat.le_trans (dropF_len _ _ _) HH.out.2.2.1.len)).mono ?_
      rintro e w3 ⟨rfl, HP⟩
      have hm2 : ∃ es c, w2.heap[mb]? = some (.map es c) := (HH.out.2.2.1.later (below_of HI.out.bel hb2)).mb
      have HB3 : Hid (DvB w w3 lb a b ((pre.length : Nat) : Int) (.slice none 0 0) 0 (some ⟨b0, o0, none⟩) m w1.heap.size) := HI.out.box.map (fun j C t fr hj => off_at HP.out.2 hm2 (old_block hb2 hj))
      have HF3 : Hid (FxAt M w3 (some ⟨b0, o0, none⟩) X) := off_fx HP.out.2 hm2 ((HH.out.2.2.2.1.later HI.out.bel1).later hb2)
      have k0 := cell_of HB3.out.c0 0
      have k1 := cell_of HB3.out.c1 0
      have k2 := cell_of HB3.out.c2 0
      have k6 := cell_of HB3.out.l 0
      simp only [List.getElem?_toArray, List.getElem?_cons_zero] at k0 k1 k2 k6
      refine hK.out _ _ ⟨k0, k1, k2, k6⟩ (fun hHeld => ?_)
      clear hK K
      try simp only [Act.put, List.setIfInBounds_toArray, List.set_cons_zero, List.set_cons_succ]
      refine wpAnyH_done (by kernel_rfl) ?_ _
      obtain ⟨y, hy⟩ : ∃ y, X[x.1]? = some y := ⟨_, List.getElem?_eq_getElem (by rw [HH.out.2.2.2.2.1]; exact x.2)⟩
      obtain ⟨b9, o9, hbo, _, _, _, y3⟩ := HF3.out.cells4 x.1 (by rw [HH.out.2.2.2.2.1]; exact x.2)
      cases hbo
      rw [(List.getElem?_eq_some_iff.1 hy).2] at y3
      have HY : Hid (X[x.1]? = some y ∧ Row w3 y.a y.x.bytes ∧ OkF y.x ∧ (L.filter (pf a b))[x.1]? = some y.x) := by
        have hfx : (L.filter (pf a b))[x.1]? = some y.x := by rw [← HL.out, List.getElem?_map, hy]; rfl
        exact ⟨hy, (HF3.out.rows y (List.mem_of_getElem? hy)).1, HH.out.2.2.1.ok _ (List.mem_filter.1 (List.mem_of_getElem? hfx)).1, hfx⟩
      have hlt9 : x.1 < m := x.2
      clear hy e0 e1 e2 e3 e4 e5 e6 hHeld
      gi_wp2_with (refine ⟨trivial, ?_⟩; gi_at_call 36; refine (CallsIn.inRound l (callsIn_wide.2 (bclone_own w3 y.a y.c y.x.bytes HY.out.2.1 (by have := HY.out.2.2.1.b2; omega)))).mono ?_; rintro e w4 ⟨a4, c4, rfl, HC⟩; have q1 := old_block HC.out.2.2 HB3.out.r1; have q2 := old_block HC.out.2.2 HB3.out.r2; have v1 := cell_of q1 0; have v2 := cell_of q2 0; have v3 := frozen_of q1 0; have v4 := frozen_of q2 0; simp only [List.getElem?_toArray, List.getElem?_cons_zero] at v1 v2; clear q1 q2)
      have hE := del_end (B := W0.heap.size) (N := N) hmb (by omega) HI.out.bel hb2 HY.out.2.2.2 HP.out HB3.out ⟨HC.out.2.1, HC.out.2.2⟩ hNM hMw
      exact ⟨hE.1, rfl, pre, x, rfl, rfl, _, _, _, hE.2⟩
    · clear hI
      have hk' : ((pre.length : Int) == k) = false := by simpa using hk
      gi_wp2
      obtain ⟨m1, m2, m3⟩ := del_more (B := W0.heap.size) HI.out
      refine ⟨m1, m2, ?_, fun j hj => ?_⟩
      · rw [List.length_append]; exact m3
      · rw [List.length_append] at hj
        by_cases hjp : j = pre.length
        · rw [hjp]; exact hk
        · exact HJ.out j (by simp at hj; omega)
  case done =>
    rintro D ys W hD hys ⟨hI, hj⟩ hK
    have e1 := cell_of hI.box.r1 0
    have f1 := frozen_of hI.box.r1 0
    have e2 := cell_of hI.box.r2 0
    have f2 := frozen_of hI.box.r2 0
    simp only [List.getElem?_toArray, List.getElem?_cons_zero] at e1 e2
    have HK : Hid _ := And.intro hK (And.intro hys (And.intro hI hj))
    clear hK hseq hys hI hj hI0
    gi_wp2
    obtain ⟨p1, p2, p3, p4⟩ := set2 (u' := .slice none 0 0) (v' := .int .i64 4) HK.out.2.2.1.box.r1 HK.out.2.2.1.box.r2 (by omega)
    have hKD := (p4 W0.heap.size).same D _ hD HK.out.1 rfl
    have hfin : Below w.heap.size w (((W.setCell ⟨w.heap.size + 1 + 1 + 1 + 1, 0, none⟩ (.slice none 0 0)).setCell ⟨w.heap.size + 1 + 1 + 1 + 1 + 1, 0, none⟩ (.int .i64 4)).putObj D (.deferred none)) := (((HK.out.2.2.1.bel.setCell (p := ⟨w.heap.size + 1 + 1 + 1 + 1, 0, none⟩) (by show _ ≤ w.heap.size + 1 + 1 + 1 + 1; omega) _).setCell (p := ⟨w.heap.size + 1 + 1 + 1 + 1 + 1, 0, none⟩) (by show _ ≤ w.heap.size + 1 + 1 + 1 + 1 + 1; omega) _)).trans (belowK_b (w := w) (Nat.le_refl _) _ D _ _ (by have := hbw.size; omega) hKD rfl rfl)
    have hgt := (Array.getElem?_eq_some_iff.1 HK.out.2.2.1.box.r2).1
    refine ⟨by simp, .inl ⟨_, _, rfl, run_takeDeferred hKD, ?_⟩⟩
    refine ⟨_, del_result rfl (put_def.at p1 (by have := HK.out.2.2.1.box.g6; omega)) (put_def.at p2 (by have := HK.out.2.2.1.box.g6; omega)) rfl rfl, X, HL.out, .inr ⟨?_, rfl, ((HH.out.2.2.1.later hfin).sub (fun k _ hk => hNM k hk)), hfin⟩⟩
    rintro ⟨k1, k2⟩
    have hlen := congrArg List.length HK.out.2.1
    rw [List.length_map] at hlen
    rw [HH.out.2.2.2.2.1] at k2
    exact HK.out.2.2.2 k.toNat (by omega) (by omega)
  case stop =>
    rintro D c pre W hD hpre ⟨rfl, q, y, rfl, hq, x, a', c', hX⟩ hK
    have hX2 := hX.grown (B := W0.heap.size) (by omega) (by omega) (grownBy_putObj' W D (.deferred none)) (fun r e => by cases e; exact ⟨hD, _, hK, rfl⟩)
    have HK : Hid _ := And.intro hK (And.intro hpre hX2)
    clear hseq hX2 hX hpre hK hI0
    gi_wp2
    refine ⟨by simp, .inl ⟨_, _, rfl, run_takeDeferred HK.out.1, ?_⟩⟩
    refine ⟨_, del_result rfl HK.out.2.2.r1 HK.out.2.2.r2 rfl rfl, X, HL.out, .inl ⟨y.1, x, a', c', by omega, ?_, HK.out.2.2.hx, rfl, HK.out.2.2.row, HK.out.2.2.new, HK.out.2.2.lk, HK.out.2.2.off⟩⟩
    obtain ⟨t, ht⟩ := HK.out.2.1
    rw [HH.out.2.2.2.2.1, ← ht, List.map_append, ← hq, Int.toNat_natCast, List.getElem?_append_left (by simp), List.getElem?_append_right (by simp)]
    simp
end Go.Proofs.Ytopfpdkknfjgoaa
