/- sendRows (tools/genusnd.py writes this). -/
import Derived.Test.YtnjcaolkcmpdcaaUSndI
namespace Go.Proofs.Ytnjcaolkcmpdcaa
open Go.RowKit Go.Shelf
set_option linter.unusedVariables false
/-- the pieces of the rows. -/
def pcsOf (R : List (Nat × Nat)) : List (Nat × Nat) := R.flatMap fun r => pcF r.1 r.2
theorem pcsOf_snoc (R : List (Nat × Nat)) (r : Nat × Nat) : pcsOf (R ++ [r]) = pcsOf R ++ pcF r.1 r.2 := by unfold pcsOf; rw [List.flatMap_append]; simp
theorem apt_far {tb : Nat} {Q : Nat → Prop} {v : Value} {W : World} {k : Nat} (h : FarT tb W k) (hv : W.cell? ⟨tb, 24, none⟩ = some v) : Apt tb (fun _ => False) v W k := by
  obtain ⟨u, h1, h2, h3, h4⟩ := h
  rw [hv] at h1
  cases h1
  exact ⟨h4, h2, h3, id⟩
/-- what stands between the rounds. -/
def SnJ (B : Nat) (W0 : World) (tb tx n0 : Nat) (v0 : Value) (s : Sn) (p : Pt) (L0 : List Sg) (Q : Nat → Prop) (D : List (Nat × Nat)) (W : World) : Prop := B ≤ W.heap.size ∧ ∃ v L', SnI W0 tb tx n0 v0 s p L0 Q D v L' W
theorem SnJ.later {B : Nat} {W0 W W' : World} {tb tx n0 : Nat} {v0 : Value} {s : Sn} {p : Pt} {L0 : List Sg} {Q : Nat → Prop} {D : List (Nat × Nat)} (h : SnJ B W0 tb tx n0 v0 s p L0 Q D W) (hb : Below W.heap.size W W') : SnJ B W0 tb tx n0 v0 s p L0 Q D W' := by
  obtain ⟨h0, v, L', h⟩ := h
  exact ⟨Nat.le_trans h0 hb.size, v, L', h.later hb⟩
theorem SnJ.stb {B : Nat} {W0 : World} {tb tx n0 : Nat} {v0 : Value} {s : Sn} {p : Pt} {L0 : List Sg} (D : List (Nat × Nat) → List (Nat × Nat)) (hB : W0.heap.size ≤ B) : Stb B (fun _ => False) (fun ys W => SnJ B W0 tb tx n0 v0 s p L0 (fun _ => False) (D ys) W) := by
  refine ⟨fun ys A A' row h hg hr => ?_, fun ys A A' h ho => ?_⟩
  · obtain ⟨h0, v, L', h⟩ := h
    exact ⟨Nat.le_trans h0 hg.size, v, L', h.grown hB hg hr⟩
  · obtain ⟨h0, v, L', h⟩ := h
    exact ⟨Nat.le_trans h0 ho.size, v, L', h.step ho.size (fun k C t fr hk _ => ho.at hk (fun q => q)) (h.off.trans ho (fun _ _ q => q.elim))⟩
theorem SnJ.stbq {B bq : Nat} {W0 : World} {tb tx n0 : Nat} {v0 : Value} {s : Sn} {p : Pt} {L0 : List Sg} (D : List (Nat × Nat) → List (Nat × Nat)) (hB : W0.heap.size ≤ B) (hq : W0.heap.size ≤ bq) : Stb B (fun k => k = bq) (fun ys W => SnJ B W0 tb tx n0 v0 s p L0 (fun k => k = bq) (D ys) W) := by
  refine ⟨fun ys A A' row h hg hr => ?_, fun ys A A' h ho => ?_⟩
  · obtain ⟨h0, v, L', h⟩ := h
    exact ⟨Nat.le_trans h0 hg.size, v, L', h.grown hB hg hr⟩
  · obtain ⟨h0, v, L', h⟩ := h
    exact ⟨Nat.le_trans h0 ho.size, v, L', h.offq hq ho⟩
theorem row_pt {w : World} {b o : Nat} {l : List Nat} (h : Row w (some ⟨b, o, none⟩) l) (A n : Nat) (hn : A + n ≤ l.length) : Row w (some ⟨b, o + A, none⟩) ((l.drop A).take n) := by
  have hl : ((l.drop A).take n).length = n := by rw [List.length_take, List.length_drop]; omega
  refine ⟨fun x hx => h.1 x (List.mem_of_mem_drop (List.mem_of_mem_take hx)), by have := h.2.1; omega, fun h0 => ⟨b, o + A, rfl, fun i hi => ?_⟩⟩
  rw [hl] at hi
  obtain ⟨_, _, he, hc⟩ := h.2.2 (by omega)
  cases he
  have := hc (A + i) (by omega)
  rw [Nat.add_assoc, this, List.getD_eq_getElem?_getD, List.getD_eq_getElem?_getD, List.getElem?_take_of_lt hi, List.getElem?_drop]
theorem row_ltw {w : World} {a : Addr} {l : List Nat} (h : Row w (some a) l) (h0 : 0 < l.length) : a.block < w.heap.size := by
  obtain ⟨b', o', e, hc⟩ := h.2.2 h0
  cases e
  obtain ⟨C, t, fr, he⟩ := cell_is (hc 0 h0)
  exact (Array.getElem?_eq_some_iff.1 he).1
theorem drew_below (W : World) : Below W.heap.size W W.drew := (Below.refl _ W).drew
theorem step_load {P : Program} {ops : Array Oper} {op : Oper} {a : Act} {w : World} {K : Act → World → Prop} {Q : Exit → Act → World → Prop} {E : Prop} (hw : Region.wanted op (yielded ops a.tmps) = true) (ty : TypeId) (x : Operand) (ho : op.op = .load ty x)
    (b o : Nat) (hx : a.eval x = .pointer (some ⟨b, o, none⟩)) (cs : List Value) (d : TypeDesc) (hc : w.rangeAt b o cs)
    (hu : P.underlying ty = some d) (hd : d.isRow = true) (hi : (P.info? ty).map (·.size) = some cs.length)
    (h : K (a.put op.dst (.agg cs.toArray)) w) : if Region.wanted op (yielded ops a.tmps) = true then Oper.wp P op a w K Q else E := by
  rw [if_pos hw]
  exact wp_load_mid ty x ho b o hx cs d hc hu hd hi h
theorem step_store {P : Program} {ops : Array Oper} {op : Oper} {a : Act} {w : World} {K : Act → World → Prop} {Q : Exit → Act → World → Prop} {E : Prop} (hw : Region.wanted op (yielded ops a.tmps) = true) (ty : TypeId) (x y : Operand) (ho : op.op = .store ty x y)
    (b o : Nat) (cells : Array Value) (hx : a.eval x = .pointer (some ⟨b, o, none⟩)) (hy : a.eval y = .agg cells)
    (ht : w.there b o cells.size) (hi : (P.info? ty).map (·.size) = some cells.size) (h1 : cells.all (·.oneCell') = true)
    (h : K (a.put op.dst undef) (w.setCells b o cells.toList)) : if Region.wanted op (yielded ops a.tmps) = true then Oper.wp P op a w K Q else E := by
  rw [if_pos hw]
  exact wp_store_mid ty x y ho b o cells hx hy ht hi h1 h
theorem turn_there {W : World} {b : Nat} {s : Sn} {p : Pt} {v : Value} (h : W.heap[b]? = some (tnc s p v)) {m : Nat} (hm : m ≤ 13) : W.there b 7 m := by
  intro j hj
  refine ⟨?_, frozen_of h (7 + j)⟩
  rw [cell_of h, Array.getElem?_eq_getElem (by show 7 + j < 25; omega)]
  rfl
theorem dcl_at (M : List SD) (X : SD) {j : Nat} (hj : j < 13) : (dcl (M ++ [X]))[M.length * 13 + j]? = X.cells[j]? := by
  rw [dcl_app, dcl_one, List.getElem?_append_right (by rw [dcl_len]; omega), dcl_len]
  congr 1
  omega
theorem dcl_set (M : List SD) (X : SD) (ser : Nat) : ((dcl (M ++ [X])).set (M.length * 13 + 10) (.bool true)).set (M.length * 13 + 3) (.int .u32 (ser : Nat)) = dcl (M ++ [{ X with s := { X.s with chk := true, ser := ser } }]) := by
  rw [dcl_app, dcl_one, List.set_append_right _ _ (by rw [dcl_len]; omega), List.set_append_right _ _ (by rw [dcl_len]; omega), dcl_len, dcl_app, dcl_one, show M.length * 13 + 10 - M.length * 13 = 10 by omega, show M.length * 13 + 3 - M.length * 13 = 3 by omega]
  rfl
theorem own_cell {w : World} {n0 n cap g : Nat} {e : TypeId} {xs : List Value} (h : w.ownsRow n0 e 13 (.slice (some ⟨g, 0, none⟩) n cap) n xs) {i : Nat} (hi : i < n * 13) : w.cell? ⟨g, i, none⟩ = xs[i]? ∧ w.frozen? ⟨g, i, none⟩ = false := by
  rcases h.2 with ⟨h', _⟩ | ⟨g', cap', cur, h', _, hg, _, _, _, ht⟩
  · simp at h'
  · simp only [Value.slice.injEq, Option.some.injEq, Addr.mk.injEq, and_true, true_and] at h'
    obtain ⟨rfl, rfl⟩ := h'
    refine ⟨?_, frozen_of hg i⟩
    rw [cell_of hg, ← ht, List.getElem?_take_of_lt hi, Array.getElem?_toList]
/-- what rows that were sent leave. -/
structure Snt (w w' : World) (tb n0 : Nat) (v0 v' : Value) (s' : Sn) (p' : Pt) (L' : List SD) : Prop where
  sy : Sy w' tb n0 s' p' v' L'
  each : ∀ x ∈ L', Row w' x.a x.s.dat ∧ x.s.dat.length ≤ x.c ∧ x.c ≤ maxLen ∧ x.a2 = none ∧ x.c2 = 0
  blk : Row w' p'.ab s'.bgn.blk
  lst : Came w' s'.lst p'.ad p'.cd p'.ac p'.cc
  off : Off (fun i => i = tb ∨ v0.ownBlock = some i) w w'
  vo : ∀ k, v'.ownBlock = some k → v0.ownBlock = some k ∨ w.heap.size ≤ k
theorem farT_grown {tb k : Nat} {A B : World} {row : Option Nat} (h : FarT tb A k) (hg : A.grownBy B row) (hr : ∀ r, row = some r → ∃ o : Obj, A.heap[r]? = some o ∧ o.isCells = false) : FarT tb B k := by
  obtain ⟨v, h1, h2, h3, h4⟩ := h
  exact ⟨v, cell_kept h1 hg hr, h2, h3, Nat.lt_of_lt_of_le h4 hg.size⟩
/-- within a row. -/
def InJ (B B1 : Nat) (W0 : World) (tb tx n0 : Nat) (v0 : Value) (s : Sn) (p : Pt) (L0 : List Sg) (bq : Nat) (D : List (Nat × Nat)) (W' : World) (zs : List (Nat × Nat)) (W : World) : Prop := SnJ B W0 tb tx n0 v0 s p L0 (fun k => k = bq) (D ++ zs) W ∧ KpV tb W' W ∧ KeepsFrom B1 W' W
theorem InJ.later {B B1 : Nat} {W0 : World} {tb tx n0 : Nat} {v0 : Value} {s : Sn} {p : Pt} {L0 : List Sg} {bq : Nat} {D : List (Nat × Nat)} {W' W W2 : World} {zs : List (Nat × Nat)} (h : InJ B B1 W0 tb tx n0 v0 s p L0 bq D W' zs W) (hb : Below W.heap.size W W2) : InJ B B1 W0 tb tx n0 v0 s p L0 bq D W' zs W2 :=
  ⟨h.1.later hb, h.2.1.trans (KpV.of_below hb), h.2.2.trans (keeps_below hb)⟩
theorem InJ.stb {B B1 : Nat} {W0 : World} {tb tx n0 : Nat} {v0 : Value} {s : Sn} {p : Pt} {L0 : List Sg} {bq : Nat} {D : List (Nat × Nat)} {W' : World} (hB : W0.heap.size ≤ B) (hq : W0.heap.size ≤ bq) (hWq : W'.heap.size ≤ bq) (hWB : W'.heap.size ≤ B) (ht : tb ≠ bq) : Stb B (fun k => k = bq) (fun zs W => InJ B B1 W0 tb tx n0 v0 s p L0 bq D W' zs W) := by
  have hS := SnJ.stbq (tb := tb) (tx := tx) (n0 := n0) (v0 := v0) (s := s) (p := p) (L0 := L0) (fun zs => D ++ zs) hB hq
  refine ⟨fun zs A A' row h hg hr => ⟨hS.1 zs A A' row h.1 hg hr, ?_, ?_⟩, fun zs A A' h ho => ⟨hS.2 zs A A' h.1 ho, ?_, ?_⟩⟩
  · exact h.2.1.trans ⟨hg.size, fun v hv => ⟨v, cell_kept hv hg (fun r e => (hr r e).2), fun k e => .inl e, fun k C t fr hk _ _ => kept_cells hk hg hr⟩⟩
  · exact ownFrom_keepsFrom (β := Unit) hWB () A A' row h.2.2 hg hr
  · refine ⟨Nat.le_trans h.2.1.size ho.size, fun v hv => ?_⟩
    obtain ⟨v1, c1, o1, k1⟩ := h.2.1.keep v hv
    exact ⟨v1, ho.cell c1 (fun e => ht e), o1, fun k C t fr hk h1 h2 => ho.at (k1 k C t fr hk h1 h2) (fun e => by have := (Array.getElem?_eq_some_iff.1 hk).1; have : k = bq := e; omega)⟩
  · exact ⟨Nat.le_trans h.2.2.size ho.size, fun k o hk hko hc => ho.at (h.2.2.same k o hk hko hc) (fun e => by have := (Array.getElem?_eq_some_iff.1 hko).1; have : k = bq := e; omega)⟩
/-- how many pieces so many rows are, at most. -/
theorem pcs_len {R : List (Nat × Nat)} (h : ∀ r ∈ R, 1 ≤ r.2 ∧ r.2 ≤ 512) : (pcsOf R).length ≤ 6 * R.length := by
  induction R with
  | nil => simp [pcsOf]
  | cons r R ih =>
    have h1 := ih (fun q hq => h q (List.mem_cons_of_mem _ hq))
    have h2 := h r (by simp)
    unfold pcsOf at h1 ⊢
    rw [List.flatMap_cons, List.length_append, pcF_len, List.length_cons]
    omega
/-- what gaps may be. -/
structure RowsO (R : List (Nat × Nat)) (N : Nat) : Prop where
  each : ∀ r ∈ R, 1 ≤ r.2 ∧ r.1 + r.2 ≤ N
  n : N ≤ 512
  len : R.length ≤ 100
attribute [local go_sem] Oper.semAt_some
set_option maxRecDepth 20000 in
set_option maxHeartbeats 16000000 in
theorem sendr_any (w : World) (tb bg n0 : Nat) (v0 : Value) (s s0 : Sn) (p p0 : Pt) (L : List SD) (ser : Nat) (now : Int) (hsy : Sy w tb n0 s p v0 L) (hL : L.length ≤ 10)
    (hea : ∀ x ∈ L, Row w x.a x.s.dat ∧ x.s.dat.length ≤ x.c ∧ x.c ≤ maxLen ∧ x.a2 = none ∧ x.c2 = 0 ∧ ∀ b, x.a = some b → FarT tb w b.block)
    (hg : GpO s0.got s0.bgn.blk.length) (hN : s0.bgn.blk.length = s.bgn.blk.length) (hi : GpI (FarT tb) bg s0 p0 s0.got w)
    (hblk : Row w p.ab s.bgn.blk ∧ s.bgn.blk.length ≤ p.cb ∧ p.cb ≤ maxLen ∧ ∀ b, p.ab = some b → FarT tb w b.block) (hR : RowsO (gpF s0.got s.bgn.blk.length) s.bgn.blk.length) (hne : gpF s0.got s.bgn.blk.length ≠ []) (hnow : 0 ≤ now ∧ now ≤ 1048576) (hwai : 1 ≤ s.bgn.wai ∧ s.bgn.wai ≤ 4096) (hsz : in64 s.bgn.src ∧ s.bgn.ses < 4294967296 ∧ ser < 4294967296) :
    Calls Try.prog 37 #[.pointer (some ⟨tb, 0, none⟩), .func (.func 70) #[] #[.pointer (some ⟨bg, 0, none⟩)], .int .u32 (ser : Nat), .int .i64 now] w fun e w' => e = .returned (.tuple #[]) ∧ Hid (∃ v' M X a' c' a2' c2', Snt w w' tb n0 v0 v' { s with lst := { X.s with chk := true, ser := ser }, due := now + s.bgn.wai, ask := 0 } { p with ad := a', cd := c', ac := a2', cc := c2' } (M ++ [{ X with s := { X.s with chk := true, ser := ser } }]) ∧ (M ++ [X]).map SD.s = L.map SD.s ++ (pcsOf (gpF s0.got s.bgn.blk.length)).map (segOf s)) := by
  have hcw : w.cell? ⟨tb, 24, none⟩ = some v0 := by rw [cell_of hsy.box]; rfl
  have hs1 : SnI w tb w.heap.size n0 v0 s p (L.map SD.s) (fun _ => False) (pcsOf []) v0 L (w.alloc (.cells #[.pointer (some ⟨tb, 0, none⟩)] 101)) := by
    have hb : Below w.heap.size w (w.alloc (.cells #[.pointer (some ⟨tb, 0, none⟩)] 101)) := (Below.refl _ w).alloc (Nat.le_refl _) _
    have ap : ∀ {k : Nat}, FarT tb w k → Apt tb (fun _ => False) v0 (w.alloc (.cells #[.pointer (some ⟨tb, 0, none⟩)] 101)) k := fun {k} q => by
      have := apt_far (Q := fun _ => False) q hcw
      exact ⟨Nat.lt_of_lt_of_le this.1 hb.size, this.2⟩
    refine ⟨⟨old_block hb hsy.box, (Off.of_below (S := fun _ => False) hb).owns hsy.own (fun _ _ t => t), hsy.lt, Nat.le_trans hsy.le hb.size⟩, by simp [pcsOf], fun x hx => ?_, ⟨hblk.1.later hb, fun b e => ap (hblk.2.2.2 b e)⟩, ⟨heap_alloc_new w _, by simp, fun e => by have := hsy.lt; have := hsy.le; omega, fun e => by have := own_in hsy.own _ e; omega, id⟩, fun _ _ => id, id, Off.of_below hb, fun k e => .inl e⟩
    obtain ⟨r1, r2, r3, r4, r5, r6⟩ := hea x hx
    exact ⟨r1.later hb, r2, r3, r4, r5, fun b e => ap (r6 b e)⟩
  have HS1 : Hid (SnI w tb w.heap.size n0 v0 s p (L.map SD.s) (fun _ => False) (pcsOf []) v0 L (w.alloc (.cells #[.pointer (some ⟨tb, 0, none⟩)] 101))) := hs1
  have HCB : Hid (s.bgn.blk.length ≤ p.cb ∧ p.cb ≤ maxLen) := ⟨hblk.2.1, hblk.2.2.1⟩
  have HRO : Hid (RowsO (gpF s0.got s.bgn.blk.length) s.bgn.blk.length) := hR
  have hseq := gp_hands (9 - 1) bg s0 p0 (by decide) hg (FarT tb) (KpV tb) (farO (fun h => h)) w hi
  rw [hN] at hseq
  have HLL : Hid (L.length ≤ 10) := hL
  have HSR : Hid (in64 s.bgn.src ∧ s.bgn.ses < 4294967296 ∧ ser < 4294967296) := hsz
  clear hsz
  have HTW : Hid (tb < w.heap.size) := by show _ < _; have := hsy.lt; have := hsy.le; omega
  clear hs1 hsy hea hg hi hblk hcw hR hL hN
  refine (callsIn_wide (n := 9)).1 ?_
  refine callsIn_of_wp_marks Try.func37 rfl trivial ?_
  simp only [Try.ntmps37, List.size_toArray, List.length_cons, List.length_nil, Nat.reduceAdd, Nat.reduceSub, Array.replicate_succ, Array.replicate_zero, List.push_toArray, List.append_toArray, List.nil_append, List.cons_append]
  gi_wp2
  have hb1 : Below w.heap.size w (w.alloc (.cells #[.pointer (some ⟨tb, 0, none⟩)] 101)) := (Below.refl _ w).alloc (Nat.le_refl _) _
  generalize w.alloc (.cells #[.pointer (some ⟨tb, 0, none⟩)] 101) = w1 at HS1 hb1 ⊢
  have HW1 : Hid (w.heap.size ≤ w1.heap.size) := hb1.size
  have HW2 : Hid (w.heap.size < w1.heap.size) := (Array.getElem?_eq_some_iff.1 HS1.out.txb.1).1
  refine range_out (by decide) (gf := 70) rfl (enters_of Try.func70 (by kernel_rfl) rfl) hseq
    (I := fun ys W => SnJ w1.heap.size w tb w.heap.size n0 v0 s p (L.map SD.s) (fun _ => False) (pcsOf ys) W)
    (fun ys W h O => by obtain ⟨_, v, L', h⟩ := h; exact sni_far h O) KpV.trans (fun W l o o' ho hc => KpV.put ho hc) hb1 (fun _ => rfl)
    (SnJ.stb pcsOf HW1.out) (fun k h => h.elim) ⟨Nat.le_refl _, _, _, HS1.out⟩
    (fun x a' W' => ∃ b8, w1.heap.size ≤ b8 ∧ W'.heap[b8]? = some (.cells #[.int .i64 (x.1 : Nat), .int .i64 (x.2 : Nat)] 56 (0, 0)) ∧ a' = { tmps := #[.pointer (some ⟨tb, 0, none⟩), .func (.func 70) #[] #[.pointer (some ⟨bg, 0, none⟩)], .int .u32 (ser : Nat), .int .i64 now, .pointer (some ⟨w.heap.size, 0, none⟩), undef, undef, undef, .pointer (some ⟨b8, 0, none⟩), undef, undef, undef, .func (.func 70) #[] #[.pointer (some ⟨bg, 0, none⟩)], .agg #[.int .i64 (x.1 : Nat), .int .i64 (x.2 : Nat)], undef, undef, undef, undef, undef, undef, undef, undef, undef, undef, undef, undef, undef, undef, undef, undef, undef, undef, undef, undef, undef, undef, undef, undef, undef, undef, undef, undef, undef, undef, undef, undef, undef, undef, undef, undef, undef, undef, undef, undef, undef, undef, undef, undef, undef, undef, undef, undef, undef, undef, undef, undef, undef, undef, undef, undef, undef, undef, undef, undef], defers := [] })
    (fun x a' s A B row h hg hr => by obtain ⟨b8, q1, q2, q3⟩ := h; exact ⟨b8, q1, kept_cells q2 hg hr, q3⟩) ?assign ?body ?done
  case assign =>
    intro l' pre x W' K hi ht hK
    have hb : Below W'.heap.size W' (W'.alloc (.cells #[.int .i64 (x.1 : Nat), .int .i64 (x.2 : Nat)] 56)) := (Below.refl _ W').alloc (Nat.le_refl _) _
    have HK : Hid (K _ (W'.alloc (.cells #[.int .i64 (x.1 : Nat), .int .i64 (x.2 : Nat)] 56))) := hK _ _ ⟨hb.size, fun k o _ hk _ => old_block hb hk⟩ (KpV.of_below hb) (hi.later hb) ⟨_, hi.1, heap_alloc_new W' _, rfl⟩
    dsimp only [encP]
    clear hK hi ht hseq
    gi_wp2
    exact HK.out
  case body =>
    rintro l' pre r a' W' hl' ⟨rec, hrec⟩ hi ht ⟨b8, hb8, hx8, rfl⟩ hlen
    have HI : Hid (SnJ w1.heap.size w tb w.heap.size n0 v0 s p (L.map SD.s) (fun _ => False) (pcsOf pre) W') := hi
    have hr := HRO.out.each r (ht.subset (by simp))
    have hr5 := HRO.out.n
    have HPR : Hid (1 ≤ r.2 ∧ r.1 + r.2 ≤ s.bgn.blk.length ∧ s.bgn.blk.length ≤ 512) := ⟨hr.1, hr.2, hr5⟩
    have HTT : Hid (pre ++ [r] <+: gpF s0.got s.bgn.blk.length) := ht
    have c0 := cell_of hx8 0
    have c1 := cell_of hx8 1
    simp only [List.getElem?_toArray, List.getElem?_cons_zero, List.getElem?_cons_succ] at c0 c1
    have HREC : Hid (W'.heap[l']? = some (.loop rec)) := hrec
    have HF : Hid (∀ W0, Calls Try.prog 68 #[.agg #[.int .i64 (r.1 : Nat), .int .i64 (r.2 : Nat)]] W0 fun e w' => e = .returned (.func (.func 84) #[] #[.pointer (some ⟨W0.heap.size, 0, none⟩)]) ∧ w' = W0.alloc (.cells #[.int .i64 (r.1 : Nat), .int .i64 (r.2 : Nat)] 56)) := fun W0 => pc_fn _ _ _
    clear hseq hi ht hx8 hrec hr hr5
    gi_wp2_with (first | (refine ⟨trivial, ?_⟩; gi_at_call 68; refine (callsIn_wide.2 (HF.out _)).mono ?_; rintro e w2 ⟨rfl, rfl⟩) | (gi_at_call 68; refine (callsIn_wide.2 (HF.out _)).mono ?_; rintro e w2 ⟨rfl, rfl⟩))
    obtain ⟨hsz, v2, L2, hsn⟩ := HI.out
    obtain ⟨bb, bo, hab, _⟩ := hsn.blk.1.2.2 (by have := HPR.out; omega)
    obtain ⟨N, hNN⟩ : ∃ N, s.bgn.blk.length = N := ⟨_, rfl⟩
    have hbe : Below W'.heap.size W' (W'.alloc (.cells #[.int .i64 (r.1 : Nat), .int .i64 (r.2 : Nat)] 56)) := (Below.refl _ W').alloc (Nat.le_refl _) _
    have HQ0 : Hid (SnI w tb w.heap.size n0 v0 s p (L.map SD.s) (fun k => k = W'.heap.size) (pcsOf pre) v2 L2 (W'.alloc (.cells #[.int .i64 (r.1 : Nat), .int .i64 (r.2 : Nat)] 56))) := hsn.avoid _
    have HBQ : Hid (FarT tb (W'.alloc (.cells #[.int .i64 (r.1 : Nat), .int .i64 (r.2 : Nat)] 56)) W'.heap.size ∧ (W'.alloc (.cells #[.int .i64 (r.1 : Nat), .int .i64 (r.2 : Nat)] 56)).heap[W'.heap.size]? = some (.cells #[.int .i64 (r.1 : Nat), .int .i64 (r.2 : Nat)] 56 (0, 0)) ∧ (W'.alloc (.cells #[.int .i64 (r.1 : Nat), .int .i64 (r.2 : Nat)] 56)).heap.size = W'.heap.size + 1 ∧ tb ≠ W'.heap.size ∧ (W'.alloc (.cells #[.int .i64 (r.1 : Nat), .int .i64 (r.2 : Nat)] 56)).heap[l']? = some (.loop rec)) := ⟨sni_far hsn _, heap_alloc_new W' _, by simp, fun e => by have := hsn.sy.lt; have := hsn.sy.le; omega, old_block hbe HREC.out⟩
    have HKP : Hid (KpV tb W' (W'.alloc (.cells #[.int .i64 (r.1 : Nat), .int .i64 (r.2 : Nat)] 56)) ∧ KeepsFrom w1.heap.size W' (W'.alloc (.cells #[.int .i64 (r.1 : Nat), .int .i64 (r.2 : Nat)] 56))) := ⟨KpV.of_below hbe, keeps_below hbe⟩
    clear hbe c0 c1 HF hsn hsz HREC
    generalize W'.alloc (.cells #[.int .i64 (r.1 : Nat), .int .i64 (r.2 : Nat)] 56) = w2 at HQ0 HBQ HKP ⊢
    obtain ⟨bq, hbq⟩ : ∃ bq, W'.heap.size = bq := ⟨_, rfl⟩
    rw [hbq] at HQ0 HBQ ⊢
    have HSZ : Hid (w.heap.size ≤ w1.heap.size ∧ w1.heap.size ≤ W'.heap.size ∧ W'.heap.size = bq ∧ w2.heap.size = bq + 1) := ⟨HW1.out, HI.out.1, hbq, HBQ.out.2.2.1⟩
    have hsq := pc_hands (9 - 1 - 1 - 1) bq r.1 r.2 (by decide) HPR.out.1 (by have := HPR.out; omega) (by have := HPR.out; omega) (FarT tb) (KpV tb) (farO (fun h => HBQ.out.2.2.2.1 h)) w2 HBQ.out.1 HBQ.out.2.1
    refine range_in HBQ.out.2.2.2.2 (by decide) (gf := 84) rfl (enters_of Try.func84 (by kernel_rfl) rfl) hsq
      (I := fun zs W => InJ w2.heap.size w1.heap.size w tb w.heap.size n0 v0 s p (L.map SD.s) bq (pcsOf pre) W' zs W)
      (fun _ _ _ => trivial) KpV.trans (fun W l o o' ho hc => KpV.put ho hc) (Below.refl _ _) (fun _ => rfl)
      (InJ.stb (by have := HSZ.out; omega) (by have := HSZ.out; omega) (by have := HSZ.out; omega) (by have := HSZ.out; omega) HBQ.out.2.2.2.1) (fun k e => by have := HSZ.out; omega) ⟨⟨Nat.le_refl _, _, _, by rw [List.append_nil]; exact HQ0.out⟩, HKP.out.1, HKP.out.2⟩
      (fun x a' W => ∃ b9, FarT tb W b9 ∧ W.heap[b9]? = some (.cells #[.int .i64 (x.1 : Nat), .int .i64 (x.2 : Nat)] 56 (0, 0)) ∧ a' = { tmps := #[.pointer (some ⟨tb, 0, none⟩), .func (.func 70) #[] #[.pointer (some ⟨bg, 0, none⟩)], .int .u32 (ser : Nat), .int .i64 now, .pointer (some ⟨w.heap.size, 0, none⟩), undef, undef, undef, .pointer (some ⟨b8, 0, none⟩), .pointer (some ⟨b9, 0, none⟩), undef, undef, .func (.func 70) #[] #[.pointer (some ⟨bg, 0, none⟩)], .agg #[.int .i64 (r.1 : Nat), .int .i64 (r.2 : Nat)], .agg #[.int .i64 (r.1 : Nat), .int .i64 (r.2 : Nat)], .func (.func 84) #[] #[.pointer (some ⟨bq, 0, none⟩)], .agg #[.int .i64 (x.1 : Nat), .int .i64 (x.2 : Nat)], undef, undef, undef, undef, undef, undef, undef, undef, undef, undef, undef, undef, undef, undef, undef, undef, undef, undef, undef, undef, undef, undef, undef, undef, undef, undef, undef, undef, undef, undef, undef, undef, undef, undef, undef, undef, undef, undef, undef, undef, undef, undef, undef, undef, undef, undef, undef, undef, undef, undef, undef, undef, undef, undef, undef, undef, undef], defers := [] })
      (fun x a' s A B row h hg hr => by obtain ⟨b9, q1, q2, q3⟩ := h; exact ⟨b9, farT_grown q1 hg (fun r e => (hr r e).2), kept_cells q2 hg hr, q3⟩) ?assign2 ?body2 ?done2
    case assign2 =>
      intro l2 zs x W K hi ht hK
      have hb : Below W.heap.size W (W.alloc (.cells #[.int .i64 (x.1 : Nat), .int .i64 (x.2 : Nat)] 56)) := (Below.refl _ W).alloc (Nat.le_refl _) _
      have HK : Hid (K _ (W.alloc (.cells #[.int .i64 (x.1 : Nat), .int .i64 (x.2 : Nat)] 56))) := hK _ _ ⟨hb.size, fun k o _ hk _ => old_block hb hk⟩ (KpV.of_below hb) (hi.later hb) ⟨_, (by obtain ⟨_, v3, L3, h3⟩ := hi.1; exact sni_far h3 _), heap_alloc_new W _, rfl⟩
      dsimp only [encP]
      clear hK hi ht hsq
      gi_wp2
      exact HK.out
    case body2 =>
      rintro l2 zs ⟨o9, n9⟩ a' W hi ht ⟨b9, hb9, hx9, rfl⟩ hlen2
      obtain ⟨⟨hsz, v3, L3, hsn⟩, hkp, hkf⟩ := hi
      have hin := pcF_in HPR.out.1 (ht.subset (show (o9, n9) ∈ zs ++ [(o9, n9)] by simp))
      simp only at hin hx9
      have HSN : Hid (SnI w tb w.heap.size n0 v0 s p (L.map SD.s) (fun k => k = bq) (pcsOf pre ++ zs) v3 L3 W ∧ KpV tb W' W ∧ KeepsFrom w1.heap.size W' W ∧ w2.heap.size ≤ W.heap.size) := ⟨hsn, hkp, hkf, hsz⟩
      obtain ⟨e9, he9⟩ : ∃ e9 : Nat, o9 + n9 = e9 := ⟨_, rfl⟩
      have hcb := HCB.out
      rw [hNN] at hcb
      have hpr := HPR.out
      rw [hNN] at hpr
      have HIN : Hid (1 ≤ n9 ∧ n9 ≤ 100 ∧ o9 + n9 = e9 ∧ e9 ≤ N ∧ N ≤ 512 ∧ N ≤ p.cb ∧ p.cb ≤ maxLen) := ⟨hin.2.1, hin.2.2.1, he9, by omega, hpr.2.2, hcb.1, hcb.2⟩
      have hwe : IntKind.i64.wrap ((o9 : Int) + (n9 : Int)) = (e9 : Int) := by rw [IntKind.wrap_i64]; omega
      have d0 := cell_of hx9 0
      have d1 := cell_of hx9 1
      have t0 := cell_of hsn.txb.1 0
      have t2 : W.cell? ⟨tb, 2, none⟩ = some (.slice (some ⟨bb, bo, none⟩) N p.cb) := by rw [cell_of hsn.sy.box, ← hab, ← hNN]; rfl
      simp only [List.getElem?_toArray, List.getElem?_cons_zero, List.getElem?_cons_succ] at d0 d1 t0
      have HS0 : Hid ((fun W0 => W0.cell? ⟨w.heap.size, 0, none⟩ = some (.pointer (some ⟨tb, 0, none⟩)) ∧ W0.cell? ⟨tb, 2, none⟩ = some (.slice (some ⟨bb, bo, none⟩) N p.cb) ∧ W0.cell? ⟨b9, 0, none⟩ = some (.int .i64 (o9 : Nat)) ∧ W0.cell? ⟨b9, 1, none⟩ = some (.int .i64 (n9 : Nat))) W) := ⟨t0, t2, d0, d1⟩
      have HRX : Hid (Row W (some ⟨bb, bo, none⟩) s.bgn.blk) := by rw [← hab]; exact hsn.blk.1
      have HSH : Hid (∀ W0, Below W.heap.size W W0 → (fun W0 => W0.cell? ⟨w.heap.size, 0, none⟩ = some (.pointer (some ⟨tb, 0, none⟩)) ∧ W0.cell? ⟨tb, 2, none⟩ = some (.slice (some ⟨bb, bo, none⟩) N p.cb) ∧ W0.cell? ⟨b9, 0, none⟩ = some (.int .i64 (o9 : Nat)) ∧ W0.cell? ⟨b9, 1, none⟩ = some (.int .i64 (n9 : Nat))) W0) := fun W0 hb => ⟨cell_later hb t0, cell_later hb t2, cell_later hb d0, cell_later hb d1⟩
      have hdl : ((s.bgn.blk.drop o9).take n9).length = n9 := by rw [List.length_take, List.length_drop, hNN]; omega
      have HX9 : Hid (FarT tb W b9 ∧ W.heap[b9]? = some (.cells #[.int .i64 (o9 : Nat), .int .i64 (n9 : Nat)] 56 (0, 0))) := ⟨hb9, hx9⟩
      have HDL : Hid (((s.bgn.blk.drop o9).take n9).length = n9) := hdl
      have HLP : Hid ((pcsOf pre).length + zs.length ≤ 700) := by
        have h1 := pcs_len (R := pre) (fun q hq => by have := HRO.out.each q (HTT.out.subset (List.mem_append_left _ hq)); have := HRO.out.n; omega)
        have h2 := (HTT.out.length_le)
        rw [List.length_append] at h2
        have h3 := HRO.out.len
        show _ ≤ _
        have : (r.2 - 1) / 100 + 1 ≤ 6 := by have := HPR.out; omega
        simp at h2
        omega
      have HCP : Hid (∀ W0, Below W.heap.size W W0 → Calls Try.prog 64 #[.slice (some ⟨bb, bo + o9, none⟩) n9 (p.cb - o9)] W0 fun e w' => ∃ a' c', e = .returned (.slice a' n9 c') ∧ Hid (Below W0.heap.size W0 w' ∧ Row w' a' ((s.bgn.blk.drop o9).take n9) ∧ n9 ≤ c' ∧ c' ≤ maxLen ∧ ∀ bb, a' = some bb → W0.heap.size ≤ bb.block)) := fun W0 hb => by
        have := copiedB_any W0 (some ⟨bb, bo + o9, none⟩) (p.cb - o9) ((s.bgn.blk.drop o9).take n9) ((row_pt (by rw [← hab]; exact hsn.blk.1) o9 n9 (by omega)).later hb) (by omega)
        rw [hdl] at this
        exact this
      have a1 : (0 : Int) ≤ (o9 : Int) := by omega
      have a2 : (o9 : Int) ≤ (e9 : Int) := by omega
      have a3 : (e9 : Int) ≤ (p.cb : Int) := by omega
      have a5 : ¬ p.cb = o9 := by omega
      have a6 : e9 ≤ p.cb := by omega
      have a7 : e9 - o9 = n9 := by omega
      have a8 : o9 ≤ e9 := by omega
      clear hdl hsn hkp hkf hsz hin hcb hpr hx9 ht hsq d0 d1 t0 t2
      gi_wp2
      refine region_round (fun W0 => W0.cell? ⟨w.heap.size, 0, none⟩ = some (.pointer (some ⟨tb, 0, none⟩)) ∧ W0.cell? ⟨tb, 2, none⟩ = some (.slice (some ⟨bb, bo, none⟩) N p.cb) ∧ W0.cell? ⟨b9, 0, none⟩ = some (.int .i64 (o9 : Nat)) ∧ W0.cell? ⟨b9, 1, none⟩ = some (.int .i64 (n9 : Nat))) (by kernel_rfl) (by rfl) (by rintro ⟨_, _, h⟩; exact h) HS0.out (fun hHeld => ?_)
      refine takeH 0 (.pointer (some ⟨tb, 0, none⟩)) rfl (by kernel_rfl) (by kernel_rfl) (by kernel_rfl) (fun _ _ _ h => h) (Or.inl ⟨by rfl, ?_⟩) (by assumption) ?_
      · (intro w hSw; obtain ⟨hS0, hS1, hS2, hS3⟩ := hSw; go_simp)
      try simp only [Act.put, List.setIfInBounds_toArray, List.set_cons_zero, List.set_cons_succ]
      refine takeH 1 (.pointer (some ⟨tb, 0, none⟩)) rfl (by kernel_rfl) (by kernel_rfl) (by kernel_rfl) (fun _ _ _ h => h) (Or.inl ⟨by rfl, ?_⟩) (by assumption) ?_
      · (intro w hSw; obtain ⟨hS0, hS1, hS2, hS3⟩ := hSw; go_simp)
      try simp only [Act.put, List.setIfInBounds_toArray, List.set_cons_zero, List.set_cons_succ]
      refine takeH 2 (.pointer (some ⟨tb, 0, none⟩)) rfl (by kernel_rfl) (by kernel_rfl) (by kernel_rfl) (fun _ _ _ h => h) (Or.inl ⟨by rfl, ?_⟩) (by assumption) ?_
      · (intro w hSw; obtain ⟨hS0, hS1, hS2, hS3⟩ := hSw; go_simp)
      try simp only [Act.put, List.setIfInBounds_toArray, List.set_cons_zero, List.set_cons_succ]
      refine takeH 3 (.pointer (some ⟨tb, 0, none⟩)) rfl (by kernel_rfl) (by kernel_rfl) (by kernel_rfl) (fun _ _ _ h => h) (Or.inl ⟨by rfl, ?_⟩) (by assumption) ?_
      · (intro w hSw; obtain ⟨hS0, hS1, hS2, hS3⟩ := hSw; go_simp)
      try simp only [Act.put, List.setIfInBounds_toArray, List.set_cons_zero, List.set_cons_succ]
      refine takeH 4 (.pointer (some ⟨tb, 2, none⟩)) rfl (by kernel_rfl) (by kernel_rfl) (by kernel_rfl) (fun _ _ _ h => h) (Or.inl ⟨by rfl, ?_⟩) (by assumption) ?_
      · (intro w hSw; obtain ⟨hS0, hS1, hS2, hS3⟩ := hSw; go_simp)
      try simp only [Act.put, List.setIfInBounds_toArray, List.set_cons_zero, List.set_cons_succ]
      refine takeH 5 (.slice (some ⟨bb, bo, none⟩) N p.cb) rfl (by kernel_rfl) (by kernel_rfl) (by kernel_rfl) (fun _ _ _ h => h) (Or.inl ⟨by rfl, ?_⟩) (by assumption) ?_
      · (intro w hSw; obtain ⟨hS0, hS1, hS2, hS3⟩ := hSw; go_simp)
      try simp only [Act.put, List.setIfInBounds_toArray, List.set_cons_zero, List.set_cons_succ]
      refine takeH 6 (.pointer (some ⟨b9, 0, none⟩)) rfl (by kernel_rfl) (by kernel_rfl) (by kernel_rfl) (fun _ _ _ h => h) (Or.inl ⟨by rfl, ?_⟩) (by assumption) ?_
      · (intro w hSw; obtain ⟨hS0, hS1, hS2, hS3⟩ := hSw; go_simp)
      try simp only [Act.put, List.setIfInBounds_toArray, List.set_cons_zero, List.set_cons_succ]
      refine takeH 7 (.int .i64 (o9 : Nat)) rfl (by kernel_rfl) (by kernel_rfl) (by kernel_rfl) (fun _ _ _ h => h) (Or.inl ⟨by rfl, ?_⟩) (by assumption) ?_
      · (intro w hSw; obtain ⟨hS0, hS1, hS2, hS3⟩ := hSw; go_simp)
      try simp only [Act.put, List.setIfInBounds_toArray, List.set_cons_zero, List.set_cons_succ]
      refine takeH 8 (.pointer (some ⟨b9, 0, none⟩)) rfl (by kernel_rfl) (by kernel_rfl) (by kernel_rfl) (fun _ _ _ h => h) (Or.inl ⟨by rfl, ?_⟩) (by assumption) ?_
      · (intro w hSw; obtain ⟨hS0, hS1, hS2, hS3⟩ := hSw; go_simp)
      try simp only [Act.put, List.setIfInBounds_toArray, List.set_cons_zero, List.set_cons_succ]
      refine takeH 9 (.int .i64 (o9 : Nat)) rfl (by kernel_rfl) (by kernel_rfl) (by kernel_rfl) (fun _ _ _ h => h) (Or.inl ⟨by rfl, ?_⟩) (by assumption) ?_
      · (intro w hSw; obtain ⟨hS0, hS1, hS2, hS3⟩ := hSw; go_simp)
      try simp only [Act.put, List.setIfInBounds_toArray, List.set_cons_zero, List.set_cons_succ]
      refine takeH 10 (.pointer (some ⟨b9, 1, none⟩)) rfl (by kernel_rfl) (by kernel_rfl) (by kernel_rfl) (fun _ _ _ h => h) (Or.inl ⟨by rfl, ?_⟩) (by assumption) ?_
      · (intro w hSw; obtain ⟨hS0, hS1, hS2, hS3⟩ := hSw; go_simp)
      try simp only [Act.put, List.setIfInBounds_toArray, List.set_cons_zero, List.set_cons_succ]
      refine takeH 11 (.int .i64 (n9 : Nat)) rfl (by kernel_rfl) (by kernel_rfl) (by kernel_rfl) (fun _ _ _ h => h) (Or.inl ⟨by rfl, ?_⟩) (by assumption) ?_
      · (intro w hSw; obtain ⟨hS0, hS1, hS2, hS3⟩ := hSw; go_simp)
      try simp only [Act.put, List.setIfInBounds_toArray, List.set_cons_zero, List.set_cons_succ]
      refine takeH 12 (.int .i64 ((e9 : Nat) : Int)) rfl (by kernel_rfl) (by kernel_rfl) (by kernel_rfl) (fun _ _ _ h => h) (Or.inl ⟨by rfl, ?_⟩) (by assumption) ?_
      · (intro w hSw; obtain ⟨hS0, hS1, hS2, hS3⟩ := hSw; go_simp)
      try simp only [Act.put, List.setIfInBounds_toArray, List.set_cons_zero, List.set_cons_succ]
      refine takeH 13 (.slice (some ⟨bb, bo + o9, none⟩) n9 (p.cb - o9)) rfl (by kernel_rfl) (by kernel_rfl) (by kernel_rfl) (fun _ _ _ h => h) (Or.inl ⟨by rfl, ?_⟩) (by assumption) ?_
      · (intro w hSw; obtain ⟨hS0, hS1, hS2, hS3⟩ := hSw; go_simp)
      try simp only [Act.put, List.setIfInBounds_toArray, List.set_cons_zero, List.set_cons_succ]
      refine wpAnyH_ready (rs := [14]) (by kernel_rfl) (by simp) ?_
      refine stepH 14 rfl (fun K hK => ?_) AllReadyH.nil
      go_simp
      go_at_call 64
      refine (HCP.out _ (drew_below W)).mono ?_
      rintro e w3 ⟨a5, c5, rfl, H5⟩
      have HB3 : Hid (Below W.heap.size W w3) := below_of (drew_below W) H5.out.1
      refine hK.out _ _ (HSH.out _ HB3.out) (fun hHeld => ?_)
      clear hK K
      try simp only [Act.put, List.setIfInBounds_toArray, List.set_cons_zero, List.set_cons_succ]
      refine takeH 15 (.slice a5 n9 c5) rfl (by kernel_rfl) (by kernel_rfl) (by kernel_rfl) (fun _ _ _ h => h) (Or.inl ⟨by rfl, ?_⟩) (by assumption) ?_
      · (intro w hSw; obtain ⟨hS0, hS1, hS2, hS3⟩ := hSw; go_simp)
      try simp only [Act.put, List.setIfInBounds_toArray, List.set_cons_zero, List.set_cons_succ]
      refine wpAnyH_done (by kernel_rfl) ?_ _
      gi_wp2
      refine region_round (fun W0 => W0.cell? ⟨w.heap.size, 0, none⟩ = some (.pointer (some ⟨tb, 0, none⟩)) ∧ W0.cell? ⟨tb, 2, none⟩ = some (.slice (some ⟨bb, bo, none⟩) N p.cb) ∧ W0.cell? ⟨b9, 0, none⟩ = some (.int .i64 (o9 : Nat)) ∧ W0.cell? ⟨b9, 1, none⟩ = some (.int .i64 (n9 : Nat))) (by kernel_rfl) (by rfl) (by rintro ⟨_, _, h⟩; exact h) (HSH.out _ (HB3.out.drew)) (fun hHeld => ?_)
      refine takeH 0 (.pointer (some ⟨tb, 0, none⟩)) rfl (by kernel_rfl) (by kernel_rfl) (by kernel_rfl) (fun _ _ _ h => h) (Or.inl ⟨by rfl, ?_⟩) (by assumption) ?_
      · (intro w hSw; obtain ⟨hS0, hS1, hS2, hS3⟩ := hSw; go_simp)
      try simp only [Act.put, List.setIfInBounds_toArray, List.set_cons_zero, List.set_cons_succ]
      refine takeH 1 (.pointer (some ⟨b9, 0, none⟩)) rfl (by kernel_rfl) (by kernel_rfl) (by kernel_rfl) (fun _ _ _ h => h) (Or.inl ⟨by rfl, ?_⟩) (by assumption) ?_
      · (intro w hSw; obtain ⟨hS0, hS1, hS2, hS3⟩ := hSw; go_simp)
      try simp only [Act.put, List.setIfInBounds_toArray, List.set_cons_zero, List.set_cons_succ]
      refine takeH 2 (.int .i64 (o9 : Nat)) rfl (by kernel_rfl) (by kernel_rfl) (by kernel_rfl) (fun _ _ _ h => h) (Or.inl ⟨by rfl, ?_⟩) (by assumption) ?_
      · (intro w hSw; obtain ⟨hS0, hS1, hS2, hS3⟩ := hSw; go_simp)
      try simp only [Act.put, List.setIfInBounds_toArray, List.set_cons_zero, List.set_cons_succ]
      refine takeH 3 (.pointer (some ⟨tb, 0, none⟩)) rfl (by kernel_rfl) (by kernel_rfl) (by kernel_rfl) (fun _ _ _ h => h) (Or.inl ⟨by rfl, ?_⟩) (by assumption) ?_
      · (intro w hSw; obtain ⟨hS0, hS1, hS2, hS3⟩ := hSw; go_simp)
      try simp only [Act.put, List.setIfInBounds_toArray, List.set_cons_zero, List.set_cons_succ]
      refine takeH 4 (.pointer (some ⟨tb, 0, none⟩)) rfl (by kernel_rfl) (by kernel_rfl) (by kernel_rfl) (fun _ _ _ h => h) (Or.inl ⟨by rfl, ?_⟩) (by assumption) ?_
      · (intro w hSw; obtain ⟨hS0, hS1, hS2, hS3⟩ := hSw; go_simp)
      try simp only [Act.put, List.setIfInBounds_toArray, List.set_cons_zero, List.set_cons_succ]
      refine takeH 5 (.pointer (some ⟨tb, 0, none⟩)) rfl (by kernel_rfl) (by kernel_rfl) (by kernel_rfl) (fun _ _ _ h => h) (Or.inl ⟨by rfl, ?_⟩) (by assumption) ?_
      · (intro w hSw; obtain ⟨hS0, hS1, hS2, hS3⟩ := hSw; go_simp)
      try simp only [Act.put, List.setIfInBounds_toArray, List.set_cons_zero, List.set_cons_succ]
      refine takeH 6 (.pointer (some ⟨tb, 0, none⟩)) rfl (by kernel_rfl) (by kernel_rfl) (by kernel_rfl) (fun _ _ _ h => h) (Or.inl ⟨by rfl, ?_⟩) (by assumption) ?_
      · (intro w hSw; obtain ⟨hS0, hS1, hS2, hS3⟩ := hSw; go_simp)
      try simp only [Act.put, List.setIfInBounds_toArray, List.set_cons_zero, List.set_cons_succ]
      refine takeH 7 (.pointer (some ⟨tb, 2, none⟩)) rfl (by kernel_rfl) (by kernel_rfl) (by kernel_rfl) (fun _ _ _ h => h) (Or.inl ⟨by rfl, ?_⟩) (by assumption) ?_
      · (intro w hSw; obtain ⟨hS0, hS1, hS2, hS3⟩ := hSw; go_simp)
      try simp only [Act.put, List.setIfInBounds_toArray, List.set_cons_zero, List.set_cons_succ]
      refine takeH 8 (.slice (some ⟨bb, bo, none⟩) N p.cb) rfl (by kernel_rfl) (by kernel_rfl) (by kernel_rfl) (fun _ _ _ h => h) (Or.inl ⟨by rfl, ?_⟩) (by assumption) ?_
      · (intro w hSw; obtain ⟨hS0, hS1, hS2, hS3⟩ := hSw; go_simp)
      try simp only [Act.put, List.setIfInBounds_toArray, List.set_cons_zero, List.set_cons_succ]
      refine takeH 9 (.int .i64 (N : Nat)) rfl (by kernel_rfl) (by kernel_rfl) (by kernel_rfl) (fun _ _ _ h => h) (Or.inl ⟨by rfl, ?_⟩) (by assumption) ?_
      · (intro w hSw; obtain ⟨hS0, hS1, hS2, hS3⟩ := hSw; go_simp)
      try simp only [Act.put, List.setIfInBounds_toArray, List.set_cons_zero, List.set_cons_succ]
      refine takeH 10 (.slice a5 n9 c5) rfl (by kernel_rfl) (by kernel_rfl) (by kernel_rfl) (fun _ _ _ h => h) (Or.inl ⟨by rfl, ?_⟩) (by assumption) ?_
      · (intro w hSw; obtain ⟨hS0, hS1, hS2, hS3⟩ := hSw; go_simp)
      try simp only [Act.put, List.setIfInBounds_toArray, List.set_cons_zero, List.set_cons_succ]
      refine takeH 11 (.agg #[.int .i64 1, .int .i64 0, .int .u32 0, .int .u32 0, .int .u32 0, .int .i64 (o9 : Nat), .int .i64 (N : Nat), .int .i64 0, .int .i64 0, .int .i64 0, .bool false, .slice a5 n9 c5, .slice none 0 0]) rfl (by kernel_rfl) (by kernel_rfl) (by kernel_rfl) (fun _ _ _ h => h) (Or.inl ⟨by rfl, ?_⟩) (by assumption) ?_
      · (intro w hSw; obtain ⟨hS0, hS1, hS2, hS3⟩ := hSw; go_simp)
      try simp only [Act.put, List.setIfInBounds_toArray, List.set_cons_zero, List.set_cons_succ]
      have HSV : Hid (SnI w tb w.heap.size n0 v0 s p (L.map SD.s) (fun k => k = bq) (pcsOf pre ++ zs) v3 L3 w3.drew) := HSN.out.1.later (below_of HB3.out (drew_below w3))
      have HAP : Hid (∀ b, a5 = some b → Apt tb (fun k => k = bq) v3 w3.drew b.block) := fun b e => by
        subst e
        have h1 := row_ltw H5.out.2.1 (by rw [HDL.out]; have := HIN.out; omega)
        have h2 := H5.out.2.2.2.2 b rfl
        have h2' : W.heap.size ≤ b.block := h2
        have h3 := HSN.out.1.sy.lt
        have h4 := HSN.out.1.sy.le
        have h5 := HSZ.out
        have h6 := HSN.out.2.2.2
        exact ⟨h1, by omega, fun e => by have := own_in HSN.out.1.sy.own _ e; omega, fun e => by have : b.block = bq := e; omega⟩
      have HLN : Hid (L3.length ≤ 1000) := by
        have h1 := congrArg List.length HSN.out.1.lst
        rw [List.length_append, List.length_map, List.length_map, List.length_map, List.length_append] at h1
        have h2 := HLP.out
        have h3 := HLL.out
        show _ ≤ _
        omega
      have HSAY : Hid (Calls Try.prog 49 #[.pointer (some ⟨tb, 0, none⟩), .agg #[.int .i64 1, .int .i64 0, .int .u32 0, .int .u32 0, .int .u32 0, .int .i64 (o9 : Nat), .int .i64 (N : Nat), .int .i64 0, .int .i64 0, .int .i64 0, .bool false, .slice a5 n9 c5, .slice none 0 0]] w3.drew fun e w' => e = .returned (.tuple #[]) ∧ Hid (∃ v', Sy w' tb n0 s p v' (L3 ++ [⟨⟨1, s.bgn.src, s.bgn.ses, 0, 0, (o9 : Int), (N : Int), 0, 0, 0, false, (s.bgn.blk.drop o9).take n9, []⟩, a5, c5, none, 0⟩]) ∧ Off (fun i => i = tb ∨ v3.ownBlock = some i) w3.drew w' ∧ ∀ k, v'.ownBlock = some k → v3.ownBlock = some k ∨ w3.drew.heap.size ≤ k)) := by
        have := say_any s p v3 tb n0 L3 ⟨⟨1, 0, 0, 0, 0, (o9 : Int), (N : Int), 0, 0, 0, false, (s.bgn.blk.drop o9).take n9, []⟩, a5, c5, none, 0⟩ w3.drew HSV.out.sy HLN.out
        unfold sv at this
        dsimp only at this
        rw [HDL.out] at this
        exact this
      refine wpAnyH_ready (rs := [12]) (by kernel_rfl) (by simp) ?_
      refine stepH 12 rfl (fun K hK => ?_) AllReadyH.nil
      go_simp
      go_at_call 49
      refine HSAY.out.mono ?_
      rintro e w4 ⟨rfl, H6⟩
      obtain ⟨v4, hq4, ho4, hv4⟩ := H6.out
      have HS4 : Hid (SnI w tb w.heap.size n0 v0 s p (L.map SD.s) (fun k => k = bq) (pcsOf pre ++ (zs ++ [(o9, n9)])) v4 (L3 ++ [⟨⟨1, s.bgn.src, s.bgn.ses, 0, 0, (o9 : Int), (N : Int), 0, 0, 0, false, (s.bgn.blk.drop o9).take n9, []⟩, a5, c5, none, 0⟩]) w4) := by
        have := HSV.out.said (x := (o9, n9)) (fun k e => by have : k = bq := e; have h5 := HSZ.out; have h6 := HSN.out.2.2.2; have h7 := (below_of HB3.out (drew_below w3)).size; omega) hq4 ho4 hv4 (by unfold segOf; rw [hNN]) (H5.out.2.1.later (drew_below w3)) ⟨by show ((s.bgn.blk.drop o9).take n9).length ≤ c5; rw [HDL.out]; exact H5.out.2.2.1, H5.out.2.2.2.1⟩ ⟨rfl, rfl⟩ HAP.out
        rw [List.append_assoc] at this
        exact this
      have HKV : Hid (KpV tb w3.drew w4 ∧ KeepsFrom w2.heap.size W w4 ∧ KpV tb W w4 ∧ KeepsFrom w1.heap.size W w4) := by
        have h1 := kpv_said HSV.out.sy hq4 ho4 hv4
        have h2 := below_of HB3.out (drew_below w3)
        exact ⟨h1, (keeps_below h2).trans (keeps_said HSV.out.sy ho4), (KpV.of_below h2).trans h1, (keeps_below h2).trans (keeps_said HSV.out.sy ho4)⟩
      have hx4 : w4.heap[b9]? = some (.cells #[.int .i64 (o9 : Nat), .int .i64 (n9 : Nat)] 56 (0, 0)) := by
        have h2 := below_of HB3.out (drew_below w3)
        exact ((farO (tb := tb) (S := fun _ => False) (fun q => q)).kp HKV.out.1 ((farO (tb := tb) (S := fun _ => False) (fun q => q)).off HX9.out.1 (Off.of_below h2)) (old_block h2 HX9.out.2)).1
      refine hK.out _ _ ⟨by rw [cell_of HS4.out.txb.1]; rfl, by rw [cell_of HS4.out.sy.box, ← hab, ← hNN]; rfl, by rw [cell_of hx4]; rfl, by rw [cell_of hx4]; rfl⟩ (fun hHeld => ?_)
      clear hK K
      try simp only [Act.put, List.setIfInBounds_toArray, List.set_cons_zero, List.set_cons_succ]
      refine wpAnyH_done (by kernel_rfl) ?_ _
      clear hx4 hq4 ho4 hv4 hHeld
      gi_wp2
      exact ⟨HKV.out.2.1, HKV.out.2.2.1, ⟨by have h5 := HSN.out.2.2.2; have := HKV.out.2.2.1.size; omega, _, _, HS4.out⟩, HSN.out.2.1.trans HKV.out.2.2.1, HSN.out.2.2.1.trans HKV.out.2.2.2⟩
    case done2 =>
      intro zs W hE ht hi
      obtain ⟨⟨hsz, v3, L3, hsn⟩, hkp, hkf⟩ := hi
      exact ⟨hkf, hkp, by have := HSZ.out; omega, v3, L3, by rw [pcsOf_snoc, ← hE]; exact hsn.free⟩
  case done =>
    rintro D ys W' hD rfl hpre hi hK
    obtain ⟨_, v6, L6, hsn⟩ := hi
    have hl6 : 0 < L6.length := by
      have h1 := congrArg List.length hsn.lst
      rw [List.length_append, List.length_map, List.length_map, List.length_map] at h1
      have h2 : 0 < (pcsOf (gpF s0.got s.bgn.blk.length)).length := by
        match hgp : gpF s0.got s.bgn.blk.length, hne with
        | [], h => exact absurd rfl h
        | r :: R, _ =>
          unfold pcsOf
          rw [List.flatMap_cons, List.length_append, pcF_len]
          omega
      omega
    obtain ⟨M6, X6, rfl⟩ : ∃ M X, L6 = M ++ [X] := by
      rcases List.eq_nil_or_concat L6 with h | ⟨M, X, h⟩
      · rw [h] at hl6; simp at hl6
      · exact ⟨M, X, by rw [h, List.concat_eq_append]⟩
    obtain ⟨x6, hx6, hX6⟩ : ∃ x6, x6 ∈ pcsOf (gpF s0.got s.bgn.blk.length) ∧ X6.s = segOf s x6 := by
      have hne2 : pcsOf (gpF s0.got s.bgn.blk.length) ≠ [] := by
        match hgp : gpF s0.got s.bgn.blk.length, hne with
        | [], h => exact absurd rfl h
        | r :: R, _ =>
          intro e
          have := congrArg List.length e
          unfold pcsOf at this
          rw [List.flatMap_cons, List.length_append, pcF_len] at this
          simp at this
      rcases List.eq_nil_or_concat (pcsOf (gpF s0.got s.bgn.blk.length)) with h | ⟨D6, y6, h⟩
      · exact absurd h hne2
      · rw [List.concat_eq_append] at h
        have h1 := hsn.lst
        rw [h, List.map_append, List.map_append, ← List.append_assoc] at h1
        have h2 := List.append_inj_right' h1 rfl
        simp at h2
        exact ⟨y6, by rw [h]; simp, h2⟩
    have HX6 : Hid (X6.s = segOf s x6 ∧ x6.1 + x6.2 ≤ s.bgn.blk.length ∧ x6.2 ≤ 100 ∧ s.bgn.blk.length ≤ 512) := by
      unfold pcsOf at hx6
      obtain ⟨r, hr1, hr2⟩ := List.mem_flatMap.1 hx6
      have h1 := HRO.out.each r hr1
      have h2 := pcF_in h1.1 hr2
      exact ⟨hX6, by omega, h2.2.2.1, HRO.out.n⟩
    obtain ⟨n6, hn6⟩ : ∃ n6, (M6 ++ [X6]).length = n6 := ⟨_, rfl⟩
    have hn7 : M6.length + 1 = n6 := by rw [← hn6]; simp
    obtain ⟨g, cap, hv6, hg6⟩ : ∃ g cap, v6 = .slice (some ⟨g, 0, none⟩) n6 cap ∧ W'.ownsRow n0 29 13 (.slice (some ⟨g, 0, none⟩) n6 cap) n6 (dcl (M6 ++ [X6])) := by
      have ho := hsn.sy.own
      rw [hn6] at ho
      rcases ho.2 with ⟨_, h0⟩ | ⟨g, cap, cur, hv, _⟩
      · omega
      · rw [hv] at ho
        exact ⟨g, cap, hv, ho⟩
    subst hv6
    have HSN : Hid (SnI w tb w.heap.size n0 v0 s p (L.map SD.s) (fun _ => False) (pcsOf (gpF s0.got s.bgn.blk.length)) (.slice (some ⟨g, 0, none⟩) n6 cap) (M6 ++ [X6]) W' ∧ W'.heap[D]? = some (.deferred (some [])) ∧ w1.heap.size ≤ D) := ⟨hsn, hK, hD⟩
    obtain ⟨k6, hk6⟩ : ∃ k6, M6.length = k6 := ⟨_, rfl⟩
    have HK6 : Hid (M6.length = k6 ∧ k6 + 1 = n6 ∧ n6 ≤ 1000) := by
      have h1 := congrArg List.length hsn.lst
      rw [List.length_append, List.length_map, List.length_map, List.length_map] at h1
      have h2 := pcs_len (R := gpF s0.got s.bgn.blk.length) (fun q hq => by have := HRO.out.each q hq; have := HRO.out.n; omega)
      have h3 := HRO.out.len
      have h4 := HLL.out
      exact ⟨hk6, by omega, by omega⟩
    have HG6 : Hid (W'.ownsRow n0 29 13 (.slice (some ⟨g, 0, none⟩) n6 cap) n6 (dcl (M6 ++ [X6]))) := hg6
    have t0 : W'.cell? ⟨w.heap.size, 0, none⟩ = some (.pointer (some ⟨tb, 0, none⟩)) := by rw [cell_of hsn.txb.1]; rfl
    have t24 : W'.cell? ⟨tb, 24, none⟩ = some (.slice (some ⟨g, 0, none⟩) n6 cap) := by rw [cell_of hsn.sy.box]; rfl
    have u0 : W'.drew.cell? ⟨w.heap.size, 0, none⟩ = some (.pointer (some ⟨tb, 0, none⟩)) := t0
    have u24 : W'.drew.cell? ⟨tb, 24, none⟩ = some (.slice (some ⟨g, 0, none⟩) n6 cap) := t24
    have hw6 : IntKind.i64.wrap ((n6 : Int) - 1) = (k6 : Int) := by rw [IntKind.wrap_i64]; have := HK6.out; omega
    have hk0 : (0 : Int) ≤ (k6 : Int) := by omega
    have hk1 : (k6 : Int) < (n6 : Int) := by have := HK6.out; omega
    have hk2 : k6 < n6 := by have := HK6.out; omega
    clear hsn hK hseq hpre hl6 hn6 hn7 hk6 hg6 hx6 hX6
    gi_wp2
    refine wpIn_wide.2 ?_
    go_region_held3 (fun W0 => W0.cell? ⟨w.heap.size, 0, none⟩ = some (.pointer (some ⟨tb, 0, none⟩)) ∧ W0.cell? ⟨tb, 24, none⟩ = some (.slice (some ⟨g, 0, none⟩) n6 cap)) (first | exact ⟨u0, u24⟩ | exact ⟨t0, t24⟩) (fail)
    have hd := drew_below W'
    have HS7 : Hid (SnI w tb w.heap.size n0 v0 s p (L.map SD.s) (fun _ => False) (pcsOf (gpF s0.got s.bgn.blk.length)) (.slice (some ⟨g, 0, none⟩) n6 cap) (M6 ++ [X6]) W'.drew ∧ W'.drew.heap[D]? = some (.deferred (some [])) ∧ w1.heap.size ≤ D) := ⟨HSN.out.1.later hd, HSN.out.2⟩
    have HG7 : Hid (W'.drew.ownsRow n0 29 13 (.slice (some ⟨g, 0, none⟩) n6 cap) n6 (dcl (M6 ++ [X6]))) := (Off.of_below (S := fun _ => False) hd).owns HG6.out (fun _ _ t => t)
    clear hd HSN HG6 t0 t24 u0 u24
    generalize W'.drew = W7 at HS7 HG7 ⊢
    have y10 : W7.cell? ⟨g, k6 * 13 + 10, none⟩ = some (.bool X6.s.chk) := by rw [(own_cell HG7.out (by omega)).1, ← HK6.out.1, dcl_at M6 X6 (by omega)]; rfl
    have f10 := (own_cell HG7.out (i := k6 * 13 + 10) (by omega)).2
    have HG8 := (World.ownsRow.stored HG7.out (k6 * 13 + 10) (.bool true)).1
    have y3 : (W7.setCell ⟨g, k6 * 13 + 10, none⟩ (.bool true)).cell? ⟨g, k6 * 13 + 3, none⟩ = some (.int .u32 (X6.s.ser : Nat)) := by
      rw [(own_cell HG8 (by omega)).1, List.getElem?_set_ne (by omega), ← HK6.out.1, dcl_at M6 X6 (by omega)]
      rfl
    have f3 := (own_cell HG8 (i := k6 * 13 + 3) (by omega)).2
    have HG9 : Hid (((W7.setCell ⟨g, k6 * 13 + 10, none⟩ (.bool true)).setCell ⟨g, k6 * 13 + 3, none⟩ (.int .u32 (ser : Nat))).ownsRow n0 29 13 (.slice (some ⟨g, 0, none⟩) n6 cap) n6 (dcl (M6 ++ [{ X6 with s := { X6.s with chk := true, ser := ser } }]))) := by
      have := (World.ownsRow.stored HG8 (k6 * 13 + 3) (.int .u32 (ser : Nat))).1
      rw [← HK6.out.1, dcl_set] at this
      rw [← HK6.out.1]
      exact this
    have HO9 : Hid (Off (fun i => i = g) W7 ((W7.setCell ⟨g, k6 * 13 + 10, none⟩ (.bool true)).setCell ⟨g, k6 * 13 + 3, none⟩ (.int .u32 (ser : Nat)))) := ((Off.refl (fun i => i = g) W7).setCell (p := ⟨g, k6 * 13 + 10, none⟩) (.inr rfl) _).setCell (p := ⟨g, k6 * 13 + 3, none⟩) (.inr rfl) _
    clear HG8
    gi_wp2
    obtain ⟨Y6, hY6⟩ : ∃ Y6 : SD, ({ X6 with s := { X6.s with chk := true, ser := ser } } : SD) = Y6 := ⟨_, rfl⟩
    have HY6 : Hid (({ X6 with s := { X6.s with chk := true, ser := ser } } : SD) = Y6) := hY6
    rw [hY6] at HG9
    have hgt : g ≠ tb := fun e => by have := own_ge HG7.out g rfl; have := HS7.out.1.sy.lt; omega
    have HS9 : Hid (Sy ((W7.setCell ⟨g, k6 * 13 + 10, none⟩ (.bool true)).setCell ⟨g, k6 * 13 + 3, none⟩ (.int .u32 (ser : Nat))) tb n0 s p (.slice (some ⟨g, 0, none⟩) n6 cap) (M6 ++ [Y6])) := by
      refine ⟨HO9.out.at HS7.out.1.sy.box (fun e => hgt e.symm), ?_, HS7.out.1.sy.lt, Nat.le_trans HS7.out.1.sy.le HO9.out.size⟩
      rw [show (M6 ++ [Y6]).length = n6 by rw [List.length_append]; have := HK6.out; simp; omega]
      exact HG9.out
    have HE9 : Hid (∀ x ∈ M6 ++ [Y6], Row ((W7.setCell ⟨g, k6 * 13 + 10, none⟩ (.bool true)).setCell ⟨g, k6 * 13 + 3, none⟩ (.int .u32 (ser : Nat))) x.a x.s.dat ∧ x.s.dat.length ≤ x.c ∧ x.c ≤ maxLen ∧ x.a2 = none ∧ x.c2 = 0 ∧ ∀ b, x.a = some b → b.block ≠ tb) := fun x hx => by
      have old : ∀ y ∈ M6 ++ [X6], Row ((W7.setCell ⟨g, k6 * 13 + 10, none⟩ (.bool true)).setCell ⟨g, k6 * 13 + 3, none⟩ (.int .u32 (ser : Nat))) y.a y.s.dat ∧ y.s.dat.length ≤ y.c ∧ y.c ≤ maxLen ∧ y.a2 = none ∧ y.c2 = 0 ∧ ∀ b, y.a = some b → b.block ≠ tb := fun y hy => by
        obtain ⟨r1, r2, r3, r4, r5, r6⟩ := HS7.out.1.each y hy
        exact ⟨r1.off HO9.out (fun _ b e q => (r6 b e).2.2.1 (by show some g = some b.block; have : b.block = g := q; rw [this])), r2, r3, r4, r5, fun b e => (r6 b e).2.1⟩
      rcases List.mem_append.1 hx with hx | hx
      · exact old x (List.mem_append_left _ hx)
      · rw [List.mem_singleton] at hx
        subst hx
        rw [← HY6.out]
        exact old X6 (by simp)
    have HB9 : Hid (Row ((W7.setCell ⟨g, k6 * 13 + 10, none⟩ (.bool true)).setCell ⟨g, k6 * 13 + 3, none⟩ (.int .u32 (ser : Nat))) p.ab s.bgn.blk ∧ (∀ b, p.ab = some b → b.block ≠ tb) ∧ ((W7.setCell ⟨g, k6 * 13 + 10, none⟩ (.bool true)).setCell ⟨g, k6 * 13 + 3, none⟩ (.int .u32 (ser : Nat))).heap[w.heap.size]? = some (.cells #[.pointer (some ⟨tb, 0, none⟩)] 101 (0, 0)) ∧ ((W7.setCell ⟨g, k6 * 13 + 10, none⟩ (.bool true)).setCell ⟨g, k6 * 13 + 3, none⟩ (.int .u32 (ser : Nat))).heap[D]? = some (.deferred (some [])) ∧ Off (fun i => i = tb ∨ v0.ownBlock = some i) w ((W7.setCell ⟨g, k6 * 13 + 10, none⟩ (.bool true)).setCell ⟨g, k6 * 13 + 3, none⟩ (.int .u32 (ser : Nat)))) := by
      refine ⟨HS7.out.1.blk.1.off HO9.out (fun _ b e q => (HS7.out.1.blk.2 b e).2.2.1 (by show some g = some b.block; have : b.block = g := q; rw [this])), fun b e => (HS7.out.1.blk.2 b e).2.1, HO9.out.at HS7.out.1.txb.1 (fun q => HS7.out.1.txb.2.2.2.1 (by show some g = some _; rw [show w.heap.size = g from q])), HO9.out.at HS7.out.2.1 (fun q => ?_), HS7.out.1.off.trans HO9.out (fun i hi q => ?_)⟩
      · have := (own_cell HG7.out (i := 0) (by have := HK6.out; omega)).1
        rcases HG7.out.2 with ⟨h', _⟩ | ⟨g', cap', cur, h', _, hg, _⟩
        · simp at h'
        · simp only [Value.slice.injEq, Option.some.injEq, Addr.mk.injEq, and_true, true_and] at h'
          obtain ⟨rfl, rfl⟩ := h'
          have q' : D = g := q
          rw [← q'] at hg
          rw [HS7.out.2.1] at hg
          cases hg
      · have q' : i = g := q
        rcases HS7.out.1.vo g rfl with h | h
        · exact .inr (by rw [q']; exact h)
        · omega
    have HVO : Hid (∀ k, (Value.slice (some ⟨g, 0, none⟩) n6 cap).ownBlock = some k → v0.ownBlock = some k ∨ w.heap.size ≤ k) := HS7.out.1.vo
    have HLS : Hid ((M6 ++ [X6]).map SD.s = L.map SD.s ++ (pcsOf (gpF s0.got s.bgn.blk.length)).map (segOf s)) := HS7.out.1.lst
    have HDD : Hid (w1.heap.size ≤ D ∧ w.heap.size < w1.heap.size) := ⟨HS7.out.2.2, HW2.out⟩
    clear HS7 HG7 HO9 y10 f10 y3 f3 hgt hY6
    generalize (W7.setCell ⟨g, k6 * 13 + 10, none⟩ (.bool true)).setCell ⟨g, k6 * 13 + 3, none⟩ (.int .u32 (ser : Nat)) = w9 at HG9 HS9 HE9 HB9 ⊢
    have HDL6 : Hid (Y6.s.dat.length ≤ 100 ∧ Y6.s.cls = []) := by
      rw [← HY6.out]
      have h6 := HX6.out
      refine ⟨?_, by show X6.s.cls = []; rw [h6.1]; rfl⟩
      show X6.s.dat.length ≤ 100
      rw [h6.1]
      show ((s.bgn.blk.drop x6.1).take x6.2).length ≤ 100
      rw [List.length_take]
      omega
    have HXC : Hid (Came w9.drew Y6.s Y6.a Y6.c Y6.a2 Y6.c2) := by
      obtain ⟨r1, r2, r3, r4, r5, _⟩ := HE9.out Y6 (by simp)
      have hd := HDL6.out
      rw [r4, r5]
      refine ⟨?_, r1.later (drew_below w9), ?_, r2, r3, ?_, by unfold maxLen; omega⟩
      · rw [← HY6.out]
        have h6 := HX6.out
        have hs := HSR.out
        constructor
        all_goals first
          | (show in64 _; rw [show X6.s = segOf s x6 from h6.1]; first | exact hs.1 | (unfold in64 segOf; simp only; omega))
          | exact hs.2.2
          | (show X6.s.ses < _; rw [h6.1]; exact hs.2.1)
          | (show X6.s.cks < _; rw [h6.1]; show 0 < 4294967296; omega)
          | (show X6.s.dat.length ≤ _; rw [← HY6.out] at hd; have : X6.s.dat.length ≤ 100 := hd.1; omega)
          | (show X6.s.cls.length ≤ _; rw [h6.1]; simp [segOf])
          | (intro c hc; rw [show X6.s = segOf s x6 from h6.1] at hc; simp [segOf] at hc)
      · rw [hd.2]; exact rowC_nil _ _
      · rw [hd.2]; simp
    obtain ⟨cx, hcx⟩ : ∃ cx, Hid (cx = Y6.cells) := ⟨_, rfl⟩
    have hx13 : cx.length = 13 := by rw [hcx.out]; rfl
    have hxz : (Try.prog.info? 29).map (·.size) = some cx.length := by rw [hx13]; kernel_rfl
    have hs13 : Hid ((Try.prog.info? 29).map (·.size) = some 13) := by show _ = _; kernel_rfl
    have HRX : Hid (w9.drew.rangeAt g (k6 * 13) cx) := by
      intro j u hu
      have hj : j < 13 := by have := (List.getElem?_eq_some_iff.1 hu).1; omega
      show w9.cell? _ = _
      rw [(own_cell HG9.out (i := k6 * 13 + j) (by omega)).1, ← HK6.out.1, dcl_at M6 Y6 hj, ← hcx.out]
      exact hu
    have HDS : Hid (Calls Try.prog 67 #[.agg cx.toArray] w9.drew fun e w' => ∃ a' c' a2' c2' l, e = .returned (.agg l.toArray) ∧ Hid (l = sgcells Y6.s a' c' a2' c2') ∧ Hid (Below w9.drew.heap.size w9.drew w' ∧ Came w' Y6.s a' c' a2' c2' ∧ (∀ bb, a' = some bb → w9.drew.heap.size ≤ bb.block) ∧ (∀ bb, a2' = some bb → w9.drew.heap.size ≤ bb.block))) := by
      rw [hcx.out]
      exact (deepS_any Y6.s Y6.a Y6.c Y6.a2 Y6.c2 w9.drew HXC.out (by have := HDL6.out.1; omega) (by rw [HDL6.out.2]; simp)).mono (by rintro e w' ⟨a', c', a2', c2', rfl, hq⟩; exact ⟨a', c', a2', c2', _, rfl, rfl, hq⟩)
    have x0 : w9.cell? ⟨w.heap.size, 0, none⟩ = some (.pointer (some ⟨tb, 0, none⟩)) := by rw [cell_of HB9.out.2.2.1]; rfl
    have x1 : w9.drew.cell? ⟨w.heap.size, 0, none⟩ = some (.pointer (some ⟨tb, 0, none⟩)) := x0
    refine wpIn_wide.2 ?_
    refine wp_region_noPanic ?_
    refine wp_region_held_drew (S := fun W0 => W0.cell? ⟨w.heap.size, 0, none⟩ = some (.pointer (some ⟨tb, 0, none⟩))) (by kernel_rfl) x1 (fun hHeld => ?_)
    refine takeH 0 (.pointer (some ⟨tb, 0, none⟩)) rfl (by kernel_rfl) (by kernel_rfl) (by kernel_rfl) (fun _ _ _ h => h) (Or.inl ⟨by rfl, ?_⟩) (by assumption) ?_
    · (intro w hSw; go_simp)
    try simp only [Act.put, List.setIfInBounds_toArray, List.set_cons_zero, List.set_cons_succ]
    refine takeH 1 (.pointer (some ⟨g, k6 * 13, none⟩)) rfl (by kernel_rfl) (by kernel_rfl) (by kernel_rfl) (fun _ _ _ h => h) (Or.inl ⟨by rfl, ?_⟩) (by assumption) ?_
    · (intro w hSw; go_simp)
    try simp only [Act.put, List.setIfInBounds_toArray, List.set_cons_zero, List.set_cons_succ]
    refine takeH 2 (.pointer (some ⟨g, k6 * 13, none⟩)) rfl (by kernel_rfl) (by kernel_rfl) (by kernel_rfl) (fun _ _ _ h => h) (Or.inl ⟨by rfl, ?_⟩) (by assumption) ?_
    · (intro w hSw; go_simp)
    try simp only [Act.put, List.setIfInBounds_toArray, List.set_cons_zero, List.set_cons_succ]
    refine wpAnyH_ready (rs := [3]) (by kernel_rfl) (by simp) ?_
    refine stepH 3 rfl (fun K hK => ?_) AllReadyH.nil
    refine step_load (by rfl) 29 _ rfl g (k6 * 13) (by rfl) cx _ HRX.out Try.underlying29 rfl hxz ?_
    refine hK.out _ _ x1 (fun hHeld => ?_)
    clear hK K
    try simp only [Act.put, List.setIfInBounds_toArray, List.set_cons_zero, List.set_cons_succ]
    refine wpAnyH_ready (rs := [4]) (by kernel_rfl) (by simp) ?_
    refine stepH 4 rfl (fun K hK => ?_) AllReadyH.nil
    go_simp
    go_at_call 67
    refine HDS.out.mono ?_
    rintro e w10 ⟨a', c', a2', c2', l, rfl, hl, hq10⟩
    have x2 := cell_later hq10.out.1 x1
    refine hK.out _ _ x2 (fun hHeld => ?_)
    clear hK K
    try simp only [Act.put, List.setIfInBounds_toArray, List.set_cons_zero, List.set_cons_succ]
    have HBT : Hid (w10.heap[tb]? = some (tnc s p (.slice (some ⟨g, 0, none⟩) n6 cap))) := old_block hq10.out.1 (show w9.drew.heap[tb]? = _ from HS9.out.box)
    have hth : w10.there tb 7 l.toArray.size := turn_there HBT.out (Nat.le_of_eq (by rw [hl.out]; rfl))
    have hl13 : (Try.prog.info? 29).map (·.size) = some l.toArray.size := by rw [show l.toArray.size = 13 by rw [hl.out]; rfl]; exact hs13.out
    have h1c : l.toArray.all (·.oneCell') = true := by rw [hl.out]; exact sg_one _ _ _ _ _
    have htx : w.heap.size ≠ tb := fun e => by have := HTW.out; omega
    have x3 : (w10.setCells tb 7 l).cell? ⟨w.heap.size, 0, none⟩ = some (.pointer (some ⟨tb, 0, none⟩)) := (setC_off w10 tb 7 l).cell x2 (fun e => htx e)
    have hHeld := x2
    refine takeH 5 (.pointer (some ⟨tb, 0, none⟩)) rfl (by kernel_rfl) (by kernel_rfl) (by kernel_rfl) (fun _ _ _ h => h) (Or.inl ⟨by rfl, ?_⟩) (by assumption) ?_
    · (intro w hSw; go_simp)
    try simp only [Act.put, List.setIfInBounds_toArray, List.set_cons_zero, List.set_cons_succ]
    refine takeH 6 (.pointer (some ⟨tb, 0, none⟩)) rfl (by kernel_rfl) (by kernel_rfl) (by kernel_rfl) (fun _ _ _ h => h) (Or.inl ⟨by rfl, ?_⟩) (by assumption) ?_
    · (intro w hSw; go_simp)
    try simp only [Act.put, List.setIfInBounds_toArray, List.set_cons_zero, List.set_cons_succ]
    refine takeH 7 (.pointer (some ⟨tb, 7, none⟩)) rfl (by kernel_rfl) (by kernel_rfl) (by kernel_rfl) (fun _ _ _ h => h) (Or.inl ⟨by rfl, ?_⟩) (by assumption) ?_
    · (intro w hSw; go_simp)
    try simp only [Act.put, List.setIfInBounds_toArray, List.set_cons_zero, List.set_cons_succ]
    refine wpAnyH_ready (rs := [8]) (by kernel_rfl) (by simp) ?_
    refine stepH 8 rfl (fun K hK => ?_) AllReadyH.nil
    refine step_store (by rfl) 29 _ _ rfl tb 7 l.toArray (by rfl) (by rfl) hth hl13 h1c ?_
    rw [show l.toArray.toList = l from rfl]
    refine hK.out _ _ x3 (fun hHeld => ?_)
    clear hK K
    try simp only [Act.put]
    refine wpAnyH_done (by kernel_rfl) ?_ _
    refine NoPanic.normal ?_
    have HB11 : Hid ((w10.setCells tb 7 l).heap[tb]? = some (tnc { s with lst := Y6.s } { p with ad := a', cd := c', ac := a2', cc := c2' } (.slice (some ⟨g, 0, none⟩) n6 cap))) := by
      have := heap_setMid (q := tb) (t := 75) [.int .i64 s.due, .int .i64 s.ask, .slice p.an s.sen.length p.cn, .int .i64 s.rea, .slice (some ⟨g, 0, none⟩) n6 cap] l [.int .i64 s.bgn.src, .int .u32 (s.bgn.ses : Nat), .slice p.ab s.bgn.blk.length p.cb, .int .i64 s.bgn.wai, .int .i64 s.bgn.tri, .int .i64 s.sta, .slice p.ag s.got.length p.cg] (sgcells s.lst p.ad p.cd p.ac p.cc) w10 (by rw [hl.out]; rfl) HBT.out
      rw [hl.out] at this ⊢
      exact this
    have HWT := wait_any { s with lst := Y6.s } { p with ad := a', cd := c', ac := a2', cc := c2' } (.slice (some ⟨g, 0, none⟩) n6 cap) tb now (w10.setCells tb 7 l) HB11.out hnow hwai
    have HWH : Hid (Calls Try.prog 69 #[.pointer (some ⟨tb, 0, none⟩), .int .i64 now] (w10.setCells tb 7 l) fun e w' => e = .returned (.tuple #[]) ∧ w' = ((w10.setCells tb 7 l).setCell ⟨tb, 20, none⟩ (.int .i64 (now + s.bgn.wai))).setCell ⟨tb, 21, none⟩ (.int .i64 0)) := HWT
    have HO11 : Hid (Off (fun i => i = tb) w10 (w10.setCells tb 7 l)) := setC_off w10 tb 7 l
    have HB10 : Hid (Below w9.heap.size w9 w10 ∧ Came w10 Y6.s a' c' a2' c2' ∧ (∀ bb, a' = some bb → w9.heap.size ≤ bb.block) ∧ (∀ bb, a2' = some bb → w9.heap.size ≤ bb.block)) := ⟨below_of (drew_below w9) hq10.out.1, hq10.out.2.1, hq10.out.2.2.1, hq10.out.2.2.2⟩
    clear HWT hl hq10 hth hl13 h1c hHeld HBT x0 x1 x2
    generalize w10.setCells tb 7 l = w11 at HB11 HWH HO11 x3 ⊢
    gi_wp2_with (first | (refine ⟨trivial, ?_⟩; gi_at_call 69; refine (callsIn_wide.2 HWH.out).mono ?_; rintro e w12 ⟨rfl, rfl⟩) | (gi_at_call 69; refine (callsIn_wide.2 HWH.out).mono ?_; rintro e w12 ⟨rfl, rfl⟩))
    have HB12 : Hid (((w11.setCell ⟨tb, 20, none⟩ (.int .i64 (now + s.bgn.wai))).setCell ⟨tb, 21, none⟩ (.int .i64 0)).heap[tb]? = some (tnc { s with lst := Y6.s, due := now + s.bgn.wai, ask := 0 } { p with ad := a', cd := c', ac := a2', cc := c2' } (.slice (some ⟨g, 0, none⟩) n6 cap))) := by
      show _ = _
      rw [heap_setCell_same _ _ _ _ _ _ (heap_setCell_same _ _ _ _ _ _ HB11.out)]
      rfl
    have HO12 : Hid (Off (fun i => i = tb) w11 ((w11.setCell ⟨tb, 20, none⟩ (.int .i64 (now + s.bgn.wai))).setCell ⟨tb, 21, none⟩ (.int .i64 0))) := ((Off.refl (fun i => i = tb) w11).setCell (p := ⟨tb, 20, none⟩) (.inr rfl) _).setCell (p := ⟨tb, 21, none⟩) (.inr rfl) _
    generalize (w11.setCell ⟨tb, 20, none⟩ (.int .i64 (now + s.bgn.wai))).setCell ⟨tb, 21, none⟩ (.int .i64 0) = w12 at HB12 HO12 ⊢
    have HO : Hid (Off (fun i => i = tb) w9 w12) := ((Off.of_below (S := fun i => i = tb) HB10.out.1).trans HO11.out (fun _ _ q => q)).trans HO12.out (fun _ _ q => q)
    have hDt : D ≠ tb := by have := HDD.out; have := HTW.out; omega
    have hDf : w12.heap[D]? = some (.deferred (some [])) := HO.out.at HB9.out.2.2.2.1 (fun q => hDt q)
    have hD9 : D < w9.heap.size := (Array.getElem?_eq_some_iff.1 HB9.out.2.2.2.1).1
    have cD : ∀ {b i : Nat} {u : Value}, w9.cell? ⟨b, i, none⟩ = some u → b ≠ D := fun {b i u} hu e => by
      subst e
      obtain ⟨C, t, fr, he⟩ := cell_is hu
      rw [HB9.out.2.2.2.1] at he
      cases he
    have ho : Off (fun i => i = tb ∨ i = D) w9 (w12.putObj D (.deferred none)) := (HO.out.mono (fun _ _ q => .inl q)).trans (put_def (W := w12) (D := D) (o := .deferred none)) (fun _ _ q => .inr q)
    have ho2 : Off (fun i => i = tb ∨ i = D) w10 (w12.putObj D (.deferred none)) := ((HO11.out.trans HO12.out (fun _ _ q => q)).mono (fun _ _ q => .inl q)).trans (put_def (W := w12) (D := D) (o := .deferred none)) (fun _ _ q => .inr q)
    have rk : ∀ {a : Option Addr} {l : List Nat}, Row w9 a l → (∀ b, a = some b → b.block ≠ tb) → Row (w12.putObj D (.deferred none)) a l := fun {a l} hr hb => hr.off ho (fun h0 b e => by
      rintro (q | q)
      · exact hb b e q
      · subst e
        obtain ⟨b', o', e', hc⟩ := hr.2.2 h0
        cases e'
        exact cD (hc 0 h0) q)
    refine ⟨by simp, .inl ⟨_, _, rfl, run_takeDeferred hDf, ?_⟩⟩
    refine ⟨_, results_none rfl _ _ _, rfl, .slice (some ⟨g, 0, none⟩) n6 cap, M6, X6, a', c', a2', c2', ?_, HLS.out⟩
    rw [HY6.out]
    have hY6s : Y6.s = { X6.s with chk := true, ser := ser } := by rw [← HY6.out]
    rw [← hY6s]
    refine ⟨⟨(put_def (W := w12) (D := D) (o := .deferred none)).at HB12.out (fun q => hDt q.symm), ho.owns HS9.out.own (fun k e => ?_), HS9.out.lt, Nat.le_trans HS9.out.le ho.size⟩, fun x hx => ?_, rk HB9.out.1 HB9.out.2.1, ?_, HB9.out.2.2.2.2.trans ho (fun i hi q => ?_), HVO.out⟩
    · have hk : k = g := by cases e; rfl
      subst hk
      obtain ⟨u, hu⟩ : ∃ u, w9.cell? ⟨k, 0, none⟩ = some u := ⟨_, by rw [(own_cell HG9.out (i := 0) (by have := HK6.out; omega)).1]; exact List.getElem?_eq_getElem (by rw [dcl_len]; simp)⟩
      rintro (q | q)
      · have := own_ge HG9.out k rfl; have := HS9.out.lt; omega
      · exact cD hu q
    · obtain ⟨r1, r2, r3, r4, r5, r6⟩ := HE9.out x hx
      exact ⟨rk r1 r6, r2, r3, r4, r5⟩
    · have hc := HB10.out.2.1
      refine ⟨hc.fit, hc.row.off ho2 (fun h0 b e => ?_), ⟨hc.rowc.1, fun h0 => ?_⟩, hc.le, hc.cap, hc.lec, hc.capc⟩
      · have h1 := HB10.out.2.2.1 b e
        have h2 := HTW.out
        have h3 := HB9.out.2.2.2.2.size
        rintro (q | q) <;> omega
      · rw [HDL6.out.2] at h0
        simp at h0
    · rcases q with q | q
      · exact .inl q
      · have := HDD.out; omega
end Go.Proofs.Ytnjcaolkcmpdcaa
