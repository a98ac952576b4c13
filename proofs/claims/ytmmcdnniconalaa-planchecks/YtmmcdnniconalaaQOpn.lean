/- The walk of plan.Open. -/
import Derived.Test.YtmmcdnniconalaaQIter
import Derived.Test.YtmmcdnniconalaaQCheck
import Derived.Test.YtmmcdnniconalaaQRound
import Derived.Test.YtmmcdnniconalaaQEarl
namespace Go.Proofs.Ytmmcdnniconalaa
open Go.RowKit Go.Shelf
set_option linter.unusedVariables false
/-- is the contact the one that is asked for? -/
def hit (t n : Int) (c : Ct) : Bool := (c.to == t && decide (c.st ≤ n)) && decide (n < c.en)
/-- the first of the first k that is open, or -1. -/
def opnK (X : List Ct) (f t n : Int) : Nat → Int
  | 0 => -1
  | k + 1 => if opnK X f t n k < 0 then (match X[k]? with | some c => if c.frm = f ∧ hit t n c = true then (k : Int) else -1 | none => -1) else opnK X f t n k
theorem opnK_none {X : List Ct} {f t n : Int} : ∀ m, (∀ y ∈ ysK (lvP f) X m, hit t n y.2 = false) → opnK X f t n m = -1
  | 0, _ => rfl
  | k + 1, h => by
    have ih := opnK_none (X := X) (f := f) (t := t) (n := n) k (fun y hy => h y ((ysK_pre _ _ (by omega)).subset hy))
    rw [opnK, ih, if_pos (by omega)]
    cases hc : X[k]? with
    | none => rfl
    | some c =>
      simp only
      rw [if_neg]
      rintro ⟨h1, h2⟩
      have := h (k, c) (ysK_in (by omega) hc (by simp [lvP, h1]))
      rw [h2] at this
      cases this
theorem opnK_stay {X : List Ct} {f t n : Int} {j : Nat} (h : 0 ≤ opnK X f t n j) : ∀ m, j ≤ m → opnK X f t n m = opnK X f t n j
  | 0, hm => by obtain rfl : j = 0 := by omega
                rfl
  | k + 1, hm => by
    by_cases e : j = k + 1
    · rw [e]
    · have ih := opnK_stay h k (by omega)
      rw [opnK, ih, if_neg (by omega)]
/-- those ahead of a place are handed over ahead of it. -/
theorem ys_ahead {p : Nat → Ct → Bool} {X : List Ct} {m : Nat} {pre : List (Nat × Ct)} {y : Nat × Ct} (h : pre ++ [y] <+: ysK p X m) : ∀ z ∈ ysK p X y.1, z ∈ pre := by
  obtain ⟨r, hr⟩ := h
  intro z hz
  have hy : y ∈ ysK p X m := by rw [← hr]; simp
  obtain ⟨h1, h2, h3⟩ := ysK_mem hy
  obtain ⟨r2, hr2⟩ := ysK_pre p X (show y.1 ≤ m by omega)
  have hsplit : pre ++ ([y] ++ r) = ysK p X y.1 ++ r2 := by rw [hr2, ← hr]; simp
  rcases List.append_eq_append_iff.1 hsplit with ⟨a, ha, hb⟩ | ⟨a, ha, hb⟩
  · cases a with
    | nil => rw [List.append_nil] at ha; rw [ha] at hz; exact hz
    | cons q qs =>
      exfalso
      simp only [List.cons_append, List.nil_append, List.cons.injEq] at hb
      obtain ⟨e, _⟩ := hb
      have : y ∈ ysK p X y.1 := by rw [ha, e]; simp
      have := (ysK_mem this).1
      omega
  · rw [ha]; exact List.mem_append_left _ hz
theorem opnK_hit {X : List Ct} {f t n : Int} {m : Nat} {pre : List (Nat × Ct)} {y : Nat × Ct} (h : pre ++ [y] <+: ysK (lvP f) X m) (hp : ∀ z ∈ pre, hit t n z.2 = false) (hy : hit t n y.2 = true) : opnK X f t n m = (y.1 : Int) := by
  have hm : y ∈ ysK (lvP f) X m := h.subset (by simp)
  obtain ⟨h1, h2, h3⟩ := ysK_mem hm
  have hf : y.2.frm = f := of_decide_eq_true h3
  have h0 := opnK_none (X := X) (f := f) (t := t) (n := n) y.1 (fun z hz => hp z (ys_ahead h z hz))
  have hs : opnK X f t n (y.1 + 1) = (y.1 : Int) := by
    rw [opnK, h0, if_pos (by omega), h2]
    simp only
    rw [if_pos ⟨hf, hy⟩]
  rw [opnK_stay (j := y.1 + 1) (by rw [hs]; omega) m (by omega), hs]
theorem alloc5w (w : World) (a b c d e : Obj) : ∃ W0, W0 = (((((w.alloc a).alloc b).alloc c).alloc d).alloc e) ∧ W0.heap.size = w.heap.size + 5 ∧ Below w.heap.size w W0 ∧ W0.heap[w.heap.size]? = some a ∧ W0.heap[w.heap.size + 1]? = some b ∧ W0.heap[w.heap.size + 1 + 1]? = some c ∧ W0.heap[w.heap.size + 1 + 1 + 1]? = some d ∧ W0.heap[w.heap.size + 1 + 1 + 1 + 1]? = some e := by
  refine ⟨_, rfl, by simp, ?_, ?_, ?_, ?_, ?_, ?_⟩
  · exact (((((Below.refl _ w).alloc (Nat.le_refl _) _).alloc (by simp) _).alloc (by simp; omega) _).alloc (by simp; omega) _).alloc (by simp; omega) _
  all_goals (show (((((w.heap.push a).push b).push c).push d).push e)[_]? = _; simp only [Array.getElem?_push, Array.size_push]; repeat (first | (rw [if_neg (by omega)]) | (rw [if_pos trivial]) | (rw [if_pos rfl])))
/-- what Open answers. -/
def opnR (nn : Int) (X : List Ct) (f t n : Int) : Int × Int := if okP nn X = true then (if opnK X f t n X.length < 0 then (0, 4) else (opnK X f t n X.length, 0)) else (0, 230)
theorem results_two {P : Program} {fn : Func} {p q : Tmp} {t1 t2 : TypeId} (h : fn.results = #[.cell p t1, .cell q t2]) (tmps : Array Value) (w : World) (a b : Addr) (hp : tmps.getD p undef = .pointer (some a)) (hq : tmps.getD q undef = .pointer (some b)) (u v : Value) (l1 : (loadVar t1 a).run P w = .ok u w) (l2 : (loadVar t2 b).run P w = .ok v w) : (results fn tmps).run P w = .ok (.tuple #[u, v]) w := by
  unfold results
  rw [h]
  simp only [List.mapM_toArray, List.mapM_cons, List.mapM_nil]
  rw [hp, hq]
  simp only [asAddr, pure_bind]
  simp [l1, l2]
def noHit (t n : Int) (ys : List (Nat × Ct)) : Prop := ∀ z ∈ ys, hit t n z.2 = false
/-- between two contacts. -/
structure OI (w W3 : World) (t n p q : Int) (W : World) : Prop where
  tb : W.heap[w.heap.size + 1]? = some (.cells #[.int .i64 t] 3 (0, 0))
  nb : W.heap[w.heap.size + 1 + 1]? = some (.cells #[.int .i64 n] 3 (0, 0))
  r8 : W.heap[w.heap.size + 1 + 1 + 1]? = some (.cells #[.int .i64 p] 3 (0, 0))
  r9 : W.heap[w.heap.size + 1 + 1 + 1 + 1]? = some (.cells #[.int .i64 q] 29 (0, 0))
  bel : Below w.heap.size w W
  ge : W3.heap.size ≤ W.heap.size
theorem OI.later {w W3 W W' : World} {t n p q : Int} (h : OI w W3 t n p q W) (hb : Below W.heap.size W W') : OI w W3 t n p q W' :=
  ⟨old_block hb h.tb, old_block hb h.nb, old_block hb h.r8, old_block hb h.r9, below_of h.bel hb, Nat.le_trans h.ge hb.size⟩
theorem OI.own {w W3 A B : World} {t n p q : Int} {row : Option Nat} (h : OI w W3 t n p q A) (hg : A.grownBy B row) (hr : ∀ r, row = some r → W3.heap.size ≤ r ∧ ∃ o : Obj, A.heap[r]? = some o ∧ o.isCells = false) (hw : w.heap.size ≤ W3.heap.size) : OI w W3 t n p q B :=
  ⟨kept_cells h.tb hg hr, kept_cells h.nb hg hr, kept_cells h.r8 hg hr, kept_cells h.r9 hg hr, h.bel.grown hg h.bel.size (fun k e => by have := (hr k e).1; omega), Nat.le_trans h.ge hg.size⟩
theorem OI.set {w W3 W : World} {t n p p0 q0 q : Int} (h : OI w W3 t n p0 q0 W) (B : Nat) :
    KeepsFrom B W ((W.setCell ⟨w.heap.size + 1 + 1 + 1, 0, none⟩ (.int .i64 p)).setCell ⟨w.heap.size + 1 + 1 + 1 + 1, 0, none⟩ (.int .i64 q)) ∧ KpT (fun k => k = w.heap.size + 1 + 1 + 1 ∨ k = w.heap.size + 1 + 1 + 1 + 1) W ((W.setCell ⟨w.heap.size + 1 + 1 + 1, 0, none⟩ (.int .i64 p)).setCell ⟨w.heap.size + 1 + 1 + 1 + 1, 0, none⟩ (.int .i64 q)) ∧
      OI w W3 t n p q ((W.setCell ⟨w.heap.size + 1 + 1 + 1, 0, none⟩ (.int .i64 p)).setCell ⟨w.heap.size + 1 + 1 + 1 + 1, 0, none⟩ (.int .i64 q)) := by
  obtain ⟨p1, p2, p3, p4⟩ := set2 (u' := .int .i64 p) (v' := .int .i64 q) h.r8 h.r9 (by omega)
  exact ⟨p4 B, KpT.of_off p3 (fun _ _ _ _ _ e => e), p3.at h.tb (by omega), p3.at h.nb (by omega), p1, p2, (h.bel.setCell (p := ⟨w.heap.size + 1 + 1 + 1, 0, none⟩) (by show _ ≤ w.heap.size + 1 + 1 + 1; omega) _).setCell (p := ⟨w.heap.size + 1 + 1 + 1 + 1, 0, none⟩) (by show _ ≤ w.heap.size + 1 + 1 + 1 + 1; omega) _, Nat.le_trans h.ge p3.size⟩
theorem OI.fin {w W3 W : World} {t n p q : Int} {D : Nat} {o : Obj} (h : OI w W3 t n p q W) (hD : W3.heap.size ≤ D) (hw : w.heap.size + 5 ≤ W3.heap.size) : (W.putObj D o).heap[w.heap.size + 1 + 1 + 1]? = some (.cells #[.int .i64 p] 3 (0, 0)) ∧ (W.putObj D o).heap[w.heap.size + 1 + 1 + 1 + 1]? = some (.cells #[.int .i64 q] 29 (0, 0)) ∧ Below w.heap.size w (W.putObj D o) := by
  have ho := put_def (W := W) (D := D) (o := o)
  exact ⟨ho.at h.r8 (by omega), ho.at h.r9 (by omega), h.bel.trans (ho.below h.bel.size (fun i e => by omega))⟩
theorem set2_at {W : World} {b1 b2 D : Nat} {u v : Value} {o : Obj} (h1 : D ≠ b1) (h2 : D ≠ b2) (h : W.heap[D]? = some o) : ((W.setCell ⟨b1, 0, none⟩ u).setCell ⟨b2, 0, none⟩ v).heap[D]? = some o := by
  have ho : Off (fun k => k = b1 ∨ k = b2) W ((W.setCell ⟨b1, 0, none⟩ u).setCell ⟨b2, 0, none⟩ v) := ((Off.refl (fun k => k = b1 ∨ k = b2) W).setCell (p := ⟨b1, 0, none⟩) (.inr (.inl rfl)) _).setCell (p := ⟨b2, 0, none⟩) (.inr (.inr rfl)) _
  exact ho.at h (by rintro (e | e) <;> omega)
theorem load_i {W : World} {b : Nat} {p : Int} (h : W.heap[b]? = some (.cells #[.int .i64 p] 3 (0, 0))) : (loadVar 3 ⟨b, 0, none⟩).run Try.prog W = .ok (.int .i64 p) W := by
  have c := cell_of h 0
  simp only [List.getElem?_toArray, List.getElem?_cons_zero] at c
  go_simp
theorem load_e {W : World} {b : Nat} {p : Int} (h : W.heap[b]? = some (.cells #[.int .i64 p] 29 (0, 0))) : (loadVar 29 ⟨b, 0, none⟩).run Try.prog W = .ok (.int .i64 p) W := by
  have c := cell_of h 0
  simp only [List.getElem?_toArray, List.getElem?_cons_zero] at c
  go_simp
attribute [local go_sem] Oper.semAt_some
set_option maxRecDepth 20000 in
set_option maxHeartbeats 8000000 in
theorem open_any (w : World) (nn f t n : Int) (a : Option Addr) (m k : Nat) (X : List Ct) (hm : X.length = m) (hmk : m ≤ k) (hk : k ≤ maxLen) (hX : CtAt (fun _ => False) w a X) :
    Calls Try.prog 10 #[pv nn a m k, .int .i64 f, .int .i64 t, .int .i64 n] w fun e w' => e = .returned (.tuple #[.int .i64 (opnR nn X f t n).1, .int .i64 (opnR nn X f t n).2]) ∧ Hid (Below w.heap.size w w') := by
  have HC : Hid (∀ W, Below w.heap.size w W → Calls Try.prog 12 #[pv nn a m k] W fun e w' => e = .returned (.int .i64 (chk nn X)) ∧ Below W.heap.size W w') := fun W hb => check_any nn a m k X W hm hmk hk (hX.later hb)
  have HF : Hid (∀ W0 : World, Calls Try.prog 19 #[pv nn a m k, .int .i64 f] W0 fun e w' => e = .returned (.func (.func 28) #[] #[.pointer (some ⟨W0.heap.size, 0, none⟩), .pointer (some ⟨W0.heap.size + 1, 0, none⟩)]) ∧ w' = (W0.alloc (.cells #[.int .i64 nn, .slice a m k] 24)).alloc (.cells #[.int .i64 f] 3)) := fun W0 => leav_fn _ _ _ _ _ _
  unfold pv at HC HF ⊢
  unfold opnR
  cases hp : okP nn X with
  | false =>
    rw [if_neg (by simp)]
    have hchk : chk nn X = 230 := if_neg (by simp [hp])
    rw [hchk] at HC
    have HB5 : Hid (Below w.heap.size w ((((((w.alloc (.cells #[.int .i64 nn, .slice a m k] 24)).alloc (.cells #[.int .i64 t] 3)).alloc (.cells #[.int .i64 n] 3)).alloc (.cells #[.int .i64 0] 3)).alloc (.cells #[.int .i64 0] 29)))) := by
      obtain ⟨W5, hW5, z5, zb5, _⟩ := alloc5w w (.cells #[.int .i64 nn, .slice a m k] 24) (.cells #[.int .i64 t] 3) (.cells #[.int .i64 n] 3) (.cells #[.int .i64 0] 3) (.cells #[.int .i64 0] 29)
      rw [← hW5]; exact zb5
    have HR8 : Hid (((((((w.alloc (.cells #[.int .i64 nn, .slice a m k] 24)).alloc (.cells #[.int .i64 t] 3)).alloc (.cells #[.int .i64 n] 3)).alloc (.cells #[.int .i64 0] 3)).alloc (.cells #[.int .i64 0] 29)).heap[w.heap.size + 1 + 1 + 1]? = some (.cells #[.int .i64 0] 3 (0, 0))) ∧ ((((((w.alloc (.cells #[.int .i64 nn, .slice a m k] 24)).alloc (.cells #[.int .i64 t] 3)).alloc (.cells #[.int .i64 n] 3)).alloc (.cells #[.int .i64 0] 3)).alloc (.cells #[.int .i64 0] 29)).heap[w.heap.size + 1 + 1 + 1 + 1]? = some (.cells #[.int .i64 0] 29 (0, 0)))) := by
      obtain ⟨W5, hW5, z5, zb5, _, _, _, g3, g4⟩ := alloc5w w (.cells #[.int .i64 nn, .slice a m k] 24) (.cells #[.int .i64 t] 3) (.cells #[.int .i64 n] 3) (.cells #[.int .i64 0] 3) (.cells #[.int .i64 0] 29)
      rw [← hW5]; exact ⟨g3, g4⟩
    clear hp hchk HF
    go_enter Try.func10, Try.ntmps10
    go_wp2_with (go_at_call 12; refine (HC.out _ HB5.out).mono ?_; rintro e w1 ⟨rfl, hb1⟩; have HB1 : Hid (Below w.heap.size w w1) := below_of HB5.out hb1; have u8 := old_block hb1 HR8.out.1; have u9 := old_block hb1 HR8.out.2; have r8 := frozen_of u8 0; have r9 := frozen_of u9 0; have c8 := cell_of u8 0; have c9 := cell_of u9 0; simp only [List.getElem?_toArray, List.getElem?_cons_zero] at c8 c9)
    obtain ⟨p1, p2, p3, _⟩ := set2 (u' := .int .i64 0) (v' := .int .i64 230) u8 u9 (by omega)
    refine bodyPost_ret (results_two rfl _ _ ⟨w.heap.size + 1 + 1 + 1, 0, none⟩ ⟨w.heap.size + 1 + 1 + 1 + 1, 0, none⟩ (by rfl) (by rfl) (.int .i64 0) (.int .i64 230) (load_i p1) (load_e p2)) rfl ?_
    exact ⟨rfl, HB1.out.trans (p3.below HB1.out.size (fun i e => by omega))⟩
  | true =>
    rw [if_pos rfl]
    obtain ⟨R, hR⟩ : ∃ R : Int × Int, (if opnK X f t n X.length < 0 then ((0 : Int), (4 : Int)) else (opnK X f t n X.length, 0)) = R := ⟨_, rfl⟩
    have HRR : Hid ((if opnK X f t n X.length < 0 then ((0 : Int), (4 : Int)) else (opnK X f t n X.length, 0)) = R) := hR
    rw [hR]
    clear hR
    refine (callsIn_wide (n := 9)).1 ?_
    refine callsIn_of_wp_marks Try.func10 rfl trivial ?_
    simp only [Try.ntmps10, List.size_toArray, List.length_cons, List.length_nil, Nat.reduceAdd, Nat.reduceSub, Array.replicate_succ, Array.replicate_zero, List.push_toArray, List.append_toArray, List.nil_append, List.cons_append]
    obtain ⟨W5, hW5, z5, zb5, g0, g1, g2, g3, g4⟩ := alloc5w w (.cells #[.int .i64 nn, .slice a m k] 24) (.cells #[.int .i64 t] 3) (.cells #[.int .i64 n] 3) (.cells #[.int .i64 0] 3) (.cells #[.int .i64 0] 29)
    have hchk : chk nn X = 0 := if_pos hp
    rw [hchk] at HC
    have HB5 : Hid (Below w.heap.size w ((((((w.alloc (.cells #[.int .i64 nn, .slice a m k] 24)).alloc (.cells #[.int .i64 t] 3)).alloc (.cells #[.int .i64 n] 3)).alloc (.cells #[.int .i64 0] 3)).alloc (.cells #[.int .i64 0] 29)))) := by rw [← hW5]; exact zb5
    have HP5 : Hid ((((((w.alloc (.cells #[.int .i64 nn, .slice a m k] 24)).alloc (.cells #[.int .i64 t] 3)).alloc (.cells #[.int .i64 n] 3)).alloc (.cells #[.int .i64 0] 3)).alloc (.cells #[.int .i64 0] 29)).heap[w.heap.size]? = some (.cells #[.int .i64 nn, .slice a m k] 24 (0, 0))) := by rw [← hW5]; exact g0
    gi_wp2_with (first | (refine ⟨trivial, ?_⟩; gi_at_call 12; refine (callsIn_wide.2 (HC.out _ HB5.out)).mono ?_; rintro e w1 ⟨rfl, hb1⟩; have HB1 : Hid (Below w.heap.size w w1) := below_of HB5.out hb1; have c0 := cell_of (old_block hb1 HP5.out) 0; have c1 := cell_of (old_block hb1 HP5.out) 1; simp only [List.getElem?_toArray, List.getElem?_cons_zero, List.getElem?_cons_succ] at c0 c1) | (refine ⟨trivial, ?_⟩; gi_at_call 19; refine (callsIn_wide.2 (HF.out _)).mono ?_; rintro e w2 ⟨rfl, rfl⟩))
    have hB5 := hb1
    rw [← hW5] at hb1
    obtain ⟨W3, hW3, z3, zb3, q0, q1⟩ := alloc2w w1 (.cells #[.int .i64 nn, .slice a m k] 24) (.cells #[.int .i64 f] 3)
    rw [← hW3]
    have hsz : w.heap.size + 5 ≤ w1.heap.size := by have := hb1.size; omega
    have hb13 : Below W5.heap.size W5 W3 := below_of hb1 zb3
    have hseq := leav_hands (9 - 1) w1.heap.size (w1.heap.size + 1) m k (fun k => k = w.heap.size + 1 + 1 + 1 ∨ k = w.heap.size + 1 + 1 + 1 + 1) f a X (by decide) hm (by have := (okP_of hp).len; omega) W3 (by rw [cell_of q0]; rfl) (by rw [cell_of q1]; rfl) (by omega) (by omega) ((hX.sub (M := fun k => k = w.heap.size + 1 + 1 + 1 ∨ k = w.heap.size + 1 + 1 + 1 + 1) (fun k hk e => by omega)).later (below_of zb5 hb13))
    have hi0 : OI w W3 t n 0 0 W3 := ⟨old_block hb13 g1, old_block hb13 g2, old_block hb13 g3, old_block hb13 g4, below_of zb5 hb13, Nat.le_refl _⟩
    have hw5 : w.heap.size + 5 ≤ W3.heap.size := by have := zb3.size; omega
    have hws : w.heap.size ≤ W3.heap.size := by omega
    clear hW5 hW3 hB5 g0 g1 g2 g3 g4 zb5 HB5 HP5 HC HF c0 c1 hb1 hb13 q0 q1 zb3 z3 HB1
    refine range_hands (by decide) (gf := 28) rfl (enters_of Try.func28 (by kernel_rfl) rfl) hseq KpT.trans (fun W l o o' ho hc => KpT.put ho hc) (Below.refl _ _) (fun _ => rfl)
      (I := fun ys W => OI w W3 t n 0 0 W ∧ noHit t n ys) (Ix := fun c ys W => c = Code.ret ∧ ∃ j : Nat, OI w W3 t n j 0 W ∧ opnK X f t n m = (j : Int))
      (fun ys A B row h hg hr => ⟨h.1.own hg hr hws, h.2⟩) (fun c ys A B row h hg hr => ⟨h.1, by obtain ⟨j, h1, h2⟩ := h.2; exact ⟨j, h1.own hg hr hws, h2⟩⟩) (fun s A B row h hg hr => h) ⟨hi0, fun z hz => absurd hz (by simp)⟩
      (fun x a' W' => ∃ b, W3.heap.size ≤ b ∧ W'.heap[b]? = some (.cells (cc x.2) 43 (0, 0)) ∧ a' = { tmps := #[.agg #[.int .i64 nn, .slice a m k], .int .i64 f, .int .i64 t, .int .i64 n, .pointer (some ⟨w.heap.size, 0, none⟩), undef, .pointer (some ⟨w.heap.size + 1, 0, none⟩), .pointer (some ⟨w.heap.size + 1 + 1, 0, none⟩), .pointer (some ⟨w.heap.size + 1 + 1 + 1, 0, none⟩), .pointer (some ⟨w.heap.size + 1 + 1 + 1 + 1, 0, none⟩), .int .i64 0, .int .i64 (x.1 : Nat), .pointer (some ⟨b, 0, none⟩), .agg #[.int .i64 nn, .slice a m k], .int .i64 0, .int .i64 0, .bool false, undef, .agg #[.int .i64 nn, .slice a m k], .int .i64 f, .func (.func 28) #[] #[.pointer (some ⟨w1.heap.size, 0, none⟩), .pointer (some ⟨w1.heap.size + 1, 0, none⟩)], .int .i64 (x.1 : Nat), cv x.2, undef, undef, undef, undef, undef, undef, undef, undef, undef, undef, undef, undef, undef, undef, undef, undef, undef], defers := [] })
      (fun x a' s A B row h hg hr => by obtain ⟨b, q1, q2, q3⟩ := h; exact ⟨b, q1, kept_cells q2 hg hr, q3⟩) ?assign ?body ?done ?stop
    case assign =>
      intro l' pre x W' K hi ht hK
      have hb : Below W'.heap.size W' (W'.alloc (.cells (cc x.2) 43)) := (Below.refl _ W').alloc (Nat.le_refl _) _
      have HK : Hid (K _ (W'.alloc (.cells (cc x.2) 43))) := hK _ _ ⟨hb.size, fun k o _ hk _ => old_block hb hk⟩ (KpT.of_below hb) ⟨hi.1.later hb, hi.2⟩ ht ⟨_, hi.1.ge, heap_alloc_new W' _, rfl⟩
      unfold cc cv at HK
      dsimp only [encC, cv]
      clear hK hi ht hseq hi0
      gi_wp2
      exact HK.out
    case body =>
      rintro l' pre x a' W' hi ht ⟨b, hf, hfb, rfl⟩ hlen
      obtain ⟨f0, f1, f2, f3, f4, f5⟩ := box6 hfb
      have cT := cell_of hi.1.tb 0
      have cN := cell_of hi.1.nb 0
      simp only [List.getElem?_toArray, List.getElem?_cons_zero] at cT cN
      have HI : Hid (OI w W3 t n 0 0 W' ∧ noHit t n pre) := hi
      have HTT : Hid (pre ++ [x] <+: ysK (lvP f) X m) := ht
      unfold cv
      clear hfb hseq hi0 ht hi
      by_cases hh : hit t n x.2 = true
      · have HH : Hid (hit t n x.2 = true) := hh
        unfold hit at hh
        simp only [Bool.and_eq_true, decide_eq_true_eq] at hh
        obtain ⟨⟨h1, h2⟩, h3⟩ := hh
        have r8 := frozen_of HI.out.1.r8 0
        have r9 := frozen_of HI.out.1.r9 0
        have c8 := cell_of HI.out.1.r8 0
        have c9 := cell_of HI.out.1.r9 0
        simp only [List.getElem?_toArray, List.getElem?_cons_zero] at c8 c9
        gi_wp2
        have hS := HI.out.1.set (p := (x.1 : Int)) (q := 0) W3.heap.size
        exact ⟨hS.1, hS.2.1, rfl, x.1, hS.2.2, opnK_hit HTT.out HI.out.2 HH.out⟩
      · have HH : Hid (hit t n x.2 = false) := by show _ = _; simpa using hh
        have hh2 := HH.out
        unfold hit at hh2
        have HN : Hid (noHit t n (pre ++ [x])) := fun z hz => by
          rcases List.mem_append.1 hz with hz | hz
          · exact HI.out.2 z hz
          · simp at hz; subst hz; exact HH.out
        clear hh
        cases b1 : (x.2.to == t) with
        | false =>
          clear hh2
          gi_wp2
          exact ⟨keeps_below (Below.refl _ _), KpT.refl _ _, HI.out.1, HN.out⟩
        | true =>
          rw [b1] at hh2
          by_cases b2 : x.2.st ≤ n
          · have b3 : ¬ n < x.2.en := by intro q; simp [b2, q] at hh2
            clear hh2
            gi_wp2
            exact ⟨keeps_below (Below.refl _ _), KpT.refl _ _, HI.out.1, HN.out⟩
          · clear hh2
            gi_wp2
            exact ⟨keeps_below (Below.refl _ _), KpT.refl _ _, HI.out.1, HN.out⟩
    case done =>
      rintro D ys W' hD rfl hpre hi hK
      have HR2 : Hid (R = (0, 4)) := by show _ = _; rw [← HRR.out, if_pos (by rw [hm, opnK_none m hi.2]; omega)]
      have r8 := frozen_of hi.1.r8 0
      have r9 := frozen_of hi.1.r9 0
      have c8 := cell_of hi.1.r8 0
      have c9 := cell_of hi.1.r9 0
      simp only [List.getElem?_toArray, List.getElem?_cons_zero] at c8 c9
      have HD : Hid (OI w W3 t n 0 0 W' ∧ W'.heap[D]? = some (.deferred (some []))) := ⟨hi.1, hK⟩
      clear hi hK hseq hi0 hpre
      gi_wp2
      have hS := (HD.out.1.set (p := 0) (q := 4) 0)
      obtain ⟨e8, e9, eb⟩ := hS.2.2.fin (D := D) (o := .deferred none) hD hw5
      refine ⟨by simp, .inl ⟨_, _, rfl, run_takeDeferred (set2_at (by omega) (by omega) HD.out.2), ?_⟩⟩
      refine ⟨_, results_two rfl _ _ ⟨w.heap.size + 1 + 1 + 1, 0, none⟩ ⟨w.heap.size + 1 + 1 + 1 + 1, 0, none⟩ (by rfl) (by rfl) (.int .i64 0) (.int .i64 4) (load_i e8) (load_e e9), ?_⟩
      exact ⟨by rw [HR2.out], eb⟩
    case stop =>
      rintro D c pre W' hD ⟨rfl, j, hj, ho⟩ hK
      have HR2 : Hid (R = ((j : Int), 0)) := by show _ = _; rw [← HRR.out, hm, ho, if_neg (by omega)]
      obtain ⟨e8, e9, eb⟩ := hj.fin (D := D) (o := .deferred none) hD hw5
      gi_wp2
      refine ⟨by simp, .inl ⟨_, _, rfl, run_takeDeferred hK, ?_⟩⟩
      refine ⟨_, results_two rfl _ _ ⟨w.heap.size + 1 + 1 + 1, 0, none⟩ ⟨w.heap.size + 1 + 1 + 1 + 1, 0, none⟩ (by rfl) (by rfl) (.int .i64 (j : Int)) (.int .i64 0) (load_i e8) (load_e e9), ?_⟩
      exact ⟨by rw [HR2.out], eb⟩
end Go.Proofs.Ytmmcdnniconalaa
