/- The walks of usable and of the function that it answers. -/
import Derived.Test.YtmmcdnniconalaaQRound
namespace Go.Proofs.Ytmmcdnniconalaa
open Go.RowKit Go.Shelf
set_option linter.unusedVariables false

/-- those of which enough is left. -/
def fU (L : List Int) (need : Int) (ys : List (Nat × Ct)) : List (Nat × Ct) := ys.filter fun y => decide (need ≤ L.getD y.1 0)
theorem fU_snoc (L : List Int) (need : Int) (ys : List (Nat × Ct)) (y : Nat × Ct) : fU L need (ys ++ [y]) = fU L need ys ++ if need ≤ L.getD y.1 0 then [y] else [] := by
  unfold fU
  rw [List.filter_append]
  by_cases h : need ≤ L.getD y.1 0
  · rw [if_pos h, List.filter_cons_of_pos (by simpa only [decide_eq_true_eq] using h)]; rfl
  · rw [if_neg h, List.filter_cons_of_neg (by simpa only [decide_eq_true_eq] using h)]; rfl
theorem fU_ys (L : List Int) (need nd : Int) (X : List Ct) : ∀ k, fU L need (ysK (lvP nd) X k) = ysK (usP L need nd) X k
  | 0 => rfl
  | k + 1 => by
    have ih := fU_ys L need nd X k
    rw [ysK, ysK]
    cases X[k]? with
    | none => simp only [List.append_nil]; exact ih
    | some c =>
      by_cases h1 : c.frm = nd
      · have e1 : lvP nd k c = true := decide_eq_true h1
        simp only [e1, if_true]
        rw [fU_snoc, ih]
        have e2 : usP L need nd k c = decide (need ≤ L.getD k 0) := by unfold usP; rw [decide_eq_true h1, Bool.true_and]
        rw [e2]
        simp only [decide_eq_true_eq]
      · have e1 : lvP nd k c = false := decide_eq_false h1
        have e2 : usP L need nd k c = false := by unfold usP; rw [decide_eq_false h1, Bool.false_and]
        simp only [e1, e2, Bool.false_eq_true, if_false, List.append_nil]
        exact ih
theorem fU_pre {L : List Int} {need nd : Int} {X : List Ct} {m : Nat} {ys : List (Nat × Ct)} (h : ys <+: ysK (lvP nd) X m) : fU L need ys <+: ysK (usP L need nd) X m := by
  rw [← fU_ys]
  exact h.filter _
/-- a search in a box. -/
def sc (nn : Int) (ad : Option Addr) (m k : Nat) (la : Option Addr) (lm lk : Nat) (to need : Int) : Array Value := #[.int .i64 nn, .slice ad m k, .slice la lm lk, .int .i64 to, .int .i64 need]
theorem sc_cells {w : World} {b : Nat} {nn : Int} {ad : Option Addr} {m k : Nat} {la : Option Addr} {lm lk : Nat} {to need : Int} {t : TypeId} (h : w.heap[b]? = some (.cells (sc nn ad m k la lm lk to need) t (0, 0))) :
    w.cell? ⟨b, 0, none⟩ = some (.int .i64 nn) ∧ w.cell? ⟨b, 1, none⟩ = some (.slice ad m k) ∧ w.cell? ⟨b, 2, none⟩ = some (.slice la lm lk) ∧ w.cell? ⟨b, 3, none⟩ = some (.int .i64 to) ∧ w.cell? ⟨b, 4, none⟩ = some (.int .i64 need) := by
  refine ⟨?_, ?_, ?_, ?_, ?_⟩ <;> (rw [cell_of h]; rfl)
theorem alloc3w (w : World) (a b c : Obj) : ∃ W0, W0 = (((w.alloc a).alloc b).alloc c) ∧ W0.heap.size = w.heap.size + 3 ∧ Below w.heap.size w W0 ∧ W0.heap[w.heap.size]? = some a ∧ W0.heap[w.heap.size + 1]? = some b ∧ W0.heap[w.heap.size + 1 + 1]? = some c := by
  refine ⟨_, rfl, by simp, ?_, ?_, ?_, ?_⟩
  · exact (((Below.refl _ w).alloc (Nat.le_refl _) _).alloc (by simp) _).alloc (by simp; omega) _
  all_goals (show (((w.heap.push a).push b).push c)[_]? = _; simp only [Array.getElem?_push, Array.size_push]; repeat (first | (rw [if_neg (by omega)]) | (rw [if_pos trivial]) | (rw [if_pos rfl])))
/-- between two rounds of the function that usable answers. -/
structure UsI (W0 : World) (T : Nat → Prop) (l bs : Nat) (sb : Array Value) (la : Option Addr) (L : List Int) (need : Int) (J : List (Nat × Ct) → World → Prop) (pre : List (Nat × Ct)) (W : World) : Prop where
  j : J (fU L need pre) W
  s : W.heap[bs]? = some (.cells sb 48 (0, 0))
  y : W.heap[W0.heap.size]? = some (.cells #[.func (.yield l) #[] #[]] 64 (0, 0))
  l : RowI T W la L
  ge : W0.heap.size + 3 ≤ W.heap.size
theorem UsI.own {W0 : World} {T : Nat → Prop} {l bs B : Nat} {sb : Array Value} {la : Option Addr} {L : List Int} {need : Int} {J : List (Nat × Ct) → World → Prop} (hJ : OwnFrom B J) : OwnFrom B (UsI W0 T l bs sb la L need J) := fun pre W W' row h hg hr =>
  ⟨hJ _ W W' row h.j hg hr, kept_cells h.s hg hr, kept_cells h.y hg hr, fun h0 => by
    obtain ⟨b, o, rfl, hn, hc⟩ := h.l h0
    exact ⟨b, o, rfl, hn, fun i hi => cell_kept (hc i hi) hg (fun r e => (hr r e).2)⟩, Nat.le_trans h.ge hg.size⟩
theorem UsI.kp {W0 : World} {T : Nat → Prop} {l bs : Nat} {sb : Array Value} {la : Option Addr} {L : List Int} {need : Int} {J : List (Nat × Ct) → World → Prop} {pre ys : List (Nat × Ct)} {W W' : World} (h : UsI W0 T l bs sb la L need J pre W) (hk : KpT T W W') (n1 : ¬ T bs) (n2 : ¬ T W0.heap.size) (hj : J (fU L need ys) W') : UsI W0 T l bs sb la L need J ys W' :=
  ⟨hj, hk.cells _ _ _ _ h.s n1, hk.cells _ _ _ _ h.y n2, hk.nums h.l, Nat.le_trans h.ge hk.size⟩
theorem drew_below (W : World) : Below W.heap.size W W.drew := (Below.refl _ W).drew

theorem round_deep {m m' l l' : Nat} {P : Program} {fn : FuncId} {tmps : Array Value} {assign body : Code} {w : World} {R : Ending → World → Prop} (h : RoundIn Fence.wide m P l fn tmps assign body w R) : RoundIn (Fence.wide.inRound l') m' P l fn tmps assign body w R := ⟨h.1, fun c cs _ => h.2 c cs (fun d hd => by cases hd)⟩
attribute [local go_sem] Oper.semAt_some
set_option maxRecDepth 20000 in
set_option maxHeartbeats 8000000 in
theorem us1_in (n l bs bn m k lk : Nat) (T : Nat → Prop) (nn nd to need : Int) (ad la : Option Addr) (X : List Ct) (L : List Int) (hn : 4 ≤ n) (hm : X.length = m) (hl : L.length = m) (h24 : m ≤ 24) (J Jx : List (Nat × Ct) → World → Prop) (W : World) (hJ : OwnFrom W.heap.size J) (hJx : OwnFrom W.heap.size Jx) (hT : ∀ k, T k → k < W.heap.size)
    (hY : ∀ pre x W1, J pre W1 → pre ++ [x] <+: ysK (usP L need nd) X m → pre.length < m → YieldAt Fence.wide (n - 1) Try.prog l (encC x) W1 fun e W' =>
      (e = .returned (.bool true) ∧ J (pre ++ [x]) W' ∧ KpT T W1 W' ∧ KeepsFrom W.heap.size W1 W') ∨ (e = .returned (.bool false) ∧ Jx (pre ++ [x]) W' ∧ KpT T W1 W' ∧ KeepsFrom W.heap.size W1 W'))
    (hs : W.heap[bs]? = some (.cells (sc nn ad m k la m lk to need) 48 (0, 0))) (h2 : W.heap[bn]? = some (.cells #[.int .i64 nd] 3 (0, 0))) (n1 : ¬ T bs) (n2 : ¬ T bn) (hX : CtAt T W ad X) (hL : RowI T W la L) (h0 : J [] W) :
    CallsIn Fence.wide n Try.prog 30 #[.func (.yield l) #[] #[], .pointer (some ⟨bs, 0, none⟩), .pointer (some ⟨bn, 0, none⟩)] W fun e W' => (∃ v, e = .returned v) ∧
      ((∃ ys : List (Nat × Ct), ys = ysK (usP L need nd) X m ∧ ys <+: ysK (usP L need nd) X m ∧ J ys W') ∨ (∃ pre, Jx pre W')) := by
  obtain ⟨s0, s1, s2, s3, s4⟩ := sc_cells hs
  have hbs := (Array.getElem?_eq_some_iff.1 hs).1
  have hbn := (Array.getElem?_eq_some_iff.1 h2).1
  have s5 := cell_of h2 0
  simp only [List.getElem?_toArray, List.getElem?_cons_zero] at s5
  have HF : Hid (∀ W0 : World, Calls Try.prog 19 #[pv nn ad m k, .int .i64 nd] W0 fun e w' => e = .returned (.func (.func 28) #[] #[.pointer (some ⟨W0.heap.size, 0, none⟩), .pointer (some ⟨W0.heap.size + 1, 0, none⟩)]) ∧ w' = (W0.alloc (.cells #[.int .i64 nn, .slice ad m k] 24)).alloc (.cells #[.int .i64 nd] 3)) := fun W0 => leav_fn _ _ _ _ _ _
  unfold pv at HF
  have h1n : 1 ≤ n := by omega
  refine callsIn_of_wp_marks Try.func30 rfl trivial ?_
  simp only [Try.ntmps30, List.size_toArray, List.length_cons, List.length_nil, Nat.reduceAdd, Nat.reduceSub, Array.replicate_succ, Array.replicate_zero, List.push_toArray, List.append_toArray, List.nil_append, List.cons_append]
  gi_wp2_with (refine ⟨trivial, ?_⟩; gi_at_call 19; refine (callsIn_wide.2 (HF.out _)).mono ?_; rintro e w1 ⟨rfl, rfl⟩)
  obtain ⟨W2, hW2, z2, zb, d0, d1, d2⟩ := alloc3w W (.cells #[.func (.yield l) #[] #[]] 64) (.cells #[.int .i64 nn, .slice ad m k] 24) (.cells #[.int .i64 nd] 3)
  rw [← hW2]
  have hseq := leav_hands (n - 1) (W.heap.size + 1) (W.heap.size + 1 + 1) m k T nd ad X (by omega) hm h24 W2 (by rw [cell_of d1]; rfl) (by rw [cell_of d2]; rfl) (fun h => by have := hT _ h; omega) (fun h => by have := hT _ h; omega) (hX.later zb)
  have hi0 : UsI W T l bs (sc nn ad m k la m lk to need) la L need J [] W2 := ⟨own_below hJ h0 zb, old_block zb hs, d0, hL.later zb, by omega⟩
  clear hW2 s0 s1 s2 s3 s4 s5 h2 HF hX hL h0 d0 d1 d2 hs
  refine range_hands (by omega) (gf := 28) rfl (enters_of Try.func28 (by kernel_rfl) rfl) hseq KpT.trans (fun W l o o' ho hc => KpT.put ho hc) (Below.refl _ _) (fun _ => rfl)
    (I := UsI W T l bs (sc nn ad m k la m lk to need) la L need J) (Ix := fun c _ W' => c = .ret ∧ ∃ q, Jx q W')
    (UsI.own (fun s A B row h hg hr => hJ s A B row h hg (fun r e => ⟨by have := (hr r e).1; omega, (hr r e).2⟩)))
    (fun c s A B row h hg hr => ⟨h.1, by obtain ⟨q, hq⟩ := h.2; exact ⟨q, hJx q A B row hq hg (fun r e => ⟨by have := (hr r e).1; omega, (hr r e).2⟩)⟩⟩)
    (fun s A B row h hg hr => h) hi0
    (fun x a' W' => ∃ f, W2.heap.size ≤ f ∧ W'.heap[f]? = some (.cells (cc x.2) 43 (0, 0)) ∧ a' = { tmps := #[.func (.yield l) #[] #[], .pointer (some ⟨bs, 0, none⟩), .pointer (some ⟨bn, 0, none⟩), .pointer (some ⟨W.heap.size, 0, none⟩), .int .i64 (x.1 : Nat), .pointer (some ⟨f, 0, none⟩), .pointer (some ⟨bs, 0, none⟩), .agg #[.int .i64 nn, .slice ad m k], .int .i64 nd, .func (.func 28) #[] #[.pointer (some ⟨W.heap.size + 1, 0, none⟩), .pointer (some ⟨W.heap.size + 1 + 1, 0, none⟩)], .int .i64 (x.1 : Nat), cv x.2, undef, undef, undef, undef, undef, undef, undef, undef, undef, undef, undef, undef, undef, undef, undef], defers := [] })
    (fun x a' s A B row h hg hr => by obtain ⟨f, q1, q2, q3⟩ := h; exact ⟨f, q1, kept_cells q2 hg hr, q3⟩) ?assign ?body ?done ?stop
  case assign =>
    intro l' pre x W' K hi ht hK
    have hb : Below W'.heap.size W' (W'.alloc (.cells (cc x.2) 43)) := (Below.refl _ W').alloc (Nat.le_refl _) _
    have hsz : W2.heap.size ≤ W'.heap.size := by have := hi.ge; omega
    have HK : Hid (K _ (W'.alloc (.cells (cc x.2) 43))) := hK _ _ ⟨hb.size, fun k o _ hk _ => old_block hb hk⟩ (KpT.of_below hb) ((UsI.own (fun s A B row h hg hr => hJ s A B row h hg (fun r e => ⟨by have := (hr r e).1; omega, (hr r e).2⟩)) : OwnFrom W2.heap.size _).alloc _ hi) ht ⟨_, hsz, heap_alloc_new W' _, rfl⟩
    unfold cc cv at HK
    dsimp only [encC, cv]
    clear hK hi ht hseq hi0 hY
    gi_wp2
    exact HK.out
  case body =>
    rintro l' pre x a' W' hi ht ⟨f, hf, hfb, rfl⟩ hlen
    have hmem : x ∈ ysK (lvP nd) X m := ht.subset (by simp)
    obtain ⟨hx1, hx2, hx3⟩ := ysK_mem hmem
    obtain ⟨v, hv⟩ : ∃ v, L[x.1]? = some v := ⟨_, List.getElem?_eq_getElem (by omega)⟩
    have hgd : L.getD x.1 0 = v := by rw [List.getD_eq_getElem?_getD, hv]; rfl
    obtain ⟨b, o, rfl, hnb, hcl⟩ := hi.l (by omega)
    have cl := hcl x.1 (by omega)
    rw [hgd] at cl
    have hnT : ∀ k, W.heap.size ≤ k → ¬ T k := fun k hk h => by have := hT _ h; omega
    have hnf : ¬ T f := hnT f (by omega)
    clear hcl
    obtain ⟨c0, c1, c2, c3, c4⟩ := sc_cells hi.s
    have cy := cell_of hi.y 0
    simp only [List.getElem?_toArray, List.getElem?_cons_zero] at cy
    obtain ⟨f0, f1, f2, f3, f4, f5⟩ := box6 hfb
    unfold cv
    by_cases hu : need ≤ v
    · have hus : usP L need nd x.1 x.2 = true := by
        unfold usP
        rw [hgd]
        simp only [lvP, decide_eq_true_eq] at hx3
        simp [hx3, hu]
      have hfs : fU L need (pre ++ [x]) = fU L need pre ++ [x] := by rw [fU_snoc, if_pos (by rw [hgd]; exact hu)]
      have hpre := fU_pre (L := L) (need := need) ht
      have hlenf : (fU L need pre).length < m := Nat.lt_of_le_of_lt (List.length_filter_le _ _) hlen
      rw [hfs] at hpre
      obtain ⟨fn, tmps, assign, body, hyy, hR⟩ := hY (fU L need pre) x W'.drew (own_below hJ hi.j (drew_below W')) hpre hlenf
      have HR : Hid (RoundIn Fence.wide (n - 1) Try.prog l fn tmps assign body W'.drew _) := hR
      dsimp only [encC, cv] at hyy
      have HI : Hid (UsI W T l bs (sc nn ad m k (some ⟨b, o, none⟩) m lk to need) (some ⟨b, o, none⟩) L need J pre W') := hi
      have HFS : Hid (fU L need (pre ++ [x]) = fU L need pre ++ [x]) := hfs
      clear hR hfs hpre hi hus hfb hseq hi0 hv hgd ht
      gi_wp2
      refine region_held (fun W' => W'.cell? ⟨bs, 4, none⟩ = some (.int .i64 need) ∧ W'.cell? ⟨bs, 2, none⟩ = some (.slice (some ⟨b, o, none⟩) m lk) ∧ W'.cell? ⟨b, o + x.1, none⟩ = some (.int .i64 v) ∧ W'.cell? ⟨W.heap.size, 0, none⟩ = some (.func (.yield l) #[] #[]) ∧ W'.cell? ⟨f, 0, none⟩ = some (.int .i64 x.2.frm) ∧ W'.cell? ⟨f, 1, none⟩ = some (.int .i64 x.2.to) ∧ W'.cell? ⟨f, 2, none⟩ = some (.int .i64 x.2.st) ∧ W'.cell? ⟨f, 3, none⟩ = some (.int .i64 x.2.en) ∧ W'.cell? ⟨f, 4, none⟩ = some (.int .i64 x.2.rt) ∧ W'.cell? ⟨f, 5, none⟩ = some (.int .i64 x.2.dl)) (by kernel_rfl) ⟨c4, c2, cl, cy, f0, f1, f2, f3, f4, f5⟩ (fun hHeld => ?_)
      refine takeR 0 (.pointer (some ⟨bs, 4, none⟩)) (noDefer_is (by rfl)) rfl (by kernel_rfl) (by kernel_rfl) (by kernel_rfl) (fun _ _ _ h => h) (Or.inl ⟨by rfl, ?_⟩) (by assumption) ?_
      · (intro w hSw; obtain ⟨hS0, hS1, hS2, hS3, hS4, hS5, hS6, hS7, hS8, hS9⟩ := hSw; go_simp)
      try simp only [Act.put, List.setIfInBounds_toArray, List.set_cons_zero, List.set_cons_succ]
      refine takeR 1 (.int .i64 need) (noDefer_is (by rfl)) rfl (by kernel_rfl) (by kernel_rfl) (by kernel_rfl) (fun _ _ _ h => h) (Or.inl ⟨by rfl, ?_⟩) (by assumption) ?_
      · (intro w hSw; obtain ⟨hS0, hS1, hS2, hS3, hS4, hS5, hS6, hS7, hS8, hS9⟩ := hSw; go_simp)
      try simp only [Act.put, List.setIfInBounds_toArray, List.set_cons_zero, List.set_cons_succ]
      refine takeR 2 (.pointer (some ⟨bs, 2, none⟩)) (noDefer_is (by rfl)) rfl (by kernel_rfl) (by kernel_rfl) (by kernel_rfl) (fun _ _ _ h => h) (Or.inl ⟨by rfl, ?_⟩) (by assumption) ?_
      · (intro w hSw; obtain ⟨hS0, hS1, hS2, hS3, hS4, hS5, hS6, hS7, hS8, hS9⟩ := hSw; go_simp)
      try simp only [Act.put, List.setIfInBounds_toArray, List.set_cons_zero, List.set_cons_succ]
      refine takeR 3 (.slice (some ⟨b, o, none⟩) m lk) (noDefer_is (by rfl)) rfl (by kernel_rfl) (by kernel_rfl) (by kernel_rfl) (fun _ _ _ h => h) (Or.inl ⟨by rfl, ?_⟩) (by assumption) ?_
      · (intro w hSw; obtain ⟨hS0, hS1, hS2, hS3, hS4, hS5, hS6, hS7, hS8, hS9⟩ := hSw; go_simp)
      try simp only [Act.put, List.setIfInBounds_toArray, List.set_cons_zero, List.set_cons_succ]
      refine takeR 4 (.int .i64 (x.1 : Nat)) (noDefer_is (by rfl)) rfl (by kernel_rfl) (by kernel_rfl) (by kernel_rfl) (fun _ _ _ h => h) (Or.inl ⟨by rfl, ?_⟩) (by assumption) ?_
      · (intro w hSw; obtain ⟨hS0, hS1, hS2, hS3, hS4, hS5, hS6, hS7, hS8, hS9⟩ := hSw; go_simp)
      try simp only [Act.put, List.setIfInBounds_toArray, List.set_cons_zero, List.set_cons_succ]
      refine takeR 5 (.pointer (some ⟨b, o + x.1, none⟩)) (noDefer_is (by rfl)) rfl (by kernel_rfl) (by kernel_rfl) (by kernel_rfl) (fun _ _ _ h => h) (Or.inl ⟨by rfl, ?_⟩) (by assumption) ?_
      · (intro w hSw; obtain ⟨hS0, hS1, hS2, hS3, hS4, hS5, hS6, hS7, hS8, hS9⟩ := hSw; go_simp)
      try simp only [Act.put, List.setIfInBounds_toArray, List.set_cons_zero, List.set_cons_succ]
      refine takeR 6 (.int .i64 v) (noDefer_is (by rfl)) rfl (by kernel_rfl) (by kernel_rfl) (by kernel_rfl) (fun _ _ _ h => h) (Or.inl ⟨by rfl, ?_⟩) (by assumption) ?_
      · (intro w hSw; obtain ⟨hS0, hS1, hS2, hS3, hS4, hS5, hS6, hS7, hS8, hS9⟩ := hSw; go_simp)
      try simp only [Act.put, List.setIfInBounds_toArray, List.set_cons_zero, List.set_cons_succ]
      refine takeR 7 (.bool true) (noDefer_is (by rfl)) rfl (by kernel_rfl) (by kernel_rfl) (by kernel_rfl) (fun _ _ _ h => h) (Or.inl ⟨by rfl, ?_⟩) (by assumption) ?_
      · (intro w hSw; obtain ⟨hS0, hS1, hS2, hS3, hS4, hS5, hS6, hS7, hS8, hS9⟩ := hSw; go_simp)
      try simp only [Act.put, List.setIfInBounds_toArray, List.set_cons_zero, List.set_cons_succ]
      refine takeR 8 (.bool true) (noDefer_is (by rfl)) rfl (by kernel_rfl) (by kernel_rfl) (by kernel_rfl) (fun _ _ _ h => h) (Or.inl ⟨by rfl, ?_⟩) (by assumption) ?_
      · (intro w hSw; obtain ⟨hS0, hS1, hS2, hS3, hS4, hS5, hS6, hS7, hS8, hS9⟩ := hSw; go_simp)
      try simp only [Act.put, List.setIfInBounds_toArray, List.set_cons_zero, List.set_cons_succ]
      refine takeR 9 (.func (.yield l) #[] #[]) (noDefer_is (by rfl)) rfl (by kernel_rfl) (by kernel_rfl) (by kernel_rfl) (fun _ _ _ h => h) (Or.inl ⟨by rfl, ?_⟩) (by assumption) ?_
      · (intro w hSw; obtain ⟨hS0, hS1, hS2, hS3, hS4, hS5, hS6, hS7, hS8, hS9⟩ := hSw; go_simp)
      try simp only [Act.put, List.setIfInBounds_toArray, List.set_cons_zero, List.set_cons_succ]
      refine takeR 10 (.int .i64 (x.1 : Nat)) (noDefer_is (by rfl)) rfl (by kernel_rfl) (by kernel_rfl) (by kernel_rfl) (fun _ _ _ h => h) (Or.inl ⟨by rfl, ?_⟩) (by assumption) ?_
      · (intro w hSw; obtain ⟨hS0, hS1, hS2, hS3, hS4, hS5, hS6, hS7, hS8, hS9⟩ := hSw; go_simp)
      try simp only [Act.put, List.setIfInBounds_toArray, List.set_cons_zero, List.set_cons_succ]
      refine takeR 11 (.agg #[.int .i64 x.2.frm, .int .i64 x.2.to, .int .i64 x.2.st, .int .i64 x.2.en, .int .i64 x.2.rt, .int .i64 x.2.dl]) (noDefer_is (by rfl)) rfl (by kernel_rfl) (by kernel_rfl) (by kernel_rfl) (fun _ _ _ h => h) (Or.inl ⟨by rfl, ?_⟩) (by assumption) ?_
      · (intro w hSw; obtain ⟨hS0, hS1, hS2, hS3, hS4, hS5, hS6, hS7, hS8, hS9⟩ := hSw; go_simp)
      try simp only [Act.put, List.setIfInBounds_toArray, List.set_cons_zero, List.set_cons_succ]
      refine stepR 12 (by kernel_rfl) rfl (fun K hK => ?_)
      go_simp
      refine ⟨fun h => (by cases h), (round_deep HR.out).mono ?_⟩
      rintro e W3 (⟨rfl, hJ3, hk3, hf3⟩ | ⟨rfl, hJx3, hk3, hf3⟩)
      · have HE : Hid (KeepsFrom W2.heap.size W' W3 ∧ KpT T W' W3 ∧ UsI W T l bs (sc nn ad m k (some ⟨b, o, none⟩) m lk to need) (some ⟨b, o, none⟩) L need J (pre ++ [x]) W3) :=
          ⟨(keeps_below (drew_below W')).trans (keeps_mono hf3 (by omega)), (KpT.of_below (drew_below W')).trans hk3, HI.out.kp ((KpT.of_below (drew_below W')).trans hk3) n1 (hnT _ (Nat.le_refl _)) (by rw [HFS.out]; exact hJ3)⟩
        refine hK.out _ _ ⟨hk3.cell c4 n1, hk3.cell c2 n1, hk3.cell cl hnb, hk3.cell cy (hnT _ (Nat.le_refl _)), hk3.cell f0 hnf, hk3.cell f1 hnf, hk3.cell f2 hnf, hk3.cell f3 hnf, hk3.cell f4 hnf, hk3.cell f5 hnf⟩ (fun hHeld => ?_)
        clear hK K hJ3 hk3 hf3
        try simp only [Act.put, List.setIfInBounds_toArray, List.set_cons_zero, List.set_cons_succ]
        refine takeR 13 (.bool false) (noDefer_is (by rfl)) rfl (by kernel_rfl) (by kernel_rfl) (by kernel_rfl) (fun _ _ _ h => h) (Or.inl ⟨by rfl, ?_⟩) (by assumption) ?_
        · (intro w hSw; obtain ⟨hS0, hS1, hS2, hS3, hS4, hS5, hS6, hS7, hS8, hS9⟩ := hSw; go_simp)
        try simp only [Act.put, List.setIfInBounds_toArray, List.set_cons_zero, List.set_cons_succ]
        refine takeR 14 (.bool false) (noDefer_is (by rfl)) rfl (by kernel_rfl) (by kernel_rfl) (by kernel_rfl) (fun _ _ _ h => h) (Or.inl ⟨by rfl, ?_⟩) (by assumption) ?_
        · (intro w hSw; obtain ⟨hS0, hS1, hS2, hS3, hS4, hS5, hS6, hS7, hS8, hS9⟩ := hSw; go_simp)
        try simp only [Act.put, List.setIfInBounds_toArray, List.set_cons_zero, List.set_cons_succ]
        refine anyR_done (by kernel_rfl) ?_ _
        gi_wp2
        exact HE.out
      · have HE : Hid (KeepsFrom W2.heap.size W' W3 ∧ KpT T W' W3 ∧ Jx (fU L need pre ++ [x]) W3) :=
          ⟨(keeps_below (drew_below W')).trans (keeps_mono hf3 (by omega)), (KpT.of_below (drew_below W')).trans hk3, hJx3⟩
        refine hK.out _ _ ⟨hk3.cell c4 n1, hk3.cell c2 n1, hk3.cell cl hnb, hk3.cell cy (hnT _ (Nat.le_refl _)), hk3.cell f0 hnf, hk3.cell f1 hnf, hk3.cell f2 hnf, hk3.cell f3 hnf, hk3.cell f4 hnf, hk3.cell f5 hnf⟩ (fun hHeld => ?_)
        clear hK K hJx3 hk3 hf3
        try simp only [Act.put, List.setIfInBounds_toArray, List.set_cons_zero, List.set_cons_succ]
        refine takeR 13 (.bool true) (noDefer_is (by rfl)) rfl (by kernel_rfl) (by kernel_rfl) (by kernel_rfl) (fun _ _ _ h => h) (Or.inl ⟨by rfl, ?_⟩) (by assumption) ?_
        · (intro w hSw; obtain ⟨hS0, hS1, hS2, hS3, hS4, hS5, hS6, hS7, hS8, hS9⟩ := hSw; go_simp)
        try simp only [Act.put, List.setIfInBounds_toArray, List.set_cons_zero, List.set_cons_succ]
        refine takeR 14 (.bool true) (noDefer_is (by rfl)) rfl (by kernel_rfl) (by kernel_rfl) (by kernel_rfl) (fun _ _ _ h => h) (Or.inl ⟨by rfl, ?_⟩) (by assumption) ?_
        · (intro w hSw; obtain ⟨hS0, hS1, hS2, hS3, hS4, hS5, hS6, hS7, hS8, hS9⟩ := hSw; go_simp)
        try simp only [Act.put, List.setIfInBounds_toArray, List.set_cons_zero, List.set_cons_succ]
        refine anyR_done (by kernel_rfl) ?_ _
        gi_wp2
        exact ⟨HE.out.1, HE.out.2.1, rfl, _, HE.out.2.2⟩
    · have hu' : decide (need ≤ v) = false := by simpa using hu
      have hfs : fU L need (pre ++ [x]) = fU L need pre := by rw [fU_snoc, if_neg (by rw [hgd]; exact hu), List.append_nil]
      have HI : Hid (UsI W T l bs (sc nn ad m k (some ⟨b, o, none⟩) m lk to need) (some ⟨b, o, none⟩) L need J pre W') := hi
      have HFS : Hid (fU L need (pre ++ [x]) = fU L need pre) := hfs
      clear hfs hi hfb hseq hi0 hv hgd ht hY
      gi_wp2
      refine region_held (fun W' => W'.cell? ⟨bs, 4, none⟩ = some (.int .i64 need) ∧ W'.cell? ⟨bs, 2, none⟩ = some (.slice (some ⟨b, o, none⟩) m lk) ∧ W'.cell? ⟨b, o + x.1, none⟩ = some (.int .i64 v) ∧ W'.cell? ⟨W.heap.size, 0, none⟩ = some (.func (.yield l) #[] #[]) ∧ W'.cell? ⟨f, 0, none⟩ = some (.int .i64 x.2.frm) ∧ W'.cell? ⟨f, 1, none⟩ = some (.int .i64 x.2.to) ∧ W'.cell? ⟨f, 2, none⟩ = some (.int .i64 x.2.st) ∧ W'.cell? ⟨f, 3, none⟩ = some (.int .i64 x.2.en) ∧ W'.cell? ⟨f, 4, none⟩ = some (.int .i64 x.2.rt) ∧ W'.cell? ⟨f, 5, none⟩ = some (.int .i64 x.2.dl)) (by kernel_rfl) ⟨c4, c2, cl, cy, f0, f1, f2, f3, f4, f5⟩ (fun hHeld => ?_)
      refine takeR 0 (.pointer (some ⟨bs, 4, none⟩)) (noDefer_is (by rfl)) rfl (by kernel_rfl) (by kernel_rfl) (by kernel_rfl) (fun _ _ _ h => h) (Or.inl ⟨by rfl, ?_⟩) (by assumption) ?_
      · (intro w hSw; obtain ⟨hS0, hS1, hS2, hS3, hS4, hS5, hS6, hS7, hS8, hS9⟩ := hSw; go_simp)
      try simp only [Act.put, List.setIfInBounds_toArray, List.set_cons_zero, List.set_cons_succ]
      refine takeR 1 (.int .i64 need) (noDefer_is (by rfl)) rfl (by kernel_rfl) (by kernel_rfl) (by kernel_rfl) (fun _ _ _ h => h) (Or.inl ⟨by rfl, ?_⟩) (by assumption) ?_
      · (intro w hSw; obtain ⟨hS0, hS1, hS2, hS3, hS4, hS5, hS6, hS7, hS8, hS9⟩ := hSw; go_simp)
      try simp only [Act.put, List.setIfInBounds_toArray, List.set_cons_zero, List.set_cons_succ]
      refine takeR 2 (.pointer (some ⟨bs, 2, none⟩)) (noDefer_is (by rfl)) rfl (by kernel_rfl) (by kernel_rfl) (by kernel_rfl) (fun _ _ _ h => h) (Or.inl ⟨by rfl, ?_⟩) (by assumption) ?_
      · (intro w hSw; obtain ⟨hS0, hS1, hS2, hS3, hS4, hS5, hS6, hS7, hS8, hS9⟩ := hSw; go_simp)
      try simp only [Act.put, List.setIfInBounds_toArray, List.set_cons_zero, List.set_cons_succ]
      refine takeR 3 (.slice (some ⟨b, o, none⟩) m lk) (noDefer_is (by rfl)) rfl (by kernel_rfl) (by kernel_rfl) (by kernel_rfl) (fun _ _ _ h => h) (Or.inl ⟨by rfl, ?_⟩) (by assumption) ?_
      · (intro w hSw; obtain ⟨hS0, hS1, hS2, hS3, hS4, hS5, hS6, hS7, hS8, hS9⟩ := hSw; go_simp)
      try simp only [Act.put, List.setIfInBounds_toArray, List.set_cons_zero, List.set_cons_succ]
      refine takeR 4 (.int .i64 (x.1 : Nat)) (noDefer_is (by rfl)) rfl (by kernel_rfl) (by kernel_rfl) (by kernel_rfl) (fun _ _ _ h => h) (Or.inl ⟨by rfl, ?_⟩) (by assumption) ?_
      · (intro w hSw; obtain ⟨hS0, hS1, hS2, hS3, hS4, hS5, hS6, hS7, hS8, hS9⟩ := hSw; go_simp)
      try simp only [Act.put, List.setIfInBounds_toArray, List.set_cons_zero, List.set_cons_succ]
      refine takeR 5 (.pointer (some ⟨b, o + x.1, none⟩)) (noDefer_is (by rfl)) rfl (by kernel_rfl) (by kernel_rfl) (by kernel_rfl) (fun _ _ _ h => h) (Or.inl ⟨by rfl, ?_⟩) (by assumption) ?_
      · (intro w hSw; obtain ⟨hS0, hS1, hS2, hS3, hS4, hS5, hS6, hS7, hS8, hS9⟩ := hSw; go_simp)
      try simp only [Act.put, List.setIfInBounds_toArray, List.set_cons_zero, List.set_cons_succ]
      refine takeR 6 (.int .i64 v) (noDefer_is (by rfl)) rfl (by kernel_rfl) (by kernel_rfl) (by kernel_rfl) (fun _ _ _ h => h) (Or.inl ⟨by rfl, ?_⟩) (by assumption) ?_
      · (intro w hSw; obtain ⟨hS0, hS1, hS2, hS3, hS4, hS5, hS6, hS7, hS8, hS9⟩ := hSw; go_simp)
      try simp only [Act.put, List.setIfInBounds_toArray, List.set_cons_zero, List.set_cons_succ]
      refine takeR 7 (.bool false) (noDefer_is (by rfl)) rfl (by kernel_rfl) (by kernel_rfl) (by kernel_rfl) (fun _ _ _ h => h) (Or.inl ⟨by rfl, ?_⟩) (by assumption) ?_
      · (intro w hSw; obtain ⟨hS0, hS1, hS2, hS3, hS4, hS5, hS6, hS7, hS8, hS9⟩ := hSw; go_simp)
      try simp only [Act.put, List.setIfInBounds_toArray, List.set_cons_zero, List.set_cons_succ]
      refine takeR 8 (.bool false) (noDefer_is (by rfl)) rfl (by kernel_rfl) (by kernel_rfl) (by kernel_rfl) (fun _ _ _ h => h) (Or.inl ⟨by rfl, ?_⟩) (by assumption) ?_
      · (intro w hSw; obtain ⟨hS0, hS1, hS2, hS3, hS4, hS5, hS6, hS7, hS8, hS9⟩ := hSw; go_simp)
      try simp only [Act.put, List.setIfInBounds_toArray, List.set_cons_zero, List.set_cons_succ]
      refine takeR 9 undef (noDefer_is (by rfl)) rfl (by kernel_rfl) (by kernel_rfl) (by kernel_rfl) (fun _ _ _ h => h) (Or.inr ⟨by rfl, rfl⟩) (by assumption) ?_
      try simp only [Act.put, List.setIfInBounds_toArray, List.set_cons_zero, List.set_cons_succ]
      refine takeR 10 undef (noDefer_is (by rfl)) rfl (by kernel_rfl) (by kernel_rfl) (by kernel_rfl) (fun _ _ _ h => h) (Or.inr ⟨by rfl, rfl⟩) (by assumption) ?_
      try simp only [Act.put, List.setIfInBounds_toArray, List.set_cons_zero, List.set_cons_succ]
      refine takeR 11 undef (noDefer_is (by rfl)) rfl (by kernel_rfl) (by kernel_rfl) (by kernel_rfl) (fun _ _ _ h => h) (Or.inr ⟨by rfl, rfl⟩) (by assumption) ?_
      try simp only [Act.put, List.setIfInBounds_toArray, List.set_cons_zero, List.set_cons_succ]
      refine takeR 12 undef (noDefer_is (by rfl)) rfl (by kernel_rfl) (by kernel_rfl) (by kernel_rfl) (fun _ _ _ h => h) (Or.inr ⟨by rfl, rfl⟩) (by assumption) ?_
      try simp only [Act.put, List.setIfInBounds_toArray, List.set_cons_zero, List.set_cons_succ]
      refine takeR 13 undef (noDefer_is (by rfl)) rfl (by kernel_rfl) (by kernel_rfl) (by kernel_rfl) (fun _ _ _ h => h) (Or.inr ⟨by rfl, rfl⟩) (by assumption) ?_
      try simp only [Act.put, List.setIfInBounds_toArray, List.set_cons_zero, List.set_cons_succ]
      refine takeR 14 (.bool false) (noDefer_is (by rfl)) rfl (by kernel_rfl) (by kernel_rfl) (by kernel_rfl) (fun _ _ _ h => h) (Or.inl ⟨by rfl, ?_⟩) (by assumption) ?_
      · (intro w hSw; obtain ⟨hS0, hS1, hS2, hS3, hS4, hS5, hS6, hS7, hS8, hS9⟩ := hSw; go_simp)
      try simp only [Act.put, List.setIfInBounds_toArray, List.set_cons_zero, List.set_cons_succ]
      refine anyR_done (by kernel_rfl) ?_ _
      gi_wp2
      exact ⟨keeps_below (drew_below W'), KpT.of_below (drew_below W'), HI.out.kp (KpT.of_below (drew_below W')) n1 (hnT _ (Nat.le_refl _)) (by rw [HFS.out]; exact own_below hJ HI.out.j (drew_below W'))⟩
  case done =>
    rintro D ys W' hD rfl ht hi hK
    gi_wp2
    refine ⟨by simp, .inl ⟨_, _, rfl, run_takeDeferred hK, ?_⟩⟩
    refine ⟨_, results_none rfl _ _ _, ⟨_, rfl⟩, .inl ⟨_, rfl, List.prefix_refl _, ?_⟩⟩
    have := hi.j
    rw [fU_ys] at this
    exact hJ _ _ _ _ this (grownBy_putObj' W' D (.deferred none)) (fun r e => by cases e; exact ⟨by omega, _, hK, rfl⟩)
  case stop =>
    rintro D c pre W' hD ⟨rfl, q, hq⟩ hK
    gi_wp2
    refine ⟨by simp, .inl ⟨_, _, rfl, run_takeDeferred hK, ?_⟩⟩
    exact ⟨_, results_none rfl _ _ _, ⟨_, rfl⟩, .inr ⟨q, hJx _ _ _ _ hq (grownBy_putObj' W' D (.deferred none)) (fun r e => by cases e; exact ⟨by omega, _, hK, rfl⟩)⟩⟩

theorem us_hands (n bs bn m k lk : Nat) (T : Nat → Prop) (nn nd to need : Int) (ad la : Option Addr) (X : List Ct) (L : List Int) (hn : 4 ≤ n) (hm : X.length = m) (hl : L.length = m) (h24 : m ≤ 24) (w : World) (hT : ∀ k, T k → k < w.heap.size)
    (hs : w.heap[bs]? = some (.cells (sc nn ad m k la m lk to need) 48 (0, 0))) (h2 : w.heap[bn]? = some (.cells #[.int .i64 nd] 3 (0, 0))) (n1 : ¬ T bs) (n2 : ¬ T bn) (hX : CtAt T w ad X) (hL : RowI T w la L) :
    Hands n Try.prog 30 #[.pointer (some ⟨bs, 0, none⟩), .pointer (some ⟨bn, 0, none⟩)] encC (KpT T) (fun ys _ => ys <+: ysK (usP L need nd) X m) (fun ys => ys = ysK (usP L need nd) X m) m w :=
  fun l J Jx W hW hJ hJx hY h0 => us1_in n l bs bn m k lk T nn nd to need ad la X L hn hm hl h24 J Jx W hJ hJx (fun k hk => by have := hT k hk; have := hW.size; omega) hY (old_block hW hs) (old_block hW h2) n1 n2 (hX.later hW) (hL.later hW) h0
def sv (nn : Int) (ad : Option Addr) (m k : Nat) (la : Option Addr) (lm lk : Nat) (to need : Int) : Value := .agg (sc nn ad m k la lm lk to need)
theorem us_fn (nn nd to need : Int) (ad la : Option Addr) (m k lm lk : Nat) (w : World) : Calls Try.prog 25 #[sv nn ad m k la lm lk to need, .int .i64 nd] w fun e w' => e = .returned (.func (.func 30) #[] #[.pointer (some ⟨w.heap.size, 0, none⟩), .pointer (some ⟨w.heap.size + 1, 0, none⟩)]) ∧ w' = (w.alloc (.cells (sc nn ad m k la lm lk to need) 48)).alloc (.cells #[.int .i64 nd] 3) := by
  unfold sv sc
  go_enter Try.func25, Try.ntmps25
  go_wp2
  go_ret
  exact ⟨rfl, rfl⟩
end Go.Proofs.Ytmmcdnniconalaa
