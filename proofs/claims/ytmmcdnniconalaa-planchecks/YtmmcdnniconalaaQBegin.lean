/- The walk of begin. -/
import Derived.Test.YtmmcdnniconalaaQEarl
namespace Go.Proofs.Ytmmcdnniconalaa
open Go.RowKit Go.Shelf
set_option linter.unusedVariables false
/-- the first contact and the arrival, over what is handed over. -/
def bgS (X : List Ct) (L : List Int) (to now need : Int) (s : Int × Int) (y : Nat × Ct) : Int × Int := if ern X L to.toNat need y.2.to.toNat (arr y.2 now) < s.2 then ((y.1 : Int), ern X L to.toNat need y.2.to.toNat (arr y.2 now)) else s
def bgY (X : List Ct) (L : List Int) (to now need : Int) (ys : List (Nat × Ct)) : Int × Int := ys.foldl (bgS X L to now need) (0, nvr)
theorem bgY_snoc (X : List Ct) (L : List Int) (to now need : Int) (ys : List (Nat × Ct)) (y : Nat × Ct) : bgY X L to now need (ys ++ [y]) = bgS X L to now need (bgY X L to now need ys) y := by unfold bgY; rw [List.foldl_append]; rfl
theorem bgY_is (X : List Ct) (L : List Int) (frm to now need : Int) : ∀ k, bgY X L to now need (ysK (usP L need frm) X k) = bgnK X L frm to now need k
  | 0 => rfl
  | k + 1 => by
    have ih := bgY_is X L frm to now need k
    rw [ysK, bgnK]
    cases X[k]? with
    | none => simp only [List.append_nil]; exact ih
    | some c =>
      simp only
      by_cases h : usP L need frm k c = true
      · rw [if_pos h, if_pos h, bgY_snoc, ih]; rfl
      · rw [if_neg h, if_neg h, List.append_nil]; exact ih
/-- between two contacts. -/
structure BI (w W3 : World) (s : Array Value) (now : Int) (p : Int × Int) (W : World) : Prop where
  sb : W.heap[w.heap.size]? = some (.cells s 48 (0, 0))
  nb : W.heap[w.heap.size + 1]? = some (.cells #[.int .i64 now] 3 (0, 0))
  fb : W.heap[w.heap.size + 1 + 1]? = some (.cells #[.int .i64 p.1] 3 (0, 0))
  bb : W.heap[w.heap.size + 1 + 1 + 1]? = some (.cells #[.int .i64 p.2] 3 (0, 0))
  bel : Below w.heap.size w W
  ge : W3.heap.size ≤ W.heap.size
theorem BI.later {w W3 W W' : World} {s : Array Value} {now : Int} {p : Int × Int} (h : BI w W3 s now p W) (hb : Below W.heap.size W W') : BI w W3 s now p W' :=
  ⟨old_block hb h.sb, old_block hb h.nb, old_block hb h.fb, old_block hb h.bb, below_of h.bel hb, Nat.le_trans h.ge hb.size⟩
theorem BI.own {w W3 : World} {s : Array Value} {now : Int} {F : List (Nat × Ct) → Int × Int} (hw : w.heap.size ≤ W3.heap.size) : OwnFrom W3.heap.size (fun ys W => BI w W3 s now (F ys) W) := fun ys A B row h hg hr =>
  ⟨kept_cells h.sb hg hr, kept_cells h.nb hg hr, kept_cells h.fb hg hr, kept_cells h.bb hg hr, h.bel.grown hg h.bel.size (fun k e => by have := (hr k e).1; omega), Nat.le_trans h.ge hg.size⟩
theorem BI.set {w W3 W : World} {s : Array Value} {now : Int} {p q : Int × Int} (h : BI w W3 s now p W) (B : Nat) :
    KeepsFrom B W ((W.setCell ⟨w.heap.size + 1 + 1, 0, none⟩ (.int .i64 q.1)).setCell ⟨w.heap.size + 1 + 1 + 1, 0, none⟩ (.int .i64 q.2)) ∧ KpT (fun k => k = w.heap.size + 1 + 1 ∨ k = w.heap.size + 1 + 1 + 1) W ((W.setCell ⟨w.heap.size + 1 + 1, 0, none⟩ (.int .i64 q.1)).setCell ⟨w.heap.size + 1 + 1 + 1, 0, none⟩ (.int .i64 q.2)) ∧
      BI w W3 s now q ((W.setCell ⟨w.heap.size + 1 + 1, 0, none⟩ (.int .i64 q.1)).setCell ⟨w.heap.size + 1 + 1 + 1, 0, none⟩ (.int .i64 q.2)) := by
  obtain ⟨p1, p2, p3, p4⟩ := set2 (u' := .int .i64 q.1) (v' := .int .i64 q.2) h.fb h.bb (by omega)
  exact ⟨p4 B, KpT.of_off p3 (fun _ _ _ _ _ e => e), p3.at h.sb (by omega), p3.at h.nb (by omega), p1, p2, (h.bel.setCell (p := ⟨w.heap.size + 1 + 1, 0, none⟩) (by show _ ≤ w.heap.size + 1 + 1; omega) _).setCell (p := ⟨w.heap.size + 1 + 1 + 1, 0, none⟩) (by show _ ≤ w.heap.size + 1 + 1 + 1; omega) _, Nat.le_trans h.ge p3.size⟩
theorem arr_ok {n : Int} {c : Ct} (h : OkC n c) (t : Int) : arr c t = nvr ∨ (0 ≤ arr c t ∧ arr c t ≤ 2097152) := arr_bnd h
/-- what is read while a contact is asked for stays. -/
theorem begin_held {W w1 : World} {a b c d e g : Addr} {f : Nat} {va vb vc vd ve vg v0 v1 v2 v3 v4 v5 : Value} (h : W.cell? a = some va ∧ W.cell? b = some vb ∧ W.cell? c = some vc ∧ W.cell? d = some vd ∧ W.cell? e = some ve ∧ W.cell? g = some vg ∧ W.cell? ⟨f, 0, none⟩ = some v0 ∧ W.cell? ⟨f, 1, none⟩ = some v1 ∧ W.cell? ⟨f, 2, none⟩ = some v2 ∧ W.cell? ⟨f, 3, none⟩ = some v3 ∧ W.cell? ⟨f, 4, none⟩ = some v4 ∧ W.cell? ⟨f, 5, none⟩ = some v5) (hb : Below W.heap.size W w1) :
    w1.cell? a = some va ∧ w1.cell? b = some vb ∧ w1.cell? c = some vc ∧ w1.cell? d = some vd ∧ w1.cell? e = some ve ∧ w1.cell? g = some vg ∧ w1.cell? ⟨f, 0, none⟩ = some v0 ∧ w1.cell? ⟨f, 1, none⟩ = some v1 ∧ w1.cell? ⟨f, 2, none⟩ = some v2 ∧ w1.cell? ⟨f, 3, none⟩ = some v3 ∧ w1.cell? ⟨f, 4, none⟩ = some v4 ∧ w1.cell? ⟨f, 5, none⟩ = some v5 := by
  obtain ⟨a1, a2, a3, a4, a5, a6, a7, a8, a9, b1, b2, b3⟩ := h
  exact ⟨cell_later hb a1, cell_later hb a2, cell_later hb a3, cell_later hb a4, cell_later hb a5, cell_later hb a6, cell_later hb a7, cell_later hb a8, cell_later hb a9, cell_later hb b1, cell_later hb b2, cell_later hb b3⟩
attribute [local go_sem] Oper.semAt_some
set_option maxRecDepth 20000 in
set_option maxHeartbeats 8000000 in
theorem begin_any (w : World) (nn to need frm now : Int) (ad la : Option Addr) (m k lk : Nat) (X : List Ct) (L : List Int) (hX : OkX nn X) (hm : X.length = m) (hl : L.length = m) (t1 : 1 ≤ to) (t2 : to ≤ nn) (h0n : 0 ≤ now)
    (hXA : CtAt (fun _ => False) w ad X) (hLA : RowI (fun _ => False) w la L) :
    Calls Try.prog 17 #[sv nn ad m k la m lk to need, .int .i64 frm, .int .i64 now] w fun e w' => e = .returned (.tuple #[.int .i64 (bgnK X L frm to now need m).1, .int .i64 (bgnK X L frm to now need m).2]) ∧ Hid (Below w.heap.size w w') := by
  have h6 := hX.n6
  have h24 := hX.len
  have HU : Hid (∀ W0, Calls Try.prog 25 #[sv nn ad m k la m lk to need, .int .i64 frm] W0 fun e w' => e = .returned (.func (.func 30) #[] #[.pointer (some ⟨W0.heap.size, 0, none⟩), .pointer (some ⟨W0.heap.size + 1, 0, none⟩)]) ∧ w' = (W0.alloc (.cells (sc nn ad m k la m lk to need) 48)).alloc (.cells #[.int .i64 frm] 3)) := fun W0 => us_fn _ _ _ _ _ _ _ _ _ _ _
  unfold sv sc at HU
  unfold sv sc
  refine (callsIn_wide (n := 9)).1 ?_
  refine callsIn_of_wp_marks Try.func17 rfl trivial ?_
  simp only [Try.ntmps17, List.size_toArray, List.length_cons, List.length_nil, Nat.reduceAdd, Nat.reduceSub, Array.replicate_succ, Array.replicate_zero, List.push_toArray, List.append_toArray, List.nil_append, List.cons_append]
  gi_wp2_with (refine ⟨trivial, ?_⟩; gi_at_call 25; refine (callsIn_wide.2 (HU.out _)).mono ?_; rintro e w1 ⟨rfl, rfl⟩)
  obtain ⟨W3, hW3, z3, zb3, g0, g1, g2, g3, g4, g5⟩ := alloc6w w (.cells (sc nn ad m k la m lk to need) 48) (.cells #[.int .i64 now] 3) (.cells #[.int .i64 0] 3) (.cells #[.int .i64 nvr] 3) (.cells (sc nn ad m k la m lk to need) 48) (.cells #[.int .i64 frm] 3)
  unfold sc nvr at hW3
  rw [← hW3]
  have hseq := us_hands (9 - 1) (w.heap.size + 4) (w.heap.size + 5) m k lk (fun k => k = w.heap.size + 1 + 1 ∨ k = w.heap.size + 1 + 1 + 1) nn frm to need ad la X L (by decide) hm hl (by omega) W3 (fun k hk => by omega) g4 g5 (by omega) (by omega) ((hXA.sub (M := fun k => k = w.heap.size + 1 + 1 ∨ k = w.heap.size + 1 + 1 + 1) (fun k hk e => by omega)).later zb3) ((hLA.sub (M := fun k => k = w.heap.size + 1 + 1 ∨ k = w.heap.size + 1 + 1 + 1) (fun k hk e => by omega)).later zb3)
  have hi0 : BI w W3 (sc nn ad m k la m lk to need) now (bgY X L to now need []) W3 := ⟨g0, g1, g2, g3, zb3, Nat.le_refl _⟩
  have h3g : w.heap.size + 4 ≤ W3.heap.size := by omega
  clear hW3 g0 g1 g2 g3 g4 g5 zb3 HU z3
  refine range_hands (by decide) (gf := 30) rfl (enters_of Try.func30 (by kernel_rfl) rfl) hseq KpT.trans (fun W l o o' ho hc => KpT.put ho hc) (Below.refl _ _) (fun _ => rfl)
    (I := fun ys W => BI w W3 (sc nn ad m k la m lk to need) now (bgY X L to now need ys) W) (Ix := fun _ _ _ => False)
    (BI.own (by omega)) (fun c s A B row h hg hr => h) (fun s A B row h hg hr => h) hi0
    (fun x a' W' => ∃ f, W3.heap.size ≤ f ∧ W'.heap[f]? = some (.cells (cc x.2) 43 (0, 0)) ∧ a' = { tmps := #[.agg #[.int .i64 nn, .slice ad m k, .slice la m lk, .int .i64 to, .int .i64 need], .int .i64 frm, .int .i64 now, .pointer (some ⟨w.heap.size, 0, none⟩), undef, .pointer (some ⟨w.heap.size + 1, 0, none⟩), .int .i64 0, .int .i64 0, .pointer (some ⟨w.heap.size + 1 + 1, 0, none⟩), .pointer (some ⟨w.heap.size + 1 + 1 + 1, 0, none⟩), .int .i64 (x.1 : Nat), .pointer (some ⟨f, 0, none⟩), undef, .agg #[.int .i64 nn, .slice ad m k, .slice la m lk, .int .i64 to, .int .i64 need], .int .i64 frm, .func (.func 30) #[] #[.pointer (some ⟨w.heap.size + 1 + 1 + 1 + 1, 0, none⟩), .pointer (some ⟨w.heap.size + 1 + 1 + 1 + 1 + 1, 0, none⟩)], .int .i64 (x.1 : Nat), cv x.2, undef, undef, undef, undef, undef, undef, undef, undef, undef, undef, undef, undef, undef, undef], defers := [] })
    (fun x a' s A B row h hg hr => by obtain ⟨f, q1, q2, q3⟩ := h; exact ⟨f, q1, kept_cells q2 hg hr, q3⟩) ?assign ?body ?done ?stop
  case assign =>
    intro l' pre x W' K hi ht hK
    have hb : Below W'.heap.size W' (W'.alloc (.cells (cc x.2) 43)) := (Below.refl _ W').alloc (Nat.le_refl _) _
    have HK : Hid (K _ (W'.alloc (.cells (cc x.2) 43))) := hK _ _ ⟨hb.size, fun k o _ hk _ => old_block hb hk⟩ (KpT.of_below hb) (hi.later hb) ht ⟨_, hi.ge, heap_alloc_new W' _, rfl⟩
    unfold cc cv at HK
    dsimp only [encC, cv]
    clear hK hi ht hseq hi0
    gi_wp2
    exact HK.out
  case body =>
    rintro l' pre x a' W' hi ht ⟨f, hf, hfb, rfl⟩ hlen
    obtain ⟨hx1, hx2, hx3⟩ := ysK_mem (ht.subset (show x ∈ pre ++ [x] by simp))
    have hok := hX.each _ _ hx2
    obtain ⟨s0, s1, s2, s3, s4⟩ := sc_cells hi.sb
    obtain ⟨f0, f1, f2, f3, f4, f5⟩ := box6 hfb
    have cN := cell_of hi.nb 0
    simp only [List.getElem?_toArray, List.getElem?_cons_zero] at cN
    have HA : Hid (∀ W0, Calls Try.prog 27 #[cv x.2, .int .i64 now] W0 fun e w' => e = .returned (.int .i64 (arr x.2 now)) ∧ Below W0.heap.size W0 w') := fun W0 => arrival_any x.2 _ W0 hok.s0 hok.e2 hok.d0 hok.d2 h0n hok.se
    have HEA : Hid (∀ W0, Below w.heap.size w W0 → Calls Try.prog 26 #[sv nn ad m k la m lk to need, .int .i64 x.2.to, .int .i64 (arr x.2 now)] W0 fun e w' => e = .returned (.int .i64 (ern X L to.toNat need x.2.to.toNat (arr x.2 now))) ∧ Hid (Below W0.heap.size W0 w')) := fun W0 hb => earl_any W0 nn to need x.2.to _ ad la m k lk X L hX hm hl t1 t2 hok.t1 hok.t2 (arr_ok hok now) (hXA.later hb) (hLA.later hb)
    have HI : Hid (BI w W3 (sc nn ad m k la m lk to need) now (bgY X L to now need pre) W') := hi
    have HY : Hid (bgY X L to now need (pre ++ [x]) = bgS X L to now need (bgY X L to now need pre) x) := bgY_snoc _ _ _ _ _ _ _
    have HS0 : Hid ((fun W' => W'.cell? ⟨w.heap.size, 0, none⟩ = some (.int .i64 nn) ∧ W'.cell? ⟨w.heap.size, 1, none⟩ = some (.slice ad m k) ∧ W'.cell? ⟨w.heap.size, 2, none⟩ = some (.slice la m lk) ∧ W'.cell? ⟨w.heap.size, 3, none⟩ = some (.int .i64 to) ∧ W'.cell? ⟨w.heap.size, 4, none⟩ = some (.int .i64 need) ∧ W'.cell? ⟨w.heap.size + 1, 0, none⟩ = some (.int .i64 now) ∧ W'.cell? ⟨f, 0, none⟩ = some (.int .i64 x.2.frm) ∧ W'.cell? ⟨f, 1, none⟩ = some (.int .i64 x.2.to) ∧ W'.cell? ⟨f, 2, none⟩ = some (.int .i64 x.2.st) ∧ W'.cell? ⟨f, 3, none⟩ = some (.int .i64 x.2.en) ∧ W'.cell? ⟨f, 4, none⟩ = some (.int .i64 x.2.rt) ∧ W'.cell? ⟨f, 5, none⟩ = some (.int .i64 x.2.dl)) W') := ⟨s0, s1, s2, s3, s4, cN, f0, f1, f2, f3, f4, f5⟩
    unfold cv at HA ⊢
    unfold sv sc at HEA
    clear hx2 hx3 hok hfb hseq hi0 ht hi
    obtain ⟨q, hq⟩ : ∃ q, bgY X L to now need pre = q := ⟨_, rfl⟩
    rw [hq] at HI HY
    clear hq
    obtain ⟨E, hE⟩ : ∃ E, ern X L to.toNat need x.2.to.toNat (arr x.2 now) = E := ⟨_, rfl⟩
    unfold bgS at HY
    rw [hE] at HEA HY
    clear hE
    gi_wp2
    refine region_round (fun W' => W'.cell? ⟨w.heap.size, 0, none⟩ = some (.int .i64 nn) ∧ W'.cell? ⟨w.heap.size, 1, none⟩ = some (.slice ad m k) ∧ W'.cell? ⟨w.heap.size, 2, none⟩ = some (.slice la m lk) ∧ W'.cell? ⟨w.heap.size, 3, none⟩ = some (.int .i64 to) ∧ W'.cell? ⟨w.heap.size, 4, none⟩ = some (.int .i64 need) ∧ W'.cell? ⟨w.heap.size + 1, 0, none⟩ = some (.int .i64 now) ∧ W'.cell? ⟨f, 0, none⟩ = some (.int .i64 x.2.frm) ∧ W'.cell? ⟨f, 1, none⟩ = some (.int .i64 x.2.to) ∧ W'.cell? ⟨f, 2, none⟩ = some (.int .i64 x.2.st) ∧ W'.cell? ⟨f, 3, none⟩ = some (.int .i64 x.2.en) ∧ W'.cell? ⟨f, 4, none⟩ = some (.int .i64 x.2.rt) ∧ W'.cell? ⟨f, 5, none⟩ = some (.int .i64 x.2.dl)) (by kernel_rfl) (by rfl) (by rintro ⟨_, _, h⟩; exact h) HS0.out (fun hHeld => ?_)
    refine takeH 0 (.agg #[.int .i64 nn, .slice ad m k, .slice la m lk, .int .i64 to, .int .i64 need]) rfl (by kernel_rfl) (by kernel_rfl) (by kernel_rfl) (fun _ _ _ h => h) (Or.inl ⟨by rfl, ?_⟩) (by assumption) ?_
    · (intro w hSw; obtain ⟨hS0, hS1, hS2, hS3, hS4, hS5, hS6, hS7, hS8, hS9, hSa, hSb⟩ := hSw; go_simp)
    try simp only [Act.put, List.setIfInBounds_toArray, List.set_cons_zero, List.set_cons_succ]
    refine takeH 1 (.pointer (some ⟨f, 1, none⟩)) rfl (by kernel_rfl) (by kernel_rfl) (by kernel_rfl) (fun _ _ _ h => h) (Or.inl ⟨by rfl, ?_⟩) (by assumption) ?_
    · (intro w hSw; obtain ⟨hS0, hS1, hS2, hS3, hS4, hS5, hS6, hS7, hS8, hS9, hSa, hSb⟩ := hSw; go_simp)
    try simp only [Act.put, List.setIfInBounds_toArray, List.set_cons_zero, List.set_cons_succ]
    refine takeH 2 (.int .i64 x.2.to) rfl (by kernel_rfl) (by kernel_rfl) (by kernel_rfl) (fun _ _ _ h => h) (Or.inl ⟨by rfl, ?_⟩) (by assumption) ?_
    · (intro w hSw; obtain ⟨hS0, hS1, hS2, hS3, hS4, hS5, hS6, hS7, hS8, hS9, hSa, hSb⟩ := hSw; go_simp)
    try simp only [Act.put, List.setIfInBounds_toArray, List.set_cons_zero, List.set_cons_succ]
    refine takeH 3 (.agg #[.int .i64 x.2.frm, .int .i64 x.2.to, .int .i64 x.2.st, .int .i64 x.2.en, .int .i64 x.2.rt, .int .i64 x.2.dl]) rfl (by kernel_rfl) (by kernel_rfl) (by kernel_rfl) (fun _ _ _ h => h) (Or.inl ⟨by rfl, ?_⟩) (by assumption) ?_
    · (intro w hSw; obtain ⟨hS0, hS1, hS2, hS3, hS4, hS5, hS6, hS7, hS8, hS9, hSa, hSb⟩ := hSw; go_simp)
    try simp only [Act.put, List.setIfInBounds_toArray, List.set_cons_zero, List.set_cons_succ]
    refine takeH 4 (.int .i64 now) rfl (by kernel_rfl) (by kernel_rfl) (by kernel_rfl) (fun _ _ _ h => h) (Or.inl ⟨by rfl, ?_⟩) (by assumption) ?_
    · (intro w hSw; obtain ⟨hS0, hS1, hS2, hS3, hS4, hS5, hS6, hS7, hS8, hS9, hSa, hSb⟩ := hSw; go_simp)
    try simp only [Act.put, List.setIfInBounds_toArray, List.set_cons_zero, List.set_cons_succ]
    refine wpAnyH_ready (rs := [5]) (by kernel_rfl) (by simp) ?_
    refine stepH 5 rfl (fun K hK => ?_) AllReadyH.nil
    go_simp
    go_at_call 27
    refine (HA.out _).mono ?_
    rintro e w1 ⟨rfl, hb1⟩
    have hb2 : Below W'.heap.size W' w1 := below_of (drew_below W') hb1
    refine hK.out _ _ (begin_held HS0.out hb2) (fun hHeld => ?_)
    clear hK K
    try simp only [Act.put, List.setIfInBounds_toArray, List.set_cons_zero, List.set_cons_succ]
    refine wpAnyH_ready (rs := [6]) (by kernel_rfl) (by simp) ?_
    refine stepH 6 rfl (fun K hK => ?_) AllReadyH.nil
    go_simp
    go_at_call 26
    refine (HEA.out _ (below_of HI.out.bel hb2)).mono ?_
    rintro e w2 ⟨rfl, HB2⟩
    have hb3 : Below W'.heap.size W' w2 := below_of hb2 HB2.out
    refine hK.out _ _ (begin_held HS0.out hb3) (fun hHeld => ?_)
    clear hK K
    try simp only [Act.put, List.setIfInBounds_toArray, List.set_cons_zero, List.set_cons_succ]
    refine takeH 7 (.int .i64 E) rfl (by kernel_rfl) (by kernel_rfl) (by kernel_rfl) (fun _ _ _ h => h) (Or.inl ⟨by rfl, ?_⟩) (by assumption) ?_
    · (intro w hSw; obtain ⟨hS0, hS1, hS2, hS3, hS4, hS5, hS6, hS7, hS8, hS9, hSa, hSb⟩ := hSw; go_simp)
    try simp only [Act.put, List.setIfInBounds_toArray, List.set_cons_zero, List.set_cons_succ]
    refine wpAnyH_done (by kernel_rfl) ?_ _
    have HI2 : Hid (BI w W3 (sc nn ad m k la m lk to need) now q w2) := HI.out.later hb3
    have HB3 : Hid (Below W'.heap.size W' w2) := hb3
    have cb := cell_of HI2.out.bb 0
    have fb1 := frozen_of HI2.out.fb 0
    have fb2 := frozen_of HI2.out.bb 0
    have cf := cell_of HI2.out.fb 0
    simp only [List.getElem?_toArray, List.getElem?_cons_zero] at cb cf
    clear hHeld hb1 hb2 hb3 HB2 s0 s1 s2 s3 s4 f0 f1 f2 f3 f4 f5 cN HA HEA HS0
    by_cases hlt : E < q.2
    · gi_wp2
      have hS := HI2.out.set (q := ((x.1 : Int), E)) W3.heap.size
      exact ⟨(keeps_below HB3.out).trans hS.1, (KpT.of_below HB3.out).trans hS.2.1, by show BI _ _ _ _ (bgY X L to now need (pre ++ [x])) _; rw [HY.out, if_pos hlt]; exact hS.2.2⟩
    · gi_wp2
      exact ⟨keeps_below HB3.out, KpT.of_below HB3.out, by show BI _ _ _ _ (bgY X L to now need (pre ++ [x])) _; rw [HY.out, if_neg (by omega)]; exact HI2.out⟩
  case done =>
    rintro D ys W' hD rfl hpre hi hK
    rw [bgY_is] at hi
    have c1 := cell_of hi.fb 0
    have c2 := cell_of hi.bb 0
    simp only [List.getElem?_toArray, List.getElem?_cons_zero] at c1 c2
    have HD : Hid (BI w W3 (sc nn ad m k la m lk to need) now (bgnK X L frm to now need m) W' ∧ W'.heap[D]? = some (.deferred (some []))) := ⟨hi, hK⟩
    clear hi hK hseq hi0 hpre
    gi_wp2
    gi_region
    gi_wp2
    refine ⟨by simp, .inl ⟨_, _, rfl, run_takeDeferred (show W'.drew.heap[D]? = _ from HD.out.2), ?_⟩⟩
    refine ⟨_, results_tmp2 rfl _ _ _, rfl, ?_⟩
    exact (HD.out.1.bel.drew).trans (belowK_b (w := w) (Nat.le_refl _) W'.drew D _ _ (by omega) (show W'.drew.heap[D]? = _ from HD.out.2) rfl rfl)
  case stop => rintro D c pre W' hD h; exact h.elim
end Go.Proofs.Ytmmcdnniconalaa
