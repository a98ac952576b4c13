/- sender.none, over gaps: an iterator whose round may leave. -/
import Derived.Test.YtnjcaolkcmpdcaaUGap
import Derived.Test.YtnjcaolkcmpdcaaUTold
namespace Go.Proofs.Ytnjcaolkcmpdcaa
open Go.RowKit Go.Shelf
set_option linter.unusedVariables false
def FarZ (q : Nat) (W : World) (k : Nat) : Prop := k < W.heap.size ∧ k ≠ q ∧ q < W.heap.size
theorem farZ_o (q : Nat) : FarO (FarZ q) (KpT (fun k => k = q)) (fun _ => False) :=
  ⟨fun hk hf h => ⟨hk.cells _ _ _ _ h hf.2.1, Nat.lt_of_lt_of_le hf.1 hk.size, hf.2.1, Nat.lt_of_lt_of_le hf.2.2 hk.size⟩, fun hf ho => ⟨Nat.lt_of_lt_of_le hf.1 ho.size, hf.2.1, Nat.lt_of_lt_of_le hf.2.2 ho.size⟩⟩
attribute [local go_sem] Oper.semAt_some
set_option maxRecDepth 20000 in
set_option maxHeartbeats 4000000 in
theorem gpz_in (n l bg q : Nat) (s : Sn) (p : Pt) (hn : 1 ≤ n) (hg : GpO s.got s.bgn.blk.length) (J Jx : List (Nat × Nat) → World → Prop) (W : World) (hJ : OwnFrom W.heap.size J)
    (hY : ∀ pre x W1, J pre W1 → pre ++ [x] <+: gpF s.got s.bgn.blk.length → pre.length < s.got.length + 1 → YieldAt Fence.wide (n - 1) Try.prog l (encP x) W1 fun e W' => (e = .returned (.bool true) ∧ J (pre ++ [x]) W' ∧ KpT (fun k => k = q) W1 W' ∧ KeepsFrom W.heap.size W1 W') ∨ (e = .returned (.bool false) ∧ Jx (pre ++ [x]) W' ∧ KpT (fun k => k = q) W1 W' ∧ KeepsFrom W.heap.size W1 W'))
    (hi : GpI (FarZ q) bg s p s.got W) (h0 : J [] W) :
    CallsIn Fence.wide n Try.prog 70 #[.func (.yield l) #[] #[], .pointer (some ⟨bg, 0, none⟩)] W fun e W' => (∃ v, e = .returned v) ∧ ((∃ xs, xs = gpF s.got s.bgn.blk.length ∧ xs <+: gpF s.got s.bgn.blk.length ∧ J xs W') ∨ ∃ pre, Jx pre W') := by
  obtain ⟨N, hN⟩ : ∃ N, s.bgn.blk.length = N := ⟨_, rfl⟩
  obtain ⟨G, hG⟩ : ∃ G, s.got = G := ⟨_, rfl⟩
  have HB : Hid (∀ W' : World, W'.heap[bg]? = some (snc s p) → W'.cell? ⟨bg, 6, none⟩ = some (.slice p.ag G.length p.cg) ∧ W'.cell? ⟨bg, 2, none⟩ = some (.slice p.ab N p.cb)) := fun W' h => by
    rw [← hN, ← hG]
    refine ⟨?_, ?_⟩
    · rw [cell_of h]; rfl
    · rw [cell_of h]; rfl
  rw [hN, hG] at hg hY ⊢
  rw [hG] at hi
  have HCC : Hid (∀ W' : World, RowC W' p.ag G → ∀ b o, p.ag = some ⟨b, o, none⟩ → 0 < G.length → ∃ C t fr, W'.heap[b]? = some (.cells C t fr)) := fun W' h b o e h0 => by
    obtain ⟨b', o', e', hc⟩ := h.2 h0
    rw [e] at e'
    cases e'
    exact cell_is (hc 0 h0).1
  have HY : Hid (∀ pre x W1, J pre W1 → pre ++ [x] <+: gpF G N → pre.length < G.length + 1 → YieldAt Fence.wide (n - 1) Try.prog l (encP x) W1 fun e W' => (e = .returned (.bool true) ∧ J (pre ++ [x]) W' ∧ KpT (fun k => k = q) W1 W' ∧ KeepsFrom W.heap.size W1 W') ∨ (e = .returned (.bool false) ∧ Jx (pre ++ [x]) W' ∧ KpT (fun k => k = q) W1 W' ∧ KeepsFrom W.heap.size W1 W')) := hY
  have H0 : Hid (J [] W ∧ GpI (FarZ q) bg s p G W) := ⟨h0, hi⟩
  have HJ : Hid (OwnFrom W.heap.size J) := hJ
  have HFO : Hid (FarO (FarZ q) (KpT (fun k => k = q)) (fun _ => False)) := farZ_o q
  have HG : Hid (GpO G N) := hg
  have hlen := hg.len
  have hn512 := hg.n
  obtain ⟨b6, _⟩ := HB.out W hi.box
  clear hY h0 hJ hi hg hN hG
  refine callsIn_of_wp Try.func70 rfl trivial ?_ rfl
  simp only [Try.ntmps70, List.size_toArray, List.length_cons, List.length_nil, Nat.reduceAdd, Nat.reduceSub, Array.replicate_succ, Array.replicate_zero, List.push_toArray, List.append_toArray, List.nil_append, List.cons_append]
  gi_wp2
  gi_loopw [3, 9] (fun at_ i wr => ∃ k : Nat, k ≤ G.length ∧ i = .int .i64 k ∧ at_ = .int .i64 (atG G k) ∧ Hid (J (gpG G k) wr ∧ GpI (FarZ q) bg s p G wr)) (fun _ i _ => G.length - (intOf i).toNat)
  case atStart => exact ⟨0, by omega, rfl, rfl, H0.out⟩
  case round =>
    obtain ⟨k, hk, rfl, rfl, HK⟩ := hrel
    by_cases hlt : k < G.length
    · have hki : (k : Int) < (G.length : Int) := by omega
      obtain ⟨b, o, hag, hc⟩ := HK.out.2.row.2 (by omega)
      obtain ⟨c1, c2⟩ := hc k hlt
      obtain ⟨a1, a2⟩ := HG.out.at_ k (by omega)
      obtain ⟨a3, a4, a5⟩ := HG.out.cl k hlt
      have HSU : Hid (gpG G (k + 1) = gpG G k ++ (if atG G k < G[k].1 then [((atG G k).toNat, (G[k].1 - atG G k).toNat)] else [])) := gpG_succ hlt
      have HAT : Hid (atG G (k + 1) = G[k].1 + G[k].2) := atG_succ hlt
      obtain ⟨a6, a7⟩ := HG.out.at_ (k + 1) (by omega)
      rw [HAT.out] at a6 a7
      obtain ⟨A, hA⟩ : ∃ A : Nat, atG G k = A := ⟨(atG G k).toNat, by omega⟩
      obtain ⟨X, hX⟩ : ∃ X : Nat, G[k].1 = X := ⟨G[k].1.toNat, by omega⟩
      obtain ⟨Y, hY⟩ : ∃ Y, G[k].2 = Y := ⟨_, rfl⟩
      rw [hX] at c1 a3 a4 a6 a7 HSU HAT
      rw [hY] at c2 a6 a7 HAT
      rw [hA] at a1 a2 HSU ⊢
      have hpre : gpG G (k + 1) <+: gpF G N := gpG_all G N (by omega)
      have hlen2 := gpG_len G k
      have hw2 : IntKind.i64.wrap ((X : Int) + Y) = (X : Int) + Y := by rw [IntKind.wrap_i64]; omega
      have HAX : Hid (atG G (k + 1) = (X : Int) + Y) := HAT.out
      have hb : ∀ O, Below wr.heap.size wr (wr.alloc O) := fun O => (Below.refl _ wr).alloc (Nat.le_refl _) _
      have HJ1 : Hid (∀ O, J (gpG G k) (wr.alloc O) ∧ GpI (FarZ q) bg s p G (wr.alloc O) ∧ FarZ q (wr.alloc O) wr.heap.size) := fun O => ⟨own_below HJ.out HK.out.1 (hb O), HK.out.2.later HFO.out (hb O), by have := HK.out.2.fb.2.2; exact ⟨by simp, by omega, by simp; omega⟩⟩
      have HBX : Hid ((wr.alloc (.cells #[.int .i64 (X : Int), .int .i64 Y] 56)).heap[wr.heap.size]? = some (.cells #[.int .i64 (X : Int), .int .i64 Y] 56 (0, 0))) := heap_alloc_new wr _
      have x0 := cell_of HBX.out 0
      have x1 := cell_of HBX.out 1
      simp only [List.getElem?_toArray, List.getElem?_cons_zero, List.getElem?_cons_succ] at x0 x1
      rw [hag]
      by_cases hax : A < X
      · obtain ⟨D, hD⟩ : ∃ D : Nat, X - A = D := ⟨_, rfl⟩
        have hax' : (A : Int) < (X : Int) := by omega
        have hwD : IntKind.i64.wrap ((X : Int) - (A : Int)) = (D : Int) := by rw [IntKind.wrap_i64]; omega
        have hsu : gpG G (k + 1) = gpG G k ++ [(A, D)] := by rw [HSU.out, if_pos hax']; congr 3 <;> omega
        obtain ⟨fn, tmps, assign, body, hyy, hR⟩ := HY.out (gpG G k) (A, D) _ (HJ1.out (.cells #[.int .i64 (X : Int), .int .i64 Y] 56)).1 (by rw [← hsu]; exact hpre) (by omega)
        have HR : Hid (RoundIn Fence.wide (n - 1) Try.prog l fn tmps assign body _ _) := hR
        dsimp only [encP] at hyy
        have HSV : Hid (gpG G (k + 1) = gpG G k ++ [(A, D)]) := hsu
        clear hR hsu hD hb hpre HSU HAT hA hX hY hc
        gi_wp2
        refine HR.out.mono ?_
        rintro e W3 (⟨rfl, hJ3, hk3, _⟩ | ⟨rfl, hJ3, _, _⟩)
        · have hx3 := (HFO.out.kp hk3 (HJ1.out _).2.2 HBX.out).1
          have y0 := cell_of hx3 0
          have y1 := cell_of hx3 1
          simp only [List.getElem?_toArray, List.getElem?_cons_zero, List.getElem?_cons_succ] at y0 y1
          have HQ : Hid (J (gpG G (k + 1)) W3 ∧ GpI (FarZ q) bg s p G W3) := ⟨by rw [HSV.out]; exact hJ3, (HJ1.out _).2.1.kp HFO.out hk3 (HCC.out _ (HJ1.out _).2.1.row)⟩
          clear hJ3 hk3 hx3 x0 x1 c1 c2
          gi_wp2
          go_roundw
          case rel => exact ⟨k + 1, by omega, by go_num, by rw [HAX.out], HQ⟩
          case measure => simp [intOf]; omega
        · have HX3 : Hid (Jx (gpG G k ++ [(A, D)]) W3) := hJ3
          clear hJ3 x0 x1 c1 c2
          gi_wp2
          refine bodyPost_ret (results_none rfl _ _ _) rfl ?_
          exact ⟨⟨_, rfl⟩, .inr ⟨_, HX3.out⟩⟩
      · have hax' : ¬ (A : Int) < (X : Int) := by omega
        have HQ : Hid (J (gpG G (k + 1)) (wr.alloc (.cells #[.int .i64 (X : Int), .int .i64 Y] 56)) ∧ GpI (FarZ q) bg s p G (wr.alloc (.cells #[.int .i64 (X : Int), .int .i64 Y] 56))) := ⟨by rw [HSU.out, if_neg hax', List.append_nil]; exact (HJ1.out _).1, (HJ1.out _).2.1⟩
        clear hb hpre HSU HAT hA hX hY hc
        gi_wp2
        refine ⟨fun _ h => (by cases h), ?_⟩
        gi_wp2
        go_roundw
        case rel => exact ⟨k + 1, by omega, by go_num, by rw [HAX.out], HQ⟩
        case measure => simp [intOf]; omega
    · obtain rfl : k = G.length := by omega
      obtain ⟨a1, a2⟩ := HG.out.at_ G.length (Nat.le_refl _)
      obtain ⟨A, hA⟩ : ∃ A : Nat, atG G G.length = A := ⟨(atG G G.length).toNat, by omega⟩
      rw [hA]
      have b2 := (HB.out wr HK.out.2.box).2
      have hlen2 := gpG_len G G.length
      by_cases han : A < N
      · obtain ⟨D, hD⟩ : ∃ D : Nat, N - A = D := ⟨_, rfl⟩
        have han' : (A : Int) < (N : Int) := by omega
        have hwD : IntKind.i64.wrap ((N : Int) - (A : Int)) = (D : Int) := by rw [IntKind.wrap_i64]; omega
        have HPF : Hid (gpF G N = gpG G G.length ++ [(A, D)]) := by
          show _ = _
          unfold gpF
          rw [hA, if_pos han']
          congr 3 <;> omega
        obtain ⟨fn, tmps, assign, body, hyy, hR⟩ := HY.out (gpG G G.length) (A, D) wr HK.out.1 (by rw [HPF.out]; exact List.prefix_refl _) (by omega)
        have HR : Hid (RoundIn Fence.wide (n - 1) Try.prog l fn tmps assign body _ _) := hR
        dsimp only [encP] at hyy
        clear hR hD hA
        gi_wp2
        refine HR.out.mono ?_
        rintro e W3 (⟨rfl, hJ3, _⟩ | ⟨rfl, hJ3, _⟩)
        · have H3 : Hid (J (gpF G N) W3) := by rw [HPF.out]; exact hJ3
          clear hJ3
          gi_wp2
          go_end0
          exact ⟨⟨_, rfl⟩, .inl ⟨_, rfl, List.prefix_refl _, H3.out⟩⟩
        · have HX3 : Hid (Jx (gpG G G.length ++ [(A, D)]) W3) := hJ3
          clear hJ3
          gi_wp2
          go_end0
          exact ⟨⟨_, rfl⟩, .inr ⟨_, HX3.out⟩⟩
      · have han' : ¬ (A : Int) < (N : Int) := by omega
        have HPF : Hid (gpF G N = gpG G G.length) := by
          show _ = _
          unfold gpF
          rw [hA, if_neg han', List.append_nil]
        have H3 : Hid (J (gpF G N) wr) := by rw [HPF.out]; exact HK.out.1
        gi_wp2
        go_end0
        exact ⟨⟨_, rfl⟩, .inl H3.out⟩
theorem gpz_hands (n bg q : Nat) (s : Sn) (p : Pt) (hn : 1 ≤ n) (hg : GpO s.got s.bgn.blk.length) (w : World) (hi : GpI (FarZ q) bg s p s.got w) :
    Hands n Try.prog 70 #[.pointer (some ⟨bg, 0, none⟩)] encP (KpT (fun k => k = q)) (fun ys _ => ys <+: gpF s.got s.bgn.blk.length) (fun ys => ys = gpF s.got s.bgn.blk.length) (s.got.length + 1) w :=
  fun l J Jx W hW hJ hJx hY h0 => gpz_in n l bg q s p hn hg J Jx W hJ (fun pre x W1 a b c => hY pre x W1 a b c) (hi.later (farZ_o q) hW) h0
/-- while none looks for a gap. -/
structure NI (w W : World) (b : Bool) : Prop where
  cell : W.heap[w.heap.size]? = some (.cells #[.bool b] 4 (0, 0))
  bel : Below w.heap.size w W
  ge : w.heap.size + 1 ≤ W.heap.size
theorem NI.own {w A B : World} {b : Bool} {row : Option Nat} (h : NI w A b) (hg : A.grownBy B row) (hr : ∀ r, row = some r → w.heap.size + 1 ≤ r ∧ ∃ o : Obj, A.heap[r]? = some o ∧ o.isCells = false) : NI w B b :=
  ⟨kept_cells h.cell hg hr, h.bel.grown hg h.bel.size (fun k e => by have := (hr k e).1; omega), Nat.le_trans h.ge hg.size⟩
theorem NI.set {w W : World} {b : Bool} (h : NI w W b) (b' : Bool) (B : Nat) : KeepsFrom B W (W.setCell ⟨w.heap.size, 0, none⟩ (.bool b')) ∧ KpT (fun k => k = w.heap.size) W (W.setCell ⟨w.heap.size, 0, none⟩ (.bool b')) ∧ NI w (W.setCell ⟨w.heap.size, 0, none⟩ (.bool b')) b' := by
  have ho : Off (fun k => k = w.heap.size) W (W.setCell ⟨w.heap.size, 0, none⟩ (.bool b')) := (Off.refl (fun k => k = w.heap.size) W).setCell (p := ⟨w.heap.size, 0, none⟩) (.inr rfl) _
  refine ⟨⟨ho.size, fun k o hk hko hc => ?_⟩, KpT.of_off ho (fun _ _ _ _ _ e => e), ?_, h.bel.trans (ho.below h.bel.size (fun i e => by have : i = w.heap.size := e; omega)), Nat.le_trans h.ge ho.size⟩
  · refine ho.at hko (fun e => ?_)
    have e : k = w.heap.size := e
    subst e
    rw [h.cell] at hko
    cases hko
    cases hc
  · rw [heap_setCell_same _ _ _ _ _ _ h.cell]
    rfl
theorem NI.fin {w W : World} {b : Bool} {D : Nat} {o : Obj} (h : NI w W b) (hD : w.heap.size + 1 ≤ D) : (loadVar 4 ⟨w.heap.size, 0, none⟩).run Try.prog (W.putObj D o) = .ok (.bool b) (W.putObj D o) ∧ Below w.heap.size w (W.putObj D o) := by
  have ho := put_def (W := W) (D := D) (o := o)
  refine ⟨?_, h.bel.trans (ho.below h.bel.size (fun i e => by have : i = D := e; omega))⟩
  have c := cell_of (ho.at h.cell (fun e => by have : w.heap.size = D := e; omega)) 0
  simp only [List.getElem?_toArray, List.getElem?_cons_zero] at c
  go_simp
theorem results_box {P : Program} {fn : Func} {p : Tmp} {t1 : TypeId} (h : fn.results = #[.cell p t1]) (tmps : Array Value) (w : World) (a : Addr) (hp : tmps.getD p undef = .pointer (some a)) (u : Value) (l1 : (loadVar t1 a).run P w = .ok u w) : (results fn tmps).run P w = .ok u w := by
  unfold results
  rw [h]
  simp only [List.mapM_toArray, List.mapM_cons, List.mapM_nil]
  rw [hp]
  simp only [asAddr, pure_bind]
  simp [l1]
set_option maxRecDepth 20000 in
set_option maxHeartbeats 8000000 in
theorem none_any (w : World) (bg : Nat) (s : Sn) (p : Pt) (hg : GpO s.got s.bgn.blk.length) (hbx : w.heap[bg]? = some (snc s p)) (hrow : RowC w p.ag s.got) :
    Calls Try.prog 76 #[.func (.func 70) #[] #[.pointer (some ⟨bg, 0, none⟩)]] w fun e w' => e = .returned (.bool (gpF s.got s.bgn.blk.length).isEmpty) ∧ Hid (Below w.heap.size w w') := by
  have hlt : bg < w.heap.size := cell_lt (o := 0) (by rw [cell_of hbx]; rfl)
  have hb0 : Below w.heap.size w (w.alloc (.cells #[.bool false] 4)) := (Below.refl _ w).alloc (Nat.le_refl _) _
  have hz0 : (w.alloc (.cells #[.bool false] 4)).heap.size = w.heap.size + 1 := by simp
  have hi : GpI (FarZ w.heap.size) bg s p s.got (w.alloc (.cells #[.bool false] 4)) := by
    refine ⟨old_block hb0 hbx, hrow.later hb0, ⟨by omega, by omega, by omega⟩, fun b o e h0 => ?_⟩
    obtain ⟨b', o', e', hc⟩ := hrow.2 h0
    rw [e] at e'
    cases e'
    have := cell_lt (hc 0 h0).1
    exact ⟨by omega, by omega, by omega⟩
  have hseq := gpz_hands (9 - 1) bg w.heap.size s p (by decide) hg _ hi
  have h0 : NI w (w.alloc (.cells #[.bool false] 4)) false := ⟨heap_alloc_new w _, hb0, by omega⟩
  obtain ⟨G, hG⟩ : ∃ G, gpF s.got s.bgn.blk.length = G := ⟨_, rfl⟩
  rw [hG] at hseq ⊢
  clear hi hb0 hbx hrow hg hG
  refine (callsIn_wide (n := 9)).1 ?_
  refine callsIn_of_wp_marks Try.func76 rfl trivial ?_
  simp only [Try.ntmps76, List.size_toArray, List.length_cons, List.length_nil, Nat.reduceAdd, Nat.reduceSub, Array.replicate_succ, Array.replicate_zero, List.push_toArray, List.append_toArray, List.nil_append, List.cons_append]
  gi_wp2
  generalize w.alloc (.cells #[.bool false] 4) = W0 at hseq h0 hz0 ⊢
  refine range_hands (by decide) (gf := 70) rfl (enters_of Try.func70 (by kernel_rfl) rfl) hseq KpT.trans (fun W l o o' ho hc => KpT.put ho hc) (Below.refl _ _) (fun _ => rfl)
    (I := fun ys W => ys = [] ∧ NI w W false) (Ix := fun c ys W => c = Code.ret ∧ G ≠ [] ∧ NI w W false)
    (fun ys A B row h hg hr => ⟨h.1, h.2.own hg (fun r e => by have := hr r e; rw [hz0] at this; exact this)⟩) (fun c ys A B row h hg hr => ⟨h.1, h.2.1, h.2.2.own hg (fun r e => by have := hr r e; rw [hz0] at this; exact this)⟩) (fun s A B row h hg hr => h) ⟨rfl, h0⟩
    (fun x a' W' => ∃ v, a' = { tmps := #[.func (.func 70) #[] #[.pointer (some ⟨bg, 0, none⟩)], undef, .pointer (some ⟨w.heap.size, 0, none⟩), .func (.func 70) #[] #[.pointer (some ⟨bg, 0, none⟩)], v], defers := [] })
    (fun x a' s A B row h hg hr => h) ?assign ?body ?done ?stop
  case assign =>
    intro l' pre x W' K hi ht hK
    have HK : Hid (K _ W') := hK _ _ (keeps_below (Below.refl _ _)) (KpT.refl _ _) hi ht ⟨.agg #[.int .i64 (x.1 : Nat), .int .i64 (x.2 : Nat)], rfl⟩
    clear hK hi ht hseq h0
    dsimp only [encP]
    gi_wp2
    first | exact HK.out | simpa using HK.out
  case body =>
    rintro l' pre x a' W' ⟨rfl, hi⟩ ht ⟨v, rfl⟩ hlen
    have HI : Hid (NI w W' false) := hi
    have hne : Hid (G ≠ []) := fun e => by
      obtain ⟨r, hr⟩ := ht
      rw [e] at hr
      simp at hr
    have fr := frozen_of hi.cell 0
    have c0 := cell_of hi.cell 0
    simp only [List.getElem?_toArray, List.getElem?_cons_zero] at c0
    clear hseq h0 hi ht
    gi_wp2
    have hS := HI.out.set false W0.heap.size
    exact ⟨hS.1, hS.2.1, rfl, hne.out, hS.2.2⟩
  case done =>
    rintro D ys W' hD rfl hpre ⟨hi0, hi⟩ hK
    have HI : Hid (NI w W' false) := hi
    have fr := frozen_of hi.cell 0
    have c0 := cell_of hi.cell 0
    simp only [List.getElem?_toArray, List.getElem?_cons_zero] at c0
    have HD : Hid (W'.heap[D]? = some (.deferred (some []))) := hK
    clear hi hK hseq h0 hpre
    gi_wp2
    have hS := HI.out.set true 0
    have hD' : w.heap.size + 1 ≤ D := by omega
    obtain ⟨e1, e2⟩ := hS.2.2.fin (D := D) (o := .deferred none) hD'
    refine ⟨by simp, .inl ⟨_, _, rfl, run_takeDeferred (((Off.refl (fun k => k = w.heap.size) W').setCell (p := ⟨w.heap.size, 0, none⟩) (.inr rfl) _).at HD.out (fun e => by have : D = w.heap.size := e; omega)), ?_⟩⟩
    refine ⟨_, results_box rfl _ _ ⟨w.heap.size, 0, none⟩ (by rfl) (.bool true) e1, ?_⟩
    exact ⟨by rw [hi0]; rfl, e2⟩
  case stop =>
    rintro D c pre W' hD ⟨rfl, hne, hi⟩ hK
    obtain ⟨e1, e2⟩ := hi.fin (D := D) (o := .deferred none) (by omega)
    gi_wp2
    refine ⟨by simp, .inl ⟨_, _, rfl, run_takeDeferred hK, ?_⟩⟩
    refine ⟨_, results_box rfl _ _ ⟨w.heap.size, 0, none⟩ (by rfl) (.bool false) e1, ?_⟩
    refine ⟨?_, e2⟩
    cases G with
    | nil => exact absurd rfl hne
    | cons a r => rfl
end Go.Proofs.Ytnjcaolkcmpdcaa
