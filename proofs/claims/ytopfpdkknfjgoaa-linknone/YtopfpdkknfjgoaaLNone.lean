/- The walks of link's functions at nil, and of the law LinkNone. -/
import Derived.Test.YtopfpdkknfjgoaaLFew
import Derived.Test.YtopfpdkknfjgoaaLCor
namespace Go.Proofs.Ytopfpdkknfjgoaa
open Go.RowKit Go.Shelf
set_option linter.unusedVariables false

theorem of_nil (w : World) (a b : Int) : Calls Try.prog 41 #[.pointer none, .agg #[.int .i64 a, .int .i64 b]] w fun e w' => e = .returned (.slice none 0 0) ∧ Hid (Below w.heap.size w w') := by
  go_enter Try.func41, Try.ntmps41
  go_wp2
  go_ret
  exact ⟨rfl, (Below.refl _ w).alloc (Nat.le_refl _) _⟩
theorem having_nil (w : World) (a b k : Int) : Calls Try.prog 38 #[.pointer none, .agg #[.int .i64 a, .int .i64 b], .int .i64 k] w fun e w' => e = .returned (.tuple #[.slice none 0 0, .int .i64 1]) ∧ Hid (Below w.heap.size w w') := by
  go_enter Try.func38, Try.ntmps38
  go_wp2
  go_ret2
  exact ⟨rfl, (Below.refl _ w).alloc (Nat.le_refl _) _⟩
theorem send_nil (w : World) (f t x : Int) (a : Option Addr) (n c : Nat) : Calls Try.prog 16 #[.pointer none, .agg #[.int .i64 f, .int .i64 t, .int .i64 x, .slice a n c]] w fun e w' => e = .returned (.int .i64 1) ∧ Hid (Below w.heap.size w w') := by
  go_enter Try.func16, Try.ntmps16
  go_wp2
  go_ret
  exact ⟨rfl, (Below.refl _ w).alloc (Nat.le_refl _) _⟩
theorem lose_nil (w : World) (a b k : Int) : Calls Try.prog 19 #[.pointer none, .int .i64 a, .int .i64 b, .int .i64 k] w fun e w' => e = .returned (.int .i64 1) ∧ Hid (Below w.heap.size w w') := by
  go_enter Try.func19, Try.ntmps19
  go_wp2_with (go_at_call 38; refine (having_nil _ _ _ _).mono ?_; rintro e w1 ⟨rfl, hq⟩)
  go_ret
  exact ⟨rfl, hq⟩
theorem double_nil (w : World) (a b k : Int) : Calls Try.prog 17 #[.pointer none, .int .i64 a, .int .i64 b, .int .i64 k] w fun e w' => e = .returned (.int .i64 1) ∧ Hid (Below w.heap.size w w') := by
  go_enter Try.func17, Try.ntmps17
  go_wp2_with (go_at_call 38; refine (having_nil _ _ _ _).mono ?_; rintro e w1 ⟨rfl, hq⟩)
  go_ret
  exact ⟨rfl, hq⟩
theorem corrupt_nil (w : World) (a b k t : Int) : Calls Try.prog 22 #[.pointer none, .int .i64 a, .int .i64 b, .int .i64 k, .int .i64 t] w fun e w' => e = .returned (.int .i64 1) ∧ Hid (Below w.heap.size w w') := by
  go_enter Try.func22, Try.ntmps22
  go_wp2_with (go_at_call 38; refine (having_nil _ _ _ _).mono ?_; rintro e w1 ⟨rfl, hq⟩)
  go_ret
  exact ⟨rfl, hq⟩
theorem len_nil (w : World) : Calls Try.prog 18 #[.pointer none] w fun e w' => e = .returned (.int .i64 0) ∧ w' = w := by
  go_enter Try.func18, Try.ntmps18
  go_wp2
  go_ret
  exact ⟨rfl, rfl⟩
theorem copy_nil (w : World) : Calls Try.prog 14 #[.pointer none] w fun e w' => e = .returned (.pointer none) ∧ w' = w := by
  go_enter Try.func14, Try.ntmps14
  go_wp2
  go_ret
  exact ⟨rfl, rfl⟩
theorem all_nil (w : World) (a b : Int) : Calls Try.prog 21 #[.pointer none, .int .i64 a, .int .i64 b] w fun e w' => ∃ g, e = .returned (.func (.func 43) #[] #[.pointer (some ⟨g, 0, none⟩)]) ∧ Hid (w'.cell? ⟨g, 0, none⟩ = some (.slice none 0 0) ∧ Below w.heap.size w w') := by
  go_enter Try.func21, Try.ntmps21
  go_wp2_with (go_at_call 41; refine (of_nil _ _ _).mono ?_; rintro e w1 ⟨rfl, hq⟩)
  go_ret
  exact ⟨_, rfl, by rw [cell_of (heap_alloc_new w1 _)]; rfl, below_of hq.out ((Below.refl _ w1).alloc (Nat.le_refl _) _)⟩
set_option maxHeartbeats 1000000 in
theorem deliver_nil (w : World) (a b now k : Int) : Calls Try.prog 20 #[.pointer none, .int .i64 a, .int .i64 b, .int .i64 now, .int .i64 k] w fun e w' => e = .returned (.tuple #[.slice none 0 0, .int .i64 1]) ∧ Hid (Below w.heap.size w w') := by
  go_enter Try.func20, Try.ntmps20
  go_wp2
  refine bodyPost_ret (v := .tuple #[.slice none 0 0, .int .i64 1]) (by simp [results, Try.results20, go_sem]) rfl ⟨rfl, ?_⟩
  exact ((((((Below.refl _ w).alloc (Nat.le_refl _) _).alloc (by simp) _).alloc (by simp; omega) _).alloc (by simp; omega) _).alloc (by simp; omega) _).alloc (by simp; omega) _
attribute [local go_sem] Oper.semAt_some
set_option maxRecDepth 20000 in
set_option maxHeartbeats 4000000 in
theorem arrived_nil (w : World) (a b now : Int) :
    Calls Try.prog 23 #[.pointer none, .int .i64 a, .int .i64 b, .int .i64 now] w fun e w' => e = .returned (.int .i64 0) ∧ Hid (Below w.heap.size w w') := by
  have HO : Hid (∀ X0 : Obj, Calls Try.prog 41 #[.pointer none, .agg #[.int .i64 a, .int .i64 b]] (w.alloc X0) fun e w' => ∃ (ad : Option Addr) (X : List FX), e = .returned (.slice ad X.length X.length) ∧ Hid (FxAt (fun k => k = w.heap.size) w' ad X ∧ X.map FX.x = ([] : List Fl).filter (pf a b) ∧ w.heap.size + 1 ≤ w'.heap.size ∧ Below (w.alloc X0).heap.size (w.alloc X0) w') ∧ X.length ≤ 512) := fun X0 => by
    refine (of_nil (w.alloc X0) a b).mono ?_
    rintro e w' ⟨rfl, q3⟩
    exact ⟨none, [], rfl, ⟨FxAt.nil _ _ _, rfl, by have := q3.out.size; simp at this; omega, q3.out⟩, by simp⟩
  refine (callsIn_wide (n := 3)).1 ?_
  refine callsIn_of_wp_marks Try.func23 rfl trivial ?_
  simp only [Try.ntmps23, List.size_toArray, List.length_cons, List.length_nil, Nat.reduceAdd, Nat.reduceSub, Array.replicate_succ, Array.replicate_zero, List.push_toArray, List.append_toArray, List.nil_append, List.cons_append]
  gi_wp2_with (first | (refine ⟨trivial, ?_⟩; gi_at_call 41; refine (callsIn_wide.2 (HO.out _)).mono ?_; rintro e w1 ⟨ad, X, rfl, HX, hx5⟩) | (refine ⟨trivial, ?_⟩; gi_at_call 42; refine (callsIn_wide.2 (arrived_fn _ _ _ _ _)).mono ?_; rintro e w2 ⟨rfl, rfl⟩))
  obtain ⟨m, hm⟩ : ∃ m, X.length = m := ⟨_, rfl⟩
  rw [hm]
  rw [hm] at hx5
  obtain ⟨W0, hW0⟩ : ∃ W0, W0 = (w1.alloc (.cells #[.slice ad m m] 26)).alloc (.cells #[.int .i64 now] 3) := ⟨_, rfl⟩
  have hs1 : W0.heap.size = w1.heap.size + 2 := by rw [hW0]; simp
  have d1 : W0.heap[w1.heap.size]? = some (.cells #[.slice ad m m] 26 (0, 0)) := by rw [hW0]; exact old_block ((Below.refl _ _).alloc (Nat.le_refl _) _) (heap_alloc_new w1 _)
  have d2 : W0.heap[w1.heap.size + 1]? = some (.cells #[.int .i64 now] 3 (0, 0)) := by rw [hW0]; have := heap_alloc_new (w1.alloc (.cells #[.slice ad m m] 26)) (.cells #[.int .i64 now] 3); rw [World.size_alloc] at this; exact this
  have hb01 : Below w1.heap.size w1 W0 := by rw [hW0]; exact ((Below.refl _ w1).alloc (Nat.le_refl _) _).alloc (by simp) _
  have hbw : Below w.heap.size w W0 := below_of (below_of ((Below.refl _ w).alloc (Nat.le_refl _) _) HX.out.2.2.2) hb01
  have d0 : W0.heap[w.heap.size]? = some (.cells #[.int .i64 0] 3 (0, 0)) := old_block hb01 (old_block HX.out.2.2.2 (heap_alloc_new w _))
  have hseq := arrived_stops (3 - 1) w1.heap.size (w1.heap.size + 1) m (fun k => k = w.heap.size) ad X now (by decide) hm hx5 W0 (by rw [cell_of d1]; rfl) (by rw [cell_of d2]; rfl) (by have := HX.out.2.2.1; omega) (by have := HX.out.2.2.1; omega) (HX.out.1.later hb01)
  have hww : w.heap.size < W0.heap.size := (Array.getElem?_eq_some_iff.1 d0).1
  rw [← hW0]
  have HL : Hid (X.map FX.x = ([] : List Fl).filter (pf a b)) := HX.out.2.1
  clear hW0 d1 d2 hb01 HO
  refine wpIn_rangeFunc_ownG rfl (by decide) (gf := 50) rfl trivial (enters_of Try.func50 (by kernel_rfl) rfl) hseq KpT.trans (fun W l o o' hl ho hc _ => KpT.put ho hc) (Below.refl _ _) (fun _ => rfl)
    (fun pre W => W.heap[w.heap.size]? = some (.cells #[.int .i64 (pre.length : Nat)] 3 (0, 0)) ∧ Below w.heap.size w W) (fun _ _ _ => False)
    (fun pre W W' row h hg hr => ⟨kept_cells h.1 hg hr, h.2.grown hg h.2.size (fun k e => by have := (hr k e).1; omega)⟩)
    (fun _ _ _ _ _ h _ _ => h) ⟨d0, hbw⟩
    (fun x => { tmps := #[.pointer none, .int .i64 a, .int .i64 b, .int .i64 now, undef, undef, undef, undef, .int .i64 0, .pointer (some ⟨w.heap.size, 0, none⟩), .pointer none, .int .i64 a, .int .i64 b, .agg #[.int .i64 a, .int .i64 b], .slice ad m m, .int .i64 now, .func (.func 50) #[] #[.pointer (some ⟨w1.heap.size, 0, none⟩), .pointer (some ⟨w1.heap.size + 1, 0, none⟩)], .int .i64 (x.1 : Nat), undef, undef, undef], defers := [] })
    ?assign ?body ?done ?stop
  case assign =>
    intro l x W K hK
    dsimp only [encI]
    gi_wp2
    exact hK
  case body =>
    rintro l pre x W ⟨hc, hbW⟩ hpl
    have e1 := cell_of hc 0
    have e2 := frozen_of hc 0
    simp only [List.getElem?_toArray, List.getElem?_cons_zero] at e1
    have HC : Hid _ := And.intro hc hbW
    clear hc hbW hseq
    gi_wp2
    refine ⟨(KeepsOthers.setCell _ _ _).from _, KpT.of_off ((Off.refl (fun k => k = w.heap.size) W).setCell (p := ⟨w.heap.size, 0, none⟩) (.inr rfl) _) (fun _ _ _ _ _ e => e), ?_, HC.out.2.setCell (p := ⟨w.heap.size, 0, none⟩) (Nat.le_refl _) _⟩
    rw [heap_setCell_same _ _ _ _ _ _ HC.out.1, List.length_append]
    rfl
  case done =>
    rintro D ys W hD hys ⟨hc, hbW⟩ hK
    have e1 := cell_of hc 0
    simp only [List.getElem?_toArray, List.getElem?_cons_zero] at e1
    have HK : Hid _ := And.intro hK (And.intro hys hbW)
    clear hK hseq hys hbW hc
    gi_wp2
    refine ⟨by simp, .inl ⟨_, _, rfl, run_takeDeferred HK.out.1, ?_⟩⟩
    have hlen := congrArg List.length HK.out.2.1
    rw [List.length_map, arrK_allm HL.out hm] at hlen
    have h0 : arrN [] a b now = 0 := rfl
    rw [hlen, h0]
    exact ⟨_, results_tmp rfl _ _ _, rfl, HK.out.2.2.trans (belowK_b (w := w) (Nat.le_refl _) W D _ _ (by omega) HK.out.1 rfl rfl)⟩
  case stop =>
    rintro D c pre W _ _ h _
    exact h.elim

theorem all1_none (n g : Nat) (w : World) (T : Nat → Prop) (hc : w.cell? ⟨g, 0, none⟩ = some (.slice none 0 0)) :
    SeqStopsK Fence.wide n Try.prog 43 #[.pointer (some ⟨g, 0, none⟩)] (fun _ : Unit => #[.int .i64 0, .int .i64 0]) (KpT T) (fun xs => xs = []) (fun _ => False) 0 w := by
  intro l J Jx W hW hJ _ hY h0
  have hc' := cell_later hW hc
  have HJ : Hid (J [] W) := h0
  clear hY h0 hJ
  refine callsIn_wide.2 ?_
  go_enter Try.func43, Try.ntmps43
  go_wp2
  refine wp_loop_rounds 1 ?_
  rw [rounds_succ]
  go_wp2
  go_end0
  exact ⟨⟨_, rfl⟩, .inl ⟨[], rfl, HJ.out⟩⟩
theorem none_result {W : World} {g : Nat} {v : Bool} {tmps : Array Value} (h : W.cell? ⟨g, 0, none⟩ = some (.bool v)) (t : tmps.getD 2 undef = .pointer (some ⟨g, 0, none⟩)) : (results Try.f6 tmps).run Try.prog W = .ok (.bool v) W := by
  have t' : tmps[2]?.getD undef = .pointer (some ⟨g, 0, none⟩) := by simpa using t
  simp [results, t', asAddr, loadVar, isAgg, run_underlying Try.underlying4, load, Sem.run, h]
theorem none_box {w w1 : World} {o : OX} (H1 : Below ((w.alloc (.cells #[.int .i64 o.knd, .int .i64 o.f.x.frm, .int .i64 o.f.x.to, .int .i64 o.f.x.at_, .slice o.f.a o.f.x.bytes.length o.f.c, .int .i64 o.n, .int .i64 o.bit, .int .i64 o.now] 34)).alloc (.cells #[.bool false] 4)).heap.size ((w.alloc (.cells #[.int .i64 o.knd, .int .i64 o.f.x.frm, .int .i64 o.f.x.to, .int .i64 o.f.x.at_, .slice o.f.a o.f.x.bytes.length o.f.c, .int .i64 o.n, .int .i64 o.bit, .int .i64 o.now] 34)).alloc (.cells #[.bool false] 4)) w1) :
    Hid (Below w.heap.size w w1 ∧ (w1.heap[w.heap.size]? = some (.cells #[.int .i64 o.knd, .int .i64 o.f.x.frm, .int .i64 o.f.x.to, .int .i64 o.f.x.at_, .slice o.f.a o.f.x.bytes.length o.f.c, .int .i64 o.n, .int .i64 o.bit, .int .i64 o.now] 34 (0, 0)) ∧ w1.heap[w.heap.size + 1]? = some (.cells #[.bool false] 4 (0, 0))) ∧ Oc w1 w.heap.size 0 o) := by
  have hA := heap_alloc_new w (.cells #[.int .i64 o.knd, .int .i64 o.f.x.frm, .int .i64 o.f.x.to, .int .i64 o.f.x.at_, .slice o.f.a o.f.x.bytes.length o.f.c, .int .i64 o.n, .int .i64 o.bit, .int .i64 o.now] 34)
  have hB := heap_alloc_new (w.alloc (.cells #[.int .i64 o.knd, .int .i64 o.f.x.frm, .int .i64 o.f.x.to, .int .i64 o.f.x.at_, .slice o.f.a o.f.x.bytes.length o.f.c, .int .i64 o.n, .int .i64 o.bit, .int .i64 o.now] 34)) (.cells #[.bool false] 4)
  rw [World.size_alloc] at hB
  have h0 := old_block H1 (old_block ((Below.refl _ _).alloc (Nat.le_refl _) _) hA)
  refine ⟨below_of (((Below.refl _ w).alloc (Nat.le_refl _) _).alloc (by simp) _) H1, ⟨h0, old_block H1 hB⟩, ?_⟩
  exact ⟨by rw [cell_of h0]; rfl, by rw [cell_of h0]; rfl, by rw [cell_of h0]; rfl, by rw [cell_of h0]; rfl, by rw [cell_of h0]; rfl, by rw [cell_of h0]; rfl, by rw [cell_of h0]; rfl, by rw [cell_of h0]; rfl⟩
theorem set_all (g : Nat) (t : TypeId) : ∀ (vs : List Value) (o : Nat) (w : World) (pre post : List Value), pre.length = o → post.length = vs.length → w.heap[g]? = some (.cells (pre ++ post).toArray t (0, 0)) → (w.setCells g o vs).heap[g]? = some (.cells (pre ++ vs).toArray t (0, 0))
  | [], o, w, pre, post, h1, h2, h => by
    obtain rfl : post = [] := List.eq_nil_of_length_eq_zero h2
    exact h
  | v :: r, o, w, pre, post, h1, h2, h => by
    match post, h2 with
    | p :: ps, h2 =>
      rw [World.setCells]
      have hs := heap_setCell_same w g o _ t v h
      have e : ((pre ++ p :: ps).toArray.setIfInBounds o v) = ((pre ++ [v]) ++ ps).toArray := by
        subst h1
        apply Array.ext'
        simp
      rw [e] at hs
      have := set_all g t r (o + 1) (w.setCell ⟨g, o, none⟩ v) (pre ++ [v]) ps (by simp [h1]) (by simpa using h2) hs
      rw [this]
      simp
theorem Try.size34 : (Try.prog.info? 34).map (·.size) = some 8 := by kernel_rfl
theorem wpListIn_storeOp {F : Fence} {n : Nat} {ops : Array Oper} {rest : List Oper} {o : Oper} {a : Act} {w : World} {Q : Exit → Act → World → Prop} (hgd : o.guard = none) (x y : Operand) (ho : o.op = .store 34 x y)
    (g : Nat) (hx : a.eval x = .pointer (some ⟨g, 0, none⟩)) (old cs : List Value) (hy : a.eval y = .agg cs.toArray) (h8 : cs.length = 8) (h8' : old.length = 8) (h1 : ∀ u ∈ cs, u.oneCell' = true) (hg : w.heap[g]? = some (.cells old.toArray 34 (0, 0)))
    (h : ∀ w', w'.heap[g]? = some (.cells cs.toArray 34 (0, 0)) → Off (fun k => k = g) w w' → wpListIn F n Try.prog ops Q rest (a.put o.dst undef) w') : wpListIn F n Try.prog ops Q (o :: rest) a w := by
  refine wpListIn_plain hgd fun K hK => ?_
  have ht : w.there g 0 cs.toArray.size := by
    intro j hj
    refine ⟨?_, frozen_of hg _⟩
    rw [cell_of hg]
    simp at hj ⊢
    omega
  have hrun := run_storeVar_mid (P := Try.prog) w g 0 34 cs.toArray ht (by rw [Try.size34]; simp [h8]) (all_oneCell_toArray h1)
  unfold Oper.wpIn
  refine ⟨?_, ?_⟩
  · simp [Oper.about, ho]
  · rw [Oper.semAt_plain F _ _ (by rw [ho]; intro c hc'; cases hc')]
    simp only [execOp, ho, hx, hy, Instr.storeAt, Instr.sureAddr, Sem.run_bind, Sem.run_pure, Result.andThen_ok, hrun]
    refine hK _ _ (h _ ?_ ?_)
    · have := set_all g 34 cs.toArray.toList 0 w [] old rfl (by simp [h8, h8']) hg
      simpa using this
    · exact Off.setCells (S := fun k => k = g) (.inr rfl) _ _ _ (Off.refl _ w)
/-- few of one operation. -/
theorem few_one (w : World) (x : OX) (hx : CameO w x) : Calls Try.prog 11 #[.slice (some ⟨w.heap.size, 0, none⟩) 1 1] (w.alloc (.cells #[.int .i64 x.knd, .int .i64 x.f.x.frm, .int .i64 x.f.x.to, .int .i64 x.f.x.at_, .slice x.f.a x.f.x.bytes.length x.f.c, .int .i64 x.n, .int .i64 x.bit, .int .i64 x.now] 34)) fun e w' => ∃ g c, e = .returned (.slice (some ⟨g, 0, none⟩) 1 c) ∧ Hid (Below w.heap.size w w') ∧ Hid (Oc w' g 0 (fewO x)) := by
  have hb : Below w.heap.size w (w.alloc (.cells #[.int .i64 x.knd, .int .i64 x.f.x.frm, .int .i64 x.f.x.to, .int .i64 x.f.x.at_, .slice x.f.a x.f.x.bytes.length x.f.c, .int .i64 x.n, .int .i64 x.bit, .int .i64 x.now] 34)) := (Below.refl _ w).alloc (Nat.le_refl _) _
  have hO : OxAt (w.alloc (.cells #[.int .i64 x.knd, .int .i64 x.f.x.frm, .int .i64 x.f.x.to, .int .i64 x.f.x.at_, .slice x.f.a x.f.x.bytes.length x.f.c, .int .i64 x.n, .int .i64 x.bit, .int .i64 x.now] 34)) (some ⟨w.heap.size, 0, none⟩) [x] := ⟨fun o ho => by rw [List.mem_singleton.1 ho]; exact hx.later hb, fun _ => ⟨_, _, rfl, fun j u hu => by have := ox_src (w := w) x _ rfl j u hu; rw [Go.WideShapes.add_plain] at this; exact this⟩⟩
  refine (few_any _ _ 1 [x] hO (by simp)).mono ?_
  rintro e w' ⟨v, rfl, H⟩
  have h1 : min [x].length 80 = 1 := rfl
  have h2 : fews [x] 1 = [fewO x] := rfl
  rw [h1, h2] at H
  obtain ⟨g, c, cur, rfl, _, _, _, _⟩ := own_pos H.out.1 (by omega)
  have hb2 := below_of hb H.out.2
  obtain ⟨a, c', hv, _, _, hA⟩ := ox_own H.out.1 (fun o ho => by rw [List.mem_singleton.1 ho]; exact few_came (hx.later hb2))
  cases hv
  obtain ⟨b, o, he, hc⟩ := hA.here (by simp)
  cases he
  have := oc_of hc 0 (by simp)
  exact ⟨g, c, rfl, hb2, this⟩

/-- the boxes of LinkNone. -/
structure Nb (w W : World) (g : Nat) (o : OX) : Prop where
  op : W.heap[w.heap.size]? = some (.cells (ocell o).toArray 34 (0, 0))
  res : W.heap[w.heap.size + 1]? = some (.cells #[.bool false] 4 (0, 0))
  fl : W.heap[g]? = some (.cells #[.int .i64 o.f.x.frm, .int .i64 o.f.x.to, .int .i64 o.f.x.at_, .slice o.f.a o.f.x.bytes.length o.f.c] 32 (0, 0))
  bel : Below w.heap.size w W
theorem Nb.later {w W W' : World} {g : Nat} {o : OX} (h : Nb w W g o) (hb : Below W.heap.size W W') : Nb w W' g o := ⟨old_block hb h.op, old_block hb h.res, old_block hb h.fl, below_of h.bel hb⟩
theorem Nb.grown {w W W' : World} {g B : Nat} {o : OX} {row : Option Nat} (h : Nb w W g o) (hB : w.heap.size ≤ B) (hg : W.grownBy W' row) (hr : ∀ r, row = some r → B ≤ r ∧ ∃ o : Obj, W.heap[r]? = some o ∧ o.isCells = false) : Nb w W' g o :=
  ⟨kept_cells h.op hg hr, kept_cells h.res hg hr, kept_cells h.fl hg hr, h.bel.grown hg h.bel.size (fun k e => by have := (hr k e).1; omega)⟩
theorem Nb.cs {w W : World} {g : Nat} {o : OX} (h : Nb w W g o) : W.cell? ⟨g, 0, none⟩ = some (.int .i64 o.f.x.frm) ∧ W.cell? ⟨g, 1, none⟩ = some (.int .i64 o.f.x.to) ∧ W.cell? ⟨g, 2, none⟩ = some (.int .i64 o.f.x.at_) ∧ W.cell? ⟨g, 3, none⟩ = some (.slice o.f.a o.f.x.bytes.length o.f.c) ∧ W.cell? ⟨w.heap.size, 5, none⟩ = some (.int .i64 o.n) ∧ W.cell? ⟨w.heap.size, 6, none⟩ = some (.int .i64 o.bit) ∧ W.cell? ⟨w.heap.size, 7, none⟩ = some (.int .i64 o.now) ∧ W.cell? ⟨w.heap.size + 1, 0, none⟩ = some (.bool false) ∧ W.frozen? ⟨w.heap.size + 1, 0, none⟩ = false := by
  rw [cell_of h.fl, cell_of h.fl, cell_of h.fl, cell_of h.fl, cell_of h.op, cell_of h.op, cell_of h.op, cell_of h.res, frozen_of h.res]
  exact ⟨rfl, rfl, rfl, rfl, rfl, rfl, rfl, rfl, rfl⟩
theorem nb_start {w w1 w2 w3 : World} {o' : OX} (h1 : Below w.heap.size w w1) (hr : w1.heap[w.heap.size + 1]? = some (.cells #[.bool false] 4 (0, 0))) (h2 : Below w1.heap.size w1 w2) (h3 : w3.heap[w.heap.size]? = some (.cells (ocell o').toArray 34 (0, 0))) (ho : Off (fun k => k = w.heap.size) w2 w3) :
    Nb w (w3.alloc (.cells #[.int .i64 o'.f.x.frm, .int .i64 o'.f.x.to, .int .i64 o'.f.x.at_, .slice o'.f.a o'.f.x.bytes.length o'.f.c] 32)) w3.heap.size o' := by
  have hb3 : Below w.heap.size w w3 := (below_of h1 h2).trans (ho.below (by have := (below_of h1 h2).size; omega) (fun i e => by rw [e]; exact Nat.le_refl _))
  have hA : Below w3.heap.size w3 (w3.alloc (.cells #[.int .i64 o'.f.x.frm, .int .i64 o'.f.x.to, .int .i64 o'.f.x.at_, .slice o'.f.a o'.f.x.bytes.length o'.f.c] 32)) := (Below.refl _ w3).alloc (Nat.le_refl _) _
  exact ⟨old_block hA h3, old_block hA (ho.at (old_block h2 hr) (by omega)), heap_alloc_new w3 _, below_of hb3 hA⟩
theorem cells8 {w : World} {p : Nat} {o : OX} (h : w.heap[p]? = some (.cells #[.int .i64 o.knd, .int .i64 o.f.x.frm, .int .i64 o.f.x.to, .int .i64 o.f.x.at_, .slice o.f.a o.f.x.bytes.length o.f.c, .int .i64 o.n, .int .i64 o.bit, .int .i64 o.now] 34 (0, 0))) :
    (w.cell? ⟨p, 0, none⟩ = some (.int .i64 o.knd) ∧ w.cell? ⟨p, 1, none⟩ = some (.int .i64 o.f.x.frm) ∧ w.cell? ⟨p, 2, none⟩ = some (.int .i64 o.f.x.to) ∧ w.cell? ⟨p, 3, none⟩ = some (.int .i64 o.f.x.at_)) ∧ w.cell? ⟨p, 4, none⟩ = some (.slice o.f.a o.f.x.bytes.length o.f.c) ∧ w.cell? ⟨p, 5, none⟩ = some (.int .i64 o.n) ∧ w.cell? ⟨p, 6, none⟩ = some (.int .i64 o.bit) ∧ w.cell? ⟨p, 7, none⟩ = some (.int .i64 o.now) := by
  rw [cell_of h, cell_of h, cell_of h, cell_of h, cell_of h, cell_of h, cell_of h, cell_of h]
  exact ⟨⟨rfl, rfl, rfl, rfl⟩, rfl, rfl, rfl, rfl⟩
theorem nb_set {w w1 w2 : World} {o z : OX} (h1 : Below w.heap.size w w1) (hr : w1.heap[w.heap.size + 1]? = some (.cells #[.bool false] 4 (0, 0))) (h2 : Below w1.heap.size w1 w2) (hob : w2.heap[w.heap.size]? = some (.cells (ocell o).toArray 34 (0, 0))) :
    Nb w ((((((((((w2.setCell ⟨w.heap.size, 0, none⟩ (.int .i64 z.knd)).setCell ⟨w.heap.size, 1, none⟩ (.int .i64 z.f.x.frm)).setCell ⟨w.heap.size, 2, none⟩ (.int .i64 z.f.x.to)).setCell ⟨w.heap.size, 3, none⟩ (.int .i64 z.f.x.at_)).setCell ⟨w.heap.size, 4, none⟩ (.slice z.f.a z.f.x.bytes.length z.f.c)).setCell ⟨w.heap.size, 5, none⟩ (.int .i64 z.n)).setCell ⟨w.heap.size, 6, none⟩ (.int .i64 z.bit)).setCell ⟨w.heap.size, 7, none⟩ (.int .i64 z.now)).alloc (.cells #[.int .i64 z.f.x.frm, .int .i64 z.f.x.to, .int .i64 z.f.x.at_, .slice z.f.a z.f.x.bytes.length z.f.c] 32))) w2.heap.size z := by
  have h3 := set_all w.heap.size 34 (ocell z) 0 w2 [] (ocell o) rfl rfl hob
  have ho : Off (fun k => k = w.heap.size) w2 (w2.setCells w.heap.size 0 (ocell z)) := Off.setCells (S := fun k => k = w.heap.size) (.inr rfl) _ _ _ (Off.refl _ w2)
  have hs : (w2.setCells w.heap.size 0 (ocell z)).heap.size = w2.heap.size := by simp [ocell, World.setCells, World.setCell]
  have := nb_start h1 hr h2 h3 ho
  rw [hs] at this
  exact this
set_option maxRecDepth 20000 in
set_option maxHeartbeats 8000000 in
theorem none_any (w : World) (o : OX) (ho : CameO w o) : Calls Try.prog 6 #[.agg (ocell o).toArray] w fun e w' => e = .returned (.bool true) ∧ Hid (Below w.heap.size w w') := by
  have HO : Hid (CameO w o) := ho
  have HW : Hid (∀ W, Calls Try.prog 9 #[] W fun e w' => e = .returned (.bool true) ∧ Hid (Below W.heap.size W w')) := wakes_any
  clear ho
  obtain ⟨z, hz⟩ : ∃ z, z = fewO o := ⟨_, rfl⟩
  have HZ : Hid (z = fewO o) := hz
  clear hz
  unfold ocell
  refine (callsIn_wide (n := 5)).1 ?_
  refine callsIn_of_wp_marks Try.func6 rfl trivial ?_
  simp only [Try.ntmps6, List.size_toArray, List.length_cons, List.length_nil, Nat.reduceAdd, Nat.reduceSub, Array.replicate_succ, Array.replicate_zero, List.push_toArray, List.append_toArray, List.nil_append, List.cons_append]
  gi_wp2_with (first
    | (refine ⟨trivial, ?_⟩; gi_at_call 9; refine (callsIn_wide.2 (HW.out _)).mono ?_; rintro e w1 ⟨rfl, H1⟩; have HH := none_box H1.out; obtain ⟨c0, c1, c2, c3, c4, c5, c6, c7⟩ := HH.out.2.2)
    | (refine ⟨trivial, ?_⟩; gi_at_call 11; refine (callsIn_wide.2 (few_one w1 o (HO.out.later HH.out.1))).mono ?_; rw [← HZ.out]; rintro e w2 ⟨g2, q2, rfl, H2, H3⟩; obtain ⟨d0, d1, d2, d3, d4, d5, d6, d7⟩ := H3.out; have HOB : Hid _ := old_block H2.out HH.out.2.1.1)
    | (refine wpListIn_storeOp rfl (.tmp 1) (.tmp 13) (by rfl) w.heap.size (by rfl) (ocell o) (ocell z) (by rfl) rfl rfl (ocells_one [z]) HOB.out ?_; intro w3 hx3 ho3; have HX3 : Hid _ := hx3; have HO3 : Hid _ := ho3; have y1 := cell_of hx3 1; have y2 := cell_of hx3 2; have y3 := cell_of hx3 3; have y4 := cell_of hx3 4; simp only [ocell, List.getElem?_toArray, List.getElem?_cons_zero, List.getElem?_cons_succ] at y1 y2 y3 y4; clear hx3 ho3; have HN : Hid (Nb w (w3.alloc (.cells #[.int .i64 z.f.x.frm, .int .i64 z.f.x.to, .int .i64 z.f.x.at_, .slice z.f.a z.f.x.bytes.length z.f.c] 32)) w3.heap.size z) := nb_start HH.out.1 HH.out.2.1.2 H2.out HX3.out HO3.out; obtain ⟨n0, n1, n2, n3, n4, n5, n6, n7, n8⟩ := HN.out.cs)
    | (refine ⟨trivial, ?_⟩; gi_at_call 20; refine (callsIn_wide.2 (deliver_nil _ _ _ _ _)).mono ?_; rintro e w4 ⟨rfl, H4⟩; have HN : Hid _ := HN.out.later H4.out; obtain ⟨n0, n1, n2, n3, n4, n5, n6, n7, n8⟩ := HN.out.cs)
    | (refine ⟨trivial, ?_⟩; gi_at_call 21; refine (callsIn_wide.2 (all_nil _ _ _)).mono ?_; rintro e w5 ⟨g5, rfl, H5⟩; have HN : Hid _ := HN.out.later H5.out.2; obtain ⟨n0, n1, n2, n3, n4, n5, n6, n7, n8⟩ := HN.out.cs))
  have hseq := all1_none (5 - 1) g5 w5 (fun _ => False) H5.out.1
  have h35 := HN.out.bel.size
  have h36 := (Array.getElem?_eq_some_iff.1 HN.out.res).1
  clear n0 n1 n2 n3 n4 n5 n6 n7 n8 y1 y2 y3 y4 c0 c1 c2 c3 c4 c5 c6 c7 d0 d1 d2 d3 d4 d5 d6 d7
  refine wpIn_rangeFunc_ownH rfl (by decide) (gf := 43) rfl trivial (enters_of Try.func43 (by kernel_rfl) rfl) hseq KpT.trans (fun W l o o' hl ho hc _ => KpT.put ho hc) (Below.refl _ _) (fun _ => rfl)
    (fun _ W => Nb w W w3.heap.size z) (fun _ _ _ => False) (fun _ W W' row h hg hr => h.grown h35 hg hr) (fun _ _ _ _ _ h _ _ => h) HN.out (fun _ _ _ => True) (fun _ _ _ _ _ _ h _ _ => h)
    ?assign ?body ?done ?stop
  case assign =>
    intro l pre x W K hI hK
    exact wpIn_skip (hK _ _ (KeepsFrom.refl _ _) (KpT.refl _ _) hI trivial)
  case body =>
    intro l pre x a' W _ _ _ _ hlen
    exact absurd hlen (Nat.not_lt_zero _)
  case done =>
    rintro D ys W hD rfl hN hK
    have HK : Hid _ := hK
    have HN : Hid _ := hN
    obtain ⟨n0, n1, n2, n3, n4, n5, n6, n7, n8⟩ := hN.cs
    have HB0 : Hid (Below W.heap.size W W) := Below.refl _ _
    clear hK hN hseq
    gi_wp2_with (first
      | (refine ⟨trivial, ?_⟩; gi_at_call 16; refine (callsIn_wide.2 (send_nil _ _ _ _ _ _ _)).mono ?_; rintro e w6 ⟨rfl, H6⟩; have HN : Hid _ := HN.out.later H6.out; have HB0 : Hid _ := below_of HB0.out H6.out; obtain ⟨n0, n1, n2, n3, n4, n5, n6, n7, n8⟩ := HN.out.cs)
      | (refine ⟨trivial, ?_⟩; gi_at_call 19; refine (callsIn_wide.2 (lose_nil _ _ _ _)).mono ?_; rintro e w6 ⟨rfl, H6⟩; have HN : Hid _ := HN.out.later H6.out; have HB0 : Hid _ := below_of HB0.out H6.out; obtain ⟨n0, n1, n2, n3, n4, n5, n6, n7, n8⟩ := HN.out.cs)
      | (refine ⟨trivial, ?_⟩; gi_at_call 17; refine (callsIn_wide.2 (double_nil _ _ _ _)).mono ?_; rintro e w6 ⟨rfl, H6⟩; have HN : Hid _ := HN.out.later H6.out; have HB0 : Hid _ := below_of HB0.out H6.out; obtain ⟨n0, n1, n2, n3, n4, n5, n6, n7, n8⟩ := HN.out.cs)
      | (refine ⟨trivial, ?_⟩; gi_at_call 22; refine (callsIn_wide.2 (corrupt_nil _ _ _ _ _)).mono ?_; rintro e w6 ⟨rfl, H6⟩; have HN : Hid _ := HN.out.later H6.out; have HB0 : Hid _ := below_of HB0.out H6.out; obtain ⟨n0, n1, n2, n3, n4, n5, n6, n7, n8⟩ := HN.out.cs)
      | (refine ⟨trivial, ?_⟩; gi_at_call 23; refine (callsIn_wide.2 (arrived_nil _ _ _ _)).mono ?_; rintro e w6 ⟨rfl, H6⟩; have HN : Hid _ := HN.out.later H6.out; have HB0 : Hid _ := below_of HB0.out H6.out; obtain ⟨n0, n1, n2, n3, n4, n5, n6, n7, n8⟩ := HN.out.cs)
      | (refine ⟨trivial, ?_⟩; gi_at_call 18; refine (callsIn_wide.2 (len_nil _)).mono ?_; rintro e w6 ⟨rfl, rfl⟩)
      | (refine ⟨trivial, ?_⟩; gi_at_call 14; refine (callsIn_wide.2 (copy_nil _)).mono ?_; rintro e w6 ⟨rfl, rfl⟩))
    have hset := heap_setCell_same _ _ 0 _ _ (.bool true) HN.out.res
    have hKD : (World.setCell _ ⟨w.heap.size + 1, 0, none⟩ (.bool true)).heap[D]? = some (.deferred (some [])) := (KeepsOthers.setCell _ _ _).same D _ (old_block HB0.out HK.out) rfl
    have hres := (put_def (D := D) (o := .deferred none)).at hset (by omega)
    have hfin := (HN.out.bel.setCell (p := ⟨w.heap.size + 1, 0, none⟩) (by show _ ≤ w.heap.size + 1; omega) (.bool true)).trans (belowK_b (w := w) (Nat.le_refl _) _ D _ (.deferred none) (by omega) hKD rfl rfl)
    refine ⟨by simp, .inl ⟨_, _, rfl, run_takeDeferred hKD, ?_⟩⟩
    exact ⟨_, none_result (by rw [cell_of hres]; rfl) rfl, rfl, hfin⟩
  case stop =>
    rintro D c pre W _ h _ _
    exact h.elim
end Go.Proofs.Ytopfpdkknfjgoaa
