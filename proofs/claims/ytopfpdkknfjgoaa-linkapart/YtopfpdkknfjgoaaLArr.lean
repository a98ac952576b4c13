/- The walks of link's arrived and of the function that it answers. -/
import Derived.Test.YtopfpdkknfjgoaaLSend
import Derived.RangeFuncNested
import Derived.RangeFuncBound
import Derived.RangeFuncCalls
import Derived.RangeFuncLeaves
import Derived.Shelf.Abstract
import Derived.Shelf.RegionOpen
import Derived.OwnWalkIn
import Derived.TacticsInMore
import Derived.LoopNIn
import Derived.LoopIn
namespace Go.Proofs.Ytopfpdkknfjgoaa
open Go.RowKit Go.Shelf
set_option linter.unusedVariables false

/-- all cells but those of T are as they were. -/
structure KpT (T : Nat → Prop) (W W' : World) : Prop where
  size : W.heap.size ≤ W'.heap.size
  cells : ∀ k C t fr, W.heap[k]? = some (.cells C t fr) → ¬ T k → W'.heap[k]? = some (.cells C t fr)
theorem KpT.refl (T : Nat → Prop) (W : World) : KpT T W W := ⟨Nat.le_refl _, fun _ _ _ _ h _ => h⟩
theorem KpT.trans {T : Nat → Prop} {A B C : World} (h : KpT T A B) (k : KpT T B C) : KpT T A C := ⟨Nat.le_trans h.size k.size, fun i c t fr hi hn => k.cells i c t fr (h.cells i c t fr hi hn) hn⟩
theorem KpT.put {T : Nat → Prop} {W : World} {l : Nat} {o o' : Obj} (h : W.heap[l]? = some o) (hc : o.isCells = false) : KpT T W (W.putObj l o') :=
  ⟨by simp [World.putObj], fun k C t fr hk _ => by
    have hne : k ≠ l := fun e => by subst e; rw [h] at hk; cases hk; simp [Obj.isCells] at hc
    simp [World.putObj, Array.getElem?_setIfInBounds_ne (Ne.symm hne), hk]⟩
theorem KpT.of_off {T S : Nat → Prop} {W W' : World} (h : Off S W W') (hS : ∀ k C t fr, W.heap[k]? = some (.cells C t fr) → S k → T k) : KpT T W W' := ⟨h.size, fun k C t fr hk hn => h.at hk (fun hs => hn (hS k C t fr hk hs))⟩
theorem KpT.of_below {T : Nat → Prop} {W W' : World} (h : Below W.heap.size W W') : KpT T W W' := KpT.of_off (S := fun _ => False) (Off.of_below h) (fun _ _ _ _ _ hf => hf.elim)
theorem KpT.cell {T : Nat → Prop} {W W' : World} (h : KpT T W W') {a : Addr} {u : Value} (hc : W.cell? a = some u) (hn : ¬ T a.block) : W'.cell? a = some u := by
  obtain ⟨C, t, fr, he⟩ := cell_is hc
  have := h.cells _ C t fr he hn
  unfold World.cell? at hc ⊢
  rw [he] at hc
  rw [this]
  exact hc
theorem KpT.row {T : Nat → Prop} {W W' : World} (h : KpT T W W') {a : Option Addr} {l : List Nat} (hr : Row W a l) (hn : 0 < l.length → ∀ b, a = some b → ¬ T b.block) : Row W' a l := by
  obtain ⟨h1, h2, h3⟩ := hr
  refine ⟨h1, h2, fun h0 => ?_⟩
  obtain ⟨b, off, rfl, hc⟩ := h3 h0
  exact ⟨b, off, rfl, fun i hi => h.cell (hc i hi) (hn h0 ⟨b, off, none⟩ rfl)⟩
theorem KpT.fx {T : Nat → Prop} {W W' : World} (h : KpT T W W') {a : Option Addr} {X : List FX} (hx : FxAt T W a X) : FxAt T W' a X := by
  refine ⟨fun y hy => ⟨h.row (hx.rows y hy).1 (hx.rows y hy).2, (hx.rows y hy).2⟩, fun h0 => ?_⟩
  obtain ⟨b, o, rfl, hn, hc⟩ := hx.here h0
  exact ⟨b, o, rfl, hn, fun j u hu => h.cell (hc j u hu) hn⟩
theorem grown_of {w w' : World} (h : Below w.heap.size w w') : w.grownBy w' none := ⟨h.os, h.tape, h.output, h.size, fun k hk _ => h.block k hk⟩
theorem abides_below {α : Type} {J : List α → World → Prop} {B : Nat} (h : AbidesFrom B J) {pre : List α} {w w' : World} (hj : J pre w) (hb : Below w.heap.size w w') : J pre w' := h pre w w' none hj (grown_of hb) (fun _ e => by cases e)

abbrev Ix (m : Nat) := { i : Nat // i < m }
def encI {m : Nat} (x : Ix m) : Array Value := #[.int .i64 (x.1 : Nat)]
/-- the places among the first k at which flights have arrived. -/
def arrK (X : List FX) (now : Int) : Nat → List Nat
  | 0 => []
  | k + 1 => arrK X now k ++ (match X[k]? with | some y => if y.x.at_ ≤ now then [k] else [] | none => [])
theorem arrK_succ {X : List FX} {now : Int} {k : Nat} {y : FX} (hy : X[k]? = some y) : arrK X now (k + 1) = arrK X now k ++ if y.x.at_ ≤ now then [k] else [] := by
  rw [arrK, hy]
theorem arrK_pre (X : List FX) (now : Int) {k m : Nat} (h : k ≤ m) : arrK X now k <+: arrK X now m := by
  obtain ⟨d, rfl⟩ : ∃ d, m = k + d := ⟨m - k, by omega⟩
  clear h
  induction d with
  | zero => exact List.prefix_refl _
  | succ d ih => exact ih.trans (by rw [← Nat.add_assoc, arrK]; exact List.prefix_append _ _)
theorem arrK_len (X : List FX) (now : Int) : ∀ k, (arrK X now k).length ≤ k
  | 0 => Nat.le_refl _
  | k + 1 => by
    have := arrK_len X now k
    rw [arrK, List.length_append]
    split
    · split
      · simp; omega
      · simp; omega
    · simp; omega

set_option maxRecDepth 20000 in
set_option maxHeartbeats 4000000 in
theorem arrived1_in (n l b1 b2 m : Nat) (T : Nat → Prop) (ad : Option Addr) (X : List FX) (now : Int) (hn : 1 ≤ n) (hm : X.length = m) (hm5 : m ≤ 512) (J Jx : List (Ix m) → World → Prop) (W : World) (hJ : AbidesFrom W.heap.size J)
    (hY : ∀ pre x W1, J pre W1 → pre.length < m → YieldAt Fence.wide (n - 1) Try.prog l (encI x) W1 fun e W' =>
      (e = .returned (.bool true) ∧ J (pre ++ [x]) W' ∧ KpT T W1 W') ∨ (e = .returned (.bool false) ∧ Jx (pre ++ [x]) W'))
    (h1 : W.cell? ⟨b1, 0, none⟩ = some (.slice ad m m)) (h2 : W.cell? ⟨b2, 0, none⟩ = some (.int .i64 now)) (n1 : ¬ T b1) (n2 : ¬ T b2) (hX : FxAt T W ad X) (h0 : J [] W) :
    CallsIn Fence.wide n Try.prog 50 #[.func (.yield l) #[] #[], .pointer (some ⟨b1, 0, none⟩), .pointer (some ⟨b2, 0, none⟩)] W fun e W' => (∃ v, e = .returned v) ∧
      ((∃ ys : List (Ix m), ys.map (·.1) = arrK X now m ∧ J ys W') ∨ (∃ pre : List (Ix m), pre.map (·.1) <+: arrK X now m ∧ Jx pre W')) := by
  refine callsIn_of_wp Try.func50 rfl trivial ?_ rfl
  simp only [Try.ntmps50, List.size_toArray, List.length_cons, List.length_nil, Nat.reduceAdd, Nat.reduceSub, Array.replicate_succ, Array.replicate_zero, List.push_toArray, List.append_toArray, List.nil_append, List.cons_append]
  gi_wp2
  gi_loopw [8] (fun i wr => ∃ (k : Nat) (pre : List (Ix m)), k ≤ m ∧ i = .int .i64 k ∧ Hid (pre.map (·.1) = arrK X now k ∧ J pre wr ∧ FxAt T wr ad X) ∧ wr.cell? ⟨b2, 0, none⟩ = some (.int .i64 now) ∧ Hid (W.heap.size ≤ wr.heap.size)) (fun i _ => m - (intOf i).toNat)
  case atStart => exact ⟨0, [], Nat.zero_le _, rfl, ⟨rfl, h0, hX⟩, h2, Nat.le_refl _⟩
  case round =>
    obtain ⟨k, pre, hk, rfl, HK, c2, HS⟩ := hrel
    by_cases hlt : k < m
    · obtain ⟨y, hy⟩ : ∃ y, X[k]? = some y := ⟨_, List.getElem?_eq_getElem (by omega)⟩
      have hyk : X[k]'(by omega) = y := (List.getElem?_eq_some_iff.1 hy).2
      obtain ⟨b, o, rfl, y0, y1, y2, y3⟩ := HK.out.2.2.cells4 k (by omega)
      rw [hyk] at y0 y1 y2 y3
      have hb : Below wr.heap.size wr (wr.alloc (.cells #[.int .i64 y.x.frm, .int .i64 y.x.to, .int .i64 y.x.at_, .slice y.a y.x.bytes.length y.c] 32)) := (Below.refl _ wr).alloc (Nat.le_refl _) _
      have hJ1 := abides_below hJ HK.out.2.1 hb
      have hlen : pre.length < m := by have := congrArg List.length HK.out.1; rw [List.length_map] at this; have := arrK_len X now k; omega
      have HX1 : Hid (FxAt T (wr.alloc (.cells #[.int .i64 y.x.frm, .int .i64 y.x.to, .int .i64 y.x.at_, .slice y.a y.x.bytes.length y.c] 32)) (some ⟨b, o, none⟩) X) := HK.out.2.2.later hb
      have c2' := cell_later hb c2
      have HSZ : Hid (W.heap.size ≤ (wr.alloc (.cells #[.int .i64 y.x.frm, .int .i64 y.x.to, .int .i64 y.x.at_, .slice y.a y.x.bytes.length y.c] 32)).heap.size) := Nat.le_trans HS.out hb.size
      have HJ1 : Hid (J pre (wr.alloc (.cells #[.int .i64 y.x.frm, .int .i64 y.x.to, .int .i64 y.x.at_, .slice y.a y.x.bytes.length y.c] 32))) := hJ1
      have HAK : Hid (pre.map (·.1) = arrK X now k) := HK.out.1
      have HYK : Hid (X[k]? = some y) := hy
      obtain ⟨fn, tmps, assign, body, hyy, hR⟩ := hY pre ⟨k, hlt⟩ _ hJ1 hlen
      have HR : Hid (RoundIn Fence.wide (n - 1) Try.prog l fn tmps assign body _ _) := hR
      dsimp only [encI] at hyy
      clear hR hJ1 hyk hy HK hb
      by_cases hat : y.x.at_ ≤ now
      · gi_wp2
        refine HR.out.mono ?_
        rintro e W3 (⟨rfl, hJ3, hk3⟩ | ⟨rfl, hJx3⟩)
        · have c3 := hk3.cell c2' n2
          have HQ : Hid ((pre ++ [(⟨k, hlt⟩ : Ix m)]).map (·.1) = arrK X now (k + 1) ∧ J (pre ++ [⟨k, hlt⟩]) W3 ∧ FxAt T W3 (some ⟨b, o, none⟩) X) := ⟨by rw [arrK_succ HYK.out, if_pos hat, List.map_append, HAK.out]; rfl, hJ3, hk3.fx HX1.out⟩
          have HS3 : Hid (W.heap.size ≤ W3.heap.size) := Nat.le_trans HSZ.out hk3.size
          clear hJ3 hk3
          gi_wp2
          go_roundw
          case rel => exact ⟨k + 1, _, by omega, by go_num, HQ, c3, HS3⟩
          case measure => simp [intOf]; omega
        · gi_wp2
          refine bodyPost_ret (results_none rfl _ _ _) rfl ?_
          refine ⟨⟨_, rfl⟩, .inr ⟨pre ++ [⟨k, hlt⟩], ?_, hJx3⟩⟩
          have : (pre ++ [(⟨k, hlt⟩ : Ix m)]).map (·.1) = arrK X now (k + 1) := by rw [arrK_succ HYK.out, if_pos hat, List.map_append, HAK.out]; rfl
          rw [this]
          exact arrK_pre X now (by omega)
      · gi_wp2
        refine ⟨fun _ h => (by cases h), ?_⟩
        gi_wp2
        go_roundw
        case rel => exact ⟨k + 1, pre, by omega, by go_num, ⟨by rw [arrK_succ HYK.out, if_neg (by omega), List.append_nil]; exact HAK.out, HJ1.out, HX1.out⟩, c2', HSZ⟩
        case measure => simp [intOf]; omega
    · gi_wp2
      go_end0
      obtain rfl : k = m := by omega
      exact ⟨⟨_, rfl⟩, .inl ⟨pre, HK.out.1, HK.out.2.1⟩⟩

theorem arrived_stops (n b1 b2 m : Nat) (T : Nat → Prop) (ad : Option Addr) (X : List FX) (now : Int) (hn : 1 ≤ n) (hm : X.length = m) (hm5 : m ≤ 512) (w : World)
    (h1 : w.cell? ⟨b1, 0, none⟩ = some (.slice ad m m)) (h2 : w.cell? ⟨b2, 0, none⟩ = some (.int .i64 now)) (n1 : ¬ T b1) (n2 : ¬ T b2) (hX : FxAt T w ad X) :
    SeqStopsK Fence.wide n Try.prog 50 #[.pointer (some ⟨b1, 0, none⟩), .pointer (some ⟨b2, 0, none⟩)] (encI (m := m)) (KpT T) (fun xs => xs.map (·.1) = arrK X now m) (fun pre => pre.map (·.1) <+: arrK X now m) m w :=
  fun l J Jx W hW hJ _ hY h0 => arrived1_in n l b1 b2 m T ad X now hn hm hm5 J Jx W hJ hY (cell_later hW h1) (cell_later hW h2) n1 n2 (hX.later hW) h0
theorem arrived_fn (a : Option Addr) (n c : Nat) (now : Int) (w : World) : Calls Try.prog 42 #[.slice a n c, .int .i64 now] w fun e w' => e = .returned (.func (.func 50) #[] #[.pointer (some ⟨w.heap.size, 0, none⟩), .pointer (some ⟨w.heap.size + 1, 0, none⟩)]) ∧ w' = (w.alloc (.cells #[.slice a n c] 26)).alloc (.cells #[.int .i64 now] 3) := by
  go_enter Try.func42, Try.ntmps42
  go_wp2
  go_ret
  exact ⟨rfl, rfl⟩

/-- how many of the pair's flights have arrived. -/
def arrN (L : List Fl) (a b now : Int) : Nat := (L.filter (pf a b)).countP (fun x => x.at_ ≤ now)
theorem arrK_count (X : List FX) (now : Int) : ∀ k, k ≤ X.length → (arrK X now k).length = ((X.take k).map FX.x).countP (fun x => x.at_ ≤ now)
  | 0, _ => by simp [arrK]
  | k + 1, h => by
    have hk : X[k]? = some X[k] := List.getElem?_eq_getElem (by omega)
    rw [arrK_succ hk, List.length_append, arrK_count X now k (by omega), List.take_succ_eq_append_getElem (by omega), List.map_append, List.countP_append]
    by_cases hat : X[k].x.at_ ≤ now
    · simp [hat]
    · simp [hat]
theorem arrK_all {X : List FX} {L : List Fl} {a b now : Int} (hX : X.map FX.x = L.filter (pf a b)) : (arrK X now X.length).length = arrN L a b now := by
  rw [arrK_count X now _ (Nat.le_refl _), List.take_length, hX]; rfl
theorem arrK_allm {X : List FX} {L : List Fl} {a b now : Int} {m : Nat} (hX : X.map FX.x = L.filter (pf a b)) (hm : X.length = m) : (arrK X now m).length = arrN L a b now := by subst hm; exact arrK_all hX
theorem kept_cells {W W' : World} {row : Option Nat} {B k : Nat} {C : Array Value} {t : TypeId} {fr : Nat × Nat} (h : W.heap[k]? = some (.cells C t fr)) (hg : W.grownBy W' row) (hr : ∀ r, row = some r → B ≤ r ∧ ∃ o : Obj, W.heap[r]? = some o ∧ o.isCells = false) : W'.heap[k]? = some (.cells C t fr) := by
  rw [hg.block k (Array.getElem?_eq_some_iff.1 h).1 (fun e => by obtain ⟨_, o, h1, h2⟩ := hr k e.symm; rw [h] at h1; cases h1; simp [Obj.isCells] at h2)]
  exact h
attribute [local go_sem] Oper.semAt_some

set_option maxRecDepth 20000 in
set_option maxHeartbeats 4000000 in
theorem arrived_any (w : World) (N : Nat → Prop) (lb mb n : Nat) (L : List Fl) (h : Lk N w lb mb n L) (a b now : Int) (ha : In64 a) (hb : In64 b) :
    Calls Try.prog 23 #[.pointer (some ⟨lb, 0, none⟩), .int .i64 a, .int .i64 b, .int .i64 now] w fun e w' => e = .returned (.int .i64 (arrN L a b now : Nat)) ∧ Hid (Below w.heap.size w w') := by
  have HO : Hid (∀ X0 : Obj, Calls Try.prog 41 #[.pointer (some ⟨lb, 0, none⟩), .agg #[.int .i64 a, .int .i64 b]] (w.alloc X0) fun e w' => ∃ ad X, e = .returned (.slice ad X.length X.length) ∧ Hid (FxAt (fun k => k = w.heap.size) w' ad X ∧ X.map FX.x = L.filter (pf a b) ∧ w.heap.size + 1 ≤ w'.heap.size ∧ Below (w.alloc X0).heap.size (w.alloc X0) w') ∧ X.length ≤ 512) := fun X0 => by
    have hlk : Lk (fun k => k = w.heap.size) (w.alloc X0) lb mb n L := (h.sub (M := fun k => k = w.heap.size) (fun k hk e => by omega)).later ((Below.refl _ w).alloc (Nat.le_refl _) _)
    refine (of_any (w.alloc X0) _ lb mb n L hlk a b ha hb).mono ?_
    rintro e w' ⟨ad, X, rfl, q1, q2, q3⟩
    exact ⟨ad, X, rfl, ⟨q1, q2, by have := q3.size; simp at this; omega, q3⟩, by rw [← List.length_map (f := FX.x), q2]; exact Nat.le_trans (List.length_filter_le _ _) h.len⟩
  clear h
  refine (callsIn_wide (n := 3)).1 ?_
  refine callsIn_of_wp_marks Try.func23 rfl trivial ?_
  simp only [Try.ntmps23, List.size_toArray, List.length_cons, List.length_nil, Nat.reduceAdd, Nat.reduceSub, Array.replicate_succ, Array.replicate_zero, List.push_toArray, List.append_toArray, List.nil_append, List.cons_append]
  gi_wp2_with (first | (refine ⟨trivial, ?_⟩; gi_at_call 41; refine (callsIn_wide.2 (HO.out _)).mono ?_; rintro e w1 ⟨ad, X, rfl, HX, hx5⟩) | (refine ⟨trivial, ?_⟩; gi_at_call 42; refine (callsIn_wide.2 (arrived_fn _ _ _ _ _)).mono ?_; rintro e w2 ⟨rfl, rfl⟩))
  obtain ⟨m, hm⟩ : ∃ m, X.length = m := ⟨_, rfl⟩
  rw [hm]
  rw [hm] at hx5
  obtain ⟨W0, hW0⟩ : ∃ W0, W0 = (w1.alloc (.cells #[.slice ad m m] 26)).alloc (.cells #[.int .i64 now] 3) := ⟨_, rfl⟩
  have hs1 : W0.heap.size = w1.heap.size + 2 := by rw [hW0]; simp
  have d1 : W0.heap[w1.heap.size]? = some (.cells #[.slice ad m m] 26 (0, 0)) := by rw [hW0]; exact old_block ((Below.refl _ _).alloc (Nat.le_refl _) _) (heap_alloc_new w1 _)
  have d2 : W0.heap[w1.heap.size + 1]? = some (.cells #[.int .i64 now] 3 (0, 0)) := by rw [hW0]; have := heap_alloc_new (w1.alloc (.cells #[.slice ad m m] 26)) (.cells #[.int .i64 now] 3); rw [World.size_alloc] at this; exact this
  have hb01 : Below w1.heap.size w1 W0 := by rw [hW0]; exact ((Below.refl _ w1).alloc (Nat.le_refl _) _).alloc (by simp) _
  have hbw : Below w.heap.size w W0 := below_of (below_of ((Below.refl _ w).alloc (Nat.le_refl _) _) HX.out.2.2.2) hb01
  have d0 : W0.heap[w.heap.size]? = some (.cells #[.int .i64 0] 3 (0, 0)) := old_block hb01 (old_block HX.out.2.2.2 (heap_alloc_new w _))
  have hseq := arrived_stops (3 - 1) w1.heap.size (w1.heap.size + 1) m (fun k => k = w.heap.size) ad X now (by decide) hm hx5 W0 (by rw [cell_of d1]; rfl) (by rw [cell_of d2]; rfl) (by have := HX.out.2.2.1; omega) (by have := HX.out.2.2.1; omega) (HX.out.1.later hb01)
  have hww : w.heap.size < W0.heap.size := (Array.getElem?_eq_some_iff.1 d0).1
  rw [← hW0]
  have HL : Hid (X.map FX.x = L.filter (pf a b)) := HX.out.2.1
  clear hW0 d1 d2 hb01 HO
  refine wpIn_rangeFunc_ownG rfl (by decide) (gf := 50) rfl trivial (enters_of Try.func50 (by kernel_rfl) rfl) hseq KpT.trans (fun W l o o' hl ho hc _ => KpT.put ho hc) (Below.refl _ _) (fun _ => rfl)
    (fun pre W => W.heap[w.heap.size]? = some (.cells #[.int .i64 (pre.length : Nat)] 3 (0, 0)) ∧ Below w.heap.size w W) (fun _ _ _ => False)
    (fun pre W W' row h hg hr => ⟨kept_cells h.1 hg hr, h.2.grown hg h.2.size (fun k e => by have := (hr k e).1; omega)⟩)
    (fun _ _ _ _ _ h _ _ => h) ⟨d0, hbw⟩
    (fun x => { tmps := #[.pointer (some ⟨lb, 0, none⟩), .int .i64 a, .int .i64 b, .int .i64 now, undef, undef, undef, undef, .int .i64 0, .pointer (some ⟨w.heap.size, 0, none⟩), .pointer (some ⟨lb, 0, none⟩), .int .i64 a, .int .i64 b, .agg #[.int .i64 a, .int .i64 b], .slice ad m m, .int .i64 now, .func (.func 50) #[] #[.pointer (some ⟨w1.heap.size, 0, none⟩), .pointer (some ⟨w1.heap.size + 1, 0, none⟩)], .int .i64 (x.1 : Nat), undef, undef, undef], defers := [] })
    ?assign ?body ?done ?stop
  case assign =>
    intro l x W K hK
    dsimp only [encI]
    gi_wp2
    exact hK
  case body =>
    rintro l pre x W ⟨hc, hbW⟩ hpl
    have e1 := cell_of hc 0
    have e2 := frozen_of hc 0
    simp only [List.getElem?_toArray, List.getElem?_cons_zero] at e1
    have HC : Hid _ := And.intro hc hbW
    clear hc hbW hseq
    gi_wp2
    refine ⟨(KeepsOthers.setCell _ _ _).from _, KpT.of_off ((Off.refl (fun k => k = w.heap.size) W).setCell (p := ⟨w.heap.size, 0, none⟩) (.inr rfl) _) (fun _ _ _ _ _ e => e), ?_, HC.out.2.setCell (p := ⟨w.heap.size, 0, none⟩) (Nat.le_refl _) _⟩
    rw [heap_setCell_same _ _ _ _ _ _ HC.out.1, List.length_append]
    rfl
  case done =>
    rintro D ys W hD hys ⟨hc, hbW⟩ hK
    have e1 := cell_of hc 0
    simp only [List.getElem?_toArray, List.getElem?_cons_zero] at e1
    have HK : Hid _ := And.intro hK (And.intro hys hbW)
    clear hK hseq hys hbW hc
    gi_wp2
    refine ⟨by simp, .inl ⟨_, _, rfl, run_takeDeferred HK.out.1, ?_⟩⟩
    have hlen := congrArg List.length HK.out.2.1
    rw [List.length_map, arrK_allm HL.out hm] at hlen
    rw [hlen]
    exact ⟨_, results_tmp rfl _ _ _, rfl, HK.out.2.2.trans (belowK_b (w := w) (Nat.le_refl _) W D _ _ (by omega) HK.out.1 rfl rfl)⟩
  case stop =>
    rintro D c pre W _ _ h _
    exact h.elim
end Go.Proofs.Ytopfpdkknfjgoaa
