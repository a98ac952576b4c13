/- The walks of link's All and of the function that it answers. -/
import Derived.Test.YtopfpdkknfjgoaaLTold
import Derived.Test.YtopfpdkknfjgoaaLDel
import Derived.Test.YtopfpdkknfjgoaaLCor
namespace Go.Proofs.Ytopfpdkknfjgoaa
open Go.RowKit Go.Shelf
set_option linter.unusedVariables false

/-- bytes lie as they lay, and so does all that lay ahead of B, but what T names. -/
structure KpU (T : Nat → Prop) (B : Nat) (W W' : World) : Prop where
  size : W.heap.size ≤ W'.heap.size
  cells : ∀ (k : Nat) (C : Array Value) (t : TypeId) (fr : Nat × Nat), W.heap[k]? = some (.cells C t fr) → (k < B ∧ ¬ T k) ∨ t = 5 → W'.heap[k]? = some (.cells C t fr)
theorem KpU.refl (T : Nat → Prop) (B : Nat) (W : World) : KpU T B W W := ⟨Nat.le_refl _, fun _ _ _ _ h _ => h⟩
theorem KpU.trans {T : Nat → Prop} {B : Nat} {X Y Z : World} (h : KpU T B X Y) (k : KpU T B Y Z) : KpU T B X Z := ⟨Nat.le_trans h.size k.size, fun i c t fr hi hn => k.cells i c t fr (h.cells i c t fr hi hn) hn⟩
theorem KpU.put {T : Nat → Prop} {B : Nat} {W : World} {l : Nat} {o o' : Obj} (h : W.heap[l]? = some o) (hc : o.isCells = false) : KpU T B W (W.putObj l o') :=
  ⟨by simp [World.putObj], fun k C t fr hk _ => by
    have hne : k ≠ l := fun e => by subst e; rw [h] at hk; cases hk; simp [Obj.isCells] at hc
    simp [World.putObj, Array.getElem?_setIfInBounds_ne (Ne.symm hne), hk]⟩
theorem KpU.of_off {T S : Nat → Prop} {B : Nat} {W W' : World} (h : Off S W W') (hS : ∀ (k : Nat) (C : Array Value) (t : TypeId) (fr : Nat × Nat), W.heap[k]? = some (.cells C t fr) → (k < B ∧ ¬ T k) ∨ t = 5 → ¬ S k) : KpU T B W W' := ⟨h.size, fun k C t fr hk hn => h.at hk (hS k C t fr hk hn)⟩
theorem KpU.of_below {T : Nat → Prop} {B : Nat} {W W' : World} (h : Below W.heap.size W W') : KpU T B W W' := KpU.of_off (S := fun _ => False) (Off.of_below h) (fun _ _ _ _ _ _ hf => hf)
theorem cell_same {W W' : World} {a : Addr} {u : Value} (hc : W.cell? a = some u) (h : ∀ (C : Array Value) (t : TypeId) (fr : Nat × Nat), W.heap[a.block]? = some (Obj.cells C t fr) → W'.heap[a.block]? = some (Obj.cells C t fr)) : W'.cell? a = some u := by
  obtain ⟨C, t, fr, he⟩ := cell_is hc
  have := h C t fr he
  unfold World.cell? at hc ⊢
  rw [he] at hc
  rw [this]
  exact hc
theorem Row.same {W W' : World} {a : Option Addr} {l : List Nat} (hr : Row W a l) (h : 0 < l.length → ∀ b, a = some b → ∀ (C : Array Value) (t : TypeId) (fr : Nat × Nat), W.heap[b.block]? = some (Obj.cells C t fr) → W'.heap[b.block]? = some (Obj.cells C t fr)) : Row W' a l := by
  obtain ⟨h1, h2, h3⟩ := hr
  refine ⟨h1, h2, fun h0 => ?_⟩
  obtain ⟨b, off, rfl, hc⟩ := h3 h0
  exact ⟨b, off, rfl, fun i hi => cell_same (hc i hi) (h h0 ⟨b, off, none⟩ rfl)⟩
theorem KpU.fx {T : Nat → Prop} {B : Nat} {W W' : World} (h : KpU T B W W') {a : Option Addr} {X : List FX} (hx : FxAt (fun k => T k ∨ B ≤ k) W a X) : FxAt (fun k => T k ∨ B ≤ k) W' a X := by
  refine ⟨fun y hy => ⟨(hx.rows y hy).1.same (fun h0 b hb C t fr hk => h.cells _ C t fr hk (.inl ?_)), (hx.rows y hy).2⟩, fun h0 => ?_⟩
  · have := (hx.rows y hy).2 h0 b hb
    exact ⟨Nat.lt_of_not_le (fun e => this (.inr e)), fun e => this (.inl e)⟩
  · obtain ⟨b, o, rfl, hn, hc⟩ := hx.here h0
    exact ⟨b, o, rfl, hn, fun j u hu => cell_same (hc j u hu) (fun C t fr hk => h.cells _ C t fr hk (.inl ⟨Nat.lt_of_not_le (fun e => hn (.inr e)), fun e => hn (.inl e)⟩))⟩

/-- bytes in a block of bytes. -/
structure Bt (W : World) (a : Option Addr) (l : List Nat) : Prop where
  row : Row W a l
  typ : 0 < l.length → ∀ b, a = some b → ∃ C fr, W.heap[b.block]? = some (.cells C 5 fr)
theorem Bt.same {W W' : World} {a : Option Addr} {l : List Nat} (h : Bt W a l) (hs : ∀ (k : Nat) (C : Array Value) (fr : Nat × Nat), W.heap[k]? = some (Obj.cells C 5 fr) → W'.heap[k]? = some (Obj.cells C 5 fr)) : Bt W' a l := by
  refine ⟨h.row.same (fun h0 b hb C t fr hk => ?_), fun h0 b hb => ?_⟩
  · obtain ⟨C', fr', hk'⟩ := h.typ h0 b hb
    rw [hk'] at hk
    cases hk
    exact hs _ _ _ hk'
  · obtain ⟨C', fr', hk'⟩ := h.typ h0 b hb
    exact ⟨C', fr', hs _ _ _ hk'⟩
theorem Bt.kp {T : Nat → Prop} {B : Nat} {W W' : World} {a : Option Addr} {l : List Nat} (h : Bt W a l) (k : KpU T B W W') : Bt W' a l := h.same (fun i C fr hk => k.cells i C _ fr hk (.inr rfl))
theorem Bt.later {W W' : World} {a : Option Addr} {l : List Nat} (h : Bt W a l) (k : Below W.heap.size W W') : Bt W' a l := h.same (fun _ _ _ hk => old_block k hk)
theorem Bt.of_own {w0 w : World} {a : Option Addr} {c : Nat} {l : List Nat} (h : w.ownsRow w0.heap.size 5 1 (.slice a l.length c) l.length (cells l)) (hf : Fresh w0 w a c l) : Bt w a l := by
  refine ⟨hf.row, fun h0 b hb => ?_⟩
  obtain ⟨g, c', cur, hv, _, _, _, hk⟩ := own_pos h h0
  subst hb
  cases hv
  exact ⟨cur, _, hk⟩

/-- what has been handed over: the first of X, their bytes in new places. -/
structure Td (X : List FX) (ys : List (Nat × FX)) (W : World) : Prop where
  len : ys.length ≤ X.length
  each : ∀ (j : Nat) (y : Nat × FX), ys[j]? = some y → y.1 = j ∧ (∃ z, X[j]? = some z ∧ y.2.x = z.x) ∧ Bt W y.2.a y.2.x.bytes ∧ y.2.x.bytes.length ≤ y.2.c ∧ y.2.c ≤ maxLen
theorem Td.nil (X : List FX) (W : World) : Td X [] W := ⟨Nat.zero_le _, fun j y h => by simp at h⟩
theorem Td.same {X : List FX} {ys : List (Nat × FX)} {W W' : World} (h : Td X ys W) (hs : ∀ (k : Nat) (C : Array Value) (fr : Nat × Nat), W.heap[k]? = some (Obj.cells C 5 fr) → W'.heap[k]? = some (Obj.cells C 5 fr)) : Td X ys W' :=
  ⟨h.len, fun j y hy => by obtain ⟨a, b, c, d⟩ := h.each j y hy; exact ⟨a, b, c.same hs, d⟩⟩
theorem Td.snoc {X : List FX} {ys : List (Nat × FX)} {W : World} {z : FX} {a : Option Addr} {c k : Nat} (h : Td X ys W) (hk : ys.length = k) (hz : X[k]? = some z) (hb : Bt W a z.x.bytes) (h1 : z.x.bytes.length ≤ c) (h2 : c ≤ maxLen) : Td X (ys ++ [(k, ⟨z.x, a, c⟩)]) W := by
  subst hk
  have hlt : ys.length < X.length := (List.getElem?_eq_some_iff.1 hz).1
  refine ⟨by rw [List.length_append]; simp; omega, fun j y hy => ?_⟩
  by_cases hj : j < ys.length
  · rw [List.getElem?_append_left hj] at hy
    exact h.each j y hy
  · rw [List.getElem?_append_right (by omega)] at hy
    obtain ⟨hj0, rfl⟩ : j = ys.length ∧ y = (ys.length, ⟨z.x, a, c⟩) := by
      have : j - ys.length = 0 := by
        have := (List.getElem?_eq_some_iff.1 hy).1
        simp at this
        omega
      rw [this] at hy
      simp at hy
      exact ⟨by omega, hy.symm⟩
    subst hj0
    exact ⟨rfl, ⟨z, hz, rfl⟩, hb, h1, h2⟩
def encA (y : Nat × FX) : Array Value := #[.int .i64 (y.1 : Nat), .agg #[.int .i64 y.2.x.frm, .int .i64 y.2.x.to, .int .i64 y.2.x.at_, .slice y.2.a y.2.x.bytes.length y.2.c]]

theorem all_step {T : Nat → Prop} {B k : Nat} {wr w2 : World} {ad a2 : Option Addr} {c2 : Nat} {X : List FX} {ys : List (Nat × FX)} {y : FX} {O : Obj} {v : Value} {J : List (Nat × FX) → World → Prop} (HK : ys.length = k ∧ Td X ys wr ∧ J ys wr ∧ FxAt (fun k => T k ∨ B ≤ k) wr ad X) (hy : X[k]? = some y)
    (hq : w2.ownsRow (wr.alloc O).heap.size 5 1 (.slice a2 y.x.bytes.length c2) y.x.bytes.length (cells y.x.bytes) ∧ Fresh (wr.alloc O) w2 a2 c2 y.x.bytes ∧ Below (wr.alloc O).heap.size (wr.alloc O) w2) (HA : ∀ w0 w2 : World, Below w0.heap.size w0 w2 → J ys w0 → J ys w2) :
    J ys (w2.setCell ⟨wr.heap.size, 3, none⟩ v) ∧ Td X (ys ++ [(k, ⟨y.x, a2, c2⟩)]) (w2.setCell ⟨wr.heap.size, 3, none⟩ v) ∧ FxAt (fun k => T k ∨ B ≤ k) (w2.setCell ⟨wr.heap.size, 3, none⟩ v) ad X := by
  have hb : Below wr.heap.size wr (w2.setCell ⟨wr.heap.size, 3, none⟩ v) := (below_of ((Below.refl _ wr).alloc (Nat.le_refl _) _) hq.2.2).setCell (p := ⟨wr.heap.size, 3, none⟩) (Nat.le_refl _) _
  have hoff : Off (fun k => k = wr.heap.size) w2 (w2.setCell ⟨wr.heap.size, 3, none⟩ v) := (Off.refl (fun k => k = wr.heap.size) w2).setCell (p := ⟨wr.heap.size, 3, none⟩) (.inr rfl) _
  have h0 := Bt.of_own hq.1 hq.2.1
  have hbt : Bt (w2.setCell ⟨wr.heap.size, 3, none⟩ v) a2 y.x.bytes := by
    refine ⟨h0.row.same (fun hp b hb C t fr hk => hoff.at hk (fun e => ?_)), fun hp b hb => ?_⟩
    · have := hq.2.1.new b hb; simp at this; omega
    · obtain ⟨C, fr, hk⟩ := h0.typ hp b hb
      exact ⟨C, fr, hoff.at hk (fun e => by have := hq.2.1.new b hb; simp at this; omega)⟩
  exact ⟨HA _ _ hb HK.2.2.1, (HK.2.1.same (fun _ _ _ hk => old_block hb hk)).snoc HK.1 hy hbt hq.2.1.le hq.2.1.cap, HK.2.2.2.later hb⟩

set_option maxRecDepth 20000 in
set_option maxHeartbeats 4000000 in
theorem all1_in (n l b1 m B : Nat) (T : Nat → Prop) (ad : Option Addr) (X : List FX) (hn : 1 ≤ n) (hm : X.length = m) (hm5 : m ≤ 512) (hz : ∀ y ∈ X, y.x.bytes.length ≤ 400) (J Jx : List (Nat × FX) → World → Prop) (W : World) (hJ : AbidesFrom W.heap.size J)
    (hY : ∀ pre x W1, J pre W1 → Td X (pre ++ [x]) W1 → pre.length < m → YieldAt Fence.wide (n - 1) Try.prog l (encA x) W1 fun e W' =>
      (e = .returned (.bool true) ∧ J (pre ++ [x]) W' ∧ KpU T B W1 W') ∨ (e = .returned (.bool false) ∧ Jx (pre ++ [x]) W'))
    (h1 : W.cell? ⟨b1, 0, none⟩ = some (.slice ad m m)) (hX : FxAt (fun k => T k ∨ B ≤ k) W ad X) (h0 : J [] W) :
    CallsIn Fence.wide n Try.prog 43 #[.func (.yield l) #[] #[], .pointer (some ⟨b1, 0, none⟩)] W fun e W' => (∃ v, e = .returned v) ∧
      ((∃ ys : List (Nat × FX), ys.length = m ∧ Td X ys W' ∧ J ys W') ∨ (∃ pre, Jx pre W')) := by
  refine callsIn_of_wp Try.func43 rfl trivial ?_ rfl
  simp only [Try.ntmps43, List.size_toArray, List.length_cons, List.length_nil, Nat.reduceAdd, Nat.reduceSub, Array.replicate_succ, Array.replicate_zero, List.push_toArray, List.append_toArray, List.nil_append, List.cons_append]
  gi_wp2
  gi_loopw [7] (fun i wr => ∃ (k : Nat) (ys : List (Nat × FX)), k ≤ m ∧ i = .int .i64 k ∧ Hid (ys.length = k ∧ Td X ys wr ∧ J ys wr ∧ FxAt (fun k => T k ∨ B ≤ k) wr ad X)) (fun i _ => m - (intOf i).toNat)
  case atStart => exact ⟨0, [], Nat.zero_le _, rfl, rfl, Td.nil _ _, h0, hX⟩
  case round =>
    obtain ⟨k, ys, hk, rfl, HK⟩ := hrel
    by_cases hlt : k < m
    · obtain ⟨y, hy⟩ : ∃ y, X[k]? = some y := ⟨_, List.getElem?_eq_getElem (by omega)⟩
      have hyk : X[k]'(by omega) = y := (List.getElem?_eq_some_iff.1 hy).2
      obtain ⟨b, o, rfl, y0, y1, y2, y3⟩ := HK.out.2.2.2.cells4 k (by omega)
      rw [hyk] at y0 y1 y2 y3
      have hmem : y ∈ X := List.mem_of_getElem? hy
      have HYK : Hid (X[k]? = some y ∧ y.x.bytes.length ≤ 400 ∧ y ∈ X) := ⟨hy, hz y hmem, hmem⟩
      have HA : Hid (∀ w0 w2 : World, Below w0.heap.size w0 w2 → J ys w0 → J ys w2) := fun w0 w2 hb hj => abides_below hJ hj hb
      clear hyk hy hmem h1 hX h0
      gi_wp2_with (refine ⟨trivial, ?_⟩; gi_at_call 36; refine (callsIn_wide.2 (bclone_own _ _ _ _ ((HK.out.2.2.2.rows y HYK.out.2.2).1.later ((Below.refl _ wr).alloc (Nat.le_refl _) _)) (by have := HYK.out.2.1; omega))).mono ?_; rintro e w2 ⟨a2, c2, rfl, hq2⟩; have hh2 := old_block hq2.out.2.2 (heap_alloc_new wr _); have z0 := cell_of hh2 0; have z1 := cell_of hh2 1; have z2 := cell_of hh2 2; have z3 := cell_of hh2 3; have zf := frozen_of hh2 3; simp only [List.getElem?_toArray, List.getElem?_cons_zero, List.getElem?_cons_succ] at z0 z1 z2 z3; clear hh2; have HS : Hid _ := all_step (v := .slice a2 y.x.bytes.length c2) HK.out HYK.out.1 hq2.out HA.out; obtain ⟨fn, tmps, assign, body, hyy, hR⟩ := hY ys (k, ⟨y.x, a2, c2⟩) _ HS.out.1 HS.out.2.1 (by have := HK.out.1; omega); have HR : Hid (RoundIn Fence.wide (n - 1) Try.prog l fn tmps assign body _ _) := hR; dsimp only [encA] at hyy; clear hR hq2)
      refine HR.out.mono ?_
      rintro e W3 (⟨rfl, hJ3, hk3⟩ | ⟨rfl, hJx3⟩)
      · have HQ : Hid ((ys ++ [(k, (⟨y.x, a2, c2⟩ : FX))]).length = k + 1 ∧ Td X (ys ++ [(k, ⟨y.x, a2, c2⟩)]) W3 ∧ J (ys ++ [(k, ⟨y.x, a2, c2⟩)]) W3 ∧ FxAt (fun k => T k ∨ B ≤ k) W3 (some ⟨b, o, none⟩) X) := ⟨by rw [List.length_append, HK.out.1]; rfl, HS.out.2.1.same (fun i C fr hk => hk3.cells i C _ fr hk (.inr rfl)), hJ3, hk3.fx HS.out.2.2⟩
        clear hJ3 hk3
        gi_wp2
        go_roundw
        case rel => exact ⟨k + 1, _, by omega, by go_num, HQ⟩
        case measure => simp [intOf]; omega
      · gi_wp2
        refine bodyPost_ret (results_none rfl _ _ _) rfl ?_
        exact ⟨⟨_, rfl⟩, .inr ⟨_, hJx3⟩⟩
    · gi_wp2
      go_end0
      obtain rfl : k = m := by omega
      exact ⟨⟨_, rfl⟩, .inl ⟨ys, HK.out.1, HK.out.2.1, HK.out.2.2.1⟩⟩

theorem all1_tells (n b1 m B : Nat) (T : Nat → Prop) (ad : Option Addr) (X : List FX) (hn : 1 ≤ n) (hm : X.length = m) (hm5 : m ≤ 512) (hz : ∀ y ∈ X, y.x.bytes.length ≤ 400) (w : World) (h1 : w.cell? ⟨b1, 0, none⟩ = some (.slice ad m m)) (hX : FxAt (fun k => T k ∨ B ≤ k) w ad X) :
    Tells n Try.prog 43 #[.pointer (some ⟨b1, 0, none⟩)] encA (KpU T B) (Td X) (fun ys => ys.length = m) m w :=
  fun l J Jx W hW hJ _ hY h0 => all1_in n l b1 m B T ad X hn hm hm5 hz J Jx W hJ hY (cell_later hW h1) (hX.later hW) h0
theorem Td.own {X : List FX} {B : Nat} : OwnFrom B (Td X) := fun ys W W' row h hg hr => h.same (fun k C fr hk => kept_cells hk hg hr)

theorem all_any (w : World) (N : Nat → Prop) (lb mb n : Nat) (L : List Fl) (h : Lk N w lb mb n L) (a b : Int) (ha : In64 a) (hb : In64 b) :
    Calls Try.prog 21 #[.pointer (some ⟨lb, 0, none⟩), .int .i64 a, .int .i64 b] w fun e w' => ∃ g ad X, e = .returned (.func (.func 43) #[] #[.pointer (some ⟨g, 0, none⟩)]) ∧ Hid (w'.cell? ⟨g, 0, none⟩ = some (.slice ad X.length X.length) ∧ w.heap.size ≤ g ∧ FxAt N w' ad X ∧ X.map FX.x = L.filter (pf a b) ∧ Below w.heap.size w w') := by
  have HO : Hid (∀ W, W = w → Calls Try.prog 41 #[.pointer (some ⟨lb, 0, none⟩), .agg #[.int .i64 a, .int .i64 b]] W fun e w' => ∃ ad X, e = .returned (.slice ad X.length X.length) ∧ Hid (FxAt N w' ad X ∧ X.map FX.x = L.filter (pf a b) ∧ Below w.heap.size w w')) := fun W e => by subst e; exact of_any W N lb mb n L h a b ha hb
  clear h
  go_enter Try.func21, Try.ntmps21
  go_wp2_with (go_at_call 41; refine (HO.out _ rfl).mono ?_; rintro e w1 ⟨ad, X, rfl, hq⟩)
  go_ret
  have hs := hq.out.2.2.size
  exact ⟨_, ad, X, rfl, by rw [cell_of (heap_alloc_new w1 _)]; rfl, hs, hq.out.1.later ((Below.refl _ w1).alloc (Nat.le_refl _) _), hq.out.2.1, below_of hq.out.2.2 ((Below.refl _ w1).alloc (Nat.le_refl _) _)⟩
end Go.Proofs.Ytopfpdkknfjgoaa
