/- bundle.Decode. -/
import Derived.Test.YtjfmgokpnpmdpaaDoorBRead
import Derived.Test.YtjfmgokpnpmdpaaDoorKOpen
namespace Go.Proofs.YtjfmgokpnpmdpaaDoor
open Go.RowKit
set_option linter.unusedVariables false
theorem opens_false {k : Nat} {f : List Nat → List Nat} {l : List Nat} (h : opens k f l = false) : l.length < k ∨ f (l.take (l.length - k)) ≠ l := by
  unfold opens at h
  rcases Nat.lt_or_ge l.length k with h1 | h1
  · exact .inl h1
  · rw [decide_eq_true h1, Bool.true_and] at h
    exact .inr (by simpa using h)
theorem opens_true {k : Nat} {f : List Nat → List Nat} {l : List Nat} (h : opens k f l = true) : k ≤ l.length ∧ f (l.take (l.length - k)) = l := by
  unfold opens at h
  simpa using h
theorem open_yes {W : World} {k : Nat} {f : List Nat → List Nat} {l : List Nat} (h : opens k f l = true) {e : Ending} {w' : World} (ho : Opened W k f l e w') : ∃ a, e = .returned (.tuple #[.slice a (l.length - k) (l.length - k), .int .i64 0]) ∧ Hid (Row w' a (l.take (l.length - k)) ∧ Below W.heap.size W w') := by
  have h1 := opens_true h
  rcases ho with ⟨hb, ⟨h2, _⟩ | ⟨_, h2, _⟩ | ⟨_, _, a, rfl, h3⟩⟩
  · omega
  · exact absurd h1.2 h2
  · exact ⟨a, rfl, h3, hb⟩
theorem open_no {W : World} {k : Nat} {f : List Nat → List Nat} {l : List Nat} (h : opens k f l = false) {e : Ending} {w' : World} (ho : Opened W k f l e w') : ∃ E : Int, e = .returned (.tuple #[.slice none 0 0, .int .i64 E]) ∧ (E != 0) = true ∧ Hid (Below W.heap.size W w') := by
  rcases ho with ⟨hb, ⟨_, rfl⟩ | ⟨_, _, rfl⟩ | ⟨h1, h2, _⟩⟩
  · exact ⟨7, rfl, rfl, hb⟩
  · exact ⟨130, rfl, rfl, hb⟩
  · rcases opens_false h with h3 | h3
    · omega
    · exact absurd h2 h3
theorem open_some {W : World} {k : Nat} {f : List Nat → List Nat} {l : List Nat} {e : Ending} {w' : World} (ho : Opened W k f l e w') : ∃ (a : Option Addr) (n c : Nat) (E : Int), e = .returned (.tuple #[.slice a n c, .int .i64 E]) ∧ Hid (Below W.heap.size W w') := by
  rcases ho with ⟨hb, ⟨_, rfl⟩ | ⟨_, _, rfl⟩ | ⟨h1, h2, a, rfl, _⟩⟩
  · exact ⟨_, _, _, _, rfl, hb⟩
  · exact ⟨_, _, _, _, rfl, hb⟩
  · exact ⟨_, _, _, _, rfl, hb⟩
/-- what Decode answers. -/
def Dec9 (V : List Nat → Bool) (l : List Nat) (w : World) (e : Ending) (w' : World) : Prop :=
  ((decBn V l).1 = 0 ∧ ∃ a c, e = .returned (.tuple #[bv (decBn V l).2 a c, .int .i64 0]) ∧ Hid (Row w' a (decBn V l).2.pay ∧ (decBn V l).2.pay.length ≤ c ∧ c ≤ maxLen ∧ Bz (decBn V l).2 ∧ Below w.heap.size w w')) ∨
  (((decBn V l).1 = 190 ∨ (decBn V l).1 = 130) ∧ e = .returned (.tuple #[bv zeroB none 0, .int .i64 (decBn V l).1]) ∧ Hid (Below w.heap.size w w'))
theorem dec9_no {V : List Nat → Bool} {l : List Nat} {w w' : World} (E : Int) (h : (decBn V l).1 = E) (hE : E = 190 ∨ E = 130) (hb : Below w.heap.size w w') : Dec9 V l w (.returned (.tuple #[.agg #[.int .i64 0, .int .i64 0, .int .u32 0, .int .i64 0, .int .i64 0, .int .i64 0, .int .i64 0, .int .i64 0, .int .i64 0, .int .i64 0, .slice none 0 0], .int .i64 E])) w' := by
  subst h
  exact .inr ⟨hE, rfl, hb⟩
theorem ints3 {w : World} {h : Nat} (e : w.heap.size = h) : Ints (w.alloc (.cells #[.int .i64 2, .int .i64 1, .int .i64 2] 3)) (some ⟨h, 0, none⟩) [2, 1, 2] := by
  subst e
  refine ⟨_, _, rfl, fun i hi => ?_⟩
  rw [cell_of (heap_alloc_new w _), Nat.zero_add]
  match i, hi with
  | 0, _ => rfl
  | 1, _ => rfl
  | 2, _ => rfl
  | i + 3, hi => simp at hi; omega
theorem dec_parts_none {V : List Nat → Bool} {l : List Nat} (h : partsOf V l [2, 1, 2] = none) : (decBn V l).1 = 190 := by
  unfold decBn
  rw [h]
theorem three_of {L : List T} (h : L.length = 3) : ∃ x y z, L = [x, y, z] := by
  match L, h with
  | [x, y, z], _ => exact ⟨x, y, z, rfl⟩
theorem dec_parts {V : List Nat → Bool} {l : List Nat} {x y z : T} (h : partsOf V l [2, 1, 2] = some [x, y, z]) : decBn V l = tailB V l (bs x) (nm y) (bs z) := by
  unfold decBn
  rw [h]
set_option maxRecDepth 20000 in
set_option maxHeartbeats 4000000 in
theorem decode9_none (V : List Nat → Bool) (TB : World → Prop) (hT : Txt V TB) (w : World) (a : Option Addr) (c : Nat) (l : List Nat) (hw : TB w) (hr : Row w a l) (hz : l.length ≤ 140737488000000) (h1 : 1 < w.heap.size) (hp : partsOf V l [2, 1, 2] = none) :
    Calls Tryd.prog 17 #[.slice a l.length c] w fun e w' => Dec9 V l w e w' := by
  have HB : Hid (∀ (w : World) (X : Obj), Below w.heap.size w (w.alloc X)) := fun w X => (Below.refl _ w).alloc (Nat.le_refl _) X
  have HL : Hid (∀ W ak, Below w.heap.size w W → Ints W ak [2, 1, 2] → Calls Tryd.prog 39 #[.slice a l.length c, .slice ak 3 3] W fun e w' => e = .returned (.tuple #[.slice none 0 0, .bool false]) ∧ Hid (Below W.heap.size W w')) := fun W ak hb hk => by
    refine (list_any V TB hT W a c l ak 3 [2, 1, 2] (hT.later _ _ hw hb) (hr.later hb) hz (by have := hb.size; omega) hk (by decide)).mono ?_
    rintro e w' (⟨L, _, _, h2, _⟩ | ⟨_, rfl, hq⟩)
    · rw [hp] at h2; cases h2
    · exact ⟨rfl, hq⟩
  have HD : Hid ((decBn V l).1 = 190) := dec_parts_none hp
  clear hr hw hT hp
  go_enter Tryd.func17, Tryd.ntmps17
  go_wp2_with (go_at_call 39; refine (HL.out _ _ (below_of (HB.out w zb) (HB.out _ _)) (ints3 (w := w.alloc zb) (by simp))).mono ?_; rintro e w1 ⟨rfl, hq1⟩; have hz0 := old_block (below_of (HB.out (w.alloc zb) _) hq1.out) (heap_alloc_new w zb); have fz := frozen_of hz0; obtain ⟨z0, z1, z2, z3, z4, z5, z6, z7, z8, z9, z10⟩ := zcells hz0; clear hz0)
  refine bodyPost_ret (v := .tuple #[.agg #[.int .i64 0, .int .i64 0, .int .u32 0, .int .i64 0, .int .i64 0, .int .i64 0, .int .i64 0, .int .i64 0, .int .i64 0, .int .i64 0, .slice none 0 0], .int .i64 190]) (by simp [results, Tryd.results17, go_sem, z0, z1, z2, z3, z4, z5, z6, z7, z8, z9, z10]) rfl ?_
  exact dec9_no 190 HD.out (by omega) ((((((((((((below_of (below_of (HB.out w zb) (HB.out _ _)) hq1.out).setCell (p := ⟨w.heap.size, 0, none⟩) (Nat.le_refl _) _).setCell (p := ⟨w.heap.size, 1, none⟩) (Nat.le_refl _) _).setCell (p := ⟨w.heap.size, 2, none⟩) (Nat.le_refl _) _).setCell (p := ⟨w.heap.size, 3, none⟩) (Nat.le_refl _) _).setCell (p := ⟨w.heap.size, 4, none⟩) (Nat.le_refl _) _).setCell (p := ⟨w.heap.size, 5, none⟩) (Nat.le_refl _) _).setCell (p := ⟨w.heap.size, 6, none⟩) (Nat.le_refl _) _).setCell (p := ⟨w.heap.size, 7, none⟩) (Nat.le_refl _) _).setCell (p := ⟨w.heap.size, 8, none⟩) (Nat.le_refl _) _).setCell (p := ⟨w.heap.size, 9, none⟩) (Nat.le_refl _) _).setCell (p := ⟨w.heap.size, 10, none⟩) (Nat.le_refl _) _)
/-- three items of a list, the first and the last of bytes. -/
theorem three_at {A : Nat → Prop} {w : World} {a2 : Option Addr} {x y z : T} (h : LieL A w 3 a2 [x, y, z]) : ∃ bb o q0 d0 q2 d2, a2 = some ⟨bb, o, none⟩ ∧ w.cell? ⟨bb, o + 2, none⟩ = some (.slice q0 (bs x).length d0) ∧ w.cell? ⟨bb, o + 4 + 1, none⟩ = some (.int .u64 (nm y : Nat)) ∧ w.cell? ⟨bb, o + 8 + 2, none⟩ = some (.slice q2 (bs z).length d2) ∧ Hid (Row w q0 (bs x) ∧ (bs x).length ≤ d0 ∧ Row w q2 (bs z) ∧ (bs z).length ≤ d2) ∧ nm y < 18446744073709551616 ∧ (bs x).length ≤ 140737488351232 ∧ (bs z).length ≤ 140737488351232 := by
  obtain ⟨bb, o, rfl, _, hc⟩ := h.2 (by simp)
  obtain ⟨q0, d0, _, _, ⟨_, _, e0, _⟩, l0, r0⟩ := hc 0 (by simp)
  obtain ⟨_, _, _, _, ⟨_, e1, _, _⟩, l1, _⟩ := hc 1 (by simp)
  obtain ⟨q2, d2, _, _, ⟨_, _, e2, _⟩, l2, r2⟩ := hc 2 (by simp)
  exact ⟨bb, o, q0, d0, q2, d2, rfl, e0, e1, e2, ⟨l0.2.1, r0, l2.2.1, r2⟩, l1.1.1, l0.1.2.2.2, l2.1.2.2.2⟩
theorem tail_sum {V : List Nat → Bool} {l f p : List Nat} {h : Nat} (hk : (opens 2 seal16 f && opens 4 seal32 p) = false) : (tailB V l f h p).1 = 130 := by
  unfold tailB
  rw [if_neg (by rw [hk]; simp)]
theorem tail_none {V : List Nat → Bool} {l f p : List Nat} {h : Nat} (h1 : opens 2 seal16 f = true) (h2 : opens 4 seal32 p = true) (h3 : partsOf V (f.take (f.length - 2)) ten1 = none) : (tailB V l f h p).1 = 190 := by
  unfold tailB
  rw [if_pos (by rw [h1, h2]; rfl), h3]
theorem tail_some {V : List Nat → Bool} {l f p : List Nat} {h : Nat} {X : List T} (h1 : opens 2 seal16 f = true) (h2 : opens 4 seal32 p = true) (h3 : partsOf V (f.take (f.length - 2)) ten1 = some X) : tailB V l f h p = if okB (joinB X h (p.take (p.length - 4))) && decide (encB (joinB X h (p.take (p.length - 4))) = l) then (0, joinB X h (p.take (p.length - 4))) else (190, zeroB) := by
  unfold tailB
  rw [if_pos (by rw [h1, h2]; rfl), h3]
theorem i64_in (n : Nat) (h : n < 18446744073709551616) : in64 (i64 n) := by
  unfold in64 i64
  split <;> omega
theorem getD_fit {L : List T} (h : ∀ x ∈ L, nm x < 18446744073709551616) (j : Nat) : nm (L.getD j .nil) < 18446744073709551616 := by
  rw [List.getD_eq_getElem?_getD]
  by_cases hj : j < L.length
  · rw [List.getElem?_eq_getElem hj]; exact h _ (List.getElem_mem hj)
  · rw [List.getElem?_eq_none (by omega)]; decide
theorem joinB_fit {X : List T} (h : ∀ x ∈ X, nm x < 18446744073709551616) {n : Nat} (hn : n < 18446744073709551616) {p : List Nat} (hp : p.length ≤ 140737488351232) : Bz (joinB X n p) :=
  ⟨i64_in _ (getD_fit h _), i64_in _ (getD_fit h _), Nat.mod_lt _ (by omega), i64_in _ (getD_fit h _), i64_in _ (getD_fit h _), i64_in _ (getD_fit h _), i64_in _ hn, i64_in _ (getD_fit h _), i64_in _ (getD_fit h _), i64_in _ (getD_fit h _), hp⟩
theorem parts_fit {V : List Nat → Bool} {l : List Nat} {K : List Int} {L : List T} (hl : ∀ x ∈ l, x < 256) (h : partsOf V l K = some L) : ∀ x ∈ L, nm x < 18446744073709551616 := by
  unfold partsOf at h
  split at h
  · rename_i hc
    cases h
    obtain ⟨E, hE⟩ : ∃ E, dec V 4 l = E := ⟨_, rfl⟩
    obtain ⟨E1, x, s⟩ := E
    rw [hE] at hc ⊢
    simp only at hc
    obtain ⟨rfl, _⟩ := hc
    intro y hy
    exact ((dec_of V 4 l x s hl hE).2.2.2.2 y hy).1
  · cases h
theorem cells11 {W : World} {p : Nat} {t : TypeId} {v0 v1 v2 v3 v4 v5 v6 v7 v8 v9 v10 : Value} (h : W.heap[p]? = some (.cells #[v0, v1, v2, v3, v4, v5, v6, v7, v8, v9, v10] t (0, 0))) : W.cell? ⟨p, 0, none⟩ = some v0 ∧ W.cell? ⟨p, 1, none⟩ = some v1 ∧ W.cell? ⟨p, 2, none⟩ = some v2 ∧ W.cell? ⟨p, 3, none⟩ = some v3 ∧ W.cell? ⟨p, 4, none⟩ = some v4 ∧ W.cell? ⟨p, 5, none⟩ = some v5 ∧ W.cell? ⟨p, 6, none⟩ = some v6 ∧ W.cell? ⟨p, 7, none⟩ = some v7 ∧ W.cell? ⟨p, 8, none⟩ = some v8 ∧ W.cell? ⟨p, 9, none⟩ = some v9 ∧ W.cell? ⟨p, 10, none⟩ = some v10 := by
  refine ⟨?_, ?_, ?_, ?_, ?_, ?_, ?_, ?_, ?_, ?_, ?_⟩
  all_goals (rw [cell_of h]; rfl)
theorem zb_apart {W : World} {H : Nat} (h : W.heap[H]? = some zb) {a : Option Addr} {l : List Nat} (hr : Row W a l) (h0 : 0 < l.length) : ∀ b, a = some b → b.block ≠ H := by
  intro b hb e
  obtain ⟨b', off, rfl, hc⟩ := hr.2.2 h0
  cases hb
  have h1 := hc 0 h0
  simp only at e
  subst e
  rw [cell_of h, Nat.add_zero] at h1
  match off, h1 with
  | 0, h1 => simp at h1
  | 1, h1 => simp at h1
  | 2, h1 => simp at h1
  | 3, h1 => simp at h1
  | 4, h1 => simp at h1
  | 5, h1 => simp at h1
  | 6, h1 => simp at h1
  | 7, h1 => simp at h1
  | 8, h1 => simp at h1
  | 9, h1 => simp at h1
  | 10, h1 => simp at h1
  | n + 11, h1 => simp at h1
theorem parts_len {V : List Nat → Bool} {l : List Nat} {x y z : T} (hl : ∀ x ∈ l, x < 256) (h : partsOf V l [2, 1, 2] = some [x, y, z]) : (bs x).length ≤ 512 ∧ (bs z).length ≤ 512 := by
  unfold partsOf at h
  split at h
  · rename_i hc
    obtain ⟨E, hE⟩ : ∃ E, dec V 4 l = E := ⟨_, rfl⟩
    obtain ⟨E1, u, s⟩ := E
    rw [hE] at hc h
    simp only [Option.some.injEq] at hc h
    obtain ⟨rfl, _, hk, hm⟩ := hc
    rw [h] at hm
    simp only [List.map_cons, List.map_nil, List.cons.injEq, and_true] at hm
    have hok := (dec_of V 4 l u s hl hE).2.1
    have h2 : ∀ q ∈ its u, okT V 3 q = true := by
      rcases ok_bytes hok with ⟨k, _⟩ | ⟨k, _⟩ | ⟨k, _⟩ | ⟨_, _, _, _, ha⟩
      · omega
      · omega
      · omega
      · exact ha
    have h3 : ∀ q ∈ its u, kd q = 2 → (bs q).length ≤ 512 := by
      intro q hq hk2
      rcases ok_bytes (h2 q hq) with ⟨k, _⟩ | ⟨_, _, _, hb⟩ | ⟨k, _⟩ | ⟨k, _⟩
      · omega
      · exact hb
      · omega
      · omega
    exact ⟨h3 x (by rw [h]; simp) hm.1, h3 z (by rw [h]; simp) hm.2.2⟩
  · cases h
set_option maxRecDepth 20000 in
set_option maxHeartbeats 8000000 in
theorem decode9_some (V : List Nat → Bool) (TB : World → Prop) (hT : Txt V TB) (w : World) (a : Option Addr) (c : Nat) (l : List Nat) (hw : TB w) (hr : Row w a l) (hz : l.length ≤ 140737488000000) (h1 : 1 < w.heap.size) (x y z : T) (hp : partsOf V l [2, 1, 2] = some [x, y, z]) :
    Calls Tryd.prog 17 #[.slice a l.length c] w fun e w' => Dec9 V l w e w' := by
  have HB : Hid (∀ (w : World) (X : Obj), Below w.heap.size w (w.alloc X)) := fun w X => (Below.refl _ w).alloc (Nat.le_refl _) X
  have HL : Hid (∀ W ak, Below w.heap.size w W → Ints W ak [2, 1, 2] → Calls Tryd.prog 39 #[.slice a l.length c, .slice ak 3 3] W fun e w' => ∃ a2 c2, e = .returned (.tuple #[.slice a2 3 c2, .bool true]) ∧ Hid (LieL (fun k => k < W.heap.size) w' 3 a2 [x, y, z] ∧ Below W.heap.size W w')) := fun W ak hb hk => by
    refine (list_any V TB hT W a c l ak 3 [2, 1, 2] (hT.later _ _ hw hb) (hr.later hb) hz (by have := hb.size; omega) hk (by decide)).mono ?_
    rintro e w' (⟨L, a2, c2, h2, rfl, hq⟩ | ⟨h2, _⟩)
    · rw [hp] at h2; cases h2; exact ⟨a2, c2, rfl, hq.out.2⟩
    · rw [hp] at h2; cases h2
  have HD : Hid (decBn V l = tailB V l (bs x) (nm y) (bs z)) := dec_parts hp
  have HTB : Hid (∀ W, Below w.heap.size w W → TB W) := fun W hb => hT.later _ _ hw hb
  have HTX : Hid (Txt V TB) := hT
  have HR : Hid (Row w a l) := hr
  obtain ⟨hx5, hz5⟩ := parts_len hr.1 hp
  clear hr hw hT hp
  go_enter Tryd.func17, Tryd.ntmps17
  go_wp2_with (go_at_call 39; refine (HL.out _ _ (below_of (HB.out w zb) (HB.out _ _)) (ints3 (w := w.alloc zb) (by simp))).mono ?_; rintro e w1 ⟨a2, c2, rfl, hq1⟩; have HZ1 : Hid (w1.heap[w.heap.size]? = some zb) := old_block (below_of (HB.out (w.alloc zb) _) hq1.out.2) (heap_alloc_new w zb); have HB1 : Hid (Below w.heap.size w w1) := below_of (below_of (HB.out w zb) (HB.out _ _)) hq1.out.2; obtain ⟨bb, o, q0, d0, q2, d2, rfl, e0, e1, e2, hqr, hny, _, _⟩ := three_at hq1.out.1)
  refine (open16_free q0 d0 (bs x) w1 hqr.out.1 hqr.out.2.1 (by omega)).mono ?_
  intro e w2 ho2
  cases hA : opens 2 seal16 (bs x) with
  | false =>
    obtain ⟨E2, rfl, hE2, hq2⟩ := open_no hA ho2
    have HS : Hid ((decBn V l).1 = 130) := by show _ = _; rw [HD.out]; exact tail_sum (by rw [hA]; rfl)
    have e3 := cell_later hq2.out e2
    clear ho2 hA e0 e1 e2
    go_wp2_with (go_at_call 41; refine (open32_free q2 d2 (bs z) w2 (hqr.out.2.2.1.later hq2.out) hqr.out.2.2.2 (by omega)).mono ?_; intro e w3 ho3; obtain ⟨a3, n3, c3, E3, rfl, hq3⟩ := open_some ho3; clear ho3; have hz0 := old_block (below_of hq2.out hq3.out) HZ1.out; have fz := frozen_of hz0; obtain ⟨z0, z1, z2, z3, z4, z5, z6, z7, z8, z9, z10⟩ := zcells hz0; clear hz0)
    refine bodyPost_ret (v := .tuple #[.agg #[.int .i64 0, .int .i64 0, .int .u32 0, .int .i64 0, .int .i64 0, .int .i64 0, .int .i64 0, .int .i64 0, .int .i64 0, .int .i64 0, .slice none 0 0], .int .i64 130]) (by simp [results, Tryd.results17, go_sem, z0, z1, z2, z3, z4, z5, z6, z7, z8, z9, z10]) rfl ?_
    exact dec9_no 130 HS.out (by omega) ((((((((((((below_of (below_of HB1.out hq2.out) hq3.out).setCell (p := ⟨w.heap.size, 0, none⟩) (Nat.le_refl _) _).setCell (p := ⟨w.heap.size, 1, none⟩) (Nat.le_refl _) _).setCell (p := ⟨w.heap.size, 2, none⟩) (Nat.le_refl _) _).setCell (p := ⟨w.heap.size, 3, none⟩) (Nat.le_refl _) _).setCell (p := ⟨w.heap.size, 4, none⟩) (Nat.le_refl _) _).setCell (p := ⟨w.heap.size, 5, none⟩) (Nat.le_refl _) _).setCell (p := ⟨w.heap.size, 6, none⟩) (Nat.le_refl _) _).setCell (p := ⟨w.heap.size, 7, none⟩) (Nat.le_refl _) _).setCell (p := ⟨w.heap.size, 8, none⟩) (Nat.le_refl _) _).setCell (p := ⟨w.heap.size, 9, none⟩) (Nat.le_refl _) _).setCell (p := ⟨w.heap.size, 10, none⟩) (Nat.le_refl _) _)
  | true =>
    obtain ⟨a3, rfl, hq2⟩ := open_yes hA ho2
    have HA : Hid (opens 2 seal16 (bs x) = true) := hA
    have e3 := cell_later hq2.out.2 e2
    clear ho2 hA e0 e2
    go_wp2_with fail
    refine (open32_free q2 d2 (bs z) w2 (hqr.out.2.2.1.later hq2.out.2) hqr.out.2.2.2 (by omega)).mono ?_
    intro e w3 ho3
    cases hC : opens 4 seal32 (bs z) with
    | false =>
      obtain ⟨E3, rfl, hE3, hq3⟩ := open_no hC ho3
      have HS : Hid ((decBn V l).1 = 130) := by show _ = _; rw [HD.out]; exact tail_sum (by rw [hC, Bool.and_false])
      have hz0 := old_block (below_of hq2.out.2 hq3.out) HZ1.out
      have fz := frozen_of hz0
      obtain ⟨z0, z1, z2, z3, z4, z5, z6, z7, z8, z9, z10⟩ := zcells hz0
      clear hz0
      clear ho3 hC
      go_wp2
      refine bodyPost_ret (v := .tuple #[.agg #[.int .i64 0, .int .i64 0, .int .u32 0, .int .i64 0, .int .i64 0, .int .i64 0, .int .i64 0, .int .i64 0, .int .i64 0, .int .i64 0, .slice none 0 0], .int .i64 130]) (by simp [results, Tryd.results17, go_sem, z0, z1, z2, z3, z4, z5, z6, z7, z8, z9, z10]) rfl ?_
      exact dec9_no 130 HS.out (by omega) ((((((((((((below_of (below_of HB1.out hq2.out.2) hq3.out).setCell (p := ⟨w.heap.size, 0, none⟩) (Nat.le_refl _) _).setCell (p := ⟨w.heap.size, 1, none⟩) (Nat.le_refl _) _).setCell (p := ⟨w.heap.size, 2, none⟩) (Nat.le_refl _) _).setCell (p := ⟨w.heap.size, 3, none⟩) (Nat.le_refl _) _).setCell (p := ⟨w.heap.size, 4, none⟩) (Nat.le_refl _) _).setCell (p := ⟨w.heap.size, 5, none⟩) (Nat.le_refl _) _).setCell (p := ⟨w.heap.size, 6, none⟩) (Nat.le_refl _) _).setCell (p := ⟨w.heap.size, 7, none⟩) (Nat.le_refl _) _).setCell (p := ⟨w.heap.size, 8, none⟩) (Nat.le_refl _) _).setCell (p := ⟨w.heap.size, 9, none⟩) (Nat.le_refl _) _).setCell (p := ⟨w.heap.size, 10, none⟩) (Nat.le_refl _) _)
    | true =>
      obtain ⟨a4, rfl, hq3⟩ := open_yes hC ho3
      have HC : Hid (opens 4 seal32 (bs z) = true) := hC
      clear ho3 hC
      have HB3 : Hid (Below w.heap.size w w3) := below_of (below_of HB1.out hq2.out.2) hq3.out.2
      have HW3 : Hid (Below w1.heap.size w1 w3) := below_of hq2.out.2 hq3.out.2
      have HRB : Hid (Calls Tryd.prog 42 #[.slice a3 ((bs x).length - 2) ((bs x).length - 2)] w3 fun e w' => Rdb V ((bs x).take ((bs x).length - 2)) w3 e w') := by
        have h5 := readBlock_any V TB HTX.out w3 a3 ((bs x).length - 2) ((bs x).take ((bs x).length - 2)) (HTB.out _ HB3.out) (hq2.out.1.later hq3.out.2) (by rw [take_len]; omega) (by have := HB3.out.size; omega)
        rw [take_len] at h5
        exact h5
      have e5 := cell_later HW3.out e1
      clear e1 e3
      go_wp2_with fail
      refine HRB.out.mono ?_
      rintro e w4 (⟨X, hX, rfl, hq4⟩ | ⟨hX, rfl, hq4⟩)
      · have HJ : Hid (tailB V l (bs x) (nm y) (bs z) = if okB (joinB X (nm y) ((bs z).take ((bs z).length - 4))) && decide (encB (joinB X (nm y) ((bs z).take ((bs z).length - 4))) = l) then (0, joinB X (nm y) ((bs z).take ((bs z).length - 4))) else (190, zeroB)) := tail_some HA.out HC.out hX
        have HZJ : Hid (Bz (joinB X (nm y) ((bs z).take ((bs z).length - 4)))) := joinB_fit (parts_fit (fun q hq => hqr.out.1.1 q (List.mem_of_mem_take hq)) hX) hny (by rw [take_len]; omega)
        have e6 : ∀ Y, (w4.alloc Y).cell? ⟨bb, o + 4 + 1, none⟩ = some (.int .u64 (nm y : Nat)) := fun Y => cell_later (below_of hq4.out (HB.out w4 Y)) e5
        have hw64 := wrap_i64n (nm y) hny
        have HBV : Hid (bv (joinB X (nm y) ((bs z).take ((bs z).length - 4))) a4 ((bs z).length - 4) = .agg #[.int .i64 (readB X).src, .int .i64 (readB X).dst, .int .u32 ((readB X).seq : Nat), .int .i64 (readB X).cre, .int .i64 (readB X).lif, .int .i64 (readB X).lim, .int .i64 (i64 (nm y)), .int .i64 (readB X).pri, .int .i64 (readB X).off, .int .i64 (readB X).tot, .slice a4 ((bs z).length - 4) ((bs z).length - 4)]) := by
          show _ = _
          simp only [bv, joinB, take_len]
        have HEN : Hid (∀ W, Below w3.heap.size w3 W → Calls Tryd.prog 10 #[.agg #[.int .i64 (readB X).src, .int .i64 (readB X).dst, .int .u32 ((readB X).seq : Nat), .int .i64 (readB X).cre, .int .i64 (readB X).lif, .int .i64 (readB X).lim, .int .i64 (i64 (nm y)), .int .i64 (readB X).pri, .int .i64 (readB X).off, .int .i64 (readB X).tot, .slice a4 ((bs z).length - 4) ((bs z).length - 4)]] W fun e w' => Enc9 (joinB X (nm y) ((bs z).take ((bs z).length - 4))) W e w') := fun W hb => by
          have h7 := encode9_any V TB HTX.out (joinB X (nm y) ((bs z).take ((bs z).length - 4))) W a4 ((bs z).length - 4) HZJ.out (HTB.out _ (below_of HB3.out hb)) (hq3.out.1.later hb) (by show (List.take _ _).length ≤ _; rw [take_len]; exact Nat.le_refl _) (by unfold maxLen; omega)
          rw [HBV.out] at h7
          exact h7
        have HPJ : Hid ((joinB X (nm y) ((bs z).take ((bs z).length - 4))).pay = (bs z).take ((bs z).length - 4)) := rfl
        clear hX e5 HRB HL
        generalize joinB X (nm y) ((bs z).take ((bs z).length - 4)) = J at HJ HZJ HBV HEN HPJ
        generalize readB X = r at HBV HEN ⊢
        go_wp2_with fail
        refine (HEN.out _ (below_of hq4.out (HB.out w4 _))).mono ?_
        intro e w5 he5
        unfold Enc9 at he5
        rcases he5 with ⟨hok, a5, c5, rfl, hq5⟩ | ⟨hok, rfl, hq5⟩
        · have HEQ : Hid (Calls Tryd.prog 24 #[.slice a5 (encB J).length c5, .slice a l.length c] w5 fun e w' => e = .returned (.bool (decide (encB J = l))) ∧ w5 = w') := equal_any a5 a c5 c (encB J) l w5 hq5.out.1 (HR.out.later (below_of (below_of (below_of HB3.out hq4.out) (HB.out w4 _)) hq5.out.2.2.2.2))
          have HB5 : Hid (Below w.heap.size w w5) := below_of (below_of (below_of HB3.out hq4.out) (HB.out w4 _)) hq5.out.2.2.2.2
          have hz0 := old_block (below_of (below_of (below_of HW3.out hq4.out) (HB.out w4 _)) hq5.out.2.2.2.2) HZ1.out
          have fz := frozen_of hz0
          obtain ⟨z0, z1, z2, z3, z4, z5, z6, z7, z8, z9, z10⟩ := zcells hz0
          clear hz0
          cases hd : decide (encB J = l) with
          | true =>
            rw [hd] at HEQ
            have HS : Hid (decBn V l = (0, J)) := by show _ = _; rw [HD.out, HJ.out, hok, hd]; rfl
            obtain ⟨y0, y1, y2, y3, y4, y5, y6, y7, y8, y9, y10⟩ := cells11 (old_block hq5.out.2.2.2.2 (heap_alloc_new w4 _))
            clear hd hok
            go_wp2_with (go_at_call 24; refine HEQ.out.mono ?_; rintro e w6 ⟨rfl, rfl⟩)
            refine bodyPost_ret (v := .tuple #[.agg #[.int .i64 (r).src, .int .i64 (r).dst, .int .u32 ((r).seq : Nat), .int .i64 (r).cre, .int .i64 (r).lif, .int .i64 (r).lim, .int .i64 (i64 (nm y)), .int .i64 (r).pri, .int .i64 (r).off, .int .i64 (r).tot, .slice a4 ((bs z).length - 4) ((bs z).length - 4)], .int .i64 0]) (by simp [results, Tryd.results17, go_sem, z0, z1, z2, z3, z4, z5, z6, z7, z8, z9, z10]) rfl ?_
            refine .inl ⟨by rw [HS.out], a4, (bs z).length - 4, by rw [HS.out, ← HBV.out], ?_⟩
            rw [HS.out]
            have ho : ∀ W, Off (fun q => q = w.heap.size) w5 W → Row W a4 J.pay ∧ J.pay.length ≤ (bs z).length - 4 ∧ (bs z).length - 4 ≤ maxLen ∧ Bz J ∧ Below w.heap.size w W := by
              intro W ho
              have hr5 := hq3.out.1.later (below_of (below_of hq4.out (HB.out w4 (.cells #[.int .i64 (r).src, .int .i64 (r).dst, .int .u32 ((r).seq : Nat), .int .i64 (r).cre, .int .i64 (r).lif, .int .i64 (r).lim, .int .i64 (i64 (nm y)), .int .i64 (r).pri, .int .i64 (r).off, .int .i64 (r).tot, .slice a4 ((bs z).length - 4) ((bs z).length - 4)] 25))) hq5.out.2.2.2.2)
              have hz5' := old_block (below_of (below_of (below_of HW3.out hq4.out) (HB.out w4 (.cells #[.int .i64 (r).src, .int .i64 (r).dst, .int .u32 ((r).seq : Nat), .int .i64 (r).cre, .int .i64 (r).lif, .int .i64 (r).lim, .int .i64 (i64 (nm y)), .int .i64 (r).pri, .int .i64 (r).off, .int .i64 (r).tot, .slice a4 ((bs z).length - 4) ((bs z).length - 4)] 25))) hq5.out.2.2.2.2) HZ1.out
              rw [HPJ.out]
              exact ⟨hr5.off ho (fun h0 b hb e => zb_apart hz5' hr5 h0 b hb e), by rw [take_len]; exact Nat.le_refl _, by unfold maxLen; omega, HZJ.out, HB5.out.trans (ho.below HB5.out.size (fun i e => by omega))⟩
            exact ho _ ((((((((((((Off.refl (fun q => q = w.heap.size) w5).setCell (p := ⟨w.heap.size, 0, none⟩) (.inr rfl) _).setCell (p := ⟨w.heap.size, 1, none⟩) (.inr rfl) _).setCell (p := ⟨w.heap.size, 2, none⟩) (.inr rfl) _).setCell (p := ⟨w.heap.size, 3, none⟩) (.inr rfl) _).setCell (p := ⟨w.heap.size, 4, none⟩) (.inr rfl) _).setCell (p := ⟨w.heap.size, 5, none⟩) (.inr rfl) _).setCell (p := ⟨w.heap.size, 6, none⟩) (.inr rfl) _).setCell (p := ⟨w.heap.size, 7, none⟩) (.inr rfl) _).setCell (p := ⟨w.heap.size, 8, none⟩) (.inr rfl) _).setCell (p := ⟨w.heap.size, 9, none⟩) (.inr rfl) _).setCell (p := ⟨w.heap.size, 10, none⟩) (.inr rfl) _)
          | false =>
            rw [hd] at HEQ
            have HS : Hid ((decBn V l).1 = 190) := by show _ = _; rw [HD.out, HJ.out, hd, Bool.and_false]; rfl
            clear hd hok
            go_wp2_with (go_at_call 24; refine HEQ.out.mono ?_; rintro e w6 ⟨rfl, rfl⟩)
            refine bodyPost_ret (v := .tuple #[.agg #[.int .i64 0, .int .i64 0, .int .u32 0, .int .i64 0, .int .i64 0, .int .i64 0, .int .i64 0, .int .i64 0, .int .i64 0, .int .i64 0, .slice none 0 0], .int .i64 190]) (by simp [results, Tryd.results17, go_sem, z0, z1, z2, z3, z4, z5, z6, z7, z8, z9, z10]) rfl ?_
            exact dec9_no 190 HS.out (by omega) (((((((((((HB5.out.setCell (p := ⟨w.heap.size, 0, none⟩) (Nat.le_refl _) _).setCell (p := ⟨w.heap.size, 1, none⟩) (Nat.le_refl _) _).setCell (p := ⟨w.heap.size, 2, none⟩) (Nat.le_refl _) _).setCell (p := ⟨w.heap.size, 3, none⟩) (Nat.le_refl _) _).setCell (p := ⟨w.heap.size, 4, none⟩) (Nat.le_refl _) _).setCell (p := ⟨w.heap.size, 5, none⟩) (Nat.le_refl _) _).setCell (p := ⟨w.heap.size, 6, none⟩) (Nat.le_refl _) _).setCell (p := ⟨w.heap.size, 7, none⟩) (Nat.le_refl _) _).setCell (p := ⟨w.heap.size, 8, none⟩) (Nat.le_refl _) _).setCell (p := ⟨w.heap.size, 9, none⟩) (Nat.le_refl _) _).setCell (p := ⟨w.heap.size, 10, none⟩) (Nat.le_refl _) _)
        · have HS : Hid ((decBn V l).1 = 190) := by show _ = _; rw [HD.out, HJ.out, hok]; rfl
          have hz0 := old_block (below_of (below_of (below_of HW3.out hq4.out) (HB.out w4 _)) hq5.out) HZ1.out
          have fz := frozen_of hz0
          obtain ⟨z0, z1, z2, z3, z4, z5, z6, z7, z8, z9, z10⟩ := zcells hz0
          clear hz0
          clear hok
          go_wp2
          refine bodyPost_ret (v := .tuple #[.agg #[.int .i64 0, .int .i64 0, .int .u32 0, .int .i64 0, .int .i64 0, .int .i64 0, .int .i64 0, .int .i64 0, .int .i64 0, .int .i64 0, .slice none 0 0], .int .i64 190]) (by simp [results, Tryd.results17, go_sem, z0, z1, z2, z3, z4, z5, z6, z7, z8, z9, z10]) rfl ?_
          exact dec9_no 190 HS.out (by omega) ((((((((((((below_of (below_of (below_of HB3.out hq4.out) (HB.out w4 _)) hq5.out).setCell (p := ⟨w.heap.size, 0, none⟩) (Nat.le_refl _) _).setCell (p := ⟨w.heap.size, 1, none⟩) (Nat.le_refl _) _).setCell (p := ⟨w.heap.size, 2, none⟩) (Nat.le_refl _) _).setCell (p := ⟨w.heap.size, 3, none⟩) (Nat.le_refl _) _).setCell (p := ⟨w.heap.size, 4, none⟩) (Nat.le_refl _) _).setCell (p := ⟨w.heap.size, 5, none⟩) (Nat.le_refl _) _).setCell (p := ⟨w.heap.size, 6, none⟩) (Nat.le_refl _) _).setCell (p := ⟨w.heap.size, 7, none⟩) (Nat.le_refl _) _).setCell (p := ⟨w.heap.size, 8, none⟩) (Nat.le_refl _) _).setCell (p := ⟨w.heap.size, 9, none⟩) (Nat.le_refl _) _).setCell (p := ⟨w.heap.size, 10, none⟩) (Nat.le_refl _) _)
      · have HS : Hid ((decBn V l).1 = 190) := by show _ = _; rw [HD.out]; exact tail_none HA.out HC.out hX
        have hz0 := fun Y => zcells (old_block (below_of (below_of HW3.out hq4.out) (HB.out w4 Y)) HZ1.out)
        have fz := fun Y => frozen_of (old_block (below_of (below_of HW3.out hq4.out) (HB.out w4 Y)) HZ1.out)
        have z0 := fun Y => (hz0 Y).1
        have z1 := fun Y => (hz0 Y).2.1
        have z2 := fun Y => (hz0 Y).2.2.1
        have z3 := fun Y => (hz0 Y).2.2.2.1
        have z4 := fun Y => (hz0 Y).2.2.2.2.1
        have z5 := fun Y => (hz0 Y).2.2.2.2.2.1
        have z6 := fun Y => (hz0 Y).2.2.2.2.2.2.1
        have z7 := fun Y => (hz0 Y).2.2.2.2.2.2.2.1
        have z8 := fun Y => (hz0 Y).2.2.2.2.2.2.2.2.1
        have z9 := fun Y => (hz0 Y).2.2.2.2.2.2.2.2.2.1
        have z10 := fun Y => (hz0 Y).2.2.2.2.2.2.2.2.2.2
        clear hz0
        clear hX
        go_wp2
        refine bodyPost_ret (v := .tuple #[.agg #[.int .i64 0, .int .i64 0, .int .u32 0, .int .i64 0, .int .i64 0, .int .i64 0, .int .i64 0, .int .i64 0, .int .i64 0, .int .i64 0, .slice none 0 0], .int .i64 190]) (by simp [results, Tryd.results17, go_sem, z0, z1, z2, z3, z4, z5, z6, z7, z8, z9, z10]) rfl ?_
        exact dec9_no 190 HS.out (by omega) (((((((((((((below_of HB3.out hq4.out).alloc (below_of HB3.out hq4.out).size _).setCell (p := ⟨w.heap.size, 0, none⟩) (Nat.le_refl _) _).setCell (p := ⟨w.heap.size, 1, none⟩) (Nat.le_refl _) _).setCell (p := ⟨w.heap.size, 2, none⟩) (Nat.le_refl _) _).setCell (p := ⟨w.heap.size, 3, none⟩) (Nat.le_refl _) _).setCell (p := ⟨w.heap.size, 4, none⟩) (Nat.le_refl _) _).setCell (p := ⟨w.heap.size, 5, none⟩) (Nat.le_refl _) _).setCell (p := ⟨w.heap.size, 6, none⟩) (Nat.le_refl _) _).setCell (p := ⟨w.heap.size, 7, none⟩) (Nat.le_refl _) _).setCell (p := ⟨w.heap.size, 8, none⟩) (Nat.le_refl _) _).setCell (p := ⟨w.heap.size, 9, none⟩) (Nat.le_refl _) _).setCell (p := ⟨w.heap.size, 10, none⟩) (Nat.le_refl _) _)
theorem decode9_any (V : List Nat → Bool) (TB : World → Prop) (hT : Txt V TB) (w : World) (a : Option Addr) (c : Nat) (l : List Nat) (hw : TB w) (hr : Row w a l) (hz : l.length ≤ 140737488000000) (h1 : 1 < w.heap.size) :
    Calls Tryd.prog 17 #[.slice a l.length c] w fun e w' => Dec9 V l w e w' := by
  cases hp : partsOf V l [2, 1, 2] with
  | none => exact decode9_none V TB hT w a c l hw hr hz h1 hp
  | some L =>
    have hL : L.length = 3 := by
      unfold partsOf at hp
      split at hp
      · rename_i hc
        cases hp
        have := congrArg List.length hc.2.2.2
        simpa using this
      · cases hp
    obtain ⟨x, y, z, rfl⟩ := three_of hL
    exact decode9_some V TB hT w a c l hw hr hz h1 x y z hp
end Go.Proofs.YtjfmgokpnpmdpaaDoor
