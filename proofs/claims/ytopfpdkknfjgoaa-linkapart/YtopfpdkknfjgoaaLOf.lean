/- The walks of link's small functions: within, right, of, having. -/
import Derived.Test.YtopfpdkknfjgoaaLMem
import Derived.Deep.RegionLaw
import Derived.Deep.RegionLawGrows
namespace Go.Proofs.Ytopfpdkknfjgoaa
open Go.RowKit
set_option linter.unusedVariables false

theorem within_any (x l g : Int) (w : World) : Calls Try.prog 44 #[.int .i64 x, .int .i64 l, .int .i64 g] w fun e w' => e = .returned (.bool (decide (l ≤ x ∧ x ≤ g))) ∧ w' = w := by
  by_cases h1 : l ≤ x
  · by_cases h2 : x ≤ g
    all_goals
      go_enter Try.func44, Try.ntmps44
      go_wp2
      go_ret
      exact ⟨ret_bool (by simp [h1, h2]), rfl⟩
  · go_enter Try.func44, Try.ntmps44
    go_wp2
    go_ret
    exact ⟨ret_bool (by simp; omega), rfl⟩

theorem zeroF (w : World) : (zeroValue 26).run Try.prog w = .ok (.slice none 0 0) w := by kernel_rfl
theorem look_at {N : Nat → Prop} {w : World} {lb mb n : Nat} {L : List Fl} (h : Lk N w lb mb n L) {a b : Int} (ha : In64 a) (hb : In64 b) : ∃ ad X, (∀ W, Below w.heap.size w W → (Instr.lookup 62 (.map (some mb)) (.agg #[.int .i64 a, .int .i64 b]) false).run Try.prog W = .ok (.slice ad X.length X.length) W) ∧ FxAt N w ad X ∧ X.map FX.x = L.filter (pf a b) := by
  obtain ⟨D, ad, X, hD, h1, h2, h3⟩ := h.at ha hb
  refine ⟨ad, X, fun W hW => ?_, h2, h3⟩
  have hD' : W.ownsMap Try.prog 74 slR mb n D := by
    obtain ⟨es, clock, hb, F, hs, hD⟩ := hD
    exact ⟨es, clock, old_block hW hb, F, hs, hD⟩
  obtain ⟨v, ps, hrun, hv⟩ := hD'.lookup lawP Try.underlying62 (zeroF W) (slR_mk none 0 0) (keyP ha hb)
  rw [h1] at hv
  obtain ⟨z, rfl⟩ := slR_inv _ _ hv
  rw [slR_mk] at hv
  simp only [Option.some.injEq, Prod.mk.injEq, DataW.held.injEq] at hv
  rw [← hv.1]
  exact hrun

set_option maxHeartbeats 1000000 in
theorem of_any (w : World) (N : Nat → Prop) (lb mb n : Nat) (L : List Fl) (h : Lk N w lb mb n L) (a b : Int) (ha : In64 a) (hb : In64 b) :
    Calls Try.prog 41 #[.pointer (some ⟨lb, 0, none⟩), .agg #[.int .i64 a, .int .i64 b]] w fun e w' => ∃ ad X, e = .returned (.slice ad X.length X.length) ∧ FxAt N w' ad X ∧ X.map FX.x = L.filter (pf a b) ∧ Below w.heap.size w w' := by
  obtain ⟨ad, X, hl, hx, hX⟩ := look_at h ha hb
  have c0 : w.cell? ⟨lb, 0, none⟩ = some (.map (some mb)) := by rw [cell_of h.here]; rfl
  have hlt := h.lb_lt
  have hl1 := hl ((w.alloc (.cells #[.int .i64 a, .int .i64 b] 74)).drew) (((Below.refl _ w).alloc (Nat.le_refl _) _).drew)
  have HX : Hid (FxAt N w ad X ∧ X.map FX.x = L.filter (pf a b)) := ⟨hx, hX⟩
  clear h hl hx hX
  go_enter Try.func41, Try.ntmps41
  go_wp2
  go_region
  go_wp2
  go_ret
  have hb : Below w.heap.size w ((w.alloc (.cells #[.int .i64 a, .int .i64 b] 74)).drew) := ((Below.refl _ w).alloc (Nat.le_refl _) _).drew
  exact ⟨ad, X, rfl, HX.out.1.later hb, HX.out.2, hb⟩
theorem within_v (x l g : Int) (R : Bool) (h : decide (l ≤ x ∧ x ≤ g) = R) (w : World) : Calls Try.prog 44 #[.int .i64 x, .int .i64 l, .int .i64 g] w fun e w' => e = .returned (.bool R) ∧ w' = w := by
  rw [← h]; exact within_any x l g w
/-- may the flight be? -/
def rightB (f t a : Int) (n : Nat) : Bool := decide (1 ≤ f ∧ f ≤ 6) && (decide (1 ≤ t ∧ t ≤ 6) && ((f != t) && (decide (0 ≤ a ∧ a ≤ 1048576) && decide (1 ≤ (n : Int) ∧ (n : Int) ≤ 400))))
theorem right_ok {x : Fl} : rightB x.frm x.to x.at_ x.bytes.length = true ↔ OkF x := by
  unfold rightB
  simp only [Bool.and_eq_true, decide_eq_true_eq, bne_iff_ne, ne_eq]
  constructor
  · rintro ⟨⟨h1, h2⟩, ⟨h3, h4⟩, h5, ⟨h6, h7⟩, h8, h9⟩
    exact ⟨h1, h2, h3, h4, h5, h6, h7, by omega, by omega⟩
  · intro h
    exact ⟨⟨h.f1, h.f2⟩, ⟨h.t1, h.t2⟩, h.ne, ⟨h.a1, h.a2⟩, by have := h.b1; omega, by have := h.b2; omega⟩
set_option maxHeartbeats 1000000 in
theorem right_0 (w : World) (f t x : Int) (a : Option Addr) (n c : Nat) (h1 : decide (1 ≤ f ∧ f ≤ 6) = false) : Calls Try.prog 35 #[.agg #[.int .i64 f, .int .i64 t, .int .i64 x, .slice a n c]] w fun e w' => e = .returned (.bool (rightB f t x n)) ∧ Below w.heap.size w w' := by
  have HR : Hid (rightB f t x n = false) := by
    show _ = _
    unfold rightB
    rw [h1] <;> rfl
  have H1 : Hid (decide (1 ≤ f ∧ f ≤ 6) = false) := h1
  clear h1
  go_enter Try.func35, Try.ntmps35
  go_wp2_with (go_at_call 44; refine (within_v _ _ _ _ (by first | exact H1.out | exact H2.out | exact H4.out | exact H5.out) _).mono ?_; rintro e w' ⟨rfl, rfl⟩)
  go_ret
  exact ⟨ret_bool (by rw [HR.out]), (Below.refl _ _).alloc (Nat.le_refl _) _⟩
set_option maxHeartbeats 1000000 in
theorem right_1 (w : World) (f t x : Int) (a : Option Addr) (n c : Nat) (h1 : decide (1 ≤ f ∧ f ≤ 6) = true) (h2 : decide (1 ≤ t ∧ t ≤ 6) = false) : Calls Try.prog 35 #[.agg #[.int .i64 f, .int .i64 t, .int .i64 x, .slice a n c]] w fun e w' => e = .returned (.bool (rightB f t x n)) ∧ Below w.heap.size w w' := by
  have HR : Hid (rightB f t x n = false) := by
    show _ = _
    unfold rightB
    rw [h1, h2] <;> rfl
  have H1 : Hid (decide (1 ≤ f ∧ f ≤ 6) = true) := h1
  clear h1
  have H2 : Hid (decide (1 ≤ t ∧ t ≤ 6) = false) := h2
  clear h2
  go_enter Try.func35, Try.ntmps35
  go_wp2_with (go_at_call 44; refine (within_v _ _ _ _ (by first | exact H1.out | exact H2.out | exact H4.out | exact H5.out) _).mono ?_; rintro e w' ⟨rfl, rfl⟩)
  go_ret
  exact ⟨ret_bool (by rw [HR.out]), (Below.refl _ _).alloc (Nat.le_refl _) _⟩
set_option maxHeartbeats 1000000 in
theorem right_2 (w : World) (f t x : Int) (a : Option Addr) (n c : Nat) (h1 : decide (1 ≤ f ∧ f ≤ 6) = true) (h2 : decide (1 ≤ t ∧ t ≤ 6) = true) (h3 : (f != t) = false) : Calls Try.prog 35 #[.agg #[.int .i64 f, .int .i64 t, .int .i64 x, .slice a n c]] w fun e w' => e = .returned (.bool (rightB f t x n)) ∧ Below w.heap.size w w' := by
  have HR : Hid (rightB f t x n = false) := by
    show _ = _
    unfold rightB
    rw [h1, h2, h3] <;> rfl
  have H1 : Hid (decide (1 ≤ f ∧ f ≤ 6) = true) := h1
  clear h1
  have H2 : Hid (decide (1 ≤ t ∧ t ≤ 6) = true) := h2
  clear h2
  go_enter Try.func35, Try.ntmps35
  go_wp2_with (go_at_call 44; refine (within_v _ _ _ _ (by first | exact H1.out | exact H2.out | exact H4.out | exact H5.out) _).mono ?_; rintro e w' ⟨rfl, rfl⟩)
  go_ret
  exact ⟨ret_bool (by rw [HR.out]), (Below.refl _ _).alloc (Nat.le_refl _) _⟩
set_option maxHeartbeats 1000000 in
theorem right_3 (w : World) (f t x : Int) (a : Option Addr) (n c : Nat) (h1 : decide (1 ≤ f ∧ f ≤ 6) = true) (h2 : decide (1 ≤ t ∧ t ≤ 6) = true) (h3 : (f != t) = true) (h4 : decide (0 ≤ x ∧ x ≤ 1048576) = false) : Calls Try.prog 35 #[.agg #[.int .i64 f, .int .i64 t, .int .i64 x, .slice a n c]] w fun e w' => e = .returned (.bool (rightB f t x n)) ∧ Below w.heap.size w w' := by
  have HR : Hid (rightB f t x n = false) := by
    show _ = _
    unfold rightB
    rw [h1, h2, h3, h4] <;> rfl
  have H1 : Hid (decide (1 ≤ f ∧ f ≤ 6) = true) := h1
  clear h1
  have H2 : Hid (decide (1 ≤ t ∧ t ≤ 6) = true) := h2
  clear h2
  have H4 : Hid (decide (0 ≤ x ∧ x ≤ 1048576) = false) := h4
  clear h4
  go_enter Try.func35, Try.ntmps35
  go_wp2_with (go_at_call 44; refine (within_v _ _ _ _ (by first | exact H1.out | exact H2.out | exact H4.out | exact H5.out) _).mono ?_; rintro e w' ⟨rfl, rfl⟩)
  go_ret
  exact ⟨ret_bool (by rw [HR.out]), (Below.refl _ _).alloc (Nat.le_refl _) _⟩
set_option maxHeartbeats 1000000 in
theorem right_4 (w : World) (f t x : Int) (a : Option Addr) (n c : Nat) (h1 : decide (1 ≤ f ∧ f ≤ 6) = true) (h2 : decide (1 ≤ t ∧ t ≤ 6) = true) (h3 : (f != t) = true) (h4 : decide (0 ≤ x ∧ x ≤ 1048576) = true) (h5 : decide (1 ≤ (n : Int) ∧ (n : Int) ≤ 400) = false) : Calls Try.prog 35 #[.agg #[.int .i64 f, .int .i64 t, .int .i64 x, .slice a n c]] w fun e w' => e = .returned (.bool (rightB f t x n)) ∧ Below w.heap.size w w' := by
  have HR : Hid (rightB f t x n = false) := by
    show _ = _
    unfold rightB
    rw [h1, h2, h3, h4, h5] <;> rfl
  have H1 : Hid (decide (1 ≤ f ∧ f ≤ 6) = true) := h1
  clear h1
  have H2 : Hid (decide (1 ≤ t ∧ t ≤ 6) = true) := h2
  clear h2
  have H4 : Hid (decide (0 ≤ x ∧ x ≤ 1048576) = true) := h4
  clear h4
  have H5 : Hid (decide (1 ≤ (n : Int) ∧ (n : Int) ≤ 400) = false) := h5
  clear h5
  go_enter Try.func35, Try.ntmps35
  go_wp2_with (go_at_call 44; refine (within_v _ _ _ _ (by first | exact H1.out | exact H2.out | exact H4.out | exact H5.out) _).mono ?_; rintro e w' ⟨rfl, rfl⟩)
  go_ret
  exact ⟨ret_bool (by rw [HR.out]), (Below.refl _ _).alloc (Nat.le_refl _) _⟩
set_option maxHeartbeats 1000000 in
theorem right_5 (w : World) (f t x : Int) (a : Option Addr) (n c : Nat) (h1 : decide (1 ≤ f ∧ f ≤ 6) = true) (h2 : decide (1 ≤ t ∧ t ≤ 6) = true) (h3 : (f != t) = true) (h4 : decide (0 ≤ x ∧ x ≤ 1048576) = true) (h5 : decide (1 ≤ (n : Int) ∧ (n : Int) ≤ 400) = true) : Calls Try.prog 35 #[.agg #[.int .i64 f, .int .i64 t, .int .i64 x, .slice a n c]] w fun e w' => e = .returned (.bool (rightB f t x n)) ∧ Below w.heap.size w w' := by
  have HR : Hid (rightB f t x n = true) := by
    show _ = _
    unfold rightB
    rw [h1, h2, h3, h4, h5] <;> rfl
  have H1 : Hid (decide (1 ≤ f ∧ f ≤ 6) = true) := h1
  clear h1
  have H2 : Hid (decide (1 ≤ t ∧ t ≤ 6) = true) := h2
  clear h2
  have H4 : Hid (decide (0 ≤ x ∧ x ≤ 1048576) = true) := h4
  clear h4
  have H5 : Hid (decide (1 ≤ (n : Int) ∧ (n : Int) ≤ 400) = true) := h5
  clear h5
  go_enter Try.func35, Try.ntmps35
  go_wp2_with (go_at_call 44; refine (within_v _ _ _ _ (by first | exact H1.out | exact H2.out | exact H4.out | exact H5.out) _).mono ?_; rintro e w' ⟨rfl, rfl⟩)
  go_ret
  exact ⟨ret_bool (by rw [HR.out]), (Below.refl _ _).alloc (Nat.le_refl _) _⟩
theorem right_any (w : World) (f t x : Int) (a : Option Addr) (n c : Nat) : Calls Try.prog 35 #[.agg #[.int .i64 f, .int .i64 t, .int .i64 x, .slice a n c]] w fun e w' => e = .returned (.bool (rightB f t x n)) ∧ Below w.heap.size w w' := by
  cases h1 : decide (1 ≤ f ∧ f ≤ 6)
  · exact right_0 w f t x a n c h1
  · cases h2 : decide (1 ≤ t ∧ t ≤ 6)
    · exact right_1 w f t x a n c h1 h2
    · cases h3 : (f != t)
      · exact right_2 w f t x a n c h1 h2 h3
      · cases h4 : decide (0 ≤ x ∧ x ≤ 1048576)
        · exact right_3 w f t x a n c h1 h2 h3 h4
        · cases h5 : decide (1 ≤ (n : Int) ∧ (n : Int) ≤ 400)
          · exact right_4 w f t x a n c h1 h2 h3 h4 h5
          · exact right_5 w f t x a n c h1 h2 h3 h4 h5

set_option maxHeartbeats 1000000 in
theorem having_any (w : World) (N : Nat → Prop) (lb mb n : Nat) (L : List Fl) (h : Lk N w lb mb n L) (a b k : Int) (ha : In64 a) (hb : In64 b) :
    Calls Try.prog 38 #[.pointer (some ⟨lb, 0, none⟩), .agg #[.int .i64 a, .int .i64 b], .int .i64 k] w fun e w' => Hid (Below w.heap.size w w') ∧
      ((¬ (0 ≤ k ∧ k < (L.filter (pf a b)).length) ∧ e = .returned (.tuple #[.slice none 0 0, .int .i64 4])) ∨ ∃ ad X, Hid (FxAt N w' ad X ∧ X.map FX.x = L.filter (pf a b)) ∧ (0 ≤ k ∧ k < X.length) ∧ e = .returned (.tuple #[.slice ad X.length X.length, .int .i64 0])) := by
  have hll : (L.filter (pf a b)).length ≤ 512 := Nat.le_trans (List.length_filter_le _ _) h.len
  have HO : Hid (∀ X : Obj, Calls Try.prog 41 #[.pointer (some ⟨lb, 0, none⟩), .agg #[.int .i64 a, .int .i64 b]] (w.alloc X) fun e w' => ∃ ad X, e = .returned (.slice ad X.length X.length) ∧ Hid (FxAt N w' ad X ∧ X.map FX.x = L.filter (pf a b) ∧ Below w.heap.size w w') ∧ X.length = (L.filter (pf a b)).length) := fun X => (of_any (w.alloc X) N lb mb n L (h.later ((Below.refl _ w).alloc (Nat.le_refl _) _)) a b ha hb).mono (by
    rintro e w' ⟨ad, X, rfl, h1, h2, h3⟩
    exact ⟨ad, X, rfl, ⟨h1, h2, below_of ((Below.refl _ w).alloc (Nat.le_refl _) _) h3⟩, by rw [← h2, List.length_map]⟩)
  clear h
  by_cases hk : 0 ≤ k ∧ k < (L.filter (pf a b)).length
  · have H1 : Hid (decide (0 ≤ k ∧ k ≤ ((L.filter (pf a b)).length : Int) - 1) = true) := by show _ = _; rw [decide_eq_true_eq]; omega
    go_enter Try.func38, Try.ntmps38
    go_wp2_with (first | (go_at_call 41; refine (HO.out _).mono ?_; rintro e w1 ⟨ad, X, rfl, HX, hx⟩; rw [hx]) | (go_at_call 44; refine (within_v _ _ _ _ H1.out _).mono ?_; rintro e w' ⟨rfl, rfl⟩))
    go_ret2
    exact ⟨HX.out.2.2, .inr ⟨ad, X, ⟨HX.out.1, HX.out.2.1⟩, by omega, by rw [hx]; rfl⟩⟩
  · have H1 : Hid (decide (0 ≤ k ∧ k ≤ ((L.filter (pf a b)).length : Int) - 1) = false) := by show _ = _; rw [decide_eq_false_iff_not]; omega
    go_enter Try.func38, Try.ntmps38
    go_wp2_with (first | (go_at_call 41; refine (HO.out _).mono ?_; rintro e w1 ⟨ad, X, rfl, HX, hx⟩; rw [hx]) | (go_at_call 44; refine (within_v _ _ _ _ H1.out _).mono ?_; rintro e w' ⟨rfl, rfl⟩))
    go_ret2
    exact ⟨HX.out.2.2, .inl ⟨hk, rfl⟩⟩
end Go.Proofs.Ytopfpdkknfjgoaa
