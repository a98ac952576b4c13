/- The walks of link's add, New, Send. -/
import Derived.Test.YtopfpdkknfjgoaaLLen
namespace Go.Proofs.Ytopfpdkknfjgoaa
open Go.RowKit
set_option linter.unusedVariables false

/-- flights of a row that the call owns. -/
theorem fx_own {N : Nat → Prop} {w : World} {base n : Nat} {X : List FX} {v : Value} (h : w.ownsRow base 32 4 v n (fcells X)) (hX : ∀ y ∈ X, Row w y.a y.x.bytes ∧ (0 < y.x.bytes.length → ∀ b, y.a = some b → ¬ N b.block)) (hA : ∀ k, N k → k < base) : ∃ a c, v = .slice a X.length c ∧ n = X.length ∧ X.length ≤ c ∧ c ≤ maxLen ∧ FxAt N w a X := by
  obtain ⟨a, c, rfl, h1, h2⟩ := own_form h
  have hn : n = X.length := by have := h.1; rw [fcells_length] at this; omega
  subst hn
  refine ⟨a, c, rfl, rfl, h1, h2, hX, fun h0 => ?_⟩
  obtain ⟨g, rfl, hg⟩ : ∃ g, a = some ⟨g, 0, none⟩ ∧ base ≤ g := by
    rcases h.2 with ⟨_, e0⟩ | ⟨g, cap, cur, hv, hb, _⟩
    · omega
    · cases hv; exact ⟨g, rfl, hb⟩
  refine ⟨g, 0, rfl, fun hn => by have := hA g hn; omega, fun j u hu => ?_⟩
  have hj := (List.getElem?_eq_some_iff.1 hu).1
  rw [fcells_length] at hj
  rw [Nat.zero_add, h.cellAt j (by omega), hu]
theorem fx_src {N : Nat → Prop} {w : World} {a : Option Addr} {X : List FX} (h : FxAt N w a X) : ∀ b, a = some b → ∀ j u, (fcells X)[j]? = some u → w.cell? (b.add j) = some u := by
  intro b hb j u hu
  have hj := (List.getElem?_eq_some_iff.1 hu).1
  rw [fcells_length] at hj
  obtain ⟨b', o, h1, _, hc⟩ := h.here (by omega)
  rw [hb] at h1
  cases h1
  rw [Go.WideShapes.add_plain]
  exact hc j u hu
/-- a flight in a new block of its own. -/
theorem one_src {w : World} (y : FX) (h : Nat) (hh : w.heap.size = h) : ∀ j u, (fcells [y])[j]? = some u → (w.alloc (.cells #[.int .i64 y.x.frm, .int .i64 y.x.to, .int .i64 y.x.at_, .slice y.a y.x.bytes.length y.c] 32)).cell? ((⟨h, 0, none⟩ : Addr).add j) = some u := by
  intro j u hu
  subst hh
  rw [Go.WideShapes.add_plain, Nat.zero_add, cell_of (heap_alloc_new w _)]
  match j, hu with
  | 0, hu => simpa [fcells] using hu
  | 1, hu => simpa [fcells] using hu
  | 2, hu => simpa [fcells] using hu
  | 3, hu => simpa [fcells] using hu
  | j + 4, hu => simp [fcells] at hu
theorem src_later {w w' : World} {ad : Addr} {cs : List Value} (h : ∀ j u, cs[j]? = some u → w.cell? (ad.add j) = some u) (hb : Below w.heap.size w w') : ∀ j u, cs[j]? = some u → w'.cell? (ad.add j) = some u := fun j u hu => cell_later hb (h j u hu)
theorem filter_snoc (L : List Fl) (x : Fl) : (L ++ [x]).filter (pf x.frm x.to) = L.filter (pf x.frm x.to) ++ [x] := by
  rw [List.filter_append]; simp [pf]
theorem filter_other (L : List Fl) (x : Fl) (c d : Int) (h : ¬ (c = x.frm ∧ d = x.to)) : (L ++ [x]).filter (pf c d) = L.filter (pf c d) := by
  rw [List.filter_append]
  have : pf c d x = false := by
    unfold pf
    rw [Bool.and_eq_false_iff]
    by_cases h1 : x.frm = c
    · exact .inr (by simpa using fun e => h ⟨h1.symm, e.symm⟩)
    · exact .inl (by simpa using h1)
  simp [this]

set_option maxHeartbeats 1000000 in
theorem add_full (w : World) (N : Nat → Prop) (lb mb n : Nat) (L : List Fl) (h : Lk N w lb mb n L) (y : FX) (hf : L.length = 512) :
    Calls Try.prog 37 #[.pointer (some ⟨lb, 0, none⟩), .agg #[.int .i64 y.x.frm, .int .i64 y.x.to, .int .i64 y.x.at_, .slice y.a y.x.bytes.length y.c]] w fun e w' => e = .returned (.int .i64 6) ∧ Hid (Below w.heap.size w w') := by
  have HL : Hid (∀ X : Obj, Calls Try.prog 18 #[.pointer (some ⟨lb, 0, none⟩)] (w.alloc X) fun e w' => e = .returned (.int .i64 512) ∧ Hid (Below w.heap.size w w')) := fun X => (len_any (w.alloc X) N lb mb n L (h.later ((Below.refl _ w).alloc (Nat.le_refl _) _))).mono (by
    rintro e w' ⟨rfl, h1⟩
    exact ⟨by rw [hf]; rfl, below_of ((Below.refl _ w).alloc (Nat.le_refl _) _) h1.out⟩)
  clear h hf
  go_enter Try.func37, Try.ntmps37
  go_wp2_with (go_at_call 18; refine (HL.out _).mono ?_; rintro e w1 ⟨rfl, hq⟩)
  go_ret
  exact ⟨rfl, hq⟩

theorem add_last {N : Nat → Prop} {W w1 w2 : World} {base n : Nat} {L : List Fl} {X : List FX} {ad : Option Addr} {y : FX} {v : Value} (hX : FxAt N w1 ad X) (hr : Row W y.a y.x.bytes) (hb : Below W.heap.size W w1) (hNy : 0 < y.x.bytes.length → ∀ b, y.a = some b → ¬ N b.block) (ho : w2.ownsRow base 32 4 v n (fcells X ++ fcells [y])) (hg : Below w1.heap.size w1 w2) (hA : ∀ k, N k → k < base) :
    ∃ a c, v = .slice a (X ++ [y]).length c ∧ n = (X ++ [y]).length ∧ (X ++ [y]).length ≤ c ∧ c ≤ maxLen ∧ FxAt N w2 a (X ++ [y]) := by
  rw [← fcells_append] at ho
  refine fx_own ho (fun z hz => ?_) hA
  rcases List.mem_append.1 hz with hz | hz
  · exact (hX.later hg).rows z hz
  · rw [List.mem_singleton.1 hz]
    exact ⟨(hr.later hb).later hg, hNy⟩

theorem fx_none {N : Nat → Prop} {w : World} {a : Option Addr} {X : List FX} (h : FxAt N w a X) : a = none → X.length = 0 ∧ X.length = 0 := by
  rintro rfl
  rcases Nat.eq_zero_or_pos X.length with h0 | h0
  · exact ⟨h0, h0⟩
  · obtain ⟨_, _, h1, _⟩ := h.here h0
    cases h1
theorem add_behind {N : Nat → Prop} {W w2 Wc w3 : World} {m : Nat} {X : List FX} {ad : Option Addr} {y : FX} {v : Value} (hX : FxAt N w2 ad X) (hb : Below W.heap.size W w2) (hb2 : Below w2.heap.size w2 Wc) (hr : Row W y.a y.x.bytes) (hNy : 0 < y.x.bytes.length → ∀ b, y.a = some b → ¬ N b.block) (ho : w3.ownsRow Wc.heap.size 32 4 v m (fcells X ++ fcells [y])) (hg : Wc.grownBy w3 none) (hA : ∀ k, N k → k < W.heap.size) :
    ∃ a c, v = .slice a (X.length + 1) c ∧ Hid (FxAt N w3 a (X ++ [y]) ∧ Below W.heap.size W w3 ∧ X.length + 1 ≤ c ∧ c ≤ maxLen) := by
  have hbc := below_of hb hb2
  have hg' : Below Wc.heap.size Wc w3 := (Below.refl _ Wc).grown hg (Nat.le_refl _) (fun _ e => by cases e)
  obtain ⟨a, c, rfl, h1, h2, h3, h4⟩ := add_last (L := []) (hX.later hb2) hr hbc hNy ho hg' (fun k hk => Nat.lt_of_lt_of_le (hA k hk) hbc.size)
  rw [List.length_append] at h2
  exact ⟨a, c, by rw [List.length_append]; rfl, h4, below_of hbc hg', h2, h3⟩

set_option maxRecDepth 20000 in
set_option maxHeartbeats 4000000 in
theorem add_some (w : World) (N : Nat → Prop) (lb mb n : Nat) (L : List Fl) (h : Lk N w lb mb n L) (hn : n < 1000000000) (hN : ∀ k, N k → k < w.heap.size) (y : FX) (hy : OkF y.x) (hr : Row w y.a y.x.bytes) (hNy : 0 < y.x.bytes.length → ∀ b, y.a = some b → ¬ N b.block) (hf : L.length < 512) :
    Calls Try.prog 37 #[.pointer (some ⟨lb, 0, none⟩), .agg #[.int .i64 y.x.frm, .int .i64 y.x.to, .int .i64 y.x.at_, .slice y.a y.x.bytes.length y.c]] w fun e w' => e = .returned (.int .i64 0) ∧ Hid (Lk N w' lb mb (n + 1) (L ++ [y.x]) ∧ Off (fun k => k = mb) w w') := by
  have HL : Hid (∀ X : Obj, Calls Try.prog 18 #[.pointer (some ⟨lb, 0, none⟩)] (w.alloc X) fun e w' => e = .returned (.int .i64 (L.length : Nat)) ∧ Hid (Below (w.alloc X).heap.size (w.alloc X) w')) := fun X => len_any (w.alloc X) N lb mb n L (h.later ((Below.refl _ w).alloc (Nat.le_refl _) _))
  have HY : Hid (OkF y.x) := hy
  have HH : Hid (Lk N w lb mb n L) := h
  have HR : Hid (Row w y.a y.x.bytes ∧ (0 < y.x.bytes.length → ∀ b, y.a = some b → ¬ N b.block) ∧ ∀ k, N k → k < w.heap.size) := ⟨hr, hNy, hN⟩
  clear h hy hr hNy hN
  go_enter Try.func37, Try.ntmps37
  go_wp2_with (first | (go_at_call 18; refine (HL.out _).mono ?_; rintro e w1 ⟨rfl, hq⟩; have hz1 := old_block hq.out (heap_alloc_new w _); have z0 := cell_of hz1 0; have z1 := cell_of hz1 1; have z2 := cell_of hz1 2; have z3 := cell_of hz1 3; simp only [List.getElem?_toArray, List.getElem?_cons_zero, List.getElem?_cons_succ] at z0 z1 z2 z3) | (go_at_call 41; fail))
  obtain ⟨W, hW⟩ : ∃ W, W = w1.alloc (.cells #[.int .i64 y.x.frm, .int .i64 y.x.to] 74) := ⟨_, rfl⟩
  have hbW : Below w.heap.size w W := by rw [hW]; exact below_of (below_of ((Below.refl _ w).alloc (Nat.le_refl _) _) hq.out) ((Below.refl _ w1).alloc (Nat.le_refl _) _)
  have h5 : W.heap[w1.heap.size]? = some (.cells #[.int .i64 y.x.frm, .int .i64 y.x.to] 74 (0, 0)) := by rw [hW]; exact heap_alloc_new _ _
  have h3 : W.heap[w.heap.size]? = some (.cells #[.int .i64 y.x.frm, .int .i64 y.x.to, .int .i64 y.x.at_, .slice y.a y.x.bytes.length y.c] 32 (0, 0)) := by rw [hW]; exact old_block ((Below.refl _ w1).alloc (Nat.le_refl _) _) hz1
  rw [← hW]
  have HN : Hid (∀ k, N k → k < W.heap.size) := fun k hk => Nat.lt_of_lt_of_le (HR.out.2.2 k hk) hbW.size
  have HLk : Hid (Lk N W lb mb n L) := HH.out.later hbW
  have HRow : Hid (Row W y.a y.x.bytes) := HR.out.1.later hbW
  have HNy := HR.out.2.1
  have HBW : Hid (Below w.heap.size w W) := hbW
  clear hq hz1 z0 z1 z2 z3 hbW hW HH HL HR
  generalize w1.heap.size = g5 at h5 ⊢
  generalize w.heap.size = g3 at h3 ⊢
  clear w1
  have HOF : Hid (∀ W', Below W.heap.size W W' → Calls Try.prog 41 #[.pointer (some ⟨lb, 0, none⟩), .agg #[.int .i64 y.x.frm, .int .i64 y.x.to]] W' fun e w' => ∃ ad X, e = .returned (.slice ad X.length X.length) ∧ Hid (FxAt N w' ad X ∧ X.map FX.x = L.filter (pf y.x.frm y.x.to) ∧ Below W'.heap.size W' w' ∧ Below W.heap.size W w') ∧ X.length ≤ 512) := fun W' hb => (of_any W' N lb mb n L (HLk.out.later hb) _ _ HY.out.in1 HY.out.in2).mono (by
    rintro e w' ⟨ad, X, rfl, q1, q2, q3⟩
    exact ⟨ad, X, rfl, ⟨q1, q2, q3, below_of hb q3⟩, by rw [← List.length_map (f := FX.x), q2]; exact Nat.le_trans (List.length_filter_le _ _) HLk.out.len⟩)
  obtain ⟨i0, hi, hz0, hz1, hz2⟩ := info_parts Try.info32
  have HI : Hid _ := hi
  clear hi
  have H35 : Hid (W.heap[g3]? = some (.cells #[.int .i64 y.x.frm, .int .i64 y.x.to, .int .i64 y.x.at_, .slice y.a y.x.bytes.length y.c] 32 (0, 0)) ∧ W.heap[g5]? = some (.cells #[.int .i64 y.x.frm, .int .i64 y.x.to] 74 (0, 0))) := ⟨h3, h5⟩
  have hcs : ∀ W', Below W.heap.size W W' → (W'.cell? ⟨g3, 0, none⟩ = some (.int .i64 y.x.frm) ∧ W'.cell? ⟨g3, 1, none⟩ = some (.int .i64 y.x.to) ∧ W'.cell? ⟨g3, 2, none⟩ = some (.int .i64 y.x.at_) ∧ W'.cell? ⟨g3, 3, none⟩ = some (.slice y.a y.x.bytes.length y.c)) ∧ W'.cell? ⟨g5, 0, none⟩ = some (.int .i64 y.x.frm) ∧ W'.cell? ⟨g5, 1, none⟩ = some (.int .i64 y.x.to) := fun W' hb => by
    rw [cell_of (old_block hb h3), cell_of (old_block hb h3), cell_of (old_block hb h3), cell_of (old_block hb h3), cell_of (old_block hb h5), cell_of (old_block hb h5)]
    exact ⟨⟨rfl, rfl, rfl, rfl⟩, rfl, rfl⟩
  have HCS : Hid _ := hcs
  clear h3 h5 hcs
  obtain ⟨⟨a0, a1, a2, a3⟩, a4, a5⟩ := HCS.out W (Below.refl _ _)
  have b0 : ∀ A, (W.alloc A).cell? ⟨g3, 0, none⟩ = some (.int .i64 y.x.frm) := fun A => (HCS.out _ ((Below.refl _ W).alloc (Nat.le_refl _) A)).1.1
  have b1 : ∀ A, (W.alloc A).cell? ⟨g3, 1, none⟩ = some (.int .i64 y.x.to) := fun A => (HCS.out _ ((Below.refl _ W).alloc (Nat.le_refl _) A)).1.2.1
  have b2 : ∀ A, (W.alloc A).cell? ⟨g3, 2, none⟩ = some (.int .i64 y.x.at_) := fun A => (HCS.out _ ((Below.refl _ W).alloc (Nat.le_refl _) A)).1.2.2.1
  have b3 : ∀ A, (W.alloc A).cell? ⟨g3, 3, none⟩ = some (.slice y.a y.x.bytes.length y.c) := fun A => (HCS.out _ ((Below.refl _ W).alloc (Nat.le_refl _) A)).1.2.2.2
  have b4 : ∀ A, (W.alloc A).cell? ⟨g5, 0, none⟩ = some (.int .i64 y.x.frm) := fun A => (HCS.out _ ((Below.refl _ W).alloc (Nat.le_refl _) A)).2.1
  have b5 : ∀ A, (W.alloc A).cell? ⟨g5, 1, none⟩ = some (.int .i64 y.x.to) := fun A => (HCS.out _ ((Below.refl _ W).alloc (Nat.le_refl _) A)).2.2
  go_region_law (first
    | (refine step_append_grows rfl (.tmp 18) (.tmp 20) 26 rfl 32 i0 _ 4 48 Try.underlying26 HI.out hz0 hz1 hz2 rfl (by decide) ad X.length X.length (fcells X) (by first | (simp [Act.eval]; done) | simp [Act.eval, Act.put]) (fx_none HX.out.1) (by rw [fcells_length]) (fx_src (HX.out.1.later (by repeat (first | exact Below.refl _ _ | apply Below.drew | (refine Below.alloc ?_ (Nat.le_refl _) _))))) _ 1 1 (fcells [y]) rfl rfl (by first | exact one_src y _ rfl | (refine src_later ?_ HX.out.2.2.1; exact one_src y _ (by simp))) (fcells_one _) (by omega) (by unfold maxLen; omega) (by omega) ?_; intro v2 w3 ho3 hg3; obtain ⟨a3, c3, rfl, HF⟩ := add_behind HX.out.1 HX.out.2.2.2 (by repeat (first | exact Below.refl _ _ | apply Below.drew | (refine Below.alloc ?_ (Nat.le_refl _) _))) HRow.out HNy ho3 hg3 HN.out; obtain ⟨⟨f0, f1, f2, f3⟩, f4, f5⟩ := HCS.out w3 HF.out.2.1)
    | (go_simp; go_at_call 41; refine (HOF.out _ (by repeat (first | exact Below.refl _ _ | apply Below.drew | (refine Below.alloc ?_ (Nat.le_refl _) _)))).mono ?_; rintro e w2 ⟨ad, X, rfl, HX, hxl⟩; obtain ⟨⟨d0, d1, d2, d3⟩, d4, d5⟩ := HCS.out w2 HX.out.2.2.2; have k4 : ∀ A, (w2.alloc A).cell? ⟨g5, 0, none⟩ = some (.int .i64 y.x.frm) := (fun A => (HCS.out _ (HX.out.2.2.2.alloc HX.out.2.2.2.size A)).2.1); have k5 : ∀ A, (w2.alloc A).cell? ⟨g5, 1, none⟩ = some (.int .i64 y.x.to) := (fun A => (HCS.out _ (HX.out.2.2.2.alloc HX.out.2.2.2.size A)).2.2))
    | (go_simp; go_at_call 39; refine (put_at _ N lb mb n L (L ++ [y.x]) _ _ _ (X ++ [y]) _ _ (by simp) (HLk.out.later HF.out.2.1) hn HY.out.in1 HY.out.in2 HF.out.1 HF.out.2.2.1 HF.out.2.2.2 (by rw [filter_snoc, List.map_append, HX.out.2.1]; rfl) (fun c d hcd => filter_other L y.x c d hcd) (fun z hz => (List.mem_append.1 hz).elim (HLk.out.ok z) (fun hz => by rw [List.mem_singleton.1 hz]; exact HY.out)) (by rw [List.length_append]; simp; omega)).mono ?_; rintro e w4 ⟨rfl, HL4⟩))
  all_goals
    go_wp2
    go_ret
    exact ⟨rfl, HL4.out.1, ((Off.of_below HBW.out).trans (Off.of_below (S := fun k => k = mb) HF.out.2.1) (fun _ _ e => e)).trans HL4.out.2 (fun _ _ e => e)⟩
end Go.Proofs.Ytopfpdkknfjgoaa
