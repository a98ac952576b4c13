/- bundle.Same. -/
import Derived.Test.YtjfmgokpnpmdpaaDoorBEql
namespace Go.Proofs.YtjfmgokpnpmdpaaDoor
open Go.RowKit
set_option linter.unusedVariables false
attribute [local go_sem ↓] eqlF
set_option maxRecDepth 20000 in
set_option maxHeartbeats 2000000 in
theorem same9_any (x y : Bn) (a b : Option Addr) (c d : Nat) (w : World) (hx : Row w a x.pay) (hy : Row w b y.pay) : Calls Tryd.prog 20 #[bv x a c, bv y b d] w fun e w' => e = .returned (.bool (sameB x y)) ∧ Hid (Below w.heap.size w w') := by
  have HB : Hid (∀ (w : World) (X : Obj), Below w.heap.size w (w.alloc X)) := fun w X => (Below.refl _ w).alloc (Nat.le_refl _) X
  have HX : Hid (Row w a x.pay ∧ Row w b y.pay) := ⟨hx, hy⟩
  have HE : Hid (sameB x y = (flB x y && decide (x.pay = y.pay))) := rfl
  generalize sameB x y = R at HE ⊢
  clear hx hy
  go_enter Tryd.func20, Tryd.ntmps20
  go_wp2_with fail
  obtain ⟨W, hW⟩ : ∃ W, (w.alloc (bc x a c)).alloc (bc y b d) = W := ⟨_, rfl⟩
  have hx1 : W.heap[w.heap.size]? = some (bc x a c) := by rw [← hW]; exact old_block (HB.out _ _) (heap_alloc_new w _)
  have hy1 : W.heap[w.heap.size + 1]? = some (bc y b d) := by rw [← hW]; have := heap_alloc_new (w.alloc (bc x a c)) (bc y b d); simpa using this
  have HBW : Hid (Below w.heap.size w W) := by rw [← hW]; exact below_of (HB.out _ _) (HB.out _ _)
  rw [hW]
  obtain ⟨e0, e1, e2, e3, e4, e5, e6, e7, e8, e9, e10⟩ := bcells hx1
  obtain ⟨f0, f1, f2, f3, f4, f5, f6, f7, f8, f9, f10⟩ := bcells hy1
  have hX : Below W.heap.size W W.drew := (Below.refl _ _).drew
  have HEQ : Hid (∀ W3, Below W.heap.size W W3 → Calls Tryd.prog 24 #[.slice a x.pay.length c, .slice b y.pay.length d] W3 fun e w' => e = .returned (.bool (decide (x.pay = y.pay))) ∧ W3 = w') := fun W3 h => equal_any a b c d x.pay y.pay W3 (HX.out.1.later (below_of HBW.out h)) (HX.out.2.later (below_of HBW.out h))
  clear hx1 hy1 hW HX
  generalize w.heap.size + 1 = G at f0 f1 f2 f3 f4 f5 f6 f7 f8 f9 f10 ⊢
  generalize w.heap.size = H at e0 e1 e2 e3 e4 e5 e6 e7 e8 e9 e10 ⊢
  cases hf : flB x y with
  | true =>
    rw [hf] at HE
    go_region_held3 (fun W' => W'.cell? ⟨H, 0, none⟩ = some (.int .i64 x.src) ∧ W'.cell? ⟨H, 1, none⟩ = some (.int .i64 x.dst) ∧ W'.cell? ⟨H, 2, none⟩ = some (.int .u32 (x.seq : Nat)) ∧ W'.cell? ⟨H, 3, none⟩ = some (.int .i64 x.cre) ∧ W'.cell? ⟨H, 4, none⟩ = some (.int .i64 x.lif) ∧ W'.cell? ⟨H, 5, none⟩ = some (.int .i64 x.lim) ∧ W'.cell? ⟨H, 6, none⟩ = some (.int .i64 x.hop) ∧ W'.cell? ⟨H, 7, none⟩ = some (.int .i64 x.pri) ∧ W'.cell? ⟨H, 8, none⟩ = some (.int .i64 x.off) ∧ W'.cell? ⟨H, 9, none⟩ = some (.int .i64 x.tot) ∧ W'.cell? ⟨H, 10, none⟩ = some (.slice a x.pay.length c) ∧ W'.cell? ⟨G, 0, none⟩ = some (.int .i64 y.src) ∧ W'.cell? ⟨G, 1, none⟩ = some (.int .i64 y.dst) ∧ W'.cell? ⟨G, 2, none⟩ = some (.int .u32 (y.seq : Nat)) ∧ W'.cell? ⟨G, 3, none⟩ = some (.int .i64 y.cre) ∧ W'.cell? ⟨G, 4, none⟩ = some (.int .i64 y.lif) ∧ W'.cell? ⟨G, 5, none⟩ = some (.int .i64 y.lim) ∧ W'.cell? ⟨G, 6, none⟩ = some (.int .i64 y.hop) ∧ W'.cell? ⟨G, 7, none⟩ = some (.int .i64 y.pri) ∧ W'.cell? ⟨G, 8, none⟩ = some (.int .i64 y.off) ∧ W'.cell? ⟨G, 9, none⟩ = some (.int .i64 y.tot) ∧ W'.cell? ⟨G, 10, none⟩ = some (.slice b y.pay.length d)) (first | exact ⟨e0, e1, e2, e3, e4, e5, e6, e7, e8, e9, e10, f0, f1, f2, f3, f4, f5, f6, f7, f8, f9, f10⟩ | exact ⟨cell_later hX e0, cell_later hX e1, cell_later hX e2, cell_later hX e3, cell_later hX e4, cell_later hX e5, cell_later hX e6, cell_later hX e7, cell_later hX e8, cell_later hX e9, cell_later hX e10, cell_later hX f0, cell_later hX f1, cell_later hX f2, cell_later hX f3, cell_later hX f4, cell_later hX f5, cell_later hX f6, cell_later hX f7, cell_later hX f8, cell_later hX f9, cell_later hX f10⟩) (first
      | (go_at_call 24; refine (HEQ.out _ hX).mono ?_; rintro e w3 ⟨rfl, rfl⟩)
      | (go_at_call 45; have hq1' := hq1; refine (fields_any y b d _).mono ?_; rintro e w2 ⟨rfl, hq2⟩; have hX := below_of hX hq2.out)
      | (go_at_call 45; refine (fields_any x a c _).mono ?_; rintro e w1 ⟨rfl, hq1⟩; have hX := below_of hX hq1.out))
    all_goals
      go_wp2
      go_ret
      exact ⟨ret_bool (by rw [HE.out]; rfl), below_of HBW.out hX⟩
  | false =>
    rw [hf] at HE
    first
    | go_region_with (first
          | (go_at_call 24; refine (HEQ.out _ hX).mono ?_; rintro e w3 ⟨rfl, rfl⟩)
          | (go_at_call 45; have hq1' := hq1; refine (fields_any y b d _).mono ?_; rintro e w2 ⟨rfl, hq2⟩; have hX := below_of hX hq2.out; have g10 := cell_later hX e10; have i10 := cell_later hX f10)
          | (go_at_call 45; refine (fields_any x a c _).mono ?_; rintro e w1 ⟨rfl, hq1⟩; have hX := below_of hX hq1.out; have j0 := cell_later hX f0; have j1 := cell_later hX f1; have j2 := cell_later hX f2; have j3 := cell_later hX f3; have j4 := cell_later hX f4; have j5 := cell_later hX f5; have j6 := cell_later hX f6; have j7 := cell_later hX f7; have j8 := cell_later hX f8; have j9 := cell_later hX f9; have j10 := cell_later hX f10))
    | fail
    all_goals
      go_wp2
      go_ret
      exact ⟨ret_bool (by rw [HE.out]; rfl), below_of HBW.out hX⟩
end Go.Proofs.YtjfmgokpnpmdpaaDoor
