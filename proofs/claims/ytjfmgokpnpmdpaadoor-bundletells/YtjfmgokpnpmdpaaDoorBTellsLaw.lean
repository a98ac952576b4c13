/- The walk of BundleTells. -/
import Derived.Test.YtjfmgokpnpmdpaaDoorBCopy
import Derived.Test.YtjfmgokpnpmdpaaDoorBTells
import Derived.Deep.RegionWith
import Derived.Test.YtjfmgokpnpmdpaaDoorBSame
import Derived.Test.YtjfmgokpnpmdpaaDoorR9Right
import Derived.Test.YtjfmgokpnpmdpaaDoorR9Same
namespace Go.Proofs.YtjfmgokpnpmdpaaDoor
open Go.RowKit
set_option linter.unusedVariables false
attribute [local go_sem ↓] neqI
set_option maxRecDepth 20000 in
set_option maxHeartbeats 8000000 in
theorem tells_big (V : List Nat → Bool) (TB : World → Prop) (hT : Txt V TB) (w : World) (x y : Bn) (a b : Option Addr) (c d : Nat) (now : Int) (hw : TB w) (h1 : 1 < w.heap.size) (hx : Came w x a c) (hy : Came w y b d) (hbig : 5000 < x.pay.length ∨ 5000 < y.pay.length) :
    Calls Tryd.prog 5 #[bv x a c, bv y b d, .int .i64 now] w fun e w' => e = .returned (.bool true) ∧ Hid (Below w.heap.size w w') := by
  have HB : Hid (∀ (w : World) (X : Obj), Below w.heap.size w (w.alloc X)) := fun w X => (Below.refl _ w).alloc (Nat.le_refl _) X
  have HWK : Hid (∀ X Y, Calls Tryd.prog 9 #[] ((w.alloc X).alloc Y) fun e w' => e = .returned (.bool true) ∧ Hid (Below ((w.alloc X).alloc Y).heap.size ((w.alloc X).alloc Y) w')) := fun X Y => wakes_any V TB hT _ (hT.later _ _ hw (below_of (HB.out w X) (HB.out _ Y))) (by have := (below_of (HB.out w X) (HB.out (w.alloc X) Y)).size; omega)
  have hz1 := hx.fit.pay
  have hz2 := hy.fit.pay
  clear hT hw hx hy
  by_cases h5 : 5000 < x.pay.length
  · clear hbig
    go_enter Tryd.func5, Tryd.ntmps5
    go_wp2_with (go_at_call 9; refine (HWK.out _ _).mono ?_; rintro e w1 ⟨rfl, hb1⟩; obtain ⟨e0, e1, e2, e3, e4, e5, e6, e7, e8, e9, e10⟩ := bcells (old_block (below_of (HB.out _ _) hb1.out) (heap_alloc_new w (bc x a c))))
    go_ret
    exact ⟨rfl, below_of (below_of (HB.out w _) (HB.out _ _)) hb1.out⟩
  · have h6 : 5000 < y.pay.length := hbig.resolve_left h5
    clear hbig
    go_enter Tryd.func5, Tryd.ntmps5
    go_wp2_with (go_at_call 9; refine (HWK.out _ _).mono ?_; rintro e w1 ⟨rfl, hb1⟩; obtain ⟨e0, e1, e2, e3, e4, e5, e6, e7, e8, e9, e10⟩ := bcells (old_block (below_of (HB.out _ _) hb1.out) (heap_alloc_new w (bc x a c))); have hy1 := heap_alloc_new (w.alloc (bc x a c)) (bc y b d); rw [show (w.alloc (bc x a c)).heap.size = w.heap.size + 1 by simp] at hy1; obtain ⟨f0, f1, f2, f3, f4, f5, f6, f7, f8, f9, f10⟩ := bcells (old_block hb1.out hy1))
    go_ret
    exact ⟨rfl, below_of (below_of (HB.out w _) (HB.out _ _)) hb1.out⟩
set_option maxRecDepth 20000 in
set_option maxHeartbeats 16000000 in
theorem tells_small (V : List Nat → Bool) (TB : World → Prop) (hT : Txt V TB) (w : World) (x y : Bn) (a b : Option Addr) (c d : Nat) (now : Int) (hn : -9223372036854775808 ≤ now ∧ now ≤ 9223372036854775807) (hw : TB w) (h1 : 1 < w.heap.size) (hx : Came w x a c) (hy : Came w y b d) (hs1 : x.pay.length ≤ 5000) (hs2 : y.pay.length ≤ 5000) :
    Calls Tryd.prog 5 #[bv x a c, bv y b d, .int .i64 now] w fun e w' => e = .returned (.bool true) ∧ Hid (Below w.heap.size w w') := by
  have HB : Hid (∀ (w : World) (X : Obj), Below w.heap.size w (w.alloc X)) := fun w X => (Below.refl _ w).alloc (Nat.le_refl _) X
  have HWK : Hid (∀ X Y, Calls Tryd.prog 9 #[] ((w.alloc X).alloc Y) fun e w' => e = .returned (.bool true) ∧ Hid (Below ((w.alloc X).alloc Y).heap.size ((w.alloc X).alloc Y) w')) := fun X Y => wakes_any V TB hT _ (hT.later _ _ hw (below_of (HB.out w X) (HB.out _ Y))) (by have := (below_of (HB.out w X) (HB.out (w.alloc X) Y)).size; omega)
  have HX : Hid (∀ W, Below w.heap.size w W → Came W x a c ∧ Came W y b d) := fun W h => ⟨hx.later h, hy.later h⟩
  have HS1 : Hid (∀ W, Below w.heap.size w W → Calls Tryd.prog 20 #[bv x a c, bv y b d] W fun e w' => e = .returned (.bool (sameB x y)) ∧ Hid (Below W.heap.size W w')) := fun W h => same9_any x y a b c d W (HX.out W h).1.row (HX.out W h).2.row
  have HS2 : Hid (∀ W, Below w.heap.size w W → Calls Tryd.prog 19 #[bv x a c, bv y b d] W fun e w' => e = .returned (.bool (sameB x y)) ∧ Hid (Below W.heap.size W w')) := fun W h => rsame9_any x y a b c d W (HX.out W h).1.row (HX.out W h).2.row
  have HS3 : Hid (∀ W a2 c2, Below w.heap.size w W → Row W a2 x.pay → Calls Tryd.prog 20 #[bv x a c, bv x a2 c2] W fun e w' => e = .returned (.bool true) ∧ Hid (Below W.heap.size W w')) := fun W a2 c2 h hr => by
    have h8 := same9_any x x a a2 c c2 W (HX.out W h).1.row hr
    rw [sameB_self] at h8
    exact h8
  have HCP : Hid (∀ W, Below w.heap.size w W → Calls Tryd.prog 11 #[bv x a c] W fun e w' => ∃ a' c', e = .returned (bv x a' c') ∧ Hid (Came w' x a' c' ∧ Below W.heap.size W w')) := fun W h => copied_any x a c W (HX.out W h).1
  have HRI : Hid (∀ W, Calls Tryd.prog 12 #[bv x a c] W fun e w' => e = .returned (.bool (okB x)) ∧ Hid (Below W.heap.size W w')) := fun W => right9_any x a c W hx.fit
  have HEX : Hid (∀ W, Calls Tryd.prog 23 #[bv x a c, .int .i64 now] W fun e w' => e = .returned (.bool (expB x now)) ∧ Hid (Below W.heap.size W w')) := fun W => expired_any x a c now W hx.fit.pay
  have HEE : Hid (expB x now = (okB x && decide (x.cre + x.lif ≤ now))) := rfl
  have HOK : Hid (okB x = true → (0 ≤ x.cre ∧ x.cre ≤ 1048576) ∧ (1 ≤ x.lif ∧ x.lif ≤ 1048576)) := fun h => ⟨(okB_of h).2.2.2.2.2.2.1, (okB_of h).2.2.2.2.2.2.2.1⟩
  generalize sameB x y = R at HS1 HS2
  generalize expB x now = E at HEX HEE
  clear hT hw hx hy
  go_enter Tryd.func5, Tryd.ntmps5
  go_wp2_with (go_at_call 9; refine (HWK.out _ _).mono ?_; rintro e w1 ⟨rfl, hb1⟩; have hy1 := heap_alloc_new (w.alloc (bc x a c)) (bc y b d); rw [show (w.alloc (bc x a c)).heap.size = w.heap.size + 1 by simp] at hy1; have HP : Hid (w1.heap[w.heap.size]? = some (bc x a c) ∧ w1.heap[w.heap.size + 1]? = some (bc y b d) ∧ Below w.heap.size w w1) := ⟨old_block (below_of (HB.out _ _) hb1.out) (heap_alloc_new w (bc x a c)), old_block hb1.out hy1, below_of (below_of (HB.out w _) (HB.out _ _)) hb1.out⟩; clear hy1; obtain ⟨e0, e1, e2, e3, e4, e5, e6, e7, e8, e9, e10⟩ := bcells HP.out.1; obtain ⟨f0, f1, f2, f3, f4, f5, f6, f7, f8, f9, f10⟩ := bcells HP.out.2.1)
  have hX : Below w1.heap.size w1 w1.drew := (Below.refl _ _).drew
  have hRR : (R != R) = false := by simp
  go_region_held3 (fun W' => W'.cell? ⟨w.heap.size, 0, none⟩ = some (.int .i64 x.src) ∧ W'.cell? ⟨w.heap.size, 1, none⟩ = some (.int .i64 x.dst) ∧ W'.cell? ⟨w.heap.size, 2, none⟩ = some (.int .u32 (x.seq : Nat)) ∧ W'.cell? ⟨w.heap.size, 3, none⟩ = some (.int .i64 x.cre) ∧ W'.cell? ⟨w.heap.size, 4, none⟩ = some (.int .i64 x.lif) ∧ W'.cell? ⟨w.heap.size, 5, none⟩ = some (.int .i64 x.lim) ∧ W'.cell? ⟨w.heap.size, 6, none⟩ = some (.int .i64 x.hop) ∧ W'.cell? ⟨w.heap.size, 7, none⟩ = some (.int .i64 x.pri) ∧ W'.cell? ⟨w.heap.size, 8, none⟩ = some (.int .i64 x.off) ∧ W'.cell? ⟨w.heap.size, 9, none⟩ = some (.int .i64 x.tot) ∧ W'.cell? ⟨w.heap.size, 10, none⟩ = some (.slice a x.pay.length c) ∧ W'.cell? ⟨w.heap.size + 1, 0, none⟩ = some (.int .i64 y.src) ∧ W'.cell? ⟨w.heap.size + 1, 1, none⟩ = some (.int .i64 y.dst) ∧ W'.cell? ⟨w.heap.size + 1, 2, none⟩ = some (.int .u32 (y.seq : Nat)) ∧ W'.cell? ⟨w.heap.size + 1, 3, none⟩ = some (.int .i64 y.cre) ∧ W'.cell? ⟨w.heap.size + 1, 4, none⟩ = some (.int .i64 y.lif) ∧ W'.cell? ⟨w.heap.size + 1, 5, none⟩ = some (.int .i64 y.lim) ∧ W'.cell? ⟨w.heap.size + 1, 6, none⟩ = some (.int .i64 y.hop) ∧ W'.cell? ⟨w.heap.size + 1, 7, none⟩ = some (.int .i64 y.pri) ∧ W'.cell? ⟨w.heap.size + 1, 8, none⟩ = some (.int .i64 y.off) ∧ W'.cell? ⟨w.heap.size + 1, 9, none⟩ = some (.int .i64 y.tot) ∧ W'.cell? ⟨w.heap.size + 1, 10, none⟩ = some (.slice b y.pay.length d)) (first | exact ⟨e0, e1, e2, e3, e4, e5, e6, e7, e8, e9, e10, f0, f1, f2, f3, f4, f5, f6, f7, f8, f9, f10⟩ | exact ⟨cell_later hX e0, cell_later hX e1, cell_later hX e2, cell_later hX e3, cell_later hX e4, cell_later hX e5, cell_later hX e6, cell_later hX e7, cell_later hX e8, cell_later hX e9, cell_later hX e10, cell_later hX f0, cell_later hX f1, cell_later hX f2, cell_later hX f3, cell_later hX f4, cell_later hX f5, cell_later hX f6, cell_later hX f7, cell_later hX f8, cell_later hX f9, cell_later hX f10⟩) (first
    | (go_at_call 20; have hq4' := hq4; refine (HS3.out _ a4 c4 (below_of HP.out.2.2 hX) hq4.out.1.row).mono ?_; rintro e w5 ⟨rfl, hq5⟩; have hX := below_of hX hq5.out)
    | (go_at_call 11; refine (HCP.out _ (below_of HP.out.2.2 hX)).mono ?_; rintro e w4 ⟨a4, c4, rfl, hq4⟩; have hX := below_of hX hq4.out.2)
    | (go_at_call 19; refine (HS2.out _ (below_of HP.out.2.2 hX)).mono ?_; rintro e w3 ⟨rfl, hq3⟩; have hX := below_of hX hq3.out)
    | (go_at_call 20; refine (HS1.out _ (below_of HP.out.2.2 hX)).mono ?_; rintro e w2 ⟨rfl, hq2⟩; have hX := below_of hX hq2.out))
  have HP5 : Hid (w5.heap[w.heap.size]? = some (bc x a c) ∧ Below w.heap.size w w5) := ⟨old_block hX HP.out.1, below_of HP.out.2.2 hX⟩
  clear e0 e1 e2 e3 e4 e5 e6 e7 e8 e9 e10 f0 f1 f2 f3 f4 f5 f6 f7 f8 f9 f10 hX HS1 HS2 HS3 HCP
  obtain ⟨g0, g1, g2, g3, g4, g5, g6, g7, g8, g9, g10⟩ := bcells HP5.out.1
  have HWH : Hid (∀ W, Calls Tryd.prog 22 #[bv x a c] W fun e w' => e = .returned (.bool ((x.pay.length : Int) == x.tot)) ∧ Hid (Below W.heap.size W w')) := fun W => whole_any x a c W
  generalize hTT : ((x.pay.length : Int) == x.tot) = TT at HWH
  have hTb : (TT != TT) = false := by simp
  go_wp2_with fail
  have hY : Below w5.heap.size w5 w5.drew := (Below.refl _ _).drew
  go_region_held3 (fun W' => W'.cell? ⟨w.heap.size, 0, none⟩ = some (.int .i64 x.src) ∧ W'.cell? ⟨w.heap.size, 1, none⟩ = some (.int .i64 x.dst) ∧ W'.cell? ⟨w.heap.size, 2, none⟩ = some (.int .u32 (x.seq : Nat)) ∧ W'.cell? ⟨w.heap.size, 3, none⟩ = some (.int .i64 x.cre) ∧ W'.cell? ⟨w.heap.size, 4, none⟩ = some (.int .i64 x.lif) ∧ W'.cell? ⟨w.heap.size, 5, none⟩ = some (.int .i64 x.lim) ∧ W'.cell? ⟨w.heap.size, 6, none⟩ = some (.int .i64 x.hop) ∧ W'.cell? ⟨w.heap.size, 7, none⟩ = some (.int .i64 x.pri) ∧ W'.cell? ⟨w.heap.size, 8, none⟩ = some (.int .i64 x.off) ∧ W'.cell? ⟨w.heap.size, 9, none⟩ = some (.int .i64 x.tot) ∧ W'.cell? ⟨w.heap.size, 10, none⟩ = some (.slice a x.pay.length c)) (first | exact ⟨g0, g1, g2, g3, g4, g5, g6, g7, g8, g9, g10⟩ | exact ⟨cell_later hY g0, cell_later hY g1, cell_later hY g2, cell_later hY g3, cell_later hY g4, cell_later hY g5, cell_later hY g6, cell_later hY g7, cell_later hY g8, cell_later hY g9, cell_later hY g10⟩) (first
    | (go_at_call 21; refine (id_any x a c _).mono ?_; rintro e w6 ⟨rfl, hq6⟩; have hY := below_of hY hq6.out)
    | (go_at_call 22; refine (HWH.out _).mono ?_; rintro e w7 ⟨rfl, hq7⟩; have hY := below_of hY hq7.out))
  have HP7 : Hid (w7.heap[w.heap.size]? = some (bc x a c) ∧ Below w.heap.size w w7) := ⟨old_block hY HP5.out.1, below_of HP5.out.2 hY⟩
  clear g0 g1 g2 g3 g4 g5 g6 g7 g8 g9 g10 hY HWH hTb
  obtain ⟨k0, k1, k2, k3, k4, k5, k6, k7, k8, k9, k10⟩ := bcells HP7.out.1
  cases ho : okB x with
  | true =>
    obtain ⟨⟨c1, c2⟩, c3, c5⟩ := HOK.out ho
    rw [ho] at HRI
    rw [ho, Bool.true_and] at HEE
    clear ho
    have hwr : IntKind.i64.wrap (x.cre + x.lif) = x.cre + x.lif := IntWalk.i64_in _ (by omega)
    go_wp2_with fail
    have hZ : Below w7.heap.size w7 w7.drew := (Below.refl _ _).drew
    go_region_held3 (fun W' => W'.cell? ⟨w.heap.size, 0, none⟩ = some (.int .i64 x.src) ∧ W'.cell? ⟨w.heap.size, 1, none⟩ = some (.int .i64 x.dst) ∧ W'.cell? ⟨w.heap.size, 2, none⟩ = some (.int .u32 (x.seq : Nat)) ∧ W'.cell? ⟨w.heap.size, 3, none⟩ = some (.int .i64 x.cre) ∧ W'.cell? ⟨w.heap.size, 4, none⟩ = some (.int .i64 x.lif) ∧ W'.cell? ⟨w.heap.size, 5, none⟩ = some (.int .i64 x.lim) ∧ W'.cell? ⟨w.heap.size, 6, none⟩ = some (.int .i64 x.hop) ∧ W'.cell? ⟨w.heap.size, 7, none⟩ = some (.int .i64 x.pri) ∧ W'.cell? ⟨w.heap.size, 8, none⟩ = some (.int .i64 x.off) ∧ W'.cell? ⟨w.heap.size, 9, none⟩ = some (.int .i64 x.tot) ∧ W'.cell? ⟨w.heap.size, 10, none⟩ = some (.slice a x.pay.length c)) (first | exact ⟨k0, k1, k2, k3, k4, k5, k6, k7, k8, k9, k10⟩ | exact ⟨cell_later hZ k0, cell_later hZ k1, cell_later hZ k2, cell_later hZ k3, cell_later hZ k4, cell_later hZ k5, cell_later hZ k6, cell_later hZ k7, cell_later hZ k8, cell_later hZ k9, cell_later hZ k10⟩) (first
      | (go_at_call 23; refine (HEX.out _).mono ?_; rintro e w8 ⟨rfl, hq8⟩; have hZ := below_of hZ hq8.out)
      | (go_at_call 12; refine (HRI.out _).mono ?_; rintro e w9 ⟨rfl, hq9⟩; have hZ := below_of hZ hq9.out))
    all_goals
      go_wp2
      go_ret
      exact ⟨ret_bool (by rw [HEE.out]; first | rfl | simp), below_of HP7.out.2 hZ⟩
  | false =>
    rw [ho] at HRI
    rw [ho, Bool.false_and] at HEE
    clear ho
    have hEE := HEE.out
    subst hEE
    clear HEE HOK HX HP HP5 hs1 hs2 hn h1 HWK hb1
    go_wp2_with fail
    have hZ : Below w7.heap.size w7 w7.drew := (Below.refl _ _).drew
    first
    | go_region_with (first
      | (go_at_call 23; refine (HEX.out _).mono ?_; rintro e w8 ⟨rfl, hq8⟩; have hZ := below_of hZ hq8.out; have m0 := cell_later hZ k0; have m1 := cell_later hZ k1; have m2 := cell_later hZ k2; have m3 := cell_later hZ k3; have m4 := cell_later hZ k4; have m5 := cell_later hZ k5; have m6 := cell_later hZ k6; have m7 := cell_later hZ k7; have m8 := cell_later hZ k8; have m9 := cell_later hZ k9; have m10 := cell_later hZ k10)
      | (go_at_call 12; refine (HRI.out _).mono ?_; rintro e w9 ⟨rfl, hq9⟩; have hZ := below_of hZ hq9.out))
    | fail
    all_goals
      go_wp2
      go_ret
      exact ⟨ret_bool (by simp), below_of HP7.out.2 hZ⟩
theorem tells_any (V : List Nat → Bool) (TB : World → Prop) (hT : Txt V TB) (w : World) (x y : Bn) (a b : Option Addr) (c d : Nat) (now : Int) (hn : -9223372036854775808 ≤ now ∧ now ≤ 9223372036854775807) (hw : TB w) (h1 : 1 < w.heap.size) (hx : Came w x a c) (hy : Came w y b d) :
    Calls Tryd.prog 5 #[bv x a c, bv y b d, .int .i64 now] w fun e w' => e = .returned (.bool true) ∧ Hid (Below w.heap.size w w') := by
  by_cases h5 : 5000 < x.pay.length ∨ 5000 < y.pay.length
  · exact tells_big V TB hT w x y a b c d now hw h1 hx hy h5
  · exact tells_small V TB hT w x y a b c d now hn hw h1 hx hy (by omega) (by omega)
end Go.Proofs.YtjfmgokpnpmdpaaDoor
