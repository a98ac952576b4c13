/- bundle.readBlock. -/
import Derived.Test.YtjfmgokpnpmdpaaDoorBReadA
namespace Go.Proofs.YtjfmgokpnpmdpaaDoor
open Go.RowKit
set_option linter.unusedVariables false
/-- what readBlock answers. -/
def Rdb (V : List Nat → Bool) (l : List Nat) (w : World) (e : Ending) (w' : World) : Prop :=
  (∃ L, partsOf V l ten1 = some L ∧ e = .returned (.tuple #[bv (readB L) none 0, .bool true]) ∧ Hid (Below w.heap.size w w')) ∨
  (partsOf V l ten1 = none ∧ e = .returned (.tuple #[bv zeroB none 0, .bool false]) ∧ Hid (Below w.heap.size w w'))
set_option maxRecDepth 20000 in
set_option maxHeartbeats 4000000 in
theorem readBlock_any (V : List Nat → Bool) (TB : World → Prop) (hT : Txt V TB) (w : World) (a : Option Addr) (c : Nat) (l : List Nat) (hw : TB w) (hr : Row w a l) (hz : l.length ≤ 140737488000000) (h1 : 1 < w.heap.size) :
    Calls Tryd.prog 42 #[.slice a l.length c] w fun e w' => Rdb V l w e w' := by
  have HB : Hid (∀ (w : World) (X : Obj), Below w.heap.size w (w.alloc X)) := fun w X => (Below.refl _ w).alloc (Nat.le_refl _) X
  have HL : Hid (∀ W ak, Below w.heap.size w W → Ints W ak ten1 → Calls Tryd.prog 39 #[.slice a l.length c, .slice ak 10 10] W fun e w' => Lst V l ten1 W e w') := fun W ak hb hk => list_any V TB hT W a c l ak 10 ten1 (hT.later _ _ hw hb) (hr.later hb) hz (by have := hb.size; omega) hk (by decide)
  clear hr hw hT
  go_enter Tryd.func42, Tryd.ntmps42
  go_wp2_with fail
  obtain ⟨b0, b1, b2, b3, b4, b5, hB6⟩ := six_alloc w zb zb (.cells #[.int .i64 0] 3) (.cells #[.int .i64 0] 3) (.cells #[.pointer (some ⟨w.heap.size + 1 + 1, 0, none⟩), .pointer (some ⟨w.heap.size + 1, 1, none⟩), .pointer (some ⟨w.heap.size + 1, 0, none⟩), .pointer (some ⟨w.heap.size + 1 + 1 + 1, 0, none⟩), .pointer (some ⟨w.heap.size + 1, 3, none⟩), .pointer (some ⟨w.heap.size + 1, 4, none⟩), .pointer (some ⟨w.heap.size + 1, 8, none⟩), .pointer (some ⟨w.heap.size + 1, 9, none⟩), .pointer (some ⟨w.heap.size + 1, 7, none⟩), .pointer (some ⟨w.heap.size + 1, 5, none⟩)] 85) (.cells #[.int .i64 1] 3)
  refine (repeat_any _ _ (by rw [cell_of b5]; rfl)).mono ?_
  rintro e w1 ⟨ak, rfl, hq1⟩
  have HB1 : Hid (Below w.heap.size w w1) := below_of hB6 hq1.out.2
  have HH1 : Hid (w1.heap[w.heap.size]? = some zb ∧ w1.heap[w.heap.size + 1]? = some zb ∧ w1.heap[w.heap.size + 1 + 1]? = some (.cells #[.int .i64 0] 3) ∧ w1.heap[w.heap.size + 1 + 1 + 1]? = some (.cells #[.int .i64 0] 3) ∧ w1.heap[w.heap.size + 1 + 1 + 1 + 1]? = some (.cells #[.pointer (some ⟨w.heap.size + 1 + 1, 0, none⟩), .pointer (some ⟨w.heap.size + 1, 1, none⟩), .pointer (some ⟨w.heap.size + 1, 0, none⟩), .pointer (some ⟨w.heap.size + 1 + 1 + 1, 0, none⟩), .pointer (some ⟨w.heap.size + 1, 3, none⟩), .pointer (some ⟨w.heap.size + 1, 4, none⟩), .pointer (some ⟨w.heap.size + 1, 8, none⟩), .pointer (some ⟨w.heap.size + 1, 9, none⟩), .pointer (some ⟨w.heap.size + 1, 7, none⟩), .pointer (some ⟨w.heap.size + 1, 5, none⟩)] 85)) := ⟨old_block hq1.out.2 b0, old_block hq1.out.2 b1, old_block hq1.out.2 b2, old_block hq1.out.2 b3, old_block hq1.out.2 b4⟩
  clear b0 b1 b2 b3 b4 b5 hB6
  go_wp2_with fail
  refine (HL.out w1 ak HB1.out hq1.out.1).mono ?_
  rintro e w2 (⟨L, a2, c2, hp, rfl, hq2⟩ | ⟨hp, rfl, hq2⟩)
  · obtain ⟨z0, z1, z2, z3, z4, z5, z6, z7, z8, z9, z10⟩ := zcells (old_block hq2.out.2.2 HH1.out.1)
    have fz := frozen_of (old_block hq2.out.2.2 HH1.out.1)
    have HP : Hid (partsOf V l ten1 = some L) := hp
    have HLN : Hid (L.length = 10) := hq2.out.1
    rw [ten1_len]
    have hHs : w.heap.size + 1 + 1 + 1 + 1 < w2.heap.size := (Array.getElem?_eq_some_iff.1 (old_block hq2.out.2.2 HH1.out.2.2.2.2)).1
    have HG0 : Hid (Got w.heap.size L w2 w2 0) := got_none (old_block hq2.out.2.2 HH1.out.2.1) (old_block hq2.out.2.2 HH1.out.2.2.1) (old_block hq2.out.2.2 HH1.out.2.2.2.1)
    clear hp
    go_wp2_with fail
    go_loopw [35] (fun i wr => ∃ k : Nat, k ≤ 10 ∧ i = .int .i64 k ∧ Hid (Got w.heap.size L w2 wr k)) (fun i _ => 10 - (intOf i).toNat)
    case atStart => exact ⟨0, Nat.zero_le _, rfl, HG0.out⟩
    case round =>
      obtain ⟨k, hk, rfl, HGK⟩ := hrel
      by_cases hkl : k < 10
      · have hkL : k < L.length := by rw [HLN.out]; exact hkl
        have hsz := HGK.out.off.size
        obtain ⟨bb, o1, rfl, hnb, hc2⟩ := hq2.out.2.1.2 (by omega)
        obtain ⟨q1, d1, q2, d2, ⟨f0, f1, f2, f3⟩, hli, _⟩ := hc2 k hkL
        have hbS : ¬ (bb = w.heap.size + 1 ∨ bb = w.heap.size + 1 + 1 ∨ bb = w.heap.size + 1 + 1 + 1) := by
          have : w.heap.size + 1 + 1 + 1 + 1 < w1.heap.size := (Array.getElem?_eq_some_iff.1 HH1.out.2.2.2.2).1
          have := hnb
          omega
        have g0 := HGK.out.off.cell f0 hbS
        have g1 := HGK.out.off.cell f1 hbS
        have g2 := HGK.out.off.cell f2 hbS
        have g3 := HGK.out.off.cell f3 hbS
        have hnm := hli.1.1
        have hw64 := wrap_i64n (nm L[k]) hnm
        have hti := HGK.out.off.cell (into_at (old_block hq2.out.2.2 HH1.out.2.2.2.2) k hkl) (show ¬ (w.heap.size + 1 + 1 + 1 + 1 = w.heap.size + 1 ∨ w.heap.size + 1 + 1 + 1 + 1 = w.heap.size + 1 + 1 ∨ w.heap.size + 1 + 1 + 1 + 1 = w.heap.size + 1 + 1 + 1) by omega)
        have hbk := spot_bo k hkl
        have htc := HGK.out.at_ k hkl
        have htf := HGK.out.frz (w.heap.size + bo k) (to9 k) (by omega)
        have HSET : Hid (∀ X, Got w.heap.size L w2 ((wr.setCell ⟨w.heap.size + bo k, to9 k, none⟩ (.int .i64 (i64 (nm L[k])))).alloc X).drew (k + 1)) := fun X => got_later (got_set HGK.out hkl (by omega) wr (Below.refl _ _) _ (by rw [List.getD_eq_getElem?_getD, List.getElem?_eq_getElem hkL]; rfl)) (by simp [World.setCell]; omega) ((HB.out _ X).drew)
        have hplt : w.heap.size + bo k < wr.heap.size := by omega
        clear hc2 f0 f1 f2 f3 hli hbS hnb hbk HGK z0 z1 z2 z3 z4 z5 z6 z7 z8 z9 z10 fz
        generalize w.heap.size + bo k = P at hti htc htf HSET hplt
        generalize to9 k = O at hti htc htf HSET
        generalize gotN L k k = y at htc
        generalize L[k] = x at g0 g1 g2 g3 hw64 hnm HSET
        generalize i64 (nm x) = v at hw64 HSET
        generalize w.heap.size + 1 + 1 + 1 + 1 = G at hti ⊢
        have htA : ∀ X, (wr.alloc X).cell? ⟨P, O, none⟩ = some (.int .i64 y) := fun X => cell_later (HB.out wr X) htc
        have hfA : ∀ X, (wr.alloc X).frozen? ⟨P, O, none⟩ = false := fun X => by rw [(HB.out wr X).frozen (p := ⟨P, O, none⟩) hplt]; exact htf
        have hiA : ∀ X, (wr.alloc X).cell? ⟨G, k, none⟩ = some (.pointer (some ⟨P, O, none⟩)) := fun X => cell_later (HB.out wr X) hti
        have hx1 : (wr.alloc (ic x q1 d1 q2 d2)).cell? ⟨wr.heap.size, 1, none⟩ = some (.int .u64 (nm x : Nat)) := by rw [cell_of (heap_alloc_new wr _)]; rfl
        have hk0 : (0 : Int) ≤ (k : Int) := by omega
        have hk9 : (k : Int) < 10 := by omega
        clear hq1 hsz HG0 HP HL
        go_wp2_with fail
        go_region
        go_wp2
        go_roundw
        case rel => exact ⟨k + 1, by omega, by go_num, HSET.out _⟩
        case measure => simp [intOf]; omega
      · obtain rfl : k = 10 := by omega
        have hsz := HGK.out.off.size
        have t0 : wr.cell? ⟨w.heap.size + 1, 0, none⟩ = some (.int .i64 (i64 (nm (L.getD 2 .nil)))) := HGK.out.at_ 2 (by omega)
        have t1 : wr.cell? ⟨w.heap.size + 1, 1, none⟩ = some (.int .i64 (i64 (nm (L.getD 1 .nil)))) := HGK.out.at_ 1 (by omega)
        have t3 : wr.cell? ⟨w.heap.size + 1, 3, none⟩ = some (.int .i64 (i64 (nm (L.getD 4 .nil)))) := HGK.out.at_ 4 (by omega)
        have t4 : wr.cell? ⟨w.heap.size + 1, 4, none⟩ = some (.int .i64 (i64 (nm (L.getD 5 .nil)))) := HGK.out.at_ 5 (by omega)
        have t5 : wr.cell? ⟨w.heap.size + 1, 5, none⟩ = some (.int .i64 (i64 (nm (L.getD 9 .nil)))) := HGK.out.at_ 9 (by omega)
        have t7 : wr.cell? ⟨w.heap.size + 1, 7, none⟩ = some (.int .i64 (i64 (nm (L.getD 8 .nil)))) := HGK.out.at_ 8 (by omega)
        have t8 : wr.cell? ⟨w.heap.size + 1, 8, none⟩ = some (.int .i64 (i64 (nm (L.getD 6 .nil)))) := HGK.out.at_ 6 (by omega)
        have t9 : wr.cell? ⟨w.heap.size + 1, 9, none⟩ = some (.int .i64 (i64 (nm (L.getD 7 .nil)))) := HGK.out.at_ 7 (by omega)
        have ts : wr.cell? ⟨w.heap.size + 1 + 1 + 1, 0, none⟩ = some (.int .i64 (i64 (nm (L.getD 3 .nil)))) := HGK.out.at_ 3 (by omega)
        have t2 := HGK.out.c2
        have t6 := HGK.out.c6
        have t10 := HGK.out.c10
        have tf := fun o => HGK.out.frz (w.heap.size + 1) o (.inl rfl)
        have hns : nm (L.getD 3 .nil) < 18446744073709551616 := by
          obtain ⟨bb, o1, rfl, hnb, hc2⟩ := hq2.out.2.1.2 (by rw [HLN.out]; omega)
          obtain ⟨_, _, _, _, _, hli, _⟩ := hc2 3 (by rw [HLN.out]; omega)
          rw [List.getD_eq_getElem?_getD, List.getElem?_eq_getElem (by rw [HLN.out]; omega)]
          exact hli.1.1
        have hw32 := wrap_u32n _ hns
        have HSM : Hid (∀ W, Off (fun q => w.heap.size ≤ q) wr W → Below w.heap.size w W) := fun W ho => (below_of HB1.out hq2.out.2.2).trans ((HGK.out.off.below (by have := (below_of HB1.out hq2.out.2.2).size; omega) (fun i e => by omega)).trans (ho.below (by have := (below_of HB1.out hq2.out.2.2).size; omega) (fun _ e => e)))
        have hz0 := HGK.out.off.at (old_block hq2.out.2.2 HH1.out.1) (show ¬ (w.heap.size = w.heap.size + 1 ∨ w.heap.size = w.heap.size + 1 + 1 ∨ w.heap.size = w.heap.size + 1 + 1 + 1) by omega)
        have fz := frozen_of hz0
        clear z0 z1 z2 z3 z4 z5 z6 z7 z8 z9 z10
        obtain ⟨z0, z1, z2, z3, z4, z5, z6, z7, z8, z9, z10⟩ := zcells hz0
        clear hz0
        have HRB : Hid (readB L = ⟨i64 (nm (L.getD 2 .nil)), i64 (nm (L.getD 1 .nil)), u32 (nm (L.getD 3 .nil)), i64 (nm (L.getD 4 .nil)), i64 (nm (L.getD 5 .nil)), i64 (nm (L.getD 9 .nil)), 0, i64 (nm (L.getD 8 .nil)), i64 (nm (L.getD 6 .nil)), i64 (nm (L.getD 7 .nil)), []⟩) := rfl
        generalize i64 (nm (L.getD 2 .nil)) = v2 at t0 HRB
        generalize i64 (nm (L.getD 1 .nil)) = v1 at t1 HRB
        generalize i64 (nm (L.getD 4 .nil)) = v4 at t3 HRB
        generalize i64 (nm (L.getD 5 .nil)) = v5 at t4 HRB
        generalize i64 (nm (L.getD 9 .nil)) = v9 at t5 HRB
        generalize i64 (nm (L.getD 8 .nil)) = v8 at t7 HRB
        generalize i64 (nm (L.getD 6 .nil)) = v6 at t8 HRB
        generalize i64 (nm (L.getD 7 .nil)) = v7 at t9 HRB
        generalize i64 (nm (L.getD 3 .nil)) = v3 at ts hw32
        generalize u32 (nm (L.getD 3 .nil)) = s3 at hw32 HRB
        clear hq1 HG0 HL HGK hns
        go_wp2_with fail
        refine bodyPost_ret (v := .tuple #[.agg #[.int .i64 v2, .int .i64 v1, .int .u32 (s3 : Nat), .int .i64 v4, .int .i64 v5, .int .i64 v9, .int .i64 0, .int .i64 v8, .int .i64 v6, .int .i64 v7, .slice none 0 0], .bool true]) (by simp [results, Tryd.results42, go_sem, z0, z1, z2, z3, z4, z5, z6, z7, z8, z9, z10]) rfl ?_
        refine .inl ⟨L, HP.out, by rw [HRB.out]; rfl, ?_⟩
        exact HSM.out _ (((((((((((((Off.refl (fun q => w.heap.size ≤ q) wr).setCell (p := ⟨w.heap.size + 1, 2, none⟩) (.inr (Nat.le_succ _)) _).setCell (p := ⟨w.heap.size, 0, none⟩) (.inr (Nat.le_refl _)) _).setCell (p := ⟨w.heap.size, 1, none⟩) (.inr (Nat.le_refl _)) _).setCell (p := ⟨w.heap.size, 2, none⟩) (.inr (Nat.le_refl _)) _).setCell (p := ⟨w.heap.size, 3, none⟩) (.inr (Nat.le_refl _)) _).setCell (p := ⟨w.heap.size, 4, none⟩) (.inr (Nat.le_refl _)) _).setCell (p := ⟨w.heap.size, 5, none⟩) (.inr (Nat.le_refl _)) _).setCell (p := ⟨w.heap.size, 6, none⟩) (.inr (Nat.le_refl _)) _).setCell (p := ⟨w.heap.size, 7, none⟩) (.inr (Nat.le_refl _)) _).setCell (p := ⟨w.heap.size, 8, none⟩) (.inr (Nat.le_refl _)) _).setCell (p := ⟨w.heap.size, 9, none⟩) (.inr (Nat.le_refl _)) _).setCell (p := ⟨w.heap.size, 10, none⟩) (.inr (Nat.le_refl _)) _)
  · have HP : Hid (partsOf V l ten1 = none) := hp
    obtain ⟨z0, z1, z2, z3, z4, z5, z6, z7, z8, z9, z10⟩ := zcells (old_block hq2.out HH1.out.1)
    have fz := frozen_of (old_block hq2.out HH1.out.1)
    clear hp
    go_wp2
    refine bodyPost_ret (v := .tuple #[bv zeroB none 0, .bool false]) (by simp [results, Tryd.results42, go_sem, z0, z1, z2, z3, z4, z5, z6, z7, z8, z9, z10, zeroB]) rfl ?_
    refine .inr ⟨HP.out, rfl, ?_⟩
    exact ((((((((((((below_of HB1.out hq2.out).setCell (p := ⟨w.heap.size, 0, none⟩) (Nat.le_refl _) _).setCell (p := ⟨w.heap.size, 1, none⟩) (Nat.le_refl _) _).setCell (p := ⟨w.heap.size, 2, none⟩) (Nat.le_refl _) _).setCell (p := ⟨w.heap.size, 3, none⟩) (Nat.le_refl _) _).setCell (p := ⟨w.heap.size, 4, none⟩) (Nat.le_refl _) _).setCell (p := ⟨w.heap.size, 5, none⟩) (Nat.le_refl _) _).setCell (p := ⟨w.heap.size, 6, none⟩) (Nat.le_refl _) _).setCell (p := ⟨w.heap.size, 7, none⟩) (Nat.le_refl _) _).setCell (p := ⟨w.heap.size, 8, none⟩) (Nat.le_refl _) _).setCell (p := ⟨w.heap.size, 9, none⟩) (Nat.le_refl _) _).setCell (p := ⟨w.heap.size, 10, none⟩) (Nat.le_refl _) _)
end Go.Proofs.YtjfmgokpnpmdpaaDoor
