/- PduBack: what was encoded is decoded as it was; of each beginning it is too short. -/
import Derived.Test.YtfkkaihnmnjadaaPWakes
import Derived.Deep.Cut
namespace Go.Proofs.Ytfkkaihnmnjadaa
open Go.RowKit
set_option linter.unusedVariables false
set_option maxRecDepth 20000 in
set_option maxHeartbeats 4000000 in
theorem back_no (w : World) (m : Ms) (a : Option Addr) (c : Nat) (cut : Int) (hc : Came w m a c) (hok : okM m = false) : Calls Try.prog 6 #[mv m a c, .int .i64 cut] w fun e w' => e = .returned (.bool true) ∧ Hid (Below w.heap.size w w') := by
  have HB : Hid (∀ (w : World) (X : Obj), Below w.heap.size w (w.alloc X)) := fun w X => (Below.refl _ w).alloc (Nat.le_refl _) X
  have HEN : Hid (∀ W, Below w.heap.size w W → Calls Try.prog 9 #[mv m a c] W fun e w' => e = .returned (.tuple #[.slice none 0 0, .int .i64 210]) ∧ Hid (Below W.heap.size W w')) := fun W hb => enc_no m a c W (hc.later hb) hok
  have HP : Hid ((w.alloc (mc m a c)).heap[w.heap.size]? = some (mc m a c)) := heap_alloc_new w _
  clear hc hok
  go_enter Try.func6, Try.ntmps6
  go_wp2_with (first
    | (go_at_call 8; refine (wakes_any _).mono ?_; rintro e w1 ⟨rfl, hb1⟩; have HW1 : Hid (Below w.heap.size w w1) := below_of (HB.out _ _) hb1.out; obtain ⟨e0, e1, e2, e3, e4, e5, e6, e7⟩ := mcells (old_block hb1.out HP.out))
    | (go_at_call 9; refine (HEN.out _ HW1.out).mono ?_; rintro e w2 ⟨rfl, hb2⟩))
  go_ret
  exact ⟨rfl, below_of HW1.out hb2.out⟩
set_option maxRecDepth 20000 in
set_option maxHeartbeats 4000000 in
theorem back_ok (w : World) (m : Ms) (a : Option Addr) (c : Nat) (cut : Int) (k : Nat) (hc : Came w m a c) (hok : okM m = true) (hi : in64 cut) (hk : max cut 0 % ((encM m).length : Int) = (k : Int)) (hk2 : k < (encM m).length) : Calls Try.prog 6 #[mv m a c, .int .i64 cut] w fun e w' => e = .returned (.bool true) ∧ Hid (Below w.heap.size w w') := by
  have HB : Hid (∀ (w : World) (X : Obj), Below w.heap.size w (w.alloc X)) := fun w X => (Below.refl _ w).alloc (Nat.le_refl _) X
  obtain ⟨hl5, hl300⟩ := enc_len hok
  have HBY : Hid (∀ x ∈ encM m, x < 256) := enc_byte hok hc.row.1
  have HEN : Hid (∀ W, Below w.heap.size w W → Calls Try.prog 9 #[mv m a c] W fun e w' => EncY m W e w') := fun W hb => encode_ok m a c W (hc.later hb) hok
  have HDE : Hid (∀ W g cc, Row W (some ⟨g, 0, none⟩) (encM m) → Calls Try.prog 15 #[.slice (some ⟨g, 0, none⟩) (encM m).length cc] W fun e w' => ∃ a' c', e = .returned (.tuple #[mv m a' c', .int .i64 0]) ∧ Hid (Came w' m a' c' ∧ Below W.heap.size W w')) := fun W g cc hr => by
    have := decode_any W (some ⟨g, 0, none⟩) cc (encM m) hr (by omega)
    unfold Dec1 at this
    rw [enc_dec hok hc.fit.szn] at this
    exact this.mono (by rintro e w' ⟨a', c', rfl, hq⟩; exact ⟨a', c', rfl, hq.out.1, hq.out.2.1⟩)
  have HD2 : Hid (∀ W g cc, Row W (some ⟨g, 0, none⟩) (encM m) → Calls Try.prog 15 #[.slice (some ⟨g, 0, none⟩) k cc] W fun e w' => ∃ a' c', e = .returned (.tuple #[mv zeroM a' c', .int .i64 7]) ∧ Hid (Below W.heap.size W w')) := fun W g cc hr => by
    have hl : ((encM m).take k).length = k := by rw [List.length_take]; omega
    have := decode_any W (some ⟨g, 0, none⟩) cc ((encM m).take k) (row_take hr k) (by omega)
    unfold Dec1 at this
    rw [enc_cut hok hc.fit.szn k hk2, hl] at this
    exact this.mono (by rintro e w' ⟨a', c', rfl, hq⟩; exact ⟨a', c', rfl, hq.out.2.1⟩)
  have HSA : Hid (∀ W a' c', Below w.heap.size w W → Row W a' m.bts → Calls Try.prog 18 #[mv m a c, mv m a' c'] W fun e w' => e = .returned (.bool true) ∧ Hid (Below W.heap.size W w')) := fun W a' c' hb h => by
    have := Go.Proofs.Ytfkkaihnmnjadaa.same_any m m a c a' c' W (hc.row.later hb) h
    rw [sameM_self] at this
    exact this
  have HP : Hid ((w.alloc (mc m a c)).heap[w.heap.size]? = some (mc m a c)) := heap_alloc_new w _
  unfold EncY at HEN
  obtain ⟨i1, i2⟩ := hi
  clear hc hok
  generalize encM m = L at HEN HDE HD2 HBY hk hk2 hl5 hl300
  have HBL : Hid (L.length ≤ maxLen) := by show _ ≤ _; unfold maxLen; omega
  obtain ⟨n, hn⟩ : ∃ n, L.length = n := ⟨_, rfl⟩
  have HLN : Hid (L.length = n) := hn
  rw [hn] at HEN HDE hk hk2 hl5 hl300
  clear hn
  have HK : Hid (max cut 0 % (n : Int) = (k : Int)) := hk
  clear hk
  go_enter Try.func6, Try.ntmps6
  go_upto_region 7 with (first
    | (go_at_call 8; refine (wakes_any _).mono ?_; rintro e w1 ⟨rfl, hb1⟩; have HW1 : Hid (Below w.heap.size w w1) := below_of (HB.out _ _) hb1.out; have HP1 : Hid (w1.heap[w.heap.size]? = some (mc m a c)) := (show _ = _ from old_block hb1.out HP.out); obtain ⟨e0, e1, e2, e3, e4, e5, e6, e7⟩ := mcells HP1.out)
    | (go_at_call 9; refine (HEN.out _ HW1.out).mono ?_; rintro e w2 ⟨g, c2, rfl, hq2⟩; have HR2 : Hid (Row w2 (some ⟨g, 0, none⟩) L ∧ n ≤ c2) := ⟨(own_some hq2.out.1 HBY.out HBL.out).1, (own_some hq2.out.1 HBY.out HBL.out).2.2⟩; have HW2 : Hid (Below w.heap.size w w2) := below_of HW1.out hq2.out.2; have HP2 : Hid (w2.heap[w.heap.size]? = some (mc m a c)) := (show _ = _ from old_block hq2.out.2 HP1.out))
    | (go_at_call 15; refine (HDE.out w2 g c2 HR2.out.1).mono ?_; rintro e w3 ⟨a3, c3, rfl, hq3⟩; have HW3 : Hid (Below w.heap.size w (w3.alloc (mc m a3 c3))) := below_of (below_of HW2.out hq3.out.2) (HB.out _ _); have HP3 : Hid ((w3.alloc (mc m a3 c3)).heap[w.heap.size]? = some (mc m a c)) := (show _ = _ from old_block (below_of hq3.out.2 (HB.out _ _)) HP2.out); have HN3 : Hid ((w3.alloc (mc m a3 c3)).heap[w3.heap.size]? = some (mc m a3 c3)) := heap_alloc_new w3 _; have HR3 : Hid (Row (w3.alloc (mc m a3 c3)) (some ⟨g, 0, none⟩) L ∧ Row (w3.alloc (mc m a3 c3)) a3 m.bts) := ⟨HR2.out.1.later (below_of hq3.out.2 (HB.out _ _)), hq3.out.1.row.later (HB.out _ _)⟩))
  have hnc := HR2.out.2
  have hkn : (k : Int) ≤ (c2 : Int) := by omega
  have hkc : ¬ c2 < k := by omega
  have hk0 : (0 : Int) ≤ (k : Int) := by omega
  by_cases h0 : cut < 0
  · have hz : k = 0 := by
      have := HK.out
      rw [show max cut 0 = 0 by omega, Int.zero_emod] at this
      omega
    subst hz
    go_wp2_with (first
      | (go_at_call 15; refine (HD2.out _ g c2 HR3.out.1).mono ?_; rintro e w4 ⟨a4, c4, rfl, hb4⟩; have f := (fun X => mcells (old_block (below_of hb4.out (HB.out w4 X)) HP3.out)); have f0 := (fun X => (f X).1); have f1 := (fun X => (f X).2.1); have f2 := (fun X => (f X).2.2.1); have f3 := (fun X => (f X).2.2.2.1); have f4 := (fun X => (f X).2.2.2.2.1); have f5 := (fun X => (f X).2.2.2.2.2.1); have f6 := (fun X => (f X).2.2.2.2.2.2.1); have f7 := (fun X => (f X).2.2.2.2.2.2.2); have j := (fun X => mcells (old_block (below_of hb4.out (HB.out w4 X)) HN3.out)); have j0 := (fun X => (j X).1); have j1 := (fun X => (j X).2.1); have j2 := (fun X => (j X).2.2.1); have j3 := (fun X => (j X).2.2.2.1); have j4 := (fun X => (j X).2.2.2.2.1); have j5 := (fun X => (j X).2.2.2.2.2.1); have j6 := (fun X => (j X).2.2.2.2.2.2.1); have j7 := (fun X => (j X).2.2.2.2.2.2.2); clear f j)
      | (go_at_call 18; refine (HSA.out _ a3 c3 (below_of HW3.out (below_of hb4.out (HB.out _ _))) (HR3.out.2.later (below_of hb4.out (HB.out _ _)))).mono ?_; rintro e w5 ⟨rfl, hb5⟩))
    go_ret
    exact ⟨rfl, below_of (below_of HW3.out (below_of hb4.out (HB.out _ _))) hb5.out⟩
  · have hcm : max cut 0 = cut := by omega
    have hr : cut % (n : Int) = (k : Int) := by rw [← hcm]; exact HK.out
    have hr2 : cut.tmod (n : Int) = (k : Int) := by rw [Int.tmod_eq_emod_of_nonneg (by omega)]; exact hr
    clear hcm HK
    go_wp2_with (first
      | (go_at_call 15; refine (HD2.out _ g c2 HR3.out.1).mono ?_; rintro e w4 ⟨a4, c4, rfl, hb4⟩; have f := (fun X => mcells (old_block (below_of hb4.out (HB.out w4 X)) HP3.out)); have f0 := (fun X => (f X).1); have f1 := (fun X => (f X).2.1); have f2 := (fun X => (f X).2.2.1); have f3 := (fun X => (f X).2.2.2.1); have f4 := (fun X => (f X).2.2.2.2.1); have f5 := (fun X => (f X).2.2.2.2.2.1); have f6 := (fun X => (f X).2.2.2.2.2.2.1); have f7 := (fun X => (f X).2.2.2.2.2.2.2); have j := (fun X => mcells (old_block (below_of hb4.out (HB.out w4 X)) HN3.out)); have j0 := (fun X => (j X).1); have j1 := (fun X => (j X).2.1); have j2 := (fun X => (j X).2.2.1); have j3 := (fun X => (j X).2.2.2.1); have j4 := (fun X => (j X).2.2.2.2.1); have j5 := (fun X => (j X).2.2.2.2.2.1); have j6 := (fun X => (j X).2.2.2.2.2.2.1); have j7 := (fun X => (j X).2.2.2.2.2.2.2); clear f j)
      | (go_at_call 18; refine (HSA.out _ a3 c3 (below_of HW3.out (below_of hb4.out (HB.out _ _))) (HR3.out.2.later (below_of hb4.out (HB.out _ _)))).mono ?_; rintro e w5 ⟨rfl, hb5⟩))
    go_ret
    exact ⟨rfl, below_of (below_of HW3.out (below_of hb4.out (HB.out _ _))) hb5.out⟩
theorem pback_any (w : World) (m : Ms) (a : Option Addr) (c : Nat) (cut : Int) (hc : Came w m a c) (hi : in64 cut) : Calls Try.prog 6 #[mv m a c, .int .i64 cut] w fun e w' => e = .returned (.bool true) ∧ Hid (Below w.heap.size w w') := by
  cases hok : okM m with
  | false => exact back_no w m a c cut hc hok
  | true =>
    have hl := enc_len hok
    have h1 := Int.emod_nonneg (max cut 0) (b := ((encM m).length : Int)) (by omega)
    have h2 := Int.emod_lt_of_pos (max cut 0) (b := ((encM m).length : Int)) (by omega)
    exact back_ok w m a c cut (max cut 0 % ((encM m).length : Int)).toNat hc hok hi (by omega) (by omega)
end Go.Proofs.Ytfkkaihnmnjadaa
