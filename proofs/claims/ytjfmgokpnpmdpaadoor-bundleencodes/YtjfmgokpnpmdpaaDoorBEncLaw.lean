/- The walk of BundleEncodes. -/
import Derived.Test.YtjfmgokpnpmdpaaDoorBSize
import Derived.Test.YtjfmgokpnpmdpaaDoorR9Right
import Derived.Test.YtjfmgokpnpmdpaaDoorR9Bytes
namespace Go.Proofs.YtjfmgokpnpmdpaaDoor
open Go.RowKit
set_option linter.unusedVariables false
set_option maxRecDepth 20000 in
set_option maxHeartbeats 8000000 in
theorem encs_big (V : List Nat → Bool) (TB : World → Prop) (hT : Txt V TB) (w : World) (b : Bn) (a : Option Addr) (c : Nat) (hw : TB w) (h1 : 1 < w.heap.size) (hb : Came w b a c) (hbig : 5000 < b.pay.length) :
    Calls Tryd.prog 3 #[bv b a c] w fun e w' => e = .returned (.bool true) ∧ Hid (Below w.heap.size w w') := by
  have HB : Hid (∀ (w : World) (X : Obj), Below w.heap.size w (w.alloc X)) := fun w X => (Below.refl _ w).alloc (Nat.le_refl _) X
  have HWK : Hid (∀ X, Calls Tryd.prog 9 #[] (w.alloc X) fun e w' => e = .returned (.bool true) ∧ Hid (Below (w.alloc X).heap.size (w.alloc X) w')) := fun X => wakes_any V TB hT _ (hT.later _ _ hw (HB.out w X)) (by simp; omega)
  have hz1 := hb.fit.pay
  clear hT hw hb
  go_enter Tryd.func3, Tryd.ntmps3
  go_wp2_with (go_at_call 9; refine (HWK.out _).mono ?_; rintro e w1 ⟨rfl, hb1⟩; obtain ⟨e0, e1, e2, e3, e4, e5, e6, e7, e8, e9, e10⟩ := bcells (old_block hb1.out (heap_alloc_new w _)))
  go_ret
  exact ⟨rfl, below_of (HB.out w _) hb1.out⟩
theorem hd_le5 (t n : Nat) (h : n < 4294967296) : (hd t n).length ≤ 5 := by
  unfold hd
  repeat' split
  all_goals simp [be_length]
theorem encB_512 (b : Bn) (h : okB b = true) (hs : b.seq < 4294967296) : (encB b).length ≤ 512 := by
  have hk := okB_of h
  have h5 := hd_le5
  have a1 := h5 0 7 (by omega)
  have a2 := h5 0 b.dst.toNat (by omega)
  have a3 := h5 0 b.src.toNat (by omega)
  have a4 := h5 0 b.seq hs
  have a5 := h5 0 b.cre.toNat (by omega)
  have a6 := h5 0 b.lif.toNat (by omega)
  have a7 := h5 0 b.off.toNat (by omega)
  have a8 := h5 0 b.tot.toNat (by omega)
  have a9 := h5 0 b.pri.toNat (by omega)
  have a10 := h5 0 b.lim.toNat (by omega)
  have a11 := h5 4 10 (by omega)
  have hf : (firstB b).length ≤ 55 := by
    rw [firstB_eq]
    simp only [numsB, List.map_cons, List.map_nil, List.flatten_cons, List.flatten_nil, List.length_append, List.length_nil]
    omega
  have a12 := seal16_length (firstB b)
  have a13 := seal32_length b.pay
  have b1 := h5 4 3 (by omega)
  have b2 := h5 2 (seal16 (firstB b)).length (by omega)
  have b3 := h5 0 b.hop.toNat (by omega)
  have b4 := h5 2 (seal32 b.pay).length (by omega)
  unfold encB itemB
  rw [enc_tri]
  simp only [List.length_append]
  omega
set_option maxRecDepth 20000 in
set_option maxHeartbeats 16000000 in
theorem encs_small (V : List Nat → Bool) (TB : World → Prop) (hT : Txt V TB) (w : World) (b : Bn) (a : Option Addr) (c : Nat) (hw : TB w) (h1 : 1 < w.heap.size) (hb : Came w b a c) (hs1 : b.pay.length ≤ 5000) :
    Calls Tryd.prog 3 #[bv b a c] w fun e w' => e = .returned (.bool true) ∧ Hid (Below w.heap.size w w') := by
  have HB : Hid (∀ (w : World) (X : Obj), Below w.heap.size w (w.alloc X)) := fun w X => (Below.refl _ w).alloc (Nat.le_refl _) X
  have HWK : Hid (∀ X, Calls Tryd.prog 9 #[] (w.alloc X) fun e w' => e = .returned (.bool true) ∧ Hid (Below (w.alloc X).heap.size (w.alloc X) w')) := fun X => wakes_any V TB hT _ (hT.later _ _ hw (HB.out w X)) (by simp; omega)
  have HTB : Hid (∀ W, Below w.heap.size w W → TB W) := fun W hb => hT.later _ _ hw hb
  have HX : Hid (∀ W, Below w.heap.size w W → Came W b a c) := fun W h => hb.later h
  have HCP : Hid (∀ W, Below w.heap.size w W → Calls Tryd.prog 11 #[bv b a c] W fun e w' => ∃ a' c', e = .returned (bv b a' c') ∧ Hid (Came w' b a' c' ∧ Below W.heap.size W w')) := fun W h => copied_any b a c W (HX.out W h)
  have HEN : Hid (∀ W y ay cy, Below w.heap.size w W → Came W y ay cy → Calls Tryd.prog 10 #[bv y ay cy] W fun e w' => Enc9 y W e w') := fun W y ay cy hb hy => encode9_any V TB hT y W ay cy hy.fit (HTB.out _ hb) hy.row hy.le hy.cap
  have HRI : Hid (∀ W, Calls Tryd.prog 12 #[bv b a c] W fun e w' => e = .returned (.bool (okB b)) ∧ Hid (Below W.heap.size W w')) := fun W => right9_any b a c W hb.fit
  have HSZ : Hid (∀ W, Below w.heap.size w W → Calls Tryd.prog 14 #[bv b a c] W fun e w' => e = .returned (.int .i64 (sizeB b : Nat)) ∧ Hid (Below W.heap.size W w')) := fun W h => size_any V TB hT b W a c (HTB.out W h) (HX.out W h)
  have HCK : Hid (∀ W a2 c2, Calls Tryd.prog 13 #[bv b a2 c2] W fun e w' => e = .returned (.int .i64 (chkI b)) ∧ Hid (Below W.heap.size W w')) := fun W a2 c2 => check9_any b a2 c2 W hb.fit.pay
  have HBY : Hid (okB b = true → ∀ W, Below w.heap.size w W → Calls Tryd.prog 15 #[bv b a c] W fun e w' => ∃ a' c', e = .returned (.slice a' (encB b).length c') ∧ Hid (Row w' a' (encB b) ∧ Below W.heap.size W w')) := fun ho W h => bytes9_any b a c W ho hb.fit.seq (HX.out W h).row
  have H512 : Hid (okB b = true → (encB b).length ≤ 512) := fun h => encB_512 b h hb.fit.seq
  clear hT hw hb
  go_enter Tryd.func3, Tryd.ntmps3
  go_wp2_with (first
    | (go_at_call 9; refine (HWK.out _).mono ?_; rintro e w1 ⟨rfl, hb1⟩; have HP : Hid (w1.heap[w.heap.size]? = some (bc b a c) ∧ Below w.heap.size w w1) := ⟨old_block hb1.out (heap_alloc_new w _), below_of (HB.out w _) hb1.out⟩; obtain ⟨e0, e1, e2, e3, e4, e5, e6, e7, e8, e9, e10⟩ := bcells HP.out.1)
    | (go_at_call 11; refine (HCP.out _ HP.out.2).mono ?_; rintro e w2 ⟨a2, c2, rfl, hq2⟩; have HP2 : Hid (w2.heap[w.heap.size]? = some (bc b a c) ∧ Below w.heap.size w w2) := ⟨old_block hq2.out.2 HP.out.1, below_of HP.out.2 hq2.out.2⟩))
  refine (HEN.out w2 b a2 c2 HP2.out.2 hq2.out.1).mono ?_
  intro e w3 he3
  have HP3 : Hid (w3.heap[w.heap.size]? = some (bc b a c) ∧ Below w.heap.size w w3) := by
    rcases he3 with ⟨_, _, _, _, hq⟩ | ⟨_, _, hq⟩
    · exact ⟨old_block hq.out.2.2.2.2 HP2.out.1, below_of HP2.out.2 hq.out.2.2.2.2⟩
    · exact ⟨old_block hq.out HP2.out.1, below_of HP2.out.2 hq.out⟩
  unfold Enc9 at he3
  clear e0 e1 e2 e3 e4 e5 e6 e7 e8 e9 e10
  obtain ⟨e0, e1, e2, e3, e4, e5, e6, e7, e8, e9, e10⟩ := bcells HP3.out.1
  rcases he3 with ⟨hok, a3, c3, rfl, hq3⟩ | ⟨hok, rfl, hq3⟩
  · have h512 := H512.out hok
    have HBY2 := HBY.out hok
    have HBY3 : Hid (∀ W, Below w.heap.size w W → Calls Tryd.prog 15 #[bv b a c] W fun e w' => ∃ a' c', e = .returned (.slice a' (encB b).length c') ∧ Hid (Row w' a' (encB b) ∧ Below W.heap.size W w')) := HBY2
    have hsz : sizeB b = (encB b).length := if_pos hok
    rw [hok] at HRI
    rw [hsz] at HSZ
    rw [chk_ok hok] at HCK
    have HX3 : Hid (Row w3 a3 (encB b)) := hq3.out.1
    clear hok HBY HBY2 H512 hsz HEN hq3
    generalize encB b = E at HX3 HBY3 HSZ h512 ⊢
    go_wp2_with fail
    refine (HRI.out w3).mono ?_
    rintro e w4 ⟨rfl, hq4⟩
    clear e0 e1 e2 e3 e4 e5 e6 e7 e8 e9 e10
    obtain ⟨e0, e1, e2, e3, e4, e5, e6, e7, e8, e9, e10⟩ := bcells (old_block hq4.out HP3.out.1)
    go_wp2_with fail
    refine (HBY3.out w4 (below_of HP3.out.2 hq4.out)).mono ?_
    rintro e w5 ⟨a5, c5, rfl, hq5⟩
    have HP5 : Hid (w5.heap[w.heap.size]? = some (bc b a c) ∧ Below w.heap.size w w5 ∧ Below w3.heap.size w3 w5) := ⟨old_block (below_of hq4.out hq5.out.2) HP3.out.1, below_of (below_of HP3.out.2 hq4.out) hq5.out.2, below_of hq4.out hq5.out.2⟩
    clear e0 e1 e2 e3 e4 e5 e6 e7 e8 e9 e10
    obtain ⟨g0, g1, g2, g3, g4, g5, g6, g7, g8, g9, g10⟩ := bcells HP5.out.1
    go_wp2_with fail
    refine (HCP.out w5 HP5.out.2.1).mono ?_
    rintro e w6 ⟨a6, c6, rfl, hq6⟩
    go_wp2_with fail
    refine (HCK.out w6 a6 c6).mono ?_
    rintro e w7 ⟨rfl, hq7⟩
    go_wp2_with fail
    have hX7 : Below w5.heap.size w5 w7 := below_of hq6.out.2 hq7.out
    refine (rsame_any a3 a5 c3 c5 E E w7 (HX3.out.later (below_of HP5.out.2.2 hX7)) (hq5.out.1.later hX7)).mono ?_
    rw [decide_eq_true rfl]
    rintro e w8 ⟨rfl, n8, hn8⟩
    have HP8 : Hid (w8.heap[w.heap.size]? = some (bc b a c) ∧ Below w.heap.size w w8) := by
      have hX8 : Below w5.heap.size w5 w8 := by rw [hn8]; exact below_drewN hX7 n8
      exact ⟨old_block hX8 HP5.out.1, below_of HP5.out.2.1 hX8⟩
    clear g0 g1 g2 g3 g4 g5 g6 g7 g8 g9 g10 hX7 hn8
    obtain ⟨k0, k1, k2, k3, k4, k5, k6, k7, k8, k9, k10⟩ := bcells HP8.out.1
    go_wp2_with fail
    refine (HSZ.out w8 HP8.out.2).mono ?_
    rintro e w9 ⟨rfl, hq9⟩
    go_wp2
    go_ret
    exact ⟨ret_bool (decide_eq_true (by omega)), below_of HP8.out.2 hq9.out⟩
  · have hsz : sizeB b = 0 := if_neg (by rw [hok]; simp)
    rw [hok] at HRI
    rw [hsz] at HSZ
    rw [chk_no hok] at HCK
    clear hok HBY H512 hsz HEN
    go_wp2_with fail
    refine (HRI.out w3).mono ?_
    rintro e w4 ⟨rfl, hq4⟩
    have HP4 : Hid (w4.heap[w.heap.size]? = some (bc b a c) ∧ Below w.heap.size w w4) := ⟨old_block hq4.out HP3.out.1, below_of HP3.out.2 hq4.out⟩
    clear e0 e1 e2 e3 e4 e5 e6 e7 e8 e9 e10
    obtain ⟨g0, g1, g2, g3, g4, g5, g6, g7, g8, g9, g10⟩ := bcells HP4.out.1
    go_wp2_with fail
    refine (HCP.out w4 HP4.out.2).mono ?_
    rintro e w6 ⟨a6, c6, rfl, hq6⟩
    go_wp2_with fail
    refine (HCK.out w6 a6 c6).mono ?_
    rintro e w7 ⟨rfl, hq7⟩
    have HP7 : Hid (w7.heap[w.heap.size]? = some (bc b a c) ∧ Below w.heap.size w w7) := ⟨old_block (below_of hq6.out.2 hq7.out) HP4.out.1, below_of HP4.out.2 (below_of hq6.out.2 hq7.out)⟩
    clear g0 g1 g2 g3 g4 g5 g6 g7 g8 g9 g10
    obtain ⟨k0, k1, k2, k3, k4, k5, k6, k7, k8, k9, k10⟩ := bcells HP7.out.1
    go_wp2_with fail
    refine (HSZ.out w7 HP7.out.2).mono ?_
    rintro e w9 ⟨rfl, hq9⟩
    go_wp2
    go_ret
    exact ⟨rfl, below_of HP7.out.2 hq9.out⟩
theorem encs_any (V : List Nat → Bool) (TB : World → Prop) (hT : Txt V TB) (w : World) (b : Bn) (a : Option Addr) (c : Nat) (hw : TB w) (h1 : 1 < w.heap.size) (hb : Came w b a c) :
    Calls Tryd.prog 3 #[bv b a c] w fun e w' => e = .returned (.bool true) ∧ Hid (Below w.heap.size w w') := by
  by_cases h5 : 5000 < b.pay.length
  · exact encs_big V TB hT w b a c hw h1 hb h5
  · exact encs_small V TB hT w b a c hw h1 hb (by omega)
end Go.Proofs.YtjfmgokpnpmdpaaDoor
