/- The walk of BundleBits. -/
import Derived.Test.YtjfmgokpnpmdpaaDoorBCopy
import Derived.Deep.Cut
namespace Go.Proofs.YtjfmgokpnpmdpaaDoor
open Go.RowKit
set_option linter.unusedVariables false
set_option maxRecDepth 20000 in
set_option maxHeartbeats 8000000 in
theorem bits_big (V : List Nat → Bool) (TB : World → Prop) (hT : Txt V TB) (w : World) (b : Bn) (a : Option Addr) (c : Nat) (at0 : Int) (hw : TB w) (h1 : 1 < w.heap.size) (hb : Came w b a c) (hbig : 5000 < b.pay.length) :
    Calls Tryd.prog 8 #[bv b a c, .int .i64 at0] w fun e w' => e = .returned (.bool true) ∧ Hid (Below w.heap.size w w') := by
  have HB : Hid (∀ (w : World) (X : Obj), Below w.heap.size w (w.alloc X)) := fun w X => (Below.refl _ w).alloc (Nat.le_refl _) X
  have HWK : Hid (∀ X, Calls Tryd.prog 9 #[] (w.alloc X) fun e w' => e = .returned (.bool true) ∧ Hid (Below (w.alloc X).heap.size (w.alloc X) w')) := fun X => wakes_any V TB hT _ (hT.later _ _ hw (HB.out w X)) (by simp; omega)
  have hz1 := hb.fit.pay
  clear hT hw hb
  go_enter Tryd.func8, Tryd.ntmps8
  go_wp2_with (go_at_call 9; refine (HWK.out _).mono ?_; rintro e w1 ⟨rfl, hb1⟩; obtain ⟨e0, e1, e2, e3, e4, e5, e6, e7, e8, e9, e10⟩ := bcells (old_block hb1.out (heap_alloc_new w _)))
  go_ret
  exact ⟨rfl, below_of (HB.out w _) hb1.out⟩
theorem cells_set (m : List Nat) (q y : Nat) : cells (m.set q y) = (cells m).set q (Value.int .u8 (y : Nat)) := by
  unfold cells
  rw [List.map_set]
theorem byte_form (x r : Nat) (hx : x < 256) (hr : r < 8) : bits BinOp.xor IntKind.u8 (x : Int) (2 ^ r % 256) = ((x ^^^ 2 ^ r : Nat) : Int) := by
  have h1 : 2 ^ r < 256 := Nat.pow_lt_pow_right (by omega) hr
  have h2 : ((2 : Int) ^ r) % 256 = ((2 ^ r : Nat) : Int) := by
    have h3 : ((2 ^ r : Nat) : Int) = (2 : Int) ^ r := by simp
    rw [← h3]
    exact Int.emod_eq_of_lt (Int.natCast_nonneg _) (Int.ofNat_lt.2 h1)
  rw [h2]
  exact u8_xor_nat x (2 ^ r) hx h1
theorem bit_spot (at0 : Int) (n : Nat) (h : 0 < n) : ∃ k : Nat, max at0 0 % (8 * (n : Int)) = (k : Int) ∧ k < 8 * n := by
  have h1 : 0 ≤ max at0 0 % (8 * (n : Int)) := Int.emod_nonneg _ (by omega)
  have h2 := Int.emod_lt_of_pos (max at0 0) (show (0 : Int) < 8 * (n : Int) by omega)
  exact ⟨(max at0 0 % (8 * (n : Int))).toNat, (Int.toNat_of_nonneg h1).symm, by omega⟩
set_option maxRecDepth 20000 in
set_option maxHeartbeats 8000000 in
theorem bits_small (V : List Nat → Bool) (TB : World → Prop) (hT : Txt V TB) (w : World) (b : Bn) (a : Option Addr) (c : Nat) (at0 : Int) (hh : in64 at0) (hw : TB w) (h1 : 1 < w.heap.size) (hb : Came w b a c) (hs1 : b.pay.length ≤ 5000) :
    Calls Tryd.prog 8 #[bv b a c, .int .i64 at0] w fun e w' => e = .returned (.bool true) ∧ Hid (Below w.heap.size w w') := by
  have HB : Hid (∀ (w : World) (X : Obj), Below w.heap.size w (w.alloc X)) := fun w X => (Below.refl _ w).alloc (Nat.le_refl _) X
  have HWK : Hid (∀ X, Calls Tryd.prog 9 #[] (w.alloc X) fun e w' => e = .returned (.bool true) ∧ Hid (Below (w.alloc X).heap.size (w.alloc X) w')) := fun X => wakes_any V TB hT _ (hT.later _ _ hw (HB.out w X)) (by simp; omega)
  have HTB : Hid (∀ W, Below w.heap.size w W → TB W) := fun W hb => hT.later _ _ hw hb
  have HEN : Hid (∀ W, Below w.heap.size w W → Calls Tryd.prog 10 #[bv b a c] W fun e w' => Enc9 b W e w') := fun W hbw => encode9_any V TB hT b W a c hb.fit (HTB.out _ hbw) (hb.row.later hbw) hb.le hb.cap
  have HDE : Hid (∀ W ax cx l, Below w.heap.size w W → Row W ax l → l.length ≤ 9999 → Calls Tryd.prog 17 #[.slice ax l.length cx] W fun e w' => Dec9 V l W e w') := fun W ax cx l hb hx hl => decode9_any V TB hT W ax cx l (HTB.out _ hb) hx (by omega) (by have := hb.size; omega)
  have HCM : Hid (Came w b a c) := hb
  obtain ⟨ha1, ha2⟩ := hh
  clear hT hw hb
  go_enter Tryd.func8, Tryd.ntmps8
  go_wp2_with (go_at_call 9; refine (HWK.out _).mono ?_; rintro e w1 ⟨rfl, hb1⟩; have HP : Hid (w1.heap[w.heap.size]? = some (bc b a c) ∧ Below w.heap.size w w1) := ⟨old_block hb1.out (heap_alloc_new w _), below_of (HB.out w _) hb1.out⟩; obtain ⟨e0, e1, e2, e3, e4, e5, e6, e7, e8, e9, e10⟩ := bcells (old_block hb1.out (heap_alloc_new w _)))
  refine (HEN.out w1 HP.out.2).mono ?_
  intro e w2 he2
  unfold Enc9 at he2
  clear e0 e1 e2 e3 e4 e5 e6 e7 e8 e9 e10
  rcases he2 with ⟨hok, a2, c2, rfl, hq2⟩ | ⟨hok, rfl, hq2⟩
  · have hk := okB_of hok
    have hp0 : 0 < b.pay.length := by omega
    have hp4 : b.pay.length ≤ 400 := by omega
    clear hk
    have hl1 := encB_len b hok
    obtain ⟨k, hk1, hk2⟩ := bit_spot at0 b.pay.length hp0
    have e10 : w2.cell? ⟨w.heap.size, 10, none⟩ = some (.slice a b.pay.length c) := (bcells (old_block hq2.out.2.2.2.2 HP.out.1)).2.2.2.2.2.2.2.2.2.2
    have hLP : b.pay.length + 4 ≤ (encB b).length := by
      have e0 : encB b = preT (seal16 (firstB b)) b.hop.toNat (seal32 b.pay).length ++ seal32 b.pay := enc_pre _ _ _
      rw [e0, List.length_append, seal32_length]; omega
    obtain ⟨g, cc, hv, _, _⟩ := hq2.out.2.2.2.1.form (by omega)
    cases hv
    obtain ⟨q, hq⟩ : ∃ q, (encB b).length - 4 - b.pay.length + k / 8 = q := ⟨_, rfl⟩
    have hqL : q < (encB b).length := by omega
    have HCELL : Hid (w2.cell? ⟨g, q, none⟩ = some (.int .u8 ((encB b).getD q 0 : Nat))) := by
      show _ = _
      rw [hq2.out.2.2.2.1.cellAt q (by rw [Nat.mul_one]; exact hqL)]
      unfold cells
      rw [List.getElem?_map, List.getD_eq_getElem?_getD, List.getElem?_eq_getElem hqL]
      rfl
    have HFR : Hid (w2.frozen? ⟨g, q, none⟩ = false) := hq2.out.2.2.2.1.frozenAt q
    have HQI : Hid ((((encB b).length : Int) - 4 - (b.pay.length : Int)) + (k : Int) / 8 = (q : Int)) := by show _ = _; omega
    have HK1 : Hid (max at0 0 % (8 * (b.pay.length : Int)) = (k : Int)) := hk1
    have HQ : Hid ((encB b).length - 4 - b.pay.length + k / 8 = q) := hq
    clear hk1 hq
    go_upto_region 8 with fail
    go_cut [7] from 23 (fun s wc => s = .int .i64 k ∧ wc = w2)
    case first =>
      by_cases h0 : at0 < 0
      · have hk0 : Hid (k = 0) := by
          have := HK1.out
          rw [show max at0 0 = 0 by omega, Int.zero_emod] at this
          show k = 0
          omega
        go_wp2
        all_goals go_meet
        all_goals (case rel => exact ⟨by rw [hk0.out]; rfl, rfl⟩)
      · have hk0 : Hid (at0 % (8 * (b.pay.length : Int)) = k) := by
          have := HK1.out
          rw [show max at0 0 = at0 by omega] at this
          exact this
        go_wp2
        all_goals go_meet
        all_goals (case rel => exact ⟨congrArg _ hk0.out, rfl⟩)
    case rest =>
      obtain ⟨rfl, rfl⟩ := hcut
      have hx8 : (encB b).getD q 0 < 256 := getD_lt hq2.out.1.1 q
      have HBF := byte_form ((encB b).getD q 0) (k % 8) hx8 (Nat.mod_lt _ (by omega))
      have HOW : Hid ((wc.setCell ⟨g, q, none⟩ (.int .u8 (bits BinOp.xor IntKind.u8 (((encB b).getD q 0 : Nat) : Int) (2 ^ (k % 8) % 256)))).ownsRow w1.heap.size 5 1 (.slice (some ⟨g, 0, none⟩) (encB b).length c2) (encB b).length (cells (turn1 (encB b) q (k % 8)))) := by
        show World.ownsRow _ _ _ _ _ _ _
        unfold turn1
        rw [HBF, cells_set]
        exact (hq2.out.2.2.2.1.stored q _).1
      have HBW : Hid (∀ v, Below w.heap.size w (wc.setCell ⟨g, q, none⟩ v)) := fun v => (below_of HP.out.2 hq2.out.2.2.2.2).setCell (p := ⟨g, q, none⟩) (Nat.le_trans HP.out.2.size (own_ge hq2.out.2.2.2.1 g rfl)) v
      have HDT : Hid ((decBn V (turn1 (encB b) q (k % 8))).1 = 130) := by
        show _ = _
        rw [← HQ.out]
        exact dec_turned V b hok HCM.out.row.1 (k / 8) (k % 8) (by omega) (Nat.mod_lt _ (by omega))
      have HTL : Hid ((turn1 (encB b) q (k % 8)).length = (encB b).length) := turn1_len _ _ _
      have HTB2 : Hid (∀ x ∈ turn1 (encB b) q (k % 8), x < 256) := turn1_byte hq2.out.1.1 q (k % 8) (Nat.mod_lt _ (by omega))
      have hcell := HCELL.out
      have hfr := HFR.out
      have hqi := HQI.out
      clear HBF hok
      generalize turn1 (encB b) q (k % 8) = M at HOW HDT HTL HTB2
      generalize (encB b).getD q 0 = x at hcell hx8 HOW
      go_wp2_with fail
      go_region
      have HD6 : Hid (∀ v, v = bits BinOp.xor IntKind.u8 (x : Int) (2 ^ (k % 8) % 256) → Calls Tryd.prog 17 #[.slice (some ⟨g, 0, none⟩) (encB b).length c2] (wc.setCell ⟨g, q, none⟩ (.int .u8 v)).drew fun e w' => e = .returned (.tuple #[bv zeroB none 0, .int .i64 130]) ∧ Hid (Below w.heap.size w w')) := fun v hv => by
        subst hv
        obtain ⟨r6, _, _⟩ := own_some HOW.out HTB2.out (by rw [HTL.out]; unfold maxLen; omega)
        have h7 := HDE.out (wc.setCell ⟨g, q, none⟩ (.int .u8 (bits BinOp.xor IntKind.u8 (x : Int) (2 ^ (k % 8) % 256)))).drew (some ⟨g, 0, none⟩) c2 M (HBW.out _).drew (r6.later ((Below.refl _ _).drew)) (by rw [HTL.out]; omega)
        rw [HTL.out] at h7
        refine h7.mono ?_
        unfold Dec9
        rw [HDT.out]
        rintro e w' (⟨hno, _⟩ | ⟨_, rfl, hq⟩)
        · cases hno
        · exact ⟨rfl, below_of (HBW.out _).drew hq.out⟩
      go_wp2_with (go_at_call 17; refine (HD6.out _ rfl).mono ?_; rintro e w6 ⟨rfl, hb6⟩)
      go_ret
      exact ⟨rfl, below_of hb6.out (HB.out w6 _)⟩
  · clear hok
    go_wp2
    go_ret
    exact ⟨rfl, below_of HP.out.2 hq2.out⟩
theorem bits_any (V : List Nat → Bool) (TB : World → Prop) (hT : Txt V TB) (w : World) (b : Bn) (a : Option Addr) (c : Nat) (at0 : Int) (hh : -9223372036854775808 ≤ at0 ∧ at0 ≤ 9223372036854775807) (hw : TB w) (h1 : 1 < w.heap.size) (hb : Came w b a c) :
    Calls Tryd.prog 8 #[bv b a c, .int .i64 at0] w fun e w' => e = .returned (.bool true) ∧ Hid (Below w.heap.size w w') := by
  by_cases h5 : 5000 < b.pay.length
  · exact bits_big V TB hT w b a c at0 hw h1 hb h5
  · exact bits_small V TB hT w b a c at0 hh hw h1 hb (by omega)
end Go.Proofs.YtjfmgokpnpmdpaaDoor
