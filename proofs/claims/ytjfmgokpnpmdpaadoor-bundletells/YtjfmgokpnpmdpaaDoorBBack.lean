/- The walk of BundleBack. -/
import Derived.Test.YtjfmgokpnpmdpaaDoorBWakes
import Derived.Test.YtjfmgokpnpmdpaaDoorBSame
namespace Go.Proofs.YtjfmgokpnpmdpaaDoor
open Go.RowKit
set_option linter.unusedVariables false
/-- what came in as a bundle. -/
structure Came (w : World) (b : Bn) (a : Option Addr) (c : Nat) : Prop where
  fit : Bz b
  row : Row w a b.pay
  le : b.pay.length ≤ c
  cap : c ≤ maxLen
theorem encB_len (b : Bn) (h : okB b = true) : (encB b).length ≤ 600 := by
  have h1 := firstB_len b
  have h2 := okB_of h
  have h3 := hd_len
  unfold encB itemB
  rw [enc_tri]
  have a1 := h3 4 3
  have a2 := h3 2 (seal16 (firstB b)).length
  have a3 := h3 0 b.hop.toNat
  have a4 := h3 2 (seal32 b.pay).length
  have a5 := seal16_length (firstB b)
  have a6 := seal32_length b.pay
  simp only [List.length_append]
  omega
theorem Came.later {w w' : World} {b : Bn} {a : Option Addr} {c : Nat} (h : Came w b a c) (hb : Below w.heap.size w w') : Came w' b a c := ⟨h.fit, h.row.later hb, h.le, h.cap⟩
set_option maxRecDepth 20000 in
set_option maxHeartbeats 8000000 in
theorem back9_big (V : List Nat → Bool) (TB : World → Prop) (hT : Txt V TB) (w : World) (b : Bn) (a : Option Addr) (c : Nat) (raw : List Nat) (ar : Option Addr) (cr : Nat) (hw : TB w) (h1 : 1 < w.heap.size) (hb : Came w b a c) (hr : Row w ar raw) (hbig : 5000 < b.pay.length ∨ 5000 < raw.length) :
    Calls Tryd.prog 6 #[bv b a c, .slice ar raw.length cr] w fun e w' => e = .returned (.bool true) ∧ Hid (Below w.heap.size w w') := by
  have HB : Hid (∀ (w : World) (X : Obj), Below w.heap.size w (w.alloc X)) := fun w X => (Below.refl _ w).alloc (Nat.le_refl _) X
  have HWK : Hid (∀ X, Calls Tryd.prog 9 #[] (w.alloc X) fun e w' => e = .returned (.bool true) ∧ Hid (Below (w.alloc X).heap.size (w.alloc X) w')) := fun X => wakes_any V TB hT _ (hT.later _ _ hw (HB.out w X)) (by simp; omega)
  have hz1 := hb.fit.pay
  have hz2 := hr.2.1
  unfold maxLen at hz2
  clear hT hw hr hb
  by_cases h5 : 5000 < b.pay.length
  · have h5b : decide ((5000 : Int) < (b.pay.length : Int)) = true := decide_eq_true (by omega)
    clear hbig
    go_enter Tryd.func6, Tryd.ntmps6
    go_wp2_with (go_at_call 9; refine (HWK.out _).mono ?_; rintro e w1 ⟨rfl, hb1⟩; obtain ⟨e0, e1, e2, e3, e4, e5, e6, e7, e8, e9, e10⟩ := bcells (old_block hb1.out (heap_alloc_new w _)))
    go_ret
    exact ⟨rfl, below_of (HB.out w _) hb1.out⟩
  · have h6 : 5000 < raw.length := hbig.resolve_left h5
    clear hbig
    go_enter Tryd.func6, Tryd.ntmps6
    go_wp2_with (go_at_call 9; refine (HWK.out _).mono ?_; rintro e w1 ⟨rfl, hb1⟩; obtain ⟨e0, e1, e2, e3, e4, e5, e6, e7, e8, e9, e10⟩ := bcells (old_block hb1.out (heap_alloc_new w _)))
    go_ret
    exact ⟨rfl, below_of (HB.out w _) hb1.out⟩
set_option maxRecDepth 20000 in
set_option maxHeartbeats 8000000 in
theorem back9_small (V : List Nat → Bool) (TB : World → Prop) (hT : Txt V TB) (w : World) (b : Bn) (a : Option Addr) (c : Nat) (raw : List Nat) (ar : Option Addr) (cr : Nat) (hw : TB w) (h1 : 1 < w.heap.size) (hb : Came w b a c) (hr : Row w ar raw) (hs1 : b.pay.length ≤ 5000) (hs2 : raw.length ≤ 5000) :
    Calls Tryd.prog 6 #[bv b a c, .slice ar raw.length cr] w fun e w' => e = .returned (.bool true) ∧ Hid (Below w.heap.size w w') := by
  have HB : Hid (∀ (w : World) (X : Obj), Below w.heap.size w (w.alloc X)) := fun w X => (Below.refl _ w).alloc (Nat.le_refl _) X
  have HWK : Hid (∀ X, Calls Tryd.prog 9 #[] (w.alloc X) fun e w' => e = .returned (.bool true) ∧ Hid (Below (w.alloc X).heap.size (w.alloc X) w')) := fun X => wakes_any V TB hT _ (hT.later _ _ hw (HB.out w X)) (by simp; omega)
  have HTB : Hid (∀ W, Below w.heap.size w W → TB W) := fun W hb => hT.later _ _ hw hb
  have HEN : Hid (∀ W y ay cy, Below w.heap.size w W → Came W y ay cy → Calls Tryd.prog 10 #[bv y ay cy] W fun e w' => Enc9 y W e w') := fun W y ay cy hb hy => encode9_any V TB hT y W ay cy hy.fit (HTB.out _ hb) hy.row hy.le hy.cap
  have HDE : Hid (∀ W ax cx l, Below w.heap.size w W → Row W ax l → l.length ≤ 9999 → Calls Tryd.prog 17 #[.slice ax l.length cx] W fun e w' => Dec9 V l W e w') := fun W ax cx l hb hx hl => decode9_any V TB hT W ax cx l (HTB.out _ hb) hx (by omega) (by have := hb.size; omega)
  have HR : Hid (Row w ar raw) := hr
  have HCM : Hid (Came w b a c) := hb
  clear hT hw hr hb
  go_enter Tryd.func6, Tryd.ntmps6
  go_wp2_with (go_at_call 9; refine (HWK.out _).mono ?_; rintro e w1 ⟨rfl, hb1⟩; have HP : Hid (w1.heap[w.heap.size]? = some (bc b a c) ∧ Below w.heap.size w w1) := ⟨old_block hb1.out (heap_alloc_new w _), below_of (HB.out w _) hb1.out⟩; obtain ⟨e0, e1, e2, e3, e4, e5, e6, e7, e8, e9, e10⟩ := bcells (old_block hb1.out (heap_alloc_new w _)))
  refine (HEN.out w1 b a c HP.out.2 (HCM.out.later HP.out.2)).mono ?_
  intro e w2 he2
  unfold Enc9 at he2
  rcases he2 with ⟨hok, a2, c2, rfl, hq2⟩ | ⟨hok, rfl, hq2⟩
  · have HDB : Hid (Calls Tryd.prog 17 #[.slice a2 (encB b).length c2] w2 fun e w' => ∃ a3 c3, e = .returned (.tuple #[bv b a3 c3, .int .i64 0]) ∧ Hid (Row w' a3 b.pay ∧ Below w2.heap.size w2 w')) := by
      have hl := encB_len b hok
      refine (HDE.out w2 a2 c2 (encB b) (below_of HP.out.2 hq2.out.2.2.2.2) hq2.out.1 (by omega)).mono ?_
      unfold Dec9
      rw [dec_encB V b hok HCM.out.fit.seq HCM.out.row.1]
      rintro e w' (⟨_, a3, c3, rfl, hq⟩ | ⟨hno, _⟩)
      · exact ⟨a3, c3, rfl, hq.out.1, hq.out.2.2.2.2⟩
      · rcases hno with h | h <;> cases h
    clear e0 e1 e2 e3 e4 e5 e6 e7 e8 e9 e10
    clear hok
    have HSM : Hid (∀ W a3 c3, Below w.heap.size w W → Row W a3 b.pay → Calls Tryd.prog 20 #[bv b a3 c3, bv b a c] W fun e w' => e = .returned (.bool true) ∧ Hid (Below W.heap.size W w')) := fun W a3 c3 hb h3 => by
      have h8 := same9_any b b a3 a c3 c W h3 (HCM.out.row.later hb); rw [sameB_self] at h8; exact h8
    go_wp2_with fail
    refine HDB.out.mono ?_
    rintro e w3 ⟨a3, c3, rfl, hq3⟩
    have HB3 : Hid (Below w.heap.size w w3) := below_of (below_of HP.out.2 hq2.out.2.2.2.2) hq3.out.2
    have g9 := (fun X => bcells (old_block (below_of (below_of hq2.out.2.2.2.2 hq3.out.2) (HB.out w3 X)) HP.out.1))
    have e0 := (fun X => (g9 X).1)
    have e1 := (fun X => (g9 X).2.1)
    have e2 := (fun X => (g9 X).2.2.1)
    have e3 := (fun X => (g9 X).2.2.2.1)
    have e4 := (fun X => (g9 X).2.2.2.2.1)
    have e5 := (fun X => (g9 X).2.2.2.2.2.1)
    have e6 := (fun X => (g9 X).2.2.2.2.2.2.1)
    have e7 := (fun X => (g9 X).2.2.2.2.2.2.2.1)
    have e8 := (fun X => (g9 X).2.2.2.2.2.2.2.2.1)
    have e9 := (fun X => (g9 X).2.2.2.2.2.2.2.2.2.1)
    have e10 := (fun X => (g9 X).2.2.2.2.2.2.2.2.2.2)
    clear g9
    go_wp2_with fail
    refine (HSM.out _ a3 c3 (below_of HB3.out (HB.out w3 _)) (hq3.out.1.later (HB.out w3 _))).mono ?_
    rintro e w4 ⟨rfl, hq4⟩
    clear e0 e1 e2 e3 e4 e5 e6 e7 e8 e9 e10
    go_wp2_with fail
    refine (HDE.out _ ar cr raw (below_of (below_of HB3.out (HB.out w3 _)) hq4.out) (HR.out.later (below_of (below_of HB3.out (HB.out w3 _)) hq4.out)) (by omega)).mono ?_
    intro e w5 he5
    have HB5 : Hid (∀ W, Below w5.heap.size w5 W → Below w.heap.size w W) := fun W h => by
      rcases he5 with ⟨_, _, _, _, hq⟩ | ⟨_, _, hq⟩
      · exact below_of (below_of (below_of (below_of HB3.out (HB.out w3 _)) hq4.out) hq.out.2.2.2.2) h
      · exact below_of (below_of (below_of (below_of HB3.out (HB.out w3 _)) hq4.out) hq.out) h
    unfold Dec9 at he5
    rcases he5 with ⟨h0, a5, c5, rfl, hq5⟩ | ⟨hc, rfl, hq5⟩
    · obtain ⟨hok5, henc5⟩ := enc_decB V raw h0
      have HC5 : Hid (Came w5 (decBn V raw).2 a5 c5) := ⟨hq5.out.2.2.2.1, hq5.out.1, hq5.out.2.1, hq5.out.2.2.1⟩
      clear h0 hq5
      generalize (decBn V raw).2 = y at hok5 henc5 HC5 ⊢
      have HE6 : Hid (∀ X, Calls Tryd.prog 10 #[bv y a5 c5] (w5.alloc X) fun e w' => ∃ a6 c6, e = .returned (.tuple #[.slice a6 raw.length c6, .int .i64 0]) ∧ Hid (Row w' a6 raw ∧ Below (w5.alloc X).heap.size (w5.alloc X) w')) := fun X => by
        refine (HEN.out _ y a5 c5 (HB5.out _ (HB.out w5 X)) (HC5.out.later (HB.out w5 X))).mono ?_
        unfold Enc9
        rw [henc5]
        rintro e w' (⟨_, a6, c6, rfl, hq⟩ | ⟨hno, _⟩)
        · exact ⟨a6, c6, rfl, hq.out.1, hq.out.2.2.2.2⟩
        · rw [hok5] at hno; cases hno
      clear hok5 henc5
      go_wp2_with (first
        | (go_at_call 24; refine (equal_any a6 ar c6 cr raw raw _ hq6.out.1 (HR.out.later (below_of (HB5.out _ (HB.out w5 _)) hq6.out.2))).mono ?_; rw [decide_eq_true rfl]; rintro e w7 ⟨rfl, rfl⟩)
        | (go_at_call 10; refine (HE6.out _).mono ?_; rintro e w6 ⟨a6, c6, rfl, hq6⟩))
      go_ret
      exact ⟨rfl, below_of (HB5.out _ (HB.out w5 _)) hq6.out.2⟩
    · have hne : ((decBn V raw).1 != 0) = true := by rcases hc with h | h <;> rw [h] <;> rfl
      generalize (decBn V raw).1 = E at hne ⊢
      clear hc
      have HS6 : Hid (∀ W, Calls Tryd.prog 20 #[bv zeroB none 0, bv zeroB none 0] W fun e w' => e = .returned (.bool true) ∧ Hid (Below W.heap.size W w')) := fun W => by
        have h8 := same9_any zeroB zeroB none none 0 0 W (row_nil _ _) (row_nil _ _); rw [sameB_self] at h8; exact h8
      go_wp2_with (go_at_call 20; refine (HS6.out _).mono ?_; rintro e w6 ⟨rfl, hq6⟩)
      go_ret
      exact ⟨rfl, below_of (HB5.out _ (HB.out w5 _)) hq6.out⟩
  · clear hok
    go_wp2_with fail
    refine (HDE.out _ ar cr raw (below_of HP.out.2 hq2.out) (HR.out.later (below_of HP.out.2 hq2.out)) (by omega)).mono ?_
    intro e w5 he5
    have HB5 : Hid (∀ W, Below w5.heap.size w5 W → Below w.heap.size w W) := fun W h => by
      rcases he5 with ⟨_, _, _, _, hq⟩ | ⟨_, _, hq⟩
      · exact below_of (below_of (below_of HP.out.2 hq2.out) hq.out.2.2.2.2) h
      · exact below_of (below_of (below_of HP.out.2 hq2.out) hq.out) h
    unfold Dec9 at he5
    rcases he5 with ⟨h0, a5, c5, rfl, hq5⟩ | ⟨hc, rfl, hq5⟩
    · obtain ⟨hok5, henc5⟩ := enc_decB V raw h0
      have HC5 : Hid (Came w5 (decBn V raw).2 a5 c5) := ⟨hq5.out.2.2.2.1, hq5.out.1, hq5.out.2.1, hq5.out.2.2.1⟩
      clear h0 hq5
      generalize (decBn V raw).2 = y at hok5 henc5 HC5 ⊢
      have HE6 : Hid (∀ X, Calls Tryd.prog 10 #[bv y a5 c5] (w5.alloc X) fun e w' => ∃ a6 c6, e = .returned (.tuple #[.slice a6 raw.length c6, .int .i64 0]) ∧ Hid (Row w' a6 raw ∧ Below (w5.alloc X).heap.size (w5.alloc X) w')) := fun X => by
        refine (HEN.out _ y a5 c5 (HB5.out _ (HB.out w5 X)) (HC5.out.later (HB.out w5 X))).mono ?_
        unfold Enc9
        rw [henc5]
        rintro e w' (⟨_, a6, c6, rfl, hq⟩ | ⟨hno, _⟩)
        · exact ⟨a6, c6, rfl, hq.out.1, hq.out.2.2.2.2⟩
        · rw [hok5] at hno; cases hno
      clear hok5 henc5
      go_wp2_with (first
        | (go_at_call 24; refine (equal_any a6 ar c6 cr raw raw _ hq6.out.1 (HR.out.later (below_of (HB5.out _ (HB.out w5 _)) hq6.out.2))).mono ?_; rw [decide_eq_true rfl]; rintro e w7 ⟨rfl, rfl⟩)
        | (go_at_call 10; refine (HE6.out _).mono ?_; rintro e w6 ⟨a6, c6, rfl, hq6⟩))
      go_ret
      exact ⟨rfl, below_of (HB5.out _ (HB.out w5 _)) hq6.out.2⟩
    · have hne : ((decBn V raw).1 != 0) = true := by rcases hc with h | h <;> rw [h] <;> rfl
      generalize (decBn V raw).1 = E at hne ⊢
      clear hc
      have HS6 : Hid (∀ W, Calls Tryd.prog 20 #[bv zeroB none 0, bv zeroB none 0] W fun e w' => e = .returned (.bool true) ∧ Hid (Below W.heap.size W w')) := fun W => by
        have h8 := same9_any zeroB zeroB none none 0 0 W (row_nil _ _) (row_nil _ _); rw [sameB_self] at h8; exact h8
      go_wp2_with (go_at_call 20; refine (HS6.out _).mono ?_; rintro e w6 ⟨rfl, hq6⟩)
      go_ret
      exact ⟨rfl, below_of (HB5.out _ (HB.out w5 _)) hq6.out⟩
theorem back9_any (V : List Nat → Bool) (TB : World → Prop) (hT : Txt V TB) (w : World) (b : Bn) (a : Option Addr) (c : Nat) (raw : List Nat) (ar : Option Addr) (cr : Nat) (hw : TB w) (h1 : 1 < w.heap.size) (hb : Came w b a c) (hr : Row w ar raw) :
    Calls Tryd.prog 6 #[bv b a c, .slice ar raw.length cr] w fun e w' => e = .returned (.bool true) ∧ Hid (Below w.heap.size w w') := by
  by_cases h5 : 5000 < b.pay.length ∨ 5000 < raw.length
  · exact back9_big V TB hT w b a c raw ar cr hw h1 hb hr h5
  · exact back9_small V TB hT w b a c raw ar cr hw h1 hb hr (by omega) (by omega)
end Go.Proofs.YtjfmgokpnpmdpaaDoor
