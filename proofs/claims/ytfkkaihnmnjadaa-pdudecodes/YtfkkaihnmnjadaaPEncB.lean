/- pdu.Encode: the others. -/
import Derived.Test.YtfkkaihnmnjadaaPEnc
namespace Go.Proofs.Ytfkkaihnmnjadaa
open Go.RowKit
set_option linter.unusedVariables false
set_option maxRecDepth 20000 in
set_option maxHeartbeats 8000000 in
theorem enc_2 (num : Nat) (z : Nat) (bts : List Nat) (a : Option Addr) (c : Nat) (w : World) (hc : Came w (⟨2, num, ⟨#[]⟩, 0, ((z : Nat) : Int), 0, 0, bts⟩ : Ms) a c) (hok : okM (⟨2, num, ⟨#[]⟩, 0, ((z : Nat) : Int), 0, 0, bts⟩ : Ms) = true) (hn : num < 4294967296) (hb1 : bts.length ≤ 256) (hb2 : z ≤ 4096) : Calls Try.prog 9 #[mv (⟨2, num, ⟨#[]⟩, 0, ((z : Nat) : Int), 0, 0, bts⟩ : Ms) a c] w fun e w' => EncY (⟨2, num, ⟨#[]⟩, 0, ((z : Nat) : Int), 0, 0, bts⟩ : Ms) w e w' := by
  have HB : Hid (∀ (w : World) (X : Obj), Below w.heap.size w (w.alloc X)) := fun w X => (Below.refl _ w).alloc (Nat.le_refl _) X
  have HCK : Hid (∀ X, Calls Try.prog 12 #[mv (⟨2, num, ⟨#[]⟩, 0, ((z : Nat) : Int), 0, 0, bts⟩ : Ms) a c] (w.alloc X) fun e w' => e = .returned (.int .i64 0) ∧ Hid (Below (w.alloc X).heap.size (w.alloc X) w')) := fun X => by
    have := check_any (⟨2, num, ⟨#[]⟩, 0, ((z : Nat) : Int), 0, 0, bts⟩ : Ms) a c (w.alloc X) (hc.later (HB.out w X))
    rw [chk_ok hok] at this
    exact this
  have HF : ∀ W, Calls Try.prog 20 #[.int .i64 2] W fun e w' => e = .returned (.int .u8 36) ∧ W = w' := fun W => fieldsOf_any 2 W
  have H32 : Hid (∀ W : World, Calls Try.prog 21 #[.slice (some ⟨W.heap.size, 0, none⟩) 1 1, .int .u32 num] (W.alloc (.cells #[.int .u8 2] 5)) fun e w' => ∃ g', e = .returned (.slice (some ⟨g', 0, none⟩) 5 5) ∧ Hid (Bd W.heap.size w' g' 5 5 (2 :: be num 4) ∧ Below W.heap.size W w')) := fun W => first32 W 2 num (by omega) hn
  have HR : Hid (Row w a bts) := hc.row
  have q1 : hsI 36 1 = false := by decide
  have q2 : hsI 36 2 = false := by decide
  have q4 : hsI 36 4 = true := by decide
  have q8 : hsI 36 8 = false := by decide
  have q16 : hsI 36 16 = false := by decide
  have q32 : hsI 36 32 = true := by decide
  clear hc hok
  go_enter Try.func9, Try.ntmps9
  go_wp2_with (first
    | (at_builtin; refine wpList_append_some rfl _ _ rfl w1.heap.size g2 (5 + 2 + 2) (((2 :: be num 4) ++ be (z) 2) ++ be (bts.length) 2) (5 + 2 + 2) bts.length rfl HZ2.out.1.own a c bts rfl rfl (HR.out.later (below_of HW1.out HZ2.out.2)) (by omega) HZ2.out.1.base ?_; intro g3 c3 wz3 ho hg hle; have HZ3 : Hid (Bd w1.heap.size wz3 g3 (5 + 2 + 2 + bts.length) c3 ((((2 :: be num 4) ++ be (z) 2) ++ be (bts.length) 2) ++ bts) ∧ Below w1.heap.size w1 wz3) := (fun t => ⟨t.1, HZ2.out.2.trans t.2⟩) (HZ2.out.1.next (Below.refl _ _) ho hg HR.out.1 rfl); clear ho hg hle; obtain ⟨e30, e31, e32, e33, e34, e35, e36, e37⟩ := mcells (m := (⟨2, num, ⟨#[]⟩, 0, ((z : Nat) : Int), 0, 0, bts⟩ : Ms)) (old_block HZ3.out.2 HP1.out); simp only at e30 e31 e32 e33 e34 e35 e36 e37)
    | (go_at_call 23; refine (put16B w1.heap.size wz1 g1 (5 + 2) (5 + 2) (bts.length) ((2 :: be num 4) ++ be (z) 2) HZ1.out.1 (by omega) (by omega)).mono ?_; rintro e wz2 ⟨g2, rfl, hq⟩; have HZ2 : Hid (Bd w1.heap.size wz2 g2 (5 + 2 + 2) (5 + 2 + 2) (((2 :: be num 4) ++ be (z) 2) ++ be (bts.length) 2) ∧ Below w1.heap.size w1 wz2) := ⟨hq.out.1, HZ1.out.2.trans hq.out.2⟩; clear hq; obtain ⟨e20, e21, e22, e23, e24, e25, e26, e27⟩ := mcells (m := (⟨2, num, ⟨#[]⟩, 0, ((z : Nat) : Int), 0, 0, bts⟩ : Ms)) (old_block HZ2.out.2 HP1.out); simp only at e20 e21 e22 e23 e24 e25 e26 e27)
    | (go_at_call 23; refine (put16B w1.heap.size wz0 g0 (5) 5 (z) (2 :: be num 4) HZ0.out.1 (by omega) (by omega)).mono ?_; rintro e wz1 ⟨g1, rfl, hq⟩; have HZ1 : Hid (Bd w1.heap.size wz1 g1 (5 + 2) (5 + 2) ((2 :: be num 4) ++ be (z) 2) ∧ Below w1.heap.size w1 wz1) := ⟨hq.out.1, HZ0.out.2.trans hq.out.2⟩; clear hq; obtain ⟨e10, e11, e12, e13, e14, e15, e16, e17⟩ := mcells (m := (⟨2, num, ⟨#[]⟩, 0, ((z : Nat) : Int), 0, 0, bts⟩ : Ms)) (old_block HZ1.out.2 HP1.out); simp only at e10 e11 e12 e13 e14 e15 e16 e17)
    | (go_at_call 21; refine (H32.out w1).mono ?_; rintro e wz0 ⟨g0, rfl, HZ0⟩; obtain ⟨e00, e01, e02, e03, e04, e05, e06, e07⟩ := mcells (m := (⟨2, num, ⟨#[]⟩, 0, ((z : Nat) : Int), 0, 0, bts⟩ : Ms)) (old_block HZ0.out.2 HP1.out); simp only at e00 e01 e02 e03 e04 e05 e06 e07; clear e0 e1 e2 e3 e4 e5 e6 e7 f1)
    | (go_at_call 22; refine (has_any _ _ _).mono ?_; rintro e wf ⟨rfl, rfl⟩)
    | (go_at_call 20; refine (HF _).mono ?_; rintro e wf ⟨rfl, rfl⟩)
    | (go_at_call 12; refine (HCK.out _).mono ?_; rintro e w1 ⟨rfl, hb1c⟩; have HP1 : Hid (w1.heap[w.heap.size]? = some (mc (⟨2, num, ⟨#[]⟩, 0, ((z : Nat) : Int), 0, 0, bts⟩ : Ms) a c)) := old_block hb1c.out (heap_alloc_new w _); have HW1 : Hid (Below w.heap.size w w1) := below_of (HB.out _ _) hb1c.out; obtain ⟨e0, e1, e2, e3, e4, e5, e6, e7⟩ := mcells (m := (⟨2, num, ⟨#[]⟩, 0, ((z : Nat) : Int), 0, 0, bts⟩ : Ms)) HP1.out; simp only at e0 e1 e2 e3 e4 e5 e6 e7; have f1 : ∀ A, (w1.alloc A).cell? ⟨w.heap.size, 1, none⟩ = some (.int .u32 (num : Nat)) := fun A => cell_later (HB.out _ _) e1; clear hb1c)
    )
  go_ret2
  exact enc_end HW1.out HZ3.out (by simp [encM, opt, encBytes, show fld 2 = 36 from rfl, hs])
set_option maxRecDepth 20000 in
set_option maxHeartbeats 8000000 in
theorem enc_5 (num : Nat) (nam : ByteArray) (bts : List Nat) (a : Option Addr) (c : Nat) (w : World) (hc : Came w (⟨5, num, nam, 0, 0, 0, 0, bts⟩ : Ms) a c) (hok : okM (⟨5, num, nam, 0, 0, 0, 0, bts⟩ : Ms) = true) (hn : num < 4294967296) (hb1 : nam.size ≤ 24) (hb2 : bts.length ≤ 256) : Calls Try.prog 9 #[mv (⟨5, num, nam, 0, 0, 0, 0, bts⟩ : Ms) a c] w fun e w' => EncY (⟨5, num, nam, 0, 0, 0, 0, bts⟩ : Ms) w e w' := by
  have HB : Hid (∀ (w : World) (X : Obj), Below w.heap.size w (w.alloc X)) := fun w X => (Below.refl _ w).alloc (Nat.le_refl _) X
  have HCK : Hid (∀ X, Calls Try.prog 12 #[mv (⟨5, num, nam, 0, 0, 0, 0, bts⟩ : Ms) a c] (w.alloc X) fun e w' => e = .returned (.int .i64 0) ∧ Hid (Below (w.alloc X).heap.size (w.alloc X) w')) := fun X => by
    have := check_any (⟨5, num, nam, 0, 0, 0, 0, bts⟩ : Ms) a c (w.alloc X) (hc.later (HB.out w X))
    rw [chk_ok hok] at this
    exact this
  have HF : ∀ W, Calls Try.prog 20 #[.int .i64 5] W fun e w' => e = .returned (.int .u8 33) ∧ W = w' := fun W => fieldsOf_any 5 W
  have H32 : Hid (∀ W : World, Calls Try.prog 21 #[.slice (some ⟨W.heap.size, 0, none⟩) 1 1, .int .u32 num] (W.alloc (.cells #[.int .u8 5] 5)) fun e w' => ∃ g', e = .returned (.slice (some ⟨g', 0, none⟩) 5 5) ∧ Hid (Bd W.heap.size w' g' 5 5 (5 :: be num 4) ∧ Below W.heap.size W w')) := fun W => first32 W 5 num (by omega) hn
  have HR : Hid (Row w a bts) := hc.row
  have q1 : hsI 33 1 = true := by decide
  have q2 : hsI 33 2 = false := by decide
  have q4 : hsI 33 4 = false := by decide
  have q8 : hsI 33 8 = false := by decide
  have q16 : hsI 33 16 = false := by decide
  have q32 : hsI 33 32 = true := by decide
  clear hc hok
  go_enter Try.func9, Try.ntmps9
  go_wp2_with (first
    | (at_builtin; refine wpList_append_some rfl _ _ rfl w1.heap.size g3 (5 + 1 + nam.size + 2) ((((5 :: be num 4) ++ [nam.size]) ++ nbytes nam) ++ be (bts.length) 2) (5 + 1 + nam.size + 2) bts.length rfl HZ3.out.1.own a c bts rfl rfl (HR.out.later (below_of HW1.out HZ3.out.2)) (by omega) HZ3.out.1.base ?_; intro g4 c4 wz4 ho hg hle; have HZ4 : Hid (Bd w1.heap.size wz4 g4 (5 + 1 + nam.size + 2 + bts.length) c4 (((((5 :: be num 4) ++ [nam.size]) ++ nbytes nam) ++ be (bts.length) 2) ++ bts) ∧ Below w1.heap.size w1 wz4) := (fun t => ⟨t.1, HZ3.out.2.trans t.2⟩) (HZ3.out.1.next (Below.refl _ _) ho hg HR.out.1 rfl); clear ho hg hle; obtain ⟨e40, e41, e42, e43, e44, e45, e46, e47⟩ := mcells (m := (⟨5, num, nam, 0, 0, 0, 0, bts⟩ : Ms)) (old_block HZ4.out.2 HP1.out); simp only at e40 e41 e42 e43 e44 e45 e46 e47)
    | (go_at_call 23; refine (put16B w1.heap.size wz2 g2 (5 + 1 + nam.size) c2 (bts.length) (((5 :: be num 4) ++ [nam.size]) ++ nbytes nam) HZ2.out.1 (by omega) (by omega)).mono ?_; rintro e wz3 ⟨g3, rfl, hq⟩; have HZ3 : Hid (Bd w1.heap.size wz3 g3 (5 + 1 + nam.size + 2) (5 + 1 + nam.size + 2) ((((5 :: be num 4) ++ [nam.size]) ++ nbytes nam) ++ be (bts.length) 2) ∧ Below w1.heap.size w1 wz3) := ⟨hq.out.1, HZ2.out.2.trans hq.out.2⟩; clear hq; obtain ⟨e30, e31, e32, e33, e34, e35, e36, e37⟩ := mcells (m := (⟨5, num, nam, 0, 0, 0, 0, bts⟩ : Ms)) (old_block HZ3.out.2 HP1.out); simp only at e30 e31 e32 e33 e34 e35 e36 e37)
    | (at_builtin; refine wpList_append_str rfl _ _ rfl w1.heap.size g1 (5 + 1) c1 _ rfl HZ1.out.1.own nam rfl (by omega) HZ1.out.1.base ?_; intro g2 c2 wz2 ho hgr hat; have HZ2 : Hid (Bd w1.heap.size wz2 g2 (5 + 1 + nam.size) c2 (((5 :: be num 4) ++ [nam.size]) ++ nbytes nam) ∧ Below w1.heap.size w1 wz2) := (fun t => ⟨t.1, HZ1.out.2.trans t.2⟩) (HZ1.out.1.next (Below.refl _ _) (by rw [cells_append, ← str_cells]; exact ho) (grew_lies (Below.refl _ _) hgr hat rfl) (nbytes_byte nam) (by rw [nbytes_length])); clear ho hgr hat; obtain ⟨e20, e21, e22, e23, e24, e25, e26, e27⟩ := mcells (m := (⟨5, num, nam, 0, 0, 0, 0, bts⟩ : Ms)) (old_block HZ2.out.2 HP1.out); simp only at e20 e21 e22 e23 e24 e25 e26 e27)
    | (at_builtin; refine wpList_append_some rfl _ _ rfl w1.heap.size g0 5 (5 :: be num 4) (5) 1 rfl (HZ0.out.1.alloc _).own (some ⟨wz0.heap.size, 0, none⟩) 1 [nam.size] rfl rfl (row_one _ (by omega)) (by omega) (HZ0.out.1.alloc _).base ?_; intro g1 c1 wz1 ho hg hle; have HZ1 : Hid (Bd w1.heap.size wz1 g1 (5 + 1) c1 ((5 :: be num 4) ++ [nam.size]) ∧ Below w1.heap.size w1 wz1) := (fun t => ⟨t.1, HZ0.out.2.trans t.2⟩) (HZ0.out.1.next (HB.out _ _) ho hg (by intro x hx; simp at hx; omega) rfl); clear ho hg hle; obtain ⟨e10, e11, e12, e13, e14, e15, e16, e17⟩ := mcells (m := (⟨5, num, nam, 0, 0, 0, 0, bts⟩ : Ms)) (old_block HZ1.out.2 HP1.out); simp only at e10 e11 e12 e13 e14 e15 e16 e17)
    | (go_at_call 21; refine (H32.out w1).mono ?_; rintro e wz0 ⟨g0, rfl, HZ0⟩; obtain ⟨e00, e01, e02, e03, e04, e05, e06, e07⟩ := mcells (m := (⟨5, num, nam, 0, 0, 0, 0, bts⟩ : Ms)) (old_block HZ0.out.2 HP1.out); simp only at e00 e01 e02 e03 e04 e05 e06 e07; clear e0 e1 e2 e3 e4 e5 e6 e7 f1)
    | (go_at_call 22; refine (has_any _ _ _).mono ?_; rintro e wf ⟨rfl, rfl⟩)
    | (go_at_call 20; refine (HF _).mono ?_; rintro e wf ⟨rfl, rfl⟩)
    | (go_at_call 12; refine (HCK.out _).mono ?_; rintro e w1 ⟨rfl, hb1c⟩; have HP1 : Hid (w1.heap[w.heap.size]? = some (mc (⟨5, num, nam, 0, 0, 0, 0, bts⟩ : Ms) a c)) := old_block hb1c.out (heap_alloc_new w _); have HW1 : Hid (Below w.heap.size w w1) := below_of (HB.out _ _) hb1c.out; obtain ⟨e0, e1, e2, e3, e4, e5, e6, e7⟩ := mcells (m := (⟨5, num, nam, 0, 0, 0, 0, bts⟩ : Ms)) HP1.out; simp only at e0 e1 e2 e3 e4 e5 e6 e7; have f1 : ∀ A, (w1.alloc A).cell? ⟨w.heap.size, 1, none⟩ = some (.int .u32 (num : Nat)) := fun A => cell_later (HB.out _ _) e1; clear hb1c)
    )
  go_ret2
  exact enc_end HW1.out HZ4.out (by simp [encM, opt, encName, encBytes, show fld 5 = 33 from rfl, hs])
set_option maxRecDepth 20000 in
set_option maxHeartbeats 8000000 in
theorem enc_7 (num : Nat) (bts : List Nat) (a : Option Addr) (c : Nat) (w : World) (hc : Came w (⟨7, num, ⟨#[]⟩, 0, 0, 0, 0, bts⟩ : Ms) a c) (hok : okM (⟨7, num, ⟨#[]⟩, 0, 0, 0, 0, bts⟩ : Ms) = true) (hn : num < 4294967296) (hb1 : bts.length ≤ 256) (hb2 : bts.length ≤ 256) : Calls Try.prog 9 #[mv (⟨7, num, ⟨#[]⟩, 0, 0, 0, 0, bts⟩ : Ms) a c] w fun e w' => EncY (⟨7, num, ⟨#[]⟩, 0, 0, 0, 0, bts⟩ : Ms) w e w' := by
  have HB : Hid (∀ (w : World) (X : Obj), Below w.heap.size w (w.alloc X)) := fun w X => (Below.refl _ w).alloc (Nat.le_refl _) X
  have HCK : Hid (∀ X, Calls Try.prog 12 #[mv (⟨7, num, ⟨#[]⟩, 0, 0, 0, 0, bts⟩ : Ms) a c] (w.alloc X) fun e w' => e = .returned (.int .i64 0) ∧ Hid (Below (w.alloc X).heap.size (w.alloc X) w')) := fun X => by
    have := check_any (⟨7, num, ⟨#[]⟩, 0, 0, 0, 0, bts⟩ : Ms) a c (w.alloc X) (hc.later (HB.out w X))
    rw [chk_ok hok] at this
    exact this
  have HF : ∀ W, Calls Try.prog 20 #[.int .i64 7] W fun e w' => e = .returned (.int .u8 32) ∧ W = w' := fun W => fieldsOf_any 7 W
  have H32 : Hid (∀ W : World, Calls Try.prog 21 #[.slice (some ⟨W.heap.size, 0, none⟩) 1 1, .int .u32 num] (W.alloc (.cells #[.int .u8 7] 5)) fun e w' => ∃ g', e = .returned (.slice (some ⟨g', 0, none⟩) 5 5) ∧ Hid (Bd W.heap.size w' g' 5 5 (7 :: be num 4) ∧ Below W.heap.size W w')) := fun W => first32 W 7 num (by omega) hn
  have HR : Hid (Row w a bts) := hc.row
  have q1 : hsI 32 1 = false := by decide
  have q2 : hsI 32 2 = false := by decide
  have q4 : hsI 32 4 = false := by decide
  have q8 : hsI 32 8 = false := by decide
  have q16 : hsI 32 16 = false := by decide
  have q32 : hsI 32 32 = true := by decide
  clear hc hok
  go_enter Try.func9, Try.ntmps9
  go_wp2_with (first
    | (at_builtin; refine wpList_append_some rfl _ _ rfl w1.heap.size g1 (5 + 2) ((7 :: be num 4) ++ be (bts.length) 2) (5 + 2) bts.length rfl HZ1.out.1.own a c bts rfl rfl (HR.out.later (below_of HW1.out HZ1.out.2)) (by omega) HZ1.out.1.base ?_; intro g2 c2 wz2 ho hg hle; have HZ2 : Hid (Bd w1.heap.size wz2 g2 (5 + 2 + bts.length) c2 (((7 :: be num 4) ++ be (bts.length) 2) ++ bts) ∧ Below w1.heap.size w1 wz2) := (fun t => ⟨t.1, HZ1.out.2.trans t.2⟩) (HZ1.out.1.next (Below.refl _ _) ho hg HR.out.1 rfl); clear ho hg hle; obtain ⟨e20, e21, e22, e23, e24, e25, e26, e27⟩ := mcells (m := (⟨7, num, ⟨#[]⟩, 0, 0, 0, 0, bts⟩ : Ms)) (old_block HZ2.out.2 HP1.out); simp only at e20 e21 e22 e23 e24 e25 e26 e27)
    | (go_at_call 23; refine (put16B w1.heap.size wz0 g0 (5) 5 (bts.length) (7 :: be num 4) HZ0.out.1 (by omega) (by omega)).mono ?_; rintro e wz1 ⟨g1, rfl, hq⟩; have HZ1 : Hid (Bd w1.heap.size wz1 g1 (5 + 2) (5 + 2) ((7 :: be num 4) ++ be (bts.length) 2) ∧ Below w1.heap.size w1 wz1) := ⟨hq.out.1, HZ0.out.2.trans hq.out.2⟩; clear hq; obtain ⟨e10, e11, e12, e13, e14, e15, e16, e17⟩ := mcells (m := (⟨7, num, ⟨#[]⟩, 0, 0, 0, 0, bts⟩ : Ms)) (old_block HZ1.out.2 HP1.out); simp only at e10 e11 e12 e13 e14 e15 e16 e17)
    | (go_at_call 21; refine (H32.out w1).mono ?_; rintro e wz0 ⟨g0, rfl, HZ0⟩; obtain ⟨e00, e01, e02, e03, e04, e05, e06, e07⟩ := mcells (m := (⟨7, num, ⟨#[]⟩, 0, 0, 0, 0, bts⟩ : Ms)) (old_block HZ0.out.2 HP1.out); simp only at e00 e01 e02 e03 e04 e05 e06 e07; clear e0 e1 e2 e3 e4 e5 e6 e7 f1)
    | (go_at_call 22; refine (has_any _ _ _).mono ?_; rintro e wf ⟨rfl, rfl⟩)
    | (go_at_call 20; refine (HF _).mono ?_; rintro e wf ⟨rfl, rfl⟩)
    | (go_at_call 12; refine (HCK.out _).mono ?_; rintro e w1 ⟨rfl, hb1c⟩; have HP1 : Hid (w1.heap[w.heap.size]? = some (mc (⟨7, num, ⟨#[]⟩, 0, 0, 0, 0, bts⟩ : Ms) a c)) := old_block hb1c.out (heap_alloc_new w _); have HW1 : Hid (Below w.heap.size w w1) := below_of (HB.out _ _) hb1c.out; obtain ⟨e0, e1, e2, e3, e4, e5, e6, e7⟩ := mcells (m := (⟨7, num, ⟨#[]⟩, 0, 0, 0, 0, bts⟩ : Ms)) HP1.out; simp only at e0 e1 e2 e3 e4 e5 e6 e7; have f1 : ∀ A, (w1.alloc A).cell? ⟨w.heap.size, 1, none⟩ = some (.int .u32 (num : Nat)) := fun A => cell_later (HB.out _ _) e1; clear hb1c)
    )
  go_ret2
  exact enc_end HW1.out HZ2.out (by simp [encM, opt, encBytes, show fld 7 = 32 from rfl, hs])
set_option maxRecDepth 20000 in
set_option maxHeartbeats 8000000 in
theorem enc_8 (num : Nat) (z : Nat) (bts : List Nat) (a : Option Addr) (c : Nat) (w : World) (hc : Came w (⟨8, num, ⟨#[]⟩, 0, 0, 0, ((z : Nat) : Int), bts⟩ : Ms) a c) (hok : okM (⟨8, num, ⟨#[]⟩, 0, 0, 0, ((z : Nat) : Int), bts⟩ : Ms) = true) (hn : num < 4294967296) (hb1 : z ≤ 255) (hb2 : bts.length ≤ 256) : Calls Try.prog 9 #[mv (⟨8, num, ⟨#[]⟩, 0, 0, 0, ((z : Nat) : Int), bts⟩ : Ms) a c] w fun e w' => EncY (⟨8, num, ⟨#[]⟩, 0, 0, 0, ((z : Nat) : Int), bts⟩ : Ms) w e w' := by
  have HB : Hid (∀ (w : World) (X : Obj), Below w.heap.size w (w.alloc X)) := fun w X => (Below.refl _ w).alloc (Nat.le_refl _) X
  have HCK : Hid (∀ X, Calls Try.prog 12 #[mv (⟨8, num, ⟨#[]⟩, 0, 0, 0, ((z : Nat) : Int), bts⟩ : Ms) a c] (w.alloc X) fun e w' => e = .returned (.int .i64 0) ∧ Hid (Below (w.alloc X).heap.size (w.alloc X) w')) := fun X => by
    have := check_any (⟨8, num, ⟨#[]⟩, 0, 0, 0, ((z : Nat) : Int), bts⟩ : Ms) a c (w.alloc X) (hc.later (HB.out w X))
    rw [chk_ok hok] at this
    exact this
  have HF : ∀ W, Calls Try.prog 20 #[.int .i64 8] W fun e w' => e = .returned (.int .u8 48) ∧ W = w' := fun W => fieldsOf_any 8 W
  have H32 : Hid (∀ W : World, Calls Try.prog 21 #[.slice (some ⟨W.heap.size, 0, none⟩) 1 1, .int .u32 num] (W.alloc (.cells #[.int .u8 8] 5)) fun e w' => ∃ g', e = .returned (.slice (some ⟨g', 0, none⟩) 5 5) ∧ Hid (Bd W.heap.size w' g' 5 5 (8 :: be num 4) ∧ Below W.heap.size W w')) := fun W => first32 W 8 num (by omega) hn
  have HR : Hid (Row w a bts) := hc.row
  have q1 : hsI 48 1 = false := by decide
  have q2 : hsI 48 2 = false := by decide
  have q4 : hsI 48 4 = false := by decide
  have q8 : hsI 48 8 = false := by decide
  have q16 : hsI 48 16 = true := by decide
  have q32 : hsI 48 32 = true := by decide
  clear hc hok
  go_enter Try.func9, Try.ntmps9
  go_wp2_with (first
    | (at_builtin; refine wpList_append_some rfl _ _ rfl w1.heap.size g2 (5 + 1 + 2) (((8 :: be num 4) ++ [z]) ++ be (bts.length) 2) (5 + 1 + 2) bts.length rfl HZ2.out.1.own a c bts rfl rfl (HR.out.later (below_of HW1.out HZ2.out.2)) (by omega) HZ2.out.1.base ?_; intro g3 c3 wz3 ho hg hle; have HZ3 : Hid (Bd w1.heap.size wz3 g3 (5 + 1 + 2 + bts.length) c3 ((((8 :: be num 4) ++ [z]) ++ be (bts.length) 2) ++ bts) ∧ Below w1.heap.size w1 wz3) := (fun t => ⟨t.1, HZ2.out.2.trans t.2⟩) (HZ2.out.1.next (Below.refl _ _) ho hg HR.out.1 rfl); clear ho hg hle; obtain ⟨e30, e31, e32, e33, e34, e35, e36, e37⟩ := mcells (m := (⟨8, num, ⟨#[]⟩, 0, 0, 0, ((z : Nat) : Int), bts⟩ : Ms)) (old_block HZ3.out.2 HP1.out); simp only at e30 e31 e32 e33 e34 e35 e36 e37)
    | (go_at_call 23; refine (put16B w1.heap.size wz1 g1 (5 + 1) c1 (bts.length) ((8 :: be num 4) ++ [z]) HZ1.out.1 (by omega) (by omega)).mono ?_; rintro e wz2 ⟨g2, rfl, hq⟩; have HZ2 : Hid (Bd w1.heap.size wz2 g2 (5 + 1 + 2) (5 + 1 + 2) (((8 :: be num 4) ++ [z]) ++ be (bts.length) 2) ∧ Below w1.heap.size w1 wz2) := ⟨hq.out.1, HZ1.out.2.trans hq.out.2⟩; clear hq; obtain ⟨e20, e21, e22, e23, e24, e25, e26, e27⟩ := mcells (m := (⟨8, num, ⟨#[]⟩, 0, 0, 0, ((z : Nat) : Int), bts⟩ : Ms)) (old_block HZ2.out.2 HP1.out); simp only at e20 e21 e22 e23 e24 e25 e26 e27)
    | (at_builtin; refine wpList_append_some rfl _ _ rfl w1.heap.size g0 5 (8 :: be num 4) (5) 1 rfl (HZ0.out.1.alloc _).own (some ⟨wz0.heap.size, 0, none⟩) 1 [z] rfl rfl (row_one _ (by omega)) (by omega) (HZ0.out.1.alloc _).base ?_; intro g1 c1 wz1 ho hg hle; have HZ1 : Hid (Bd w1.heap.size wz1 g1 (5 + 1) c1 ((8 :: be num 4) ++ [z]) ∧ Below w1.heap.size w1 wz1) := (fun t => ⟨t.1, HZ0.out.2.trans t.2⟩) (HZ0.out.1.next (HB.out _ _) ho hg (by intro x hx; simp at hx; omega) rfl); clear ho hg hle; obtain ⟨e10, e11, e12, e13, e14, e15, e16, e17⟩ := mcells (m := (⟨8, num, ⟨#[]⟩, 0, 0, 0, ((z : Nat) : Int), bts⟩ : Ms)) (old_block HZ1.out.2 HP1.out); simp only at e10 e11 e12 e13 e14 e15 e16 e17)
    | (go_at_call 21; refine (H32.out w1).mono ?_; rintro e wz0 ⟨g0, rfl, HZ0⟩; obtain ⟨e00, e01, e02, e03, e04, e05, e06, e07⟩ := mcells (m := (⟨8, num, ⟨#[]⟩, 0, 0, 0, ((z : Nat) : Int), bts⟩ : Ms)) (old_block HZ0.out.2 HP1.out); simp only at e00 e01 e02 e03 e04 e05 e06 e07; clear e0 e1 e2 e3 e4 e5 e6 e7 f1)
    | (go_at_call 22; refine (has_any _ _ _).mono ?_; rintro e wf ⟨rfl, rfl⟩)
    | (go_at_call 20; refine (HF _).mono ?_; rintro e wf ⟨rfl, rfl⟩)
    | (go_at_call 12; refine (HCK.out _).mono ?_; rintro e w1 ⟨rfl, hb1c⟩; have HP1 : Hid (w1.heap[w.heap.size]? = some (mc (⟨8, num, ⟨#[]⟩, 0, 0, 0, ((z : Nat) : Int), bts⟩ : Ms) a c)) := old_block hb1c.out (heap_alloc_new w _); have HW1 : Hid (Below w.heap.size w w1) := below_of (HB.out _ _) hb1c.out; obtain ⟨e0, e1, e2, e3, e4, e5, e6, e7⟩ := mcells (m := (⟨8, num, ⟨#[]⟩, 0, 0, 0, ((z : Nat) : Int), bts⟩ : Ms)) HP1.out; simp only at e0 e1 e2 e3 e4 e5 e6 e7; have f1 : ∀ A, (w1.alloc A).cell? ⟨w.heap.size, 1, none⟩ = some (.int .u32 (num : Nat)) := fun A => cell_later (HB.out _ _) e1; clear hb1c)
    )
  go_ret2
  exact enc_end HW1.out HZ3.out (by simp [encM, opt, encBytes, show fld 8 = 48 from rfl, hs])
end Go.Proofs.Ytfkkaihnmnjadaa
