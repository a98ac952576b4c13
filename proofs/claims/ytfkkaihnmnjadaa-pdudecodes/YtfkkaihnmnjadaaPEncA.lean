/- pdu.Encode: four Kinds. -/
import Derived.Test.YtfkkaihnmnjadaaPEnc
namespace Go.Proofs.Ytfkkaihnmnjadaa
open Go.RowKit
set_option linter.unusedVariables false
set_option maxRecDepth 20000 in
set_option maxHeartbeats 8000000 in
theorem enc_1 (num : Nat) (nam : ByteArray) (z : Nat) (a : Option Addr) (c : Nat) (w : World) (hc : Came w (⟨1, num, nam, ((z : Nat) : Int), 0, 0, 0, []⟩ : Ms) a c) (hok : okM (⟨1, num, nam, ((z : Nat) : Int), 0, 0, 0, []⟩ : Ms) = true) (hn : num < 4294967296) (hb1 : nam.size ≤ 24) (hb2 : z ≤ 4096) : Calls Try.prog 9 #[mv (⟨1, num, nam, ((z : Nat) : Int), 0, 0, 0, []⟩ : Ms) a c] w fun e w' => EncY (⟨1, num, nam, ((z : Nat) : Int), 0, 0, 0, []⟩ : Ms) w e w' := by
  have HB : Hid (∀ (w : World) (X : Obj), Below w.heap.size w (w.alloc X)) := fun w X => (Below.refl _ w).alloc (Nat.le_refl _) X
  have HCK : Hid (∀ X, Calls Try.prog 12 #[mv (⟨1, num, nam, ((z : Nat) : Int), 0, 0, 0, []⟩ : Ms) a c] (w.alloc X) fun e w' => e = .returned (.int .i64 0) ∧ Hid (Below (w.alloc X).heap.size (w.alloc X) w')) := fun X => by
    have := check_any (⟨1, num, nam, ((z : Nat) : Int), 0, 0, 0, []⟩ : Ms) a c (w.alloc X) (hc.later (HB.out w X))
    rw [chk_ok hok] at this
    exact this
  have HF : ∀ W, Calls Try.prog 20 #[.int .i64 1] W fun e w' => e = .returned (.int .u8 3) ∧ W = w' := fun W => fieldsOf_any 1 W
  have H32 : Hid (∀ W : World, Calls Try.prog 21 #[.slice (some ⟨W.heap.size, 0, none⟩) 1 1, .int .u32 num] (W.alloc (.cells #[.int .u8 1] 5)) fun e w' => ∃ g', e = .returned (.slice (some ⟨g', 0, none⟩) 5 5) ∧ Hid (Bd W.heap.size w' g' 5 5 (1 :: be num 4) ∧ Below W.heap.size W w')) := fun W => first32 W 1 num (by omega) hn
  have HR : Hid (Row w a []) := hc.row
  have q1 : hsI 3 1 = true := by decide
  have q2 : hsI 3 2 = true := by decide
  have q4 : hsI 3 4 = false := by decide
  have q8 : hsI 3 8 = false := by decide
  have q16 : hsI 3 16 = false := by decide
  have q32 : hsI 3 32 = false := by decide
  clear hc hok
  go_enter Try.func9, Try.ntmps9
  go_wp2_with (first
    | (go_at_call 23; refine (put16B w1.heap.size wz2 g2 (5 + 1 + nam.size) c2 (z) (((1 :: be num 4) ++ [nam.size]) ++ nbytes nam) HZ2.out.1 (by omega) (by omega)).mono ?_; rintro e wz3 ⟨g3, rfl, hq⟩; have HZ3 : Hid (Bd w1.heap.size wz3 g3 (5 + 1 + nam.size + 2) (5 + 1 + nam.size + 2) ((((1 :: be num 4) ++ [nam.size]) ++ nbytes nam) ++ be (z) 2) ∧ Below w1.heap.size w1 wz3) := ⟨hq.out.1, HZ2.out.2.trans hq.out.2⟩; clear hq; obtain ⟨e30, e31, e32, e33, e34, e35, e36, e37⟩ := mcells (m := (⟨1, num, nam, ((z : Nat) : Int), 0, 0, 0, []⟩ : Ms)) (old_block HZ3.out.2 HP1.out); simp only at e30 e31 e32 e33 e34 e35 e36 e37)
    | (at_builtin; refine wpList_append_str rfl _ _ rfl w1.heap.size g1 (5 + 1) c1 _ rfl HZ1.out.1.own nam rfl (by omega) HZ1.out.1.base ?_; intro g2 c2 wz2 ho hgr hat; have HZ2 : Hid (Bd w1.heap.size wz2 g2 (5 + 1 + nam.size) c2 (((1 :: be num 4) ++ [nam.size]) ++ nbytes nam) ∧ Below w1.heap.size w1 wz2) := (fun t => ⟨t.1, HZ1.out.2.trans t.2⟩) (HZ1.out.1.next (Below.refl _ _) (by rw [cells_append, ← str_cells]; exact ho) (grew_lies (Below.refl _ _) hgr hat rfl) (nbytes_byte nam) (by rw [nbytes_length])); clear ho hgr hat; obtain ⟨e20, e21, e22, e23, e24, e25, e26, e27⟩ := mcells (m := (⟨1, num, nam, ((z : Nat) : Int), 0, 0, 0, []⟩ : Ms)) (old_block HZ2.out.2 HP1.out); simp only at e20 e21 e22 e23 e24 e25 e26 e27)
    | (at_builtin; refine wpList_append_some rfl _ _ rfl w1.heap.size g0 5 (1 :: be num 4) (5) 1 rfl (HZ0.out.1.alloc _).own (some ⟨wz0.heap.size, 0, none⟩) 1 [nam.size] rfl rfl (row_one _ (by omega)) (by omega) (HZ0.out.1.alloc _).base ?_; intro g1 c1 wz1 ho hg hle; have HZ1 : Hid (Bd w1.heap.size wz1 g1 (5 + 1) c1 ((1 :: be num 4) ++ [nam.size]) ∧ Below w1.heap.size w1 wz1) := (fun t => ⟨t.1, HZ0.out.2.trans t.2⟩) (HZ0.out.1.next (HB.out _ _) ho hg (by intro x hx; simp at hx; omega) rfl); clear ho hg hle; obtain ⟨e10, e11, e12, e13, e14, e15, e16, e17⟩ := mcells (m := (⟨1, num, nam, ((z : Nat) : Int), 0, 0, 0, []⟩ : Ms)) (old_block HZ1.out.2 HP1.out); simp only at e10 e11 e12 e13 e14 e15 e16 e17)
    | (go_at_call 21; refine (H32.out w1).mono ?_; rintro e wz0 ⟨g0, rfl, HZ0⟩; obtain ⟨e00, e01, e02, e03, e04, e05, e06, e07⟩ := mcells (m := (⟨1, num, nam, ((z : Nat) : Int), 0, 0, 0, []⟩ : Ms)) (old_block HZ0.out.2 HP1.out); simp only at e00 e01 e02 e03 e04 e05 e06 e07; clear e0 e1 e2 e3 e4 e5 e6 e7 f1)
    | (go_at_call 22; refine (has_any _ _ _).mono ?_; rintro e wf ⟨rfl, rfl⟩)
    | (go_at_call 20; refine (HF _).mono ?_; rintro e wf ⟨rfl, rfl⟩)
    | (go_at_call 12; refine (HCK.out _).mono ?_; rintro e w1 ⟨rfl, hb1c⟩; have HP1 : Hid (w1.heap[w.heap.size]? = some (mc (⟨1, num, nam, ((z : Nat) : Int), 0, 0, 0, []⟩ : Ms) a c)) := old_block hb1c.out (heap_alloc_new w _); have HW1 : Hid (Below w.heap.size w w1) := below_of (HB.out _ _) hb1c.out; obtain ⟨e0, e1, e2, e3, e4, e5, e6, e7⟩ := mcells (m := (⟨1, num, nam, ((z : Nat) : Int), 0, 0, 0, []⟩ : Ms)) HP1.out; simp only at e0 e1 e2 e3 e4 e5 e6 e7; have f1 : ∀ A, (w1.alloc A).cell? ⟨w.heap.size, 1, none⟩ = some (.int .u32 (num : Nat)) := fun A => cell_later (HB.out _ _) e1; clear hb1c)
    )
  go_ret2
  exact enc_end HW1.out HZ3.out (by simp [encM, opt, encName, show fld 1 = 3 from rfl, hs])
set_option maxRecDepth 20000 in
set_option maxHeartbeats 8000000 in
theorem enc_3 (num : Nat) (z : Nat) (su : Nat) (a : Option Addr) (c : Nat) (w : World) (hc : Came w (⟨3, num, ⟨#[]⟩, ((z : Nat) : Int), 0, su, 0, []⟩ : Ms) a c) (hok : okM (⟨3, num, ⟨#[]⟩, ((z : Nat) : Int), 0, su, 0, []⟩ : Ms) = true) (hn : num < 4294967296) (hb1 : su < 4294967296) (hb2 : z ≤ 4096) : Calls Try.prog 9 #[mv (⟨3, num, ⟨#[]⟩, ((z : Nat) : Int), 0, su, 0, []⟩ : Ms) a c] w fun e w' => EncY (⟨3, num, ⟨#[]⟩, ((z : Nat) : Int), 0, su, 0, []⟩ : Ms) w e w' := by
  have HB : Hid (∀ (w : World) (X : Obj), Below w.heap.size w (w.alloc X)) := fun w X => (Below.refl _ w).alloc (Nat.le_refl _) X
  have HCK : Hid (∀ X, Calls Try.prog 12 #[mv (⟨3, num, ⟨#[]⟩, ((z : Nat) : Int), 0, su, 0, []⟩ : Ms) a c] (w.alloc X) fun e w' => e = .returned (.int .i64 0) ∧ Hid (Below (w.alloc X).heap.size (w.alloc X) w')) := fun X => by
    have := check_any (⟨3, num, ⟨#[]⟩, ((z : Nat) : Int), 0, su, 0, []⟩ : Ms) a c (w.alloc X) (hc.later (HB.out w X))
    rw [chk_ok hok] at this
    exact this
  have HF : ∀ W, Calls Try.prog 20 #[.int .i64 3] W fun e w' => e = .returned (.int .u8 10) ∧ W = w' := fun W => fieldsOf_any 3 W
  have H32 : Hid (∀ W : World, Calls Try.prog 21 #[.slice (some ⟨W.heap.size, 0, none⟩) 1 1, .int .u32 num] (W.alloc (.cells #[.int .u8 3] 5)) fun e w' => ∃ g', e = .returned (.slice (some ⟨g', 0, none⟩) 5 5) ∧ Hid (Bd W.heap.size w' g' 5 5 (3 :: be num 4) ∧ Below W.heap.size W w')) := fun W => first32 W 3 num (by omega) hn
  have HR : Hid (Row w a []) := hc.row
  have q1 : hsI 10 1 = false := by decide
  have q2 : hsI 10 2 = true := by decide
  have q4 : hsI 10 4 = false := by decide
  have q8 : hsI 10 8 = true := by decide
  have q16 : hsI 10 16 = false := by decide
  have q32 : hsI 10 32 = false := by decide
  clear hc hok
  go_enter Try.func9, Try.ntmps9
  go_wp2_with (first
    | (go_at_call 21; refine (put32B w1.heap.size wz1 g1 (5 + 2) (5 + 2) (su) ((3 :: be num 4) ++ be (z) 2) HZ1.out.1 (by omega) (by omega)).mono ?_; rintro e wz2 ⟨g2, rfl, hq⟩; have HZ2 : Hid (Bd w1.heap.size wz2 g2 (5 + 2 + 4) (5 + 2 + 4) (((3 :: be num 4) ++ be (z) 2) ++ be (su) 4) ∧ Below w1.heap.size w1 wz2) := ⟨hq.out.1, HZ1.out.2.trans hq.out.2⟩; clear hq; obtain ⟨e20, e21, e22, e23, e24, e25, e26, e27⟩ := mcells (m := (⟨3, num, ⟨#[]⟩, ((z : Nat) : Int), 0, su, 0, []⟩ : Ms)) (old_block HZ2.out.2 HP1.out); simp only at e20 e21 e22 e23 e24 e25 e26 e27)
    | (go_at_call 23; refine (put16B w1.heap.size wz0 g0 (5) 5 (z) (3 :: be num 4) HZ0.out.1 (by omega) (by omega)).mono ?_; rintro e wz1 ⟨g1, rfl, hq⟩; have HZ1 : Hid (Bd w1.heap.size wz1 g1 (5 + 2) (5 + 2) ((3 :: be num 4) ++ be (z) 2) ∧ Below w1.heap.size w1 wz1) := ⟨hq.out.1, HZ0.out.2.trans hq.out.2⟩; clear hq; obtain ⟨e10, e11, e12, e13, e14, e15, e16, e17⟩ := mcells (m := (⟨3, num, ⟨#[]⟩, ((z : Nat) : Int), 0, su, 0, []⟩ : Ms)) (old_block HZ1.out.2 HP1.out); simp only at e10 e11 e12 e13 e14 e15 e16 e17)
    | (go_at_call 21; refine (H32.out w1).mono ?_; rintro e wz0 ⟨g0, rfl, HZ0⟩; obtain ⟨e00, e01, e02, e03, e04, e05, e06, e07⟩ := mcells (m := (⟨3, num, ⟨#[]⟩, ((z : Nat) : Int), 0, su, 0, []⟩ : Ms)) (old_block HZ0.out.2 HP1.out); simp only at e00 e01 e02 e03 e04 e05 e06 e07; clear e0 e1 e2 e3 e4 e5 e6 e7 f1)
    | (go_at_call 22; refine (has_any _ _ _).mono ?_; rintro e wf ⟨rfl, rfl⟩)
    | (go_at_call 20; refine (HF _).mono ?_; rintro e wf ⟨rfl, rfl⟩)
    | (go_at_call 12; refine (HCK.out _).mono ?_; rintro e w1 ⟨rfl, hb1c⟩; have HP1 : Hid (w1.heap[w.heap.size]? = some (mc (⟨3, num, ⟨#[]⟩, ((z : Nat) : Int), 0, su, 0, []⟩ : Ms) a c)) := old_block hb1c.out (heap_alloc_new w _); have HW1 : Hid (Below w.heap.size w w1) := below_of (HB.out _ _) hb1c.out; obtain ⟨e0, e1, e2, e3, e4, e5, e6, e7⟩ := mcells (m := (⟨3, num, ⟨#[]⟩, ((z : Nat) : Int), 0, su, 0, []⟩ : Ms)) HP1.out; simp only at e0 e1 e2 e3 e4 e5 e6 e7; have f1 : ∀ A, (w1.alloc A).cell? ⟨w.heap.size, 1, none⟩ = some (.int .u32 (num : Nat)) := fun A => cell_later (HB.out _ _) e1; clear hb1c)
    )
  go_ret2
  exact enc_end HW1.out HZ2.out (by simp [encM, opt, show fld 3 = 10 from rfl, hs])
set_option maxRecDepth 20000 in
set_option maxHeartbeats 8000000 in
theorem enc_4 (num : Nat) (z : Nat) (a : Option Addr) (c : Nat) (w : World) (hc : Came w (⟨4, num, ⟨#[]⟩, 0, 0, 0, ((z : Nat) : Int), []⟩ : Ms) a c) (hok : okM (⟨4, num, ⟨#[]⟩, 0, 0, 0, ((z : Nat) : Int), []⟩ : Ms) = true) (hn : num < 4294967296) (hb1 : z ≤ 255) (hb2 : z ≤ 255) : Calls Try.prog 9 #[mv (⟨4, num, ⟨#[]⟩, 0, 0, 0, ((z : Nat) : Int), []⟩ : Ms) a c] w fun e w' => EncY (⟨4, num, ⟨#[]⟩, 0, 0, 0, ((z : Nat) : Int), []⟩ : Ms) w e w' := by
  have HB : Hid (∀ (w : World) (X : Obj), Below w.heap.size w (w.alloc X)) := fun w X => (Below.refl _ w).alloc (Nat.le_refl _) X
  have HCK : Hid (∀ X, Calls Try.prog 12 #[mv (⟨4, num, ⟨#[]⟩, 0, 0, 0, ((z : Nat) : Int), []⟩ : Ms) a c] (w.alloc X) fun e w' => e = .returned (.int .i64 0) ∧ Hid (Below (w.alloc X).heap.size (w.alloc X) w')) := fun X => by
    have := check_any (⟨4, num, ⟨#[]⟩, 0, 0, 0, ((z : Nat) : Int), []⟩ : Ms) a c (w.alloc X) (hc.later (HB.out w X))
    rw [chk_ok hok] at this
    exact this
  have HF : ∀ W, Calls Try.prog 20 #[.int .i64 4] W fun e w' => e = .returned (.int .u8 16) ∧ W = w' := fun W => fieldsOf_any 4 W
  have H32 : Hid (∀ W : World, Calls Try.prog 21 #[.slice (some ⟨W.heap.size, 0, none⟩) 1 1, .int .u32 num] (W.alloc (.cells #[.int .u8 4] 5)) fun e w' => ∃ g', e = .returned (.slice (some ⟨g', 0, none⟩) 5 5) ∧ Hid (Bd W.heap.size w' g' 5 5 (4 :: be num 4) ∧ Below W.heap.size W w')) := fun W => first32 W 4 num (by omega) hn
  have HR : Hid (Row w a []) := hc.row
  have q1 : hsI 16 1 = false := by decide
  have q2 : hsI 16 2 = false := by decide
  have q4 : hsI 16 4 = false := by decide
  have q8 : hsI 16 8 = false := by decide
  have q16 : hsI 16 16 = true := by decide
  have q32 : hsI 16 32 = false := by decide
  clear hc hok
  go_enter Try.func9, Try.ntmps9
  go_wp2_with (first
    | (at_builtin; refine wpList_append_some rfl _ _ rfl w1.heap.size g0 5 (4 :: be num 4) (5) 1 rfl (HZ0.out.1.alloc _).own (some ⟨wz0.heap.size, 0, none⟩) 1 [z] rfl rfl (row_one _ (by omega)) (by omega) (HZ0.out.1.alloc _).base ?_; intro g1 c1 wz1 ho hg hle; have HZ1 : Hid (Bd w1.heap.size wz1 g1 (5 + 1) c1 ((4 :: be num 4) ++ [z]) ∧ Below w1.heap.size w1 wz1) := (fun t => ⟨t.1, HZ0.out.2.trans t.2⟩) (HZ0.out.1.next (HB.out _ _) ho hg (by intro x hx; simp at hx; omega) rfl); clear ho hg hle; obtain ⟨e10, e11, e12, e13, e14, e15, e16, e17⟩ := mcells (m := (⟨4, num, ⟨#[]⟩, 0, 0, 0, ((z : Nat) : Int), []⟩ : Ms)) (old_block HZ1.out.2 HP1.out); simp only at e10 e11 e12 e13 e14 e15 e16 e17)
    | (go_at_call 21; refine (H32.out w1).mono ?_; rintro e wz0 ⟨g0, rfl, HZ0⟩; obtain ⟨e00, e01, e02, e03, e04, e05, e06, e07⟩ := mcells (m := (⟨4, num, ⟨#[]⟩, 0, 0, 0, ((z : Nat) : Int), []⟩ : Ms)) (old_block HZ0.out.2 HP1.out); simp only at e00 e01 e02 e03 e04 e05 e06 e07; clear e0 e1 e2 e3 e4 e5 e6 e7 f1)
    | (go_at_call 22; refine (has_any _ _ _).mono ?_; rintro e wf ⟨rfl, rfl⟩)
    | (go_at_call 20; refine (HF _).mono ?_; rintro e wf ⟨rfl, rfl⟩)
    | (go_at_call 12; refine (HCK.out _).mono ?_; rintro e w1 ⟨rfl, hb1c⟩; have HP1 : Hid (w1.heap[w.heap.size]? = some (mc (⟨4, num, ⟨#[]⟩, 0, 0, 0, ((z : Nat) : Int), []⟩ : Ms) a c)) := old_block hb1c.out (heap_alloc_new w _); have HW1 : Hid (Below w.heap.size w w1) := below_of (HB.out _ _) hb1c.out; obtain ⟨e0, e1, e2, e3, e4, e5, e6, e7⟩ := mcells (m := (⟨4, num, ⟨#[]⟩, 0, 0, 0, ((z : Nat) : Int), []⟩ : Ms)) HP1.out; simp only at e0 e1 e2 e3 e4 e5 e6 e7; have f1 : ∀ A, (w1.alloc A).cell? ⟨w.heap.size, 1, none⟩ = some (.int .u32 (num : Nat)) := fun A => cell_later (HB.out _ _) e1; clear hb1c)
    )
  go_ret2
  exact enc_end HW1.out HZ1.out (by simp [encM, opt, show fld 4 = 16 from rfl, hs])
set_option maxRecDepth 20000 in
set_option maxHeartbeats 8000000 in
theorem enc_6 (num : Nat) (nam : ByteArray) (a : Option Addr) (c : Nat) (w : World) (hc : Came w (⟨6, num, nam, 0, 0, 0, 0, []⟩ : Ms) a c) (hok : okM (⟨6, num, nam, 0, 0, 0, 0, []⟩ : Ms) = true) (hn : num < 4294967296) (hb1 : nam.size ≤ 24) (hb2 : nam.size ≤ 24) : Calls Try.prog 9 #[mv (⟨6, num, nam, 0, 0, 0, 0, []⟩ : Ms) a c] w fun e w' => EncY (⟨6, num, nam, 0, 0, 0, 0, []⟩ : Ms) w e w' := by
  have HB : Hid (∀ (w : World) (X : Obj), Below w.heap.size w (w.alloc X)) := fun w X => (Below.refl _ w).alloc (Nat.le_refl _) X
  have HCK : Hid (∀ X, Calls Try.prog 12 #[mv (⟨6, num, nam, 0, 0, 0, 0, []⟩ : Ms) a c] (w.alloc X) fun e w' => e = .returned (.int .i64 0) ∧ Hid (Below (w.alloc X).heap.size (w.alloc X) w')) := fun X => by
    have := check_any (⟨6, num, nam, 0, 0, 0, 0, []⟩ : Ms) a c (w.alloc X) (hc.later (HB.out w X))
    rw [chk_ok hok] at this
    exact this
  have HF : ∀ W, Calls Try.prog 20 #[.int .i64 6] W fun e w' => e = .returned (.int .u8 1) ∧ W = w' := fun W => fieldsOf_any 6 W
  have H32 : Hid (∀ W : World, Calls Try.prog 21 #[.slice (some ⟨W.heap.size, 0, none⟩) 1 1, .int .u32 num] (W.alloc (.cells #[.int .u8 6] 5)) fun e w' => ∃ g', e = .returned (.slice (some ⟨g', 0, none⟩) 5 5) ∧ Hid (Bd W.heap.size w' g' 5 5 (6 :: be num 4) ∧ Below W.heap.size W w')) := fun W => first32 W 6 num (by omega) hn
  have HR : Hid (Row w a []) := hc.row
  have q1 : hsI 1 1 = true := by decide
  have q2 : hsI 1 2 = false := by decide
  have q4 : hsI 1 4 = false := by decide
  have q8 : hsI 1 8 = false := by decide
  have q16 : hsI 1 16 = false := by decide
  have q32 : hsI 1 32 = false := by decide
  clear hc hok
  go_enter Try.func9, Try.ntmps9
  go_wp2_with (first
    | (at_builtin; refine wpList_append_str rfl _ _ rfl w1.heap.size g1 (5 + 1) c1 _ rfl HZ1.out.1.own nam rfl (by omega) HZ1.out.1.base ?_; intro g2 c2 wz2 ho hgr hat; have HZ2 : Hid (Bd w1.heap.size wz2 g2 (5 + 1 + nam.size) c2 (((6 :: be num 4) ++ [nam.size]) ++ nbytes nam) ∧ Below w1.heap.size w1 wz2) := (fun t => ⟨t.1, HZ1.out.2.trans t.2⟩) (HZ1.out.1.next (Below.refl _ _) (by rw [cells_append, ← str_cells]; exact ho) (grew_lies (Below.refl _ _) hgr hat rfl) (nbytes_byte nam) (by rw [nbytes_length])); clear ho hgr hat; obtain ⟨e20, e21, e22, e23, e24, e25, e26, e27⟩ := mcells (m := (⟨6, num, nam, 0, 0, 0, 0, []⟩ : Ms)) (old_block HZ2.out.2 HP1.out); simp only at e20 e21 e22 e23 e24 e25 e26 e27)
    | (at_builtin; refine wpList_append_some rfl _ _ rfl w1.heap.size g0 5 (6 :: be num 4) (5) 1 rfl (HZ0.out.1.alloc _).own (some ⟨wz0.heap.size, 0, none⟩) 1 [nam.size] rfl rfl (row_one _ (by omega)) (by omega) (HZ0.out.1.alloc _).base ?_; intro g1 c1 wz1 ho hg hle; have HZ1 : Hid (Bd w1.heap.size wz1 g1 (5 + 1) c1 ((6 :: be num 4) ++ [nam.size]) ∧ Below w1.heap.size w1 wz1) := (fun t => ⟨t.1, HZ0.out.2.trans t.2⟩) (HZ0.out.1.next (HB.out _ _) ho hg (by intro x hx; simp at hx; omega) rfl); clear ho hg hle; obtain ⟨e10, e11, e12, e13, e14, e15, e16, e17⟩ := mcells (m := (⟨6, num, nam, 0, 0, 0, 0, []⟩ : Ms)) (old_block HZ1.out.2 HP1.out); simp only at e10 e11 e12 e13 e14 e15 e16 e17)
    | (go_at_call 21; refine (H32.out w1).mono ?_; rintro e wz0 ⟨g0, rfl, HZ0⟩; obtain ⟨e00, e01, e02, e03, e04, e05, e06, e07⟩ := mcells (m := (⟨6, num, nam, 0, 0, 0, 0, []⟩ : Ms)) (old_block HZ0.out.2 HP1.out); simp only at e00 e01 e02 e03 e04 e05 e06 e07; clear e0 e1 e2 e3 e4 e5 e6 e7 f1)
    | (go_at_call 22; refine (has_any _ _ _).mono ?_; rintro e wf ⟨rfl, rfl⟩)
    | (go_at_call 20; refine (HF _).mono ?_; rintro e wf ⟨rfl, rfl⟩)
    | (go_at_call 12; refine (HCK.out _).mono ?_; rintro e w1 ⟨rfl, hb1c⟩; have HP1 : Hid (w1.heap[w.heap.size]? = some (mc (⟨6, num, nam, 0, 0, 0, 0, []⟩ : Ms) a c)) := old_block hb1c.out (heap_alloc_new w _); have HW1 : Hid (Below w.heap.size w w1) := below_of (HB.out _ _) hb1c.out; obtain ⟨e0, e1, e2, e3, e4, e5, e6, e7⟩ := mcells (m := (⟨6, num, nam, 0, 0, 0, 0, []⟩ : Ms)) HP1.out; simp only at e0 e1 e2 e3 e4 e5 e6 e7; have f1 : ∀ A, (w1.alloc A).cell? ⟨w.heap.size, 1, none⟩ = some (.int .u32 (num : Nat)) := fun A => cell_later (HB.out _ _) e1; clear hb1c)
    )
  go_ret2
  exact enc_end HW1.out HZ2.out (by simp [encM, opt, encName, show fld 6 = 1 from rfl, hs])
end Go.Proofs.Ytfkkaihnmnjadaa
