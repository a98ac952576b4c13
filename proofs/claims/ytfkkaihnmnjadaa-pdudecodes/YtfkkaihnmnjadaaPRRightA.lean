/- heliographref11.Right: three Kinds. -/
import Derived.Test.YtfkkaihnmnjadaaPROk
namespace Go.Proofs.Ytfkkaihnmnjadaa
open Go.RowKit
set_option linter.unusedVariables false
set_option maxRecDepth 20000 in
set_option maxHeartbeats 8000000 in
theorem rright_1 (num : Nat) (nam : ByteArray) (siz off : Int) (sum : Nat) (cod : Int) (bts : List Nat) (a : Option Addr) (c : Nat) (w : World) (hz : bts.length ≤ 140737488351232) : Calls Try.prog 11 #[mv (⟨1, num, nam, siz, off, sum, cod, bts⟩ : Ms) a c] w fun e w' => e = .returned (.bool (okM (⟨1, num, nam, siz, off, sum, cod, bts⟩ : Ms))) ∧ Hid (Below w.heap.size w w') := by
  have HB : Hid (∀ (w : World) (X : Obj), Below w.heap.size w (w.alloc X)) := fun w X => (Below.refl _ w).alloc (Nat.le_refl _) X
  have HE : Hid (okM (⟨1, num, nam, siz, off, sum, cod, bts⟩ : Ms) = true ↔ (num ≠ 0 ∧ (1 ≤ nam.size ∧ nam.size ≤ 24) ∧ (0 ≤ siz ∧ siz ≤ 4096) ∧ sum = 0 ∧ cod = 0 ∧ bts.length = 0 ∧ off = 0)) := ok_1 num nam siz off sum cod bts
  have HF : Hid (∀ W : World, Calls Try.prog 24 #[.int .i64 1] W fun e w' => e = .returned (.string ⟨#[110, 115]⟩) ∧ Hid (Below W.heap.size W w')) := fun W => fieldsR_yes 1 (by omega) W
  have HH : Hid (∀ (c : Int) (W : World), 0 ≤ c → Calls Try.prog 25 #[.string ⟨#[110, 115]⟩, .int .u8 c] W fun e w' => e = .returned (.bool (hasI ⟨#[110, 115]⟩ c)) ∧ W = w') := fun c W h => hasI_any _ c W h (by decide)
  have HI : Hid (nam.toList.isEmpty = decide (nam.size = 0)) := nam_none nam
  have HP : Hid ((w.alloc (mc (⟨1, num, nam, siz, off, sum, cod, bts⟩ : Ms) a c)).heap[w.heap.size]? = some (mc (⟨1, num, nam, siz, off, sum, cod, bts⟩ : Ms) a c)) := heap_alloc_new w _
  have qn : hasI ⟨#[110, 115]⟩ 110 = true := by decide
  have qs : hasI ⟨#[110, 115]⟩ 115 = true := by decide
  have qu : hasI ⟨#[110, 115]⟩ 117 = false := by decide
  have qo : hasI ⟨#[110, 115]⟩ 111 = false := by decide
  have qc : hasI ⟨#[110, 115]⟩ 99 = false := by decide
  have qb : hasI ⟨#[110, 115]⟩ 98 = false := by decide
  generalize okM (⟨1, num, nam, siz, off, sum, cod, bts⟩ : Ms) = R at HE ⊢
  go_enter Try.func11, Try.ntmps11
  go_wp2_with (first
    | (go_at_call 25; refine (HH.out _ _ (by decide)).mono ?_; rintro e w2 ⟨rfl, rfl⟩)
    | (go_at_call 24; refine (HF.out _).mono ?_; rintro e w1 ⟨rfl, hb1⟩; have HW1 : Hid (Below w.heap.size w w1) := below_of (HB.out _ _) hb1.out; obtain ⟨e0, e1, e2, e3, e4, e5, e6, e7⟩ := mcells (m := (⟨1, num, nam, siz, off, sum, cod, bts⟩ : Ms)) (old_block hb1.out HP.out); simp only at e0 e1 e2 e3 e4 e5 e6 e7; clear hb1))
  all_goals try (exfalso; rename_i hbn; exact hbn (List.eq_nil_of_length_eq_zero (by omega)))
  all_goals
    go_ret
    refine ⟨ret_bool ?_, HW1.out⟩
    clear HB HF HH HP e0 e1 e2 e3 e4 e5 e6 e7 qn qs qu qo qc qb HW1
    have hE := HE.out
    have hI := HI.out
    clear HE HI
    simp only [beq_iff_eq, bne_iff_ne, beq_eq_false_iff_ne, bne_eq_false_iff_eq, ne_eq, list_zero] at *
    cases R
    · first | rfl | (exact decide_eq_false (fun hh => by have h : ¬ (num ≠ 0 ∧ (1 ≤ nam.size ∧ nam.size ≤ 24) ∧ (0 ≤ siz ∧ siz ≤ 4096) ∧ sum = 0 ∧ cod = 0 ∧ bts.length = 0 ∧ off = 0) := fun h => Bool.false_ne_true (hE.2 h); omega)) | (exfalso; have h : ¬ (num ≠ 0 ∧ (1 ≤ nam.size ∧ nam.size ≤ 24) ∧ (0 ≤ siz ∧ siz ≤ 4096) ∧ sum = 0 ∧ cod = 0 ∧ bts.length = 0 ∧ off = 0) := fun h => Bool.false_ne_true (hE.2 h); omega)
    · first | rfl | (exact decide_eq_true (by have h := hE.1 rfl; omega)) | (exfalso; have h := hE.1 rfl; omega)
set_option maxRecDepth 20000 in
set_option maxHeartbeats 8000000 in
theorem rright_2 (num : Nat) (nam : ByteArray) (siz off : Int) (sum : Nat) (cod : Int) (bts : List Nat) (a : Option Addr) (c : Nat) (w : World) (hz : bts.length ≤ 140737488351232) : Calls Try.prog 11 #[mv (⟨2, num, nam, siz, off, sum, cod, bts⟩ : Ms) a c] w fun e w' => e = .returned (.bool (okM (⟨2, num, nam, siz, off, sum, cod, bts⟩ : Ms))) ∧ Hid (Below w.heap.size w w') := by
  have HB : Hid (∀ (w : World) (X : Obj), Below w.heap.size w (w.alloc X)) := fun w X => (Below.refl _ w).alloc (Nat.le_refl _) X
  have HE : Hid (okM (⟨2, num, nam, siz, off, sum, cod, bts⟩ : Ms) = true ↔ (num ≠ 0 ∧ nam.size = 0 ∧ siz = 0 ∧ sum = 0 ∧ cod = 0 ∧ bts.length ≤ 256 ∧ (0 ≤ off ∧ off ≤ 4096 - (bts.length : Int) ∧ 1 ≤ bts.length))) := ok_2 num nam siz off sum cod bts
  have HF : Hid (∀ W : World, Calls Try.prog 24 #[.int .i64 2] W fun e w' => e = .returned (.string ⟨#[111, 98]⟩) ∧ Hid (Below W.heap.size W w')) := fun W => fieldsR_yes 2 (by omega) W
  have HH : Hid (∀ (c : Int) (W : World), 0 ≤ c → Calls Try.prog 25 #[.string ⟨#[111, 98]⟩, .int .u8 c] W fun e w' => e = .returned (.bool (hasI ⟨#[111, 98]⟩ c)) ∧ W = w') := fun c W h => hasI_any _ c W h (by decide)
  have HI : Hid (nam.toList.isEmpty = decide (nam.size = 0)) := nam_none nam
  have HP : Hid ((w.alloc (mc (⟨2, num, nam, siz, off, sum, cod, bts⟩ : Ms) a c)).heap[w.heap.size]? = some (mc (⟨2, num, nam, siz, off, sum, cod, bts⟩ : Ms) a c)) := heap_alloc_new w _
  have qn : hasI ⟨#[111, 98]⟩ 110 = false := by decide
  have qs : hasI ⟨#[111, 98]⟩ 115 = false := by decide
  have qu : hasI ⟨#[111, 98]⟩ 117 = false := by decide
  have qo : hasI ⟨#[111, 98]⟩ 111 = true := by decide
  have qc : hasI ⟨#[111, 98]⟩ 99 = false := by decide
  have qb : hasI ⟨#[111, 98]⟩ 98 = true := by decide
  generalize okM (⟨2, num, nam, siz, off, sum, cod, bts⟩ : Ms) = R at HE ⊢
  go_enter Try.func11, Try.ntmps11
  go_wp2_with (first
    | (go_at_call 25; refine (HH.out _ _ (by decide)).mono ?_; rintro e w2 ⟨rfl, rfl⟩)
    | (go_at_call 24; refine (HF.out _).mono ?_; rintro e w1 ⟨rfl, hb1⟩; have HW1 : Hid (Below w.heap.size w w1) := below_of (HB.out _ _) hb1.out; obtain ⟨e0, e1, e2, e3, e4, e5, e6, e7⟩ := mcells (m := (⟨2, num, nam, siz, off, sum, cod, bts⟩ : Ms)) (old_block hb1.out HP.out); simp only at e0 e1 e2 e3 e4 e5 e6 e7; clear hb1))
  all_goals
    go_ret
    refine ⟨ret_bool ?_, HW1.out⟩
    clear HB HF HH HP e0 e1 e2 e3 e4 e5 e6 e7 qn qs qu qo qc qb HW1
    have hE := HE.out
    have hI := HI.out
    clear HE HI
    simp only [beq_iff_eq, bne_iff_ne, beq_eq_false_iff_ne, bne_eq_false_iff_eq, ne_eq, Bool.not_eq_true', Bool.not_eq_false', hI, decide_eq_true_eq, decide_eq_false_iff_not] at *
    cases R
    · first | rfl | (exact decide_eq_false (fun hh => by have h : ¬ (num ≠ 0 ∧ nam.size = 0 ∧ siz = 0 ∧ sum = 0 ∧ cod = 0 ∧ bts.length ≤ 256 ∧ (0 ≤ off ∧ off ≤ 4096 - (bts.length : Int) ∧ 1 ≤ bts.length)) := fun h => Bool.false_ne_true (hE.2 h); omega)) | (exfalso; have h : ¬ (num ≠ 0 ∧ nam.size = 0 ∧ siz = 0 ∧ sum = 0 ∧ cod = 0 ∧ bts.length ≤ 256 ∧ (0 ≤ off ∧ off ≤ 4096 - (bts.length : Int) ∧ 1 ≤ bts.length)) := fun h => Bool.false_ne_true (hE.2 h); omega)
    · first | rfl | (exact decide_eq_true (by have h := hE.1 rfl; omega)) | (exfalso; have h := hE.1 rfl; omega)
set_option maxRecDepth 20000 in
set_option maxHeartbeats 8000000 in
theorem rright_3 (num : Nat) (nam : ByteArray) (siz off : Int) (sum : Nat) (cod : Int) (bts : List Nat) (a : Option Addr) (c : Nat) (w : World) (hz : bts.length ≤ 140737488351232) : Calls Try.prog 11 #[mv (⟨3, num, nam, siz, off, sum, cod, bts⟩ : Ms) a c] w fun e w' => e = .returned (.bool (okM (⟨3, num, nam, siz, off, sum, cod, bts⟩ : Ms))) ∧ Hid (Below w.heap.size w w') := by
  have HB : Hid (∀ (w : World) (X : Obj), Below w.heap.size w (w.alloc X)) := fun w X => (Below.refl _ w).alloc (Nat.le_refl _) X
  have HE : Hid (okM (⟨3, num, nam, siz, off, sum, cod, bts⟩ : Ms) = true ↔ (num ≠ 0 ∧ nam.size = 0 ∧ (0 ≤ siz ∧ siz ≤ 4096) ∧ cod = 0 ∧ bts.length = 0 ∧ off = 0)) := ok_3 num nam siz off sum cod bts
  have HF : Hid (∀ W : World, Calls Try.prog 24 #[.int .i64 3] W fun e w' => e = .returned (.string ⟨#[115, 117]⟩) ∧ Hid (Below W.heap.size W w')) := fun W => fieldsR_yes 3 (by omega) W
  have HH : Hid (∀ (c : Int) (W : World), 0 ≤ c → Calls Try.prog 25 #[.string ⟨#[115, 117]⟩, .int .u8 c] W fun e w' => e = .returned (.bool (hasI ⟨#[115, 117]⟩ c)) ∧ W = w') := fun c W h => hasI_any _ c W h (by decide)
  have HI : Hid (nam.toList.isEmpty = decide (nam.size = 0)) := nam_none nam
  have HP : Hid ((w.alloc (mc (⟨3, num, nam, siz, off, sum, cod, bts⟩ : Ms) a c)).heap[w.heap.size]? = some (mc (⟨3, num, nam, siz, off, sum, cod, bts⟩ : Ms) a c)) := heap_alloc_new w _
  have qn : hasI ⟨#[115, 117]⟩ 110 = false := by decide
  have qs : hasI ⟨#[115, 117]⟩ 115 = true := by decide
  have qu : hasI ⟨#[115, 117]⟩ 117 = true := by decide
  have qo : hasI ⟨#[115, 117]⟩ 111 = false := by decide
  have qc : hasI ⟨#[115, 117]⟩ 99 = false := by decide
  have qb : hasI ⟨#[115, 117]⟩ 98 = false := by decide
  generalize okM (⟨3, num, nam, siz, off, sum, cod, bts⟩ : Ms) = R at HE ⊢
  go_enter Try.func11, Try.ntmps11
  go_wp2_with (first
    | (go_at_call 25; refine (HH.out _ _ (by decide)).mono ?_; rintro e w2 ⟨rfl, rfl⟩)
    | (go_at_call 24; refine (HF.out _).mono ?_; rintro e w1 ⟨rfl, hb1⟩; have HW1 : Hid (Below w.heap.size w w1) := below_of (HB.out _ _) hb1.out; obtain ⟨e0, e1, e2, e3, e4, e5, e6, e7⟩ := mcells (m := (⟨3, num, nam, siz, off, sum, cod, bts⟩ : Ms)) (old_block hb1.out HP.out); simp only at e0 e1 e2 e3 e4 e5 e6 e7; clear hb1))
  all_goals try (exfalso; rename_i hbn; exact hbn (List.eq_nil_of_length_eq_zero (by omega)))
  all_goals
    go_ret
    refine ⟨ret_bool ?_, HW1.out⟩
    clear HB HF HH HP e0 e1 e2 e3 e4 e5 e6 e7 qn qs qu qo qc qb HW1
    have hE := HE.out
    have hI := HI.out
    clear HE HI
    simp only [beq_iff_eq, bne_iff_ne, beq_eq_false_iff_ne, bne_eq_false_iff_eq, ne_eq, Bool.not_eq_true', Bool.not_eq_false', hI, decide_eq_true_eq, decide_eq_false_iff_not, list_zero] at *
    cases R
    · first | rfl | (exact decide_eq_false (fun hh => by have h : ¬ (num ≠ 0 ∧ nam.size = 0 ∧ (0 ≤ siz ∧ siz ≤ 4096) ∧ cod = 0 ∧ bts.length = 0 ∧ off = 0) := fun h => Bool.false_ne_true (hE.2 h); omega)) | (exfalso; have h : ¬ (num ≠ 0 ∧ nam.size = 0 ∧ (0 ≤ siz ∧ siz ≤ 4096) ∧ cod = 0 ∧ bts.length = 0 ∧ off = 0) := fun h => Bool.false_ne_true (hE.2 h); omega)
    · first | rfl | (exact decide_eq_true (by have h := hE.1 rfl; omega)) | (exfalso; have h := hE.1 rfl; omega)
end Go.Proofs.Ytfkkaihnmnjadaa
