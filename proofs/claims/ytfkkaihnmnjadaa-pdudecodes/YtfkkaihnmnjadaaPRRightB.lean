/- heliographref11.Right: three Kinds more. -/
import Derived.Test.YtfkkaihnmnjadaaPROk
namespace Go.Proofs.Ytfkkaihnmnjadaa
open Go.RowKit
set_option linter.unusedVariables false
set_option maxRecDepth 20000 in
set_option maxHeartbeats 8000000 in
theorem rright_4 (num : Nat) (nam : ByteArray) (siz off : Int) (sum : Nat) (cod : Int) (bts : List Nat) (a : Option Addr) (c : Nat) (w : World) (hz : bts.length ≤ 140737488351232) : Calls Try.prog 11 #[mv (⟨4, num, nam, siz, off, sum, cod, bts⟩ : Ms) a c] w fun e w' => e = .returned (.bool (okM (⟨4, num, nam, siz, off, sum, cod, bts⟩ : Ms))) ∧ Hid (Below w.heap.size w w') := by
  have HB : Hid (∀ (w : World) (X : Obj), Below w.heap.size w (w.alloc X)) := fun w X => (Below.refl _ w).alloc (Nat.le_refl _) X
  have HE : Hid (okM (⟨4, num, nam, siz, off, sum, cod, bts⟩ : Ms) = true ↔ (num ≠ 0 ∧ nam.size = 0 ∧ siz = 0 ∧ sum = 0 ∧ (0 ≤ cod ∧ cod ≤ 255) ∧ bts.length = 0 ∧ off = 0)) := ok_4 num nam siz off sum cod bts
  have HF : Hid (∀ W : World, Calls Try.prog 24 #[.int .i64 4] W fun e w' => e = .returned (.string ⟨#[99]⟩) ∧ Hid (Below W.heap.size W w')) := fun W => fieldsR_yes 4 (by omega) W
  have HH : Hid (∀ (c : Int) (W : World), 0 ≤ c → Calls Try.prog 25 #[.string ⟨#[99]⟩, .int .u8 c] W fun e w' => e = .returned (.bool (hasI ⟨#[99]⟩ c)) ∧ W = w') := fun c W h => hasI_any _ c W h (by decide)
  have HI : Hid (nam.toList.isEmpty = decide (nam.size = 0)) := nam_none nam
  have HP : Hid ((w.alloc (mc (⟨4, num, nam, siz, off, sum, cod, bts⟩ : Ms) a c)).heap[w.heap.size]? = some (mc (⟨4, num, nam, siz, off, sum, cod, bts⟩ : Ms) a c)) := heap_alloc_new w _
  have qn : hasI ⟨#[99]⟩ 110 = false := by decide
  have qs : hasI ⟨#[99]⟩ 115 = false := by decide
  have qu : hasI ⟨#[99]⟩ 117 = false := by decide
  have qo : hasI ⟨#[99]⟩ 111 = false := by decide
  have qc : hasI ⟨#[99]⟩ 99 = true := by decide
  have qb : hasI ⟨#[99]⟩ 98 = false := by decide
  generalize okM (⟨4, num, nam, siz, off, sum, cod, bts⟩ : Ms) = R at HE ⊢
  go_enter Try.func11, Try.ntmps11
  go_wp2_with (first
    | (go_at_call 25; refine (HH.out _ _ (by decide)).mono ?_; rintro e w2 ⟨rfl, rfl⟩)
    | (go_at_call 24; refine (HF.out _).mono ?_; rintro e w1 ⟨rfl, hb1⟩; have HW1 : Hid (Below w.heap.size w w1) := below_of (HB.out _ _) hb1.out; obtain ⟨e0, e1, e2, e3, e4, e5, e6, e7⟩ := mcells (m := (⟨4, num, nam, siz, off, sum, cod, bts⟩ : Ms)) (old_block hb1.out HP.out); simp only at e0 e1 e2 e3 e4 e5 e6 e7; clear hb1))
  all_goals try (exfalso; rename_i hbn; exact hbn (List.eq_nil_of_length_eq_zero (by omega)))
  all_goals
    go_ret
    refine ⟨ret_bool ?_, HW1.out⟩
    clear HB HF HH HP e0 e1 e2 e3 e4 e5 e6 e7 qn qs qu qo qc qb HW1
    have hE := HE.out
    have hI := HI.out
    clear HE HI
    simp only [beq_iff_eq, bne_iff_ne, beq_eq_false_iff_ne, bne_eq_false_iff_eq, ne_eq, Bool.not_eq_true', Bool.not_eq_false', hI, decide_eq_true_eq, decide_eq_false_iff_not, list_zero] at *
    cases R
    · first | rfl | (exact decide_eq_false (fun hh => by have h : ¬ (num ≠ 0 ∧ nam.size = 0 ∧ siz = 0 ∧ sum = 0 ∧ (0 ≤ cod ∧ cod ≤ 255) ∧ bts.length = 0 ∧ off = 0) := fun h => Bool.false_ne_true (hE.2 h); omega)) | (exfalso; have h : ¬ (num ≠ 0 ∧ nam.size = 0 ∧ siz = 0 ∧ sum = 0 ∧ (0 ≤ cod ∧ cod ≤ 255) ∧ bts.length = 0 ∧ off = 0) := fun h => Bool.false_ne_true (hE.2 h); omega)
    · first | rfl | (exact decide_eq_true (by have h := hE.1 rfl; omega)) | (exfalso; have h := hE.1 rfl; omega)
set_option maxRecDepth 20000 in
set_option maxHeartbeats 8000000 in
theorem rright_5 (num : Nat) (nam : ByteArray) (siz off : Int) (sum : Nat) (cod : Int) (bts : List Nat) (a : Option Addr) (c : Nat) (w : World) (hz : bts.length ≤ 140737488351232) : Calls Try.prog 11 #[mv (⟨5, num, nam, siz, off, sum, cod, bts⟩ : Ms) a c] w fun e w' => e = .returned (.bool (okM (⟨5, num, nam, siz, off, sum, cod, bts⟩ : Ms))) ∧ Hid (Below w.heap.size w w') := by
  have HB : Hid (∀ (w : World) (X : Obj), Below w.heap.size w (w.alloc X)) := fun w X => (Below.refl _ w).alloc (Nat.le_refl _) X
  have HE : Hid (okM (⟨5, num, nam, siz, off, sum, cod, bts⟩ : Ms) = true ↔ (num ≠ 0 ∧ (1 ≤ nam.size ∧ nam.size ≤ 24) ∧ siz = 0 ∧ sum = 0 ∧ cod = 0 ∧ bts.length ≤ 256 ∧ off = 0)) := ok_5 num nam siz off sum cod bts
  have HF : Hid (∀ W : World, Calls Try.prog 24 #[.int .i64 5] W fun e w' => e = .returned (.string ⟨#[110, 98]⟩) ∧ Hid (Below W.heap.size W w')) := fun W => fieldsR_yes 5 (by omega) W
  have HH : Hid (∀ (c : Int) (W : World), 0 ≤ c → Calls Try.prog 25 #[.string ⟨#[110, 98]⟩, .int .u8 c] W fun e w' => e = .returned (.bool (hasI ⟨#[110, 98]⟩ c)) ∧ W = w') := fun c W h => hasI_any _ c W h (by decide)
  have HI : Hid (nam.toList.isEmpty = decide (nam.size = 0)) := nam_none nam
  have HP : Hid ((w.alloc (mc (⟨5, num, nam, siz, off, sum, cod, bts⟩ : Ms) a c)).heap[w.heap.size]? = some (mc (⟨5, num, nam, siz, off, sum, cod, bts⟩ : Ms) a c)) := heap_alloc_new w _
  have qn : hasI ⟨#[110, 98]⟩ 110 = true := by decide
  have qs : hasI ⟨#[110, 98]⟩ 115 = false := by decide
  have qu : hasI ⟨#[110, 98]⟩ 117 = false := by decide
  have qo : hasI ⟨#[110, 98]⟩ 111 = false := by decide
  have qc : hasI ⟨#[110, 98]⟩ 99 = false := by decide
  have qb : hasI ⟨#[110, 98]⟩ 98 = true := by decide
  generalize okM (⟨5, num, nam, siz, off, sum, cod, bts⟩ : Ms) = R at HE ⊢
  go_enter Try.func11, Try.ntmps11
  go_wp2_with (first
    | (go_at_call 25; refine (HH.out _ _ (by decide)).mono ?_; rintro e w2 ⟨rfl, rfl⟩)
    | (go_at_call 24; refine (HF.out _).mono ?_; rintro e w1 ⟨rfl, hb1⟩; have HW1 : Hid (Below w.heap.size w w1) := below_of (HB.out _ _) hb1.out; obtain ⟨e0, e1, e2, e3, e4, e5, e6, e7⟩ := mcells (m := (⟨5, num, nam, siz, off, sum, cod, bts⟩ : Ms)) (old_block hb1.out HP.out); simp only at e0 e1 e2 e3 e4 e5 e6 e7; clear hb1))
  all_goals
    go_ret
    refine ⟨ret_bool ?_, HW1.out⟩
    clear HB HF HH HP e0 e1 e2 e3 e4 e5 e6 e7 qn qs qu qo qc qb HW1
    have hE := HE.out
    have hI := HI.out
    clear HE HI
    simp only [beq_iff_eq, bne_iff_ne, beq_eq_false_iff_ne, bne_eq_false_iff_eq, ne_eq] at *
    cases R
    · first | rfl | (exact decide_eq_false (fun hh => by have h : ¬ (num ≠ 0 ∧ (1 ≤ nam.size ∧ nam.size ≤ 24) ∧ siz = 0 ∧ sum = 0 ∧ cod = 0 ∧ bts.length ≤ 256 ∧ off = 0) := fun h => Bool.false_ne_true (hE.2 h); omega)) | (exfalso; have h : ¬ (num ≠ 0 ∧ (1 ≤ nam.size ∧ nam.size ≤ 24) ∧ siz = 0 ∧ sum = 0 ∧ cod = 0 ∧ bts.length ≤ 256 ∧ off = 0) := fun h => Bool.false_ne_true (hE.2 h); omega)
    · first | rfl | (exact decide_eq_true (by have h := hE.1 rfl; omega)) | (exfalso; have h := hE.1 rfl; omega)
set_option maxRecDepth 20000 in
set_option maxHeartbeats 8000000 in
theorem rright_6 (num : Nat) (nam : ByteArray) (siz off : Int) (sum : Nat) (cod : Int) (bts : List Nat) (a : Option Addr) (c : Nat) (w : World) (hz : bts.length ≤ 140737488351232) : Calls Try.prog 11 #[mv (⟨6, num, nam, siz, off, sum, cod, bts⟩ : Ms) a c] w fun e w' => e = .returned (.bool (okM (⟨6, num, nam, siz, off, sum, cod, bts⟩ : Ms))) ∧ Hid (Below w.heap.size w w') := by
  have HB : Hid (∀ (w : World) (X : Obj), Below w.heap.size w (w.alloc X)) := fun w X => (Below.refl _ w).alloc (Nat.le_refl _) X
  have HE : Hid (okM (⟨6, num, nam, siz, off, sum, cod, bts⟩ : Ms) = true ↔ (num ≠ 0 ∧ (1 ≤ nam.size ∧ nam.size ≤ 24) ∧ siz = 0 ∧ sum = 0 ∧ cod = 0 ∧ bts.length = 0 ∧ off = 0)) := ok_6 num nam siz off sum cod bts
  have HF : Hid (∀ W : World, Calls Try.prog 24 #[.int .i64 6] W fun e w' => e = .returned (.string ⟨#[110]⟩) ∧ Hid (Below W.heap.size W w')) := fun W => fieldsR_yes 6 (by omega) W
  have HH : Hid (∀ (c : Int) (W : World), 0 ≤ c → Calls Try.prog 25 #[.string ⟨#[110]⟩, .int .u8 c] W fun e w' => e = .returned (.bool (hasI ⟨#[110]⟩ c)) ∧ W = w') := fun c W h => hasI_any _ c W h (by decide)
  have HI : Hid (nam.toList.isEmpty = decide (nam.size = 0)) := nam_none nam
  have HP : Hid ((w.alloc (mc (⟨6, num, nam, siz, off, sum, cod, bts⟩ : Ms) a c)).heap[w.heap.size]? = some (mc (⟨6, num, nam, siz, off, sum, cod, bts⟩ : Ms) a c)) := heap_alloc_new w _
  have qn : hasI ⟨#[110]⟩ 110 = true := by decide
  have qs : hasI ⟨#[110]⟩ 115 = false := by decide
  have qu : hasI ⟨#[110]⟩ 117 = false := by decide
  have qo : hasI ⟨#[110]⟩ 111 = false := by decide
  have qc : hasI ⟨#[110]⟩ 99 = false := by decide
  have qb : hasI ⟨#[110]⟩ 98 = false := by decide
  generalize okM (⟨6, num, nam, siz, off, sum, cod, bts⟩ : Ms) = R at HE ⊢
  go_enter Try.func11, Try.ntmps11
  go_wp2_with (first
    | (go_at_call 25; refine (HH.out _ _ (by decide)).mono ?_; rintro e w2 ⟨rfl, rfl⟩)
    | (go_at_call 24; refine (HF.out _).mono ?_; rintro e w1 ⟨rfl, hb1⟩; have HW1 : Hid (Below w.heap.size w w1) := below_of (HB.out _ _) hb1.out; obtain ⟨e0, e1, e2, e3, e4, e5, e6, e7⟩ := mcells (m := (⟨6, num, nam, siz, off, sum, cod, bts⟩ : Ms)) (old_block hb1.out HP.out); simp only at e0 e1 e2 e3 e4 e5 e6 e7; clear hb1))
  all_goals try (exfalso; rename_i hbn; exact hbn (List.eq_nil_of_length_eq_zero (by omega)))
  all_goals
    go_ret
    refine ⟨ret_bool ?_, HW1.out⟩
    clear HB HF HH HP e0 e1 e2 e3 e4 e5 e6 e7 qn qs qu qo qc qb HW1
    have hE := HE.out
    have hI := HI.out
    clear HE HI
    simp only [beq_iff_eq, bne_iff_ne, beq_eq_false_iff_ne, bne_eq_false_iff_eq, ne_eq, list_zero] at *
    cases R
    · first | rfl | (exact decide_eq_false (fun hh => by have h : ¬ (num ≠ 0 ∧ (1 ≤ nam.size ∧ nam.size ≤ 24) ∧ siz = 0 ∧ sum = 0 ∧ cod = 0 ∧ bts.length = 0 ∧ off = 0) := fun h => Bool.false_ne_true (hE.2 h); omega)) | (exfalso; have h : ¬ (num ≠ 0 ∧ (1 ≤ nam.size ∧ nam.size ≤ 24) ∧ siz = 0 ∧ sum = 0 ∧ cod = 0 ∧ bts.length = 0 ∧ off = 0) := fun h => Bool.false_ne_true (hE.2 h); omega)
    · first | rfl | (exact decide_eq_true (by have h := hE.1 rfl; omega)) | (exfalso; have h := hE.1 rfl; omega)
end Go.Proofs.Ytfkkaihnmnjadaa
