/- heliographref11.Decode, whatever bytes. -/
import Derived.Test.YtfkkaihnmnjadaaPRDecA
import Derived.Test.YtfkkaihnmnjadaaPRDecB
import Derived.Test.YtfkkaihnmnjadaaPRDecC
import Derived.Test.YtfkkaihnmnjadaaPRDecD
import Derived.Test.YtfkkaihnmnjadaaPRDecE
import Derived.Test.YtfkkaihnmnjadaaPRDecF
namespace Go.Proofs.Ytfkkaihnmnjadaa
open Go.RowKit
set_option linter.unusedVariables false
theorem five_short {x : Nat} {t : List Nat} (hk : fld (x : Nat) ≠ 0) (h : (x :: t).length < 5) : decM (x :: t) = (zeroM, 7) := by
  refine dec_seven hk (seven_8 (seven_7 (seven_6 (seven_5 (seven_4 ?_)))))
  have h2 : (rd2 (x :: t)).2.2 = 7 := by
    unfold rd2 rd1
    rw [takes_ok (by simp), takes_short (by simp at h ⊢; omega)]
  exact optT_seven (f := fun a e => counts (x :: t) 1 a e) (fun _ => counts_seven) h2
set_option maxRecDepth 20000 in
set_option maxHeartbeats 4000000 in
theorem rdec_five (w : World) (b o c : Nat) (x : Nat) (t : List Nat) (hr : Row w (some ⟨b, o, none⟩) (x :: t)) (hk : fld (x : Nat) ≠ 0) (h5 : (x :: t).length < 5) : Calls Try.prog 16 #[.slice (some ⟨b, o, none⟩) (x :: t).length c] w fun e w' => RDec (x :: t) w e w' := by
  have HD : Hid (decM (x :: t) = (zeroM, 7)) := five_short hk h5
  have HB : Hid (∀ (w : World) (X : Obj), Below w.heap.size w (w.alloc X)) := fun w X => (Below.refl _ w).alloc (Nat.le_refl _) X
  have HMF : Hid (Mid w (w.alloc (mc zeroM none 0))) := Mid.first w
  obtain ⟨_, _, hv, hcc⟩ := hr.2.2 (by simp)
  cases hv
  have h0 := hcc 0 (by simp)
  have hcell : ∀ A, (w.alloc A).cell? ⟨b, o, none⟩ = some (.int .u8 (x : Nat)) := fun A => cell_later (HB.out w A) h0
  have hl : (x :: t).length = t.length + 1 := rfl
  rw [hl] at h5 ⊢
  have HF : Hid (∀ W : World, Calls Try.prog 24 #[.int .i64 x] W fun e w' => e = .returned (.string (fstr (x : Nat))) ∧ Hid (Below W.heap.size W w')) := fun W => fieldsR_yes (x : Nat) (by have := fld_cases (x : Nat); omega) W
  have hx := hr.1 x (by simp)
  have hfe : (fstr (x : Nat)).toList.isEmpty = false := by
    obtain rfl | rfl | rfl | rfl | rfl | rfl | rfl | rfl : x = 1 ∨ x = 2 ∨ x = 3 ∨ x = 4 ∨ x = 5 ∨ x = 6 ∨ x = 7 ∨ x = 8 := by have := knd_of hk; omega
    all_goals (rw [nam_none]; rfl)
  generalize fstr ((x : Nat) : Int) = fs at HF hfe
  have h5i : (t.length : Int) + 1 < 5 := by omega
  clear hr hk hcc h0 h5
  generalize x :: t = l at HD ⊢
  go_enter Try.func16, Try.ntmps16
  go_wp2_with (go_at_call 24; refine (HF.out _).mono ?_; rintro e w1 ⟨rfl, hb1⟩; have HM1 : Hid (Mid w w1) := HMF.out.later hb1.out; obtain ⟨z0, z1, z2, z3, z4, z5, z6, z7, zf⟩ := cells8 HM1.out.2)
  exact bodyPost_ret (v := .tuple #[mv zeroM none 0, .int .i64 7]) (by simp [results, Try.results16, go_sem, zeroM, z0, z1, z2, z3, z4, z5, z6, z7]) rfl (rdec_zero HD.out rfl (HM1.out.fin _ _ _ _ _ _ _ _))
theorem rdec_any (w : World) (a : Option Addr) (c : Nat) (l : List Nat) (hr : Row w a l) (hz : l.length ≤ 100000) (hc : l.length ≤ c) (hcm2 : c ≤ 140737488355327) : Calls Try.prog 16 #[.slice a l.length c] w fun e w' => RDec l w e w' := by
  cases l with
  | nil => exact rdec_nil w a c
  | cons x t =>
    obtain ⟨b, o, rfl, _⟩ := hr.2.2 (by simp)
    by_cases hk : fld (x : Nat) = 0
    · exact rdec_kind w b o c x t hr hk
    · by_cases h5 : (x :: t).length < 5
      · exact rdec_five w b o c x t hr hk h5
      · have h5 : 5 ≤ (x :: t).length := by omega
        obtain rfl | rfl | rfl | rfl | rfl | rfl | rfl | rfl : x = 1 ∨ x = 2 ∨ x = 3 ∨ x = 4 ∨ x = 5 ∨ x = 6 ∨ x = 7 ∨ x = 8 := by have := knd_of hk; omega
        · exact rdec_1 w b o c t hr hz hc hcm2 h5
        · exact rdec_2 w b o c t hr hz hc hcm2 h5
        · exact rdec_3 w b o c t hr hz hc hcm2 h5
        · exact rdec_4 w b o c t hr hz hc hcm2 h5
        · exact rdec_5 w b o c t hr hz hc hcm2 h5
        · exact rdec_6 w b o c t hr hz hc hcm2 h5
        · exact rdec_7 w b o c t hr hz hc hcm2 h5
        · exact rdec_8 w b o c t hr hz hc hcm2 h5
end Go.Proofs.Ytfkkaihnmnjadaa
