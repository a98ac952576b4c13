/- The walk of the reference's own Right. -/
import Derived.Test.YtfocejmfmnijpaaFRefPlace
namespace Go.Proofs.Ytfocejmfmnijpaa
open Go.RowKit

theorem quiet_same_add {P : Program} {f : FuncId} {args : Array Value} {w : World} {m n : Nat} {v : Value}
    (h : Calls P f args (w.drewN (m + n)) fun e w' => e = .returned v ∧ w' = w.drewN (m + n)) : Calls P f args (w.drewN (m + n)) fun e w'' => e = .returned v ∧ ∃ k, w'' = w.drewN (m + k) :=
  h.mono fun _ _ ⟨he, hm⟩ => ⟨he, n, hm⟩
theorem right_no_file {L : List Fil} {k : Nat} (h : k < L.length) (hf : fileB L[k] = false) : rightB L = false := by
  unfold rightB
  cases ha : L.all fileB with
  | false => simp
  | true => rw [List.all_eq_true.1 ha _ (List.getElem_mem h)] at hf; cases hf
theorem right_no_rise {L : List Fil} {k : Nat} (h : k + 1 < L.length) (hf : lessB L[k].name L[k + 1].name = false) : rightB L = false := by
  apply rightB_rising
  cases ha : risingB L with
  | false => rfl
  | true => rw [(rising_iff L).1 ha k h] at hf; cases hf
/-- the files that were gone through. -/
def Went (L : List Fil) (k : Nat) : Prop := (∀ i (h : i < L.length), i < k → fileB L[i] = true) ∧ ∀ i (h : i + 1 < L.length), i + 1 < k → lessB L[i].name L[i + 1].name = true
theorem went_one {L : List Fil} {k : Nat} (h : Went L k) (hl : k < L.length) (hf : fileB L[k] = true) (hr : ∀ j, j + 1 = k → ∀ h : j + 1 < L.length, lessB L[j].name L[j + 1].name = true) : Went L (k + 1) := by
  refine ⟨fun i hi hik => ?_, fun i hi hik => ?_⟩
  · rcases Nat.lt_or_ge i k with h2 | h2
    · exact h.1 i hi h2
    · obtain rfl : i = k := by omega
      exact hf
  · rcases Nat.lt_or_ge (i + 1) k with h2 | h2
    · exact h.2 i hi h2
    · exact hr i (by omega) hi
theorem went_all {L : List Fil} (h : Went L L.length) : rightB L = !overB L := by
  have h1 : L.all fileB = true := List.all_eq_true.2 fun x hx => by
    obtain ⟨i, hi, rfl⟩ := List.getElem_of_mem hx
    exact h.1 i hi hi
  have h2 : risingB L = true := (rising_iff L).2 fun i hi => h.2 i hi hi
  unfold rightB
  rw [h1, h2]; simp

set_option maxHeartbeats 8000000 in
set_option maxRecDepth 100000 in
theorem right_any (w : World) (a : Option Addr) (c : Nat) (L : List Fil) (h : ListAt w a L) (hb : costS L ≤ 4611686018427387904) :
    Calls Try.prog 11 #[.agg #[.slice a L.length c]] w fun e w' => e = .returned (.bool (rightB L)) ∧ Hid (Below w.heap.size w w') := by
  have hm := h.2.1
  have HL : Hid (∀ m, ListAt ((w.alloc (.cells #[.slice a L.length c] 24)).drewN m) a L ∧ Below w.heap.size w ((w.alloc (.cells #[.slice a L.length c] 24)).drewN m)) := fun m => by
    have := below_drewN ((Below.refl _ w).alloc (Nat.le_refl _) (.cells #[.slice a L.length c] 24)) m
    exact ⟨h.later this, this⟩
  have HC : Hid ((w.alloc (.cells #[.slice a L.length c] 24)).cell? ⟨w.heap.size, 0, none⟩ = some (.slice a L.length c)) := by show _ = _; rw [cell_of (heap_alloc_new w _)]; rfl
  clear h
  go_enter Try.func11, Try.ntmps11
  go_wp2
  go_loopw [3] (fun i wr => ∃ k : Nat, k ≤ L.length ∧ i = .int .i64 k ∧ Hid (Went L k) ∧ ∃ m, wr = (w.alloc (.cells #[.slice a L.length c] 24)).drewN m) (fun i _ => L.length - (intOf i).toNat)
  case atStart => exact ⟨0, Nat.zero_le _, rfl, ⟨fun j _ h => by omega, fun j _ h => by omega⟩, 0, rfl⟩
  case round =>
    obtain ⟨k, hk, rfl, hr, nd, rfl⟩ := hrel
    have d0 := HC.out
    by_cases hkl : k < L.length
    · obtain ⟨b, o, rfl, hc⟩ := (HL.out 0).1.2.2 (by omega)
      have hi1 : (k : Int) < (L.length : Int) := by omega
      have h1 : (w.alloc (.cells #[.slice (some ⟨b, o, none⟩) L.length c] 24)).cell? ⟨b, o + k * 2, none⟩ = some (.string L[k].name) := (hc k hkl).1
      obtain ⟨a2, c2, h2', _, _, _⟩ := (hc k hkl).2
      have h2 : (w.alloc (.cells #[.slice (some ⟨b, o, none⟩) L.length c] 24)).cell? ⟨b, o + k * 2 + 1, none⟩ = some (.slice a2 L[k].bytes.length c2) := h2'
      clear h2'
      have HQ : Hid (∀ W, Calls Try.prog 29 #[.string L[k].name] W fun e w' => e = .returned (.bool (nameB L[k].name)) ∧ w' = W) := fun W => rname_any _ W ((HL.out 0).1.1 _ (List.getElem_mem hkl))
      cases hnb : nameB L[k].name with
      | false =>
        have HF : Hid (rightB L = false) := right_no_file hkl (file_noName hnb)
        rw [hnb] at HQ
        clear hc hnb
        generalize L[k] = x at h1 h2 HQ
        go_wp2
        go_quiet ((go_at_call 29; exact quiet_same_add (HQ.out _)))
        go_wp2
        go_ret
        exact ⟨ret_bool HF.out.symm, below_drewN (HL.out nd).2 _⟩
      | true =>
        rw [hnb] at HQ
        by_cases h4 : L[k].bytes.length ≤ 4096
        · have HFB : Hid (fileB L[k] = true) := file_ok hnb h4
          by_cases hk0 : 0 < k
          · obtain ⟨j, hj⟩ : ∃ j, k = j + 1 := ⟨k - 1, by omega⟩
            have hjn : j < L.length := by omega
            have h3 : (w.alloc (.cells #[.slice (some ⟨b, o, none⟩) L.length c] 24)).cell? ⟨b, o + j * 2, none⟩ = some (.string L[j].name) := (hc j hjn).1
            have hw1 : IntKind.i64.wrap ((k : Int) - 1) = (j : Int) := by rw [IntKind.wrap_i64] <;> omega
            have hjl : (j : Int) < (L.length : Int) := by omega
            cases hl : lessB L[j].name L[k].name with
            | true =>
              have HW : Hid (Went L (k + 1)) := went_one hr.out hkl HFB.out (fun i hi _ => by
                obtain rfl : i = j := by omega
                subst hj
                exact hl)
              have hl2 := hl
              unfold lessB at hl2
              clear hc hnb HFB hl
              generalize L[k] = x at h1 h2 HQ h4 hl2
              generalize L[j] = y at h3 hl2
              have HJ : Hid (k = j + 1) := hj
              clear hj hjn
              have h4b : decide ((4096 : Int) < (x.bytes.length : Int)) = false := decide_eq_false (by omega)
              clear h4
              go_wp2
              go_quiet ((go_at_call 29; exact quiet_same_add (HQ.out _)))
              go_wp2
              go_roundw
              case rel => exact ⟨k + 1, by omega, by go_num, HW.out, nd + nq, rfl⟩
              case measure => simp [intOf]; omega
            | false =>
              have HF : Hid (rightB L = false) := by
                subst hj
                exact right_no_rise hkl hl
              have hl2 := hl
              unfold lessB at hl2
              clear hc hnb HFB hl
              generalize L[k] = x at h1 h2 HQ h4 hl2
              generalize L[j] = y at h3 hl2
              have HJ : Hid (k = j + 1) := hj
              clear hj hjn
              have h4b : decide ((4096 : Int) < (x.bytes.length : Int)) = false := decide_eq_false (by omega)
              clear h4
              go_wp2
              go_quiet ((go_at_call 29; exact quiet_same_add (HQ.out _)))
              go_wp2
              go_ret
              exact ⟨ret_bool HF.out.symm, below_drewN (HL.out nd).2 _⟩
          · have HW : Hid (Went L (k + 1)) := went_one hr.out hkl HFB.out (fun j hj => by omega)
            have hkz : decide (0 < k) = false := decide_eq_false hk0
            clear hc hnb HFB hk0
            generalize L[k] = x at h1 h2 HQ h4
            have h4b : decide ((4096 : Int) < (x.bytes.length : Int)) = false := decide_eq_false (by omega)
            have hkb : decide ((0 : Int) < (k : Int)) = false := decide_eq_false (by have := of_decide_eq_false hkz; omega)
            clear h4
            go_wp2
            go_quiet ((go_at_call 29; exact quiet_same_add (HQ.out _)))
            go_wp2
            go_roundw
            case rel => exact ⟨k + 1, by omega, by go_num, HW.out, nd + nq, rfl⟩
            case measure => simp [intOf]; omega
        · have HF : Hid (rightB L = false) := right_no_file hkl (file_long h4)
          clear hc hnb
          generalize L[k] = x at h1 h2 HQ h4
          have h4i : (4096 : Int) < (x.bytes.length : Int) := by omega
          go_wp2
          go_quiet ((go_at_call 29; exact quiet_same_add (HQ.out _)))
          go_wp2
          go_ret
          exact ⟨ret_bool HF.out.symm, below_drewN (HL.out nd).2 _⟩
    · obtain rfl : k = L.length := by omega
      have HW : Hid (rightB L = !overB L) := went_all hr.out
      have HQ : Hid (∀ n, Calls Try.prog 30 #[.slice a L.length c] ((w.alloc (.cells #[.slice a L.length c] 24)).drewN n) fun e w' => e = .returned (.int .i64 (costS L : Nat)) ∧ ∃ m, w' = ((w.alloc (.cells #[.slice a L.length c] 24)).drewN n).drewN m) := fun n => rcost_any _ a c L (HL.out n).1 hb
      by_cases h64 : L.length ≤ 64
      · have h64i : (L.length : Int) ≤ 64 := by omega
        have HE : Hid (decide ((costS L : Int) ≤ 32768) = rightB L) := by
          show _ = _
          rw [HW.out]
          unfold overB
          by_cases hc : costS L ≤ 32768
          · rw [decide_eq_true (by omega), decide_eq_false (by omega)]; rfl
          · rw [decide_eq_false (by omega), decide_eq_true (by omega)]; rfl
        go_wp2_with (go_at_call 30; refine (HQ.out nd).mono ?_; rintro e w1 ⟨rfl, n1, rfl⟩)
        go_ret
        exact ⟨ret_bool HE.out, (HL.out (nd + n1)).2⟩
      · have HF : Hid (rightB L = false) := by
          show _ = _
          rw [HW.out]
          unfold overB
          rw [decide_eq_true (.inl (by omega))]; rfl
        have h64i : ¬ ((L.length : Int) ≤ 64) := by omega
        go_wp2
        go_ret
        exact ⟨ret_bool HF.out.symm, (HL.out nd).2⟩
end Go.Proofs.Ytfocejmfmnijpaa
