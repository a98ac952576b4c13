/- The walk of the reference's own Place. -/
import Derived.Test.YtfocejmfmnijpaaFRefs
import Derived.Test.YtfocejmfmnijpaaFNames
import Derived.Test.YtfocejmfmnijpaaFOwn
namespace Go.Proofs.Ytfocejmfmnijpaa
open Go.RowKit

theorem atS_is {L : List Fil} {n : ByteArray} {k : Nat} (hk : k ≤ L.length) (h1 : ∀ j (h : j < L.length), j < k → lessB L[j].name n = true) (h2 : ∀ h : k < L.length, lessB L[k].name n = false) : atS L n = k := by
  rcases Nat.lt_trichotomy (atS L n) k with h | h | h
  · have := atS_at L n (by omega)
    rw [h1 _ (by omega) h] at this; cases this
  · exact h
  · have hl : k < L.length := by have := atS_le L n; omega
    have := atS_below L n k hl h
    rw [h2 hl] at this; cases this

theorem name_same (a b : ByteArray) : (a.toList == b.toList) = decide (a = b) := by
  by_cases h : a = b
  · subst h; simp
  · rw [decide_eq_false h]
    exact beq_eq_false_iff_ne.2 (fun e => h (toList_inj e))

theorem there_at {L : List Fil} {n : ByteArray} {k : Nat} (h : atS L n = k) (hk : k < L.length) : thereB L n = decide (L[k].name = n) := by
  subst h
  unfold thereB
  rw [List.getElem?_eq_getElem hk]
theorem there_end {L : List Fil} {n : ByteArray} {k : Nat} (h : atS L n = k) (hk : ¬ k < L.length) : thereB L n = false := by
  subst h
  unfold thereB
  rw [List.getElem?_eq_none (by omega)]
theorem ret_place {L : List Fil} {n : ByteArray} {k : Nat} {b : Bool} (h1 : k = atS L n) (h2 : b = thereB L n) : Ending.returned (.tuple #[.int .i64 (k : Nat), .bool b]) = .returned (.tuple #[.int .i64 (atS L n : Nat), .bool (thereB L n)]) := by rw [h1, h2]

set_option maxHeartbeats 4000000 in
theorem rplace_any (w : World) (a : Option Addr) (c : Nat) (L : List Fil) (h : ListAt w a L) (n : ByteArray) :
    Calls Try.prog 58 #[.agg #[.slice a L.length c], .string n] w fun e w' => e = .returned (.tuple #[.int .i64 (atS L n : Nat), .bool (thereB L n)]) ∧ Below w.heap.size w w' := by
  have hm := h.2.1
  have HL : Hid (∀ m, ListAt ((w.alloc (.cells #[.slice a L.length c] 24)).drewN m) a L ∧ Below w.heap.size w ((w.alloc (.cells #[.slice a L.length c] 24)).drewN m)) := fun m => by
    have := below_drewN ((Below.refl _ w).alloc (Nat.le_refl _) (.cells #[.slice a L.length c] 24)) m
    exact ⟨h.later this, this⟩
  have HC : Hid (∀ m, ((w.alloc (.cells #[.slice a L.length c] 24)).drewN m).cell? ⟨w.heap.size, 0, none⟩ = some (.slice a L.length c)) := fun m => cell_later (below_drewN (Below.refl _ _) m) (by rw [cell_of (heap_alloc_new w _)]; rfl)
  clear h
  go_enter Try.func58, Try.ntmps58
  go_wp2
  go_loopw [6] (fun i wr => ∃ k : Nat, k ≤ L.length ∧ i = .int .i64 k ∧ Hid (∀ j (h : j < L.length), j < k → lessB L[j].name n = true) ∧ ∃ m, wr = (w.alloc (.cells #[.slice a L.length c] 24)).drewN m) (fun i _ => L.length - (intOf i).toNat)
  case atStart => exact ⟨0, Nat.zero_le _, rfl, fun j _ h => by omega, 0, rfl⟩
  case round =>
    obtain ⟨k, hk, rfl, hr, nd, rfl⟩ := hrel
    have d0 : (w.alloc (.cells #[.slice a L.length c] 24)).cell? ⟨w.heap.size, 0, none⟩ = some (.slice a L.length c) := HC.out 0
    by_cases hkl : k < L.length
    · obtain ⟨b, o, rfl, hc⟩ := (HL.out 0).1.2.2 (by omega)
      have h1 : (w.alloc (.cells #[.slice (some ⟨b, o, none⟩) L.length c] 24)).cell? ⟨b, o + k * 2, none⟩ = some (.string L[k].name) := (hc k hkl).1
      have hi1 : (k : Int) < (L.length : Int) := by omega
      clear hc
      cases hl : lessB L[k].name n with
      | true =>
        have hl2 := hl
        unfold lessB at hl2
        have HL1 : Hid (lessB L[k].name n = true) := hl
        clear hl
        generalize L[k] = x at h1 hl2
        go_wp2
        go_roundw
        case rel => exact ⟨k + 1, by omega, by go_num, fun i hi hik => (Nat.lt_or_ge i k).elim (fun h => hr.out i hi h) (fun h => (Nat.le_antisymm (Nat.lt_succ_iff.1 hik) h) ▸ HL1.out), nd, rfl⟩
        case measure => simp [intOf]; omega
      | false =>
        have hat : atS L n = k := atS_is hk hr.out (fun _ => hl)
        have HT : Hid (k = atS L n ∧ (L[k].name.toList == n.toList) = thereB L n) := ⟨hat.symm, by rw [there_at hat hkl, name_same]⟩
        have hl2 := hl
        unfold lessB at hl2
        clear hl hat
        obtain ⟨x, hx⟩ : ∃ x, x = L[k] := ⟨_, rfl⟩
        rw [← hx] at h1 hl2 HT
        clear hx
        go_wp2
        go_quiet (fail)
        go_wp2
        go_ret2
        exact ⟨ret_place HT.out.1 HT.out.2, below_drewN (HL.out nd).2 _⟩
    · obtain rfl : k = L.length := by omega
      have hat : atS L n = L.length := atS_is (Nat.le_refl _) hr.out (fun h => absurd h (by omega))
      have HT : Hid (L.length = atS L n ∧ false = thereB L n) := ⟨hat.symm, (there_end hat (by omega)).symm⟩
      clear hat
      go_wp2
      go_quiet (fail)
      go_wp2
      go_ret2
      exact ⟨ret_place HT.out.1 HT.out.2, below_drewN (HL.out nd).2 _⟩
end Go.Proofs.Ytfocejmfmnijpaa
