/- heliographref11.Fields, has. -/
import Derived.Test.YtfkkaihnmnjadaaPWalk
namespace Go.Proofs.Ytfkkaihnmnjadaa
open Go.RowKit
set_option linter.unusedVariables false
/-- the letters of the fields that count. -/
def fstr (k : Int) : ByteArray :=
  if k = 1 then ⟨#[110, 115]⟩ else if k = 2 then ⟨#[111, 98]⟩ else if k = 3 then ⟨#[115, 117]⟩ else if k = 4 then ⟨#[99]⟩ else if k = 5 then ⟨#[110, 98]⟩ else if k = 6 then ⟨#[110]⟩ else if k = 7 then ⟨#[98]⟩ else if k = 8 then ⟨#[99, 98]⟩ else ⟨#[]⟩
theorem fstr_no {k : Int} (h : fld k = 0) : fstr k = ⟨#[]⟩ := by
  unfold fstr
  have h1 : k ≠ 1 := fun e => by subst e; exact absurd h (by decide)
  have h2 : k ≠ 2 := fun e => by subst e; exact absurd h (by decide)
  have h3 : k ≠ 3 := fun e => by subst e; exact absurd h (by decide)
  have h4 : k ≠ 4 := fun e => by subst e; exact absurd h (by decide)
  have h5 : k ≠ 5 := fun e => by subst e; exact absurd h (by decide)
  have h6 : k ≠ 6 := fun e => by subst e; exact absurd h (by decide)
  have h7 : k ≠ 7 := fun e => by subst e; exact absurd h (by decide)
  have h8 : k ≠ 8 := fun e => by subst e; exact absurd h (by decide)
  rw [if_neg h1, if_neg h2, if_neg h3, if_neg h4, if_neg h5, if_neg h6, if_neg h7, if_neg h8]
set_option maxRecDepth 20000 in
set_option maxHeartbeats 2000000 in
theorem fieldsR_yes (k : Int) (h : k = 1 ∨ k = 2 ∨ k = 3 ∨ k = 4 ∨ k = 5 ∨ k = 6 ∨ k = 7 ∨ k = 8) (w : World) : Calls Try.prog 24 #[.int .i64 k] w fun e w' => e = .returned (.string (fstr k)) ∧ Hid (Below w.heap.size w w') := by
  have HB : Hid (∀ X : Obj, Below w.heap.size w (w.alloc X)) := fun X => (Below.refl _ w).alloc (Nat.le_refl _) X
  rcases h with rfl | rfl | rfl | rfl | rfl | rfl | rfl | rfl
  all_goals
    go_enter Try.func24, Try.ntmps24
    go_wp2
    go_ret
    exact ⟨rfl, HB.out _⟩
theorem fieldsR_no (k : Int) (h : fld k = 0) (w : World) : Calls Try.prog 24 #[.int .i64 k] w fun e w' => e = .returned (.string ⟨#[]⟩) ∧ Hid (Below w.heap.size w w') := by
  have hk : ¬ (1 ≤ k ∧ k ≤ 8) := fun hk => by
    obtain rfl | rfl | rfl | rfl | rfl | rfl | rfl | rfl : k = 1 ∨ k = 2 ∨ k = 3 ∨ k = 4 ∨ k = 5 ∨ k = 6 ∨ k = 7 ∨ k = 8 := by omega
    all_goals exact absurd h (by decide)
  clear h
  by_cases h1 : k < 1
  · clear hk
    go_enter Try.func24, Try.ntmps24
    go_wp2
    go_ret
    exact ⟨rfl, Below.refl _ _⟩
  · have h8 : 8 < k := by omega
    clear hk
    go_enter Try.func24, Try.ntmps24
    go_wp2
    go_ret
    exact ⟨rfl, Below.refl _ _⟩
/-- is a letter among these? -/
def hasB (s : ByteArray) (c : Nat) : Bool := (nbytes s).contains c
theorem nbytes_at (s : ByteArray) (k : Nat) (h : k < s.size) : (nbytes s)[k]? = some (s[k]'h).toNat := by
  unfold nbytes
  rw [List.getElem?_map]
  have h2 : k < s.data.toList.length := by simpa using h
  rw [List.getElem?_eq_getElem h2]
  rfl
set_option maxHeartbeats 2000000 in
theorem hasR (s : ByteArray) (c : Nat) (w : World) (hz : s.size ≤ 1000) : Calls Try.prog 25 #[.string s, .int .u8 c] w fun e w' => e = .returned (.bool (hasB s c)) ∧ w = w' := by
  obtain ⟨R, hR⟩ : ∃ R, hasB s c = R := ⟨_, rfl⟩
  have HE : Hid (hasB s c = R) := hR
  rw [hR]
  clear hR
  go_enter Try.func25, Try.ntmps25
  go_wp2
  go_loop [5] (fun i => ∃ k : Nat, k ≤ s.size ∧ i = .int .i64 k ∧ Hid (∀ j, j < k → (nbytes s)[j]? ≠ some c)) (fun i => s.size - (intOf i).toNat)
  case atStart => exact ⟨0, Nat.zero_le _, rfl, fun j hj => by omega⟩
  case round =>
    obtain ⟨k, hk, rfl, HJ⟩ := hrel
    by_cases hlt : k < s.size
    · have hn := nbytes_at s k hlt
      have HN : Hid _ := hn
      clear hn
      cases hq : (((s[k]'hlt).toNat : Int) == (c : Int)) with
      | true =>
        have HT : Hid (R = true) := by
          show _ = _
          rw [← HE.out]
          unfold hasB
          rw [List.contains_iff_mem]
          have : (s[k]'hlt).toNat = c := by have := eq_of_beq hq; omega
          exact List.mem_of_getElem? (by rw [HN.out, this])
        go_wp2
        go_ret
        exact ⟨ret_bool HT.out.symm, rfl⟩
      | false =>
        have HJ2 : Hid (∀ j, j < k + 1 → (nbytes s)[j]? ≠ some c) := fun j hj => by
          rcases Nat.lt_or_ge j k with h | h
          · exact HJ.out j h
          · obtain rfl : j = k := by omega
            rw [HN.out]
            intro e
            simp only [Option.some.injEq] at e
            rw [e] at hq
            simp at hq
        go_wp2
        exact ⟨⟨k + 1, by omega, by go_num, HJ2⟩, by simp [intOf]; omega⟩
    · obtain rfl : k = s.size := by omega
      have HF : Hid (R = false) := by
        show _ = _
        rw [← HE.out]
        unfold hasB
        rw [Bool.eq_false_iff]
        intro hc
        rw [List.contains_iff_mem] at hc
        obtain ⟨j, hj⟩ := List.mem_iff_getElem?.1 hc
        have hjl : j < s.size := by rw [← nbytes_length s]; exact (List.getElem?_eq_some_iff.1 hj).1
        exact HJ.out j hjl hj
      go_wp2
      go_ret
      exact ⟨ret_bool HF.out.symm, rfl⟩
end Go.Proofs.Ytfkkaihnmnjadaa
