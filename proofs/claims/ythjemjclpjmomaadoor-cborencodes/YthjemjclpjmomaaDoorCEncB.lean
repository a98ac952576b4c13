/- What CborEncodes takes of CTwo, CBack and CMakes (a claim bears sixty files): bounds of bytes, boxes. -/
import Derived.Test.YthjemjclpjmomaaDoorCBuilt
import Derived.Test.YthjemjclpjmomaaDoorCFlats
import Derived.Test.YthjemjclpjmomaaDoorCWakes
import Derived.Test.YthjemjclpjmomaaDoorCSame
import Derived.Test.YthjemjclpjmomaaDoorHAppend
namespace Go.Proofs.YthjemjclpjmomaaDoor
open Go.RowKit
set_option linter.unusedVariables false

set_option linter.unusedVariables false

theorem FlatsAt.later {w w' : World} {a : Option Addr} {L : List FT} (h : FlatsAt w a L) (hb : Below w.heap.size w w') : FlatsAt w' a L := by
  refine ⟨h.1, fun h0 => ?_⟩
  obtain ⟨fb, fo, e, hc⟩ := h.2 h0
  refine ⟨fb, fo, e, fun i hi => ?_⟩
  obtain ⟨a1, c1, a2, n2, c2, ⟨f0, f1, f2, f3, f4, f5⟩, fB, fR, fC⟩ := hc i hi
  exact ⟨a1, c1, a2, n2, c2, ⟨cell_later hb f0, cell_later hb f1, cell_later hb f2, cell_later hb f3, cell_later hb f4, cell_later hb f5⟩, fB, fR.later hb, fC⟩
theorem hd_le (t k : Nat) : (hd t k).length ≤ 9 := by
  unfold hd
  repeat' split
  all_goals simp [be_length]
theorem flatten_le (f : T → List Nat) (B : Nat) : ∀ (l : List T), (∀ y ∈ l, (f y).length ≤ B) → ((l.map f).flatten).length ≤ l.length * B
  | [], _ => by simp
  | y :: r, h => by
    have h1 := h y List.mem_cons_self
    have h2 := flatten_le f B r (fun z hz => h z (List.mem_cons_of_mem _ hz))
    simp only [List.map_cons, List.flatten_cons, List.length_append, List.length_cons, Nat.add_mul, Nat.one_mul]
    omega
theorem enc_bound (V : List Nat → Bool) : ∀ (m n : Nat) (x : T), okT V m x = true → (enc n x).length ≤ 521 * 65 ^ m
  | 0, _, _, h => by cases h
  | m + 1, 0, _, _ => by simp [enc]
  | m + 1, n + 1, x, h => by
    have hp : 1 ≤ 65 ^ m := Nat.pow_pos (by omega)
    have hq : 65 ^ (m + 1) = 65 ^ m * 65 := Nat.pow_succ ..
    rw [okT] at h
    rw [enc]
    have hh := hd_le
    repeat' split
    · have := hh 0 (nm x); omega
    · rename_i h1 h2
      rw [if_neg h1, if_pos h2] at h
      simp only [Bool.and_eq_true, decide_eq_true_eq] at h
      have := hh 2 (bs x).length
      rw [List.length_append]; omega
    · rename_i h1 h2 h3
      rw [if_neg h1, if_neg h2, if_pos h3] at h
      simp only [Bool.and_eq_true, decide_eq_true_eq] at h
      have := hh 3 (bs x).length
      rw [List.length_append]; omega
    · rename_i h1 h2 h3 h4
      rw [if_neg h1, if_neg h2, if_neg h3, if_pos h4] at h
      simp only [Bool.and_eq_true, decide_eq_true_eq, List.all_eq_true] at h
      have h5 := hh 4 (its x).length
      have h6 := flatten_le (enc n) (521 * 65 ^ m) (its x) (fun y hy => enc_bound V m n y (h.2.2.2 y hy))
      have h7 : (its x).length * (521 * 65 ^ m) ≤ 64 * (521 * 65 ^ m) := Nat.mul_le_mul_right _ h.2.2.1
      rw [List.length_append]
      omega
    · simp
theorem box4 {w : World} {b : Nat} {x : T} {a1 a2 : Option Addr} {c1 c2 : Nat} (h : w.heap[b]? = some (ic x a1 c1 a2 c2)) : w.cell? ⟨b, 0, none⟩ = some (.int .i64 (kd x)) ∧ w.cell? ⟨b, 1, none⟩ = some (.int .u64 (nm x : Nat)) ∧ w.cell? ⟨b, 2, none⟩ = some (.slice a1 (bs x).length c1) ∧ w.cell? ⟨b, 3, none⟩ = some (.slice a2 (its x).length c2) :=
  ⟨by rw [cell_of h 0]; rfl, by rw [cell_of h 1]; rfl, by rw [cell_of h 2]; rfl, by rw [cell_of h 3]; rfl⟩
theorem same_self (m : Nat) (x : T) : sameT m x x = true := (same_iff m x x).2 rfl
end Go.Proofs.YthjemjclpjmomaaDoor
