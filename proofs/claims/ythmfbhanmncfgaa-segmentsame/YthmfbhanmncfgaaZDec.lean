/- segment.Decode. -/
import Derived.Test.YthmfbhanmncfgaaZRd
import Derived.Test.YthmfbhanmncfgaaZCheck
import Derived.Test.YthmfbhanmncfgaaZSum
import Derived.Test.YthmfbhanmncfgaaZBack
namespace Go.Proofs.Ythmfbhanmncfgaa
open Go.RowKit
set_option linter.unusedVariables false
theorem in64_nat {n : Nat} (h : n ≤ 4294967295) : in64 ((n : Nat) : Int) := by unfold in64; omega
theorem in64_0 : in64 0 := by unfold in64; omega
theorem clsR_in (k : Nat) (st : List Nat × Bool) : ∀ c ∈ (clsR k st).1, in64 c.1 ∧ in64 c.2 := by
  induction k with
  | zero => intro c hc; simp [clsR] at hc
  | succ k ih =>
    intro c hc
    rw [clsR] at hc
    rcases List.mem_append.1 hc with h | h
    · exact ih c h
    · rw [List.mem_singleton.1 h]
      have h1 := numR_le 512 (clsR k st).2
      have h2 := numR_le 512 (numR 512 (clsR k st).2).2
      exact ⟨in64_nat (by omega), in64_nat (by omega)⟩
theorem rawR_len (n : Nat) (st : List Nat × Bool) : (rawR n st).1.length ≤ n := by
  unfold rawR
  split
  · simp
  · simp [List.length_take]; omega
theorem serR_le (n : Nat) (st : List Nat × Bool) : (serR n st).1 ≤ 4294967295 := by
  unfold serR
  split
  · exact numR_le _ _
  · simp
/-- what is read is of its kinds, whatever the bytes. -/
theorem sz_read (x : Nat) (l : List Nat) (hx : x < 256) : Sz (readS x l).1 := by
  have h1 := numR_le 6 (l, false)
  have h2 := numR_le 4294967295 (numR 6 (l, false)).2
  have hk : in64 ((x : Nat) : Int) := in64_nat (by omega)
  have hs : in64 (((numR 6 (l, false)).1 : Nat) : Int) := in64_nat (by omega)
  rw [readS_tail]
  generalize numR 6 (l, false) = A at h1 h2 hs ⊢
  generalize numR 4294967295 A.2 = B at h2 ⊢
  unfold tailR
  split
  · have n1 := serR_le (numR 1 B.2).1 (numR 1 B.2).2
    have n2 := numR_le 512 (serR (numR 1 B.2).1 (numR 1 B.2).2).2
    have n3 := numR_le 512 (numR 512 (serR (numR 1 B.2).1 (numR 1 B.2).2).2).2
    have n4 := numR_le 100 (numR 512 (numR 512 (serR (numR 1 B.2).1 (numR 1 B.2).2).2).2).2
    have n5 := rawR_len (numR 100 (numR 512 (numR 512 (serR (numR 1 B.2).1 (numR 1 B.2).2).2).2).2).1 (numR 100 (numR 512 (numR 512 (serR (numR 1 B.2).1 (numR 1 B.2).2).2).2).2).2
    exact ⟨hk, hs, by show B.1 < _; omega, by show (serR _ _).1 < _; omega, by show (0 : Nat) < _; omega, in64_nat (by omega), in64_nat (by omega), in64_0, in64_0, in64_0, by show (rawR _ _).1.length ≤ _; omega, by simp [dataR, S0, zeroS], by simp [dataR, S0, zeroS]⟩
  · split
    · have n1 := numR_le 4294967295 B.2
      have n2 := numR_le 4294967295 (numR 4294967295 B.2).2
      have n3 := numR_le 512 (numR 4294967295 (numR 4294967295 B.2).2).2
      have n4 := numR_le 512 (numR 512 (numR 4294967295 (numR 4294967295 B.2).2).2).2
      have n5 := numR_le 20 (numR 512 (numR 512 (numR 4294967295 (numR 4294967295 B.2).2).2).2).2
      have n6 := clsR_len (numR 20 (numR 512 (numR 512 (numR 4294967295 (numR 4294967295 B.2).2).2).2).2).1 (numR 20 (numR 512 (numR 512 (numR 4294967295 (numR 4294967295 B.2).2).2).2).2).2
      exact ⟨hk, hs, by show B.1 < _; omega, by show (numR 4294967295 B.2).1 < _; omega, by show (numR 4294967295 (numR 4294967295 B.2).2).1 < _; omega, in64_0, in64_0, in64_nat (by omega), in64_nat (by omega), in64_0, by simp [repR, S0, zeroS], by show (clsR _ _).1.length ≤ _; omega, clsR_in _ _⟩
    · split
      · have n1 := numR_le 4294967295 B.2
        exact ⟨hk, hs, by show B.1 < _; omega, by show (numR 4294967295 B.2).1 < _; omega, by show (0 : Nat) < _; omega, in64_0, in64_0, in64_0, in64_0, in64_0, by simp [S0, zeroS], by simp [S0, zeroS], by simp [S0, zeroS]⟩
      · split
        · have n1 := numR_le 255 B.2
          exact ⟨hk, hs, by show B.1 < _; omega, by show (0 : Nat) < _; omega, by show (0 : Nat) < _; omega, in64_0, in64_0, in64_0, in64_0, in64_nat (by omega), by simp [S0, zeroS], by simp [S0, zeroS], by simp [S0, zeroS]⟩
        · exact ⟨hk, hs, by show B.1 < _; omega, by show (0 : Nat) < _; omega, by show (0 : Nat) < _; omega, in64_0, in64_0, in64_0, in64_0, in64_0, by simp [S0, zeroS], by simp [S0, zeroS], by simp [S0, zeroS]⟩
theorem sz_zero : Sz zeroS := ⟨in64_0, in64_0, by decide, by decide, by decide, in64_0, in64_0, in64_0, in64_0, in64_0, by simp [zeroS], by simp [zeroS], by simp [zeroS]⟩
theorem came_zero (w : World) : Came w zeroS none 0 none 0 := ⟨sz_zero, row_nil _ _, rowC_nil _ _, by simp [zeroS], by simp, by simp [zeroS], by simp⟩
/-- what Decode answers. -/
def Dec1 (l : List Nat) (w : World) (e : Ending) (w' : World) : Prop :=
  ∃ a' c' a2' c2', e = .returned (.tuple #[sv (decS l).2 a' c' a2' c2', .int .i64 (decS l).1]) ∧ Hid (Below w.heap.size w w' ∧ Came w' (decS l).2 a' c' a2' c2')
theorem dec1_zero {l : List Nat} {w w' : World} {e : Ending} {n : Int} (hd : decS l = (n, zeroS)) (he : e = .returned (.tuple #[sv zeroS none 0 none 0, .int .i64 n])) (hb : Below w.heap.size w w') : Dec1 l w e w' := by
  unfold Dec1
  rw [hd]
  exact ⟨none, 0, none, 0, he, hb, came_zero _⟩
end Go.Proofs.Ythmfbhanmncfgaa
