/- What Take and Tick make of a session that is over: pure. -/
import Derived.Test.YtfnkbjfjekfdnaaVTake4
import Derived.Test.YtfnkbjfjekfdnaaVTick2
namespace Go.Proofs.Ytfnkbjfjekfdnaa
open Go.RowKit
set_option linter.unusedVariables false
/-- a session that is over, with another moment. -/
def ovS (s : Tk) (q : Int) : Tk := { s with sta := 4, due := q }
theorem okK_over {s : Tk} (h : okK s = true) {q : Int} (h0 : 0 ≤ q) (h1 : q ≤ 1114112) : okK (ovS s q) = true := by
  unfold okK numsK stateK at h ⊢
  simp only [ovS, Bool.and_eq_true] at h ⊢
  refine ⟨⟨h.1.1, h.1.2.1, h.1.2.2.1, h.1.2.2.2.1, h.1.2.2.2.2.1, ?_⟩, h.2.1, ?_⟩
  · unfold inB; simp; omega
  · rw [if_neg (by omega), if_neg (by omega)]; rfl
theorem due_ok {s : Tk} (h : okK s = true) : (0 ≤ s.due ∧ s.due ≤ 1114112) ∧ (1 ≤ s.lif ∧ s.lif ≤ 65536) := by
  unfold okK numsK at h
  simp only [Bool.and_eq_true] at h
  exact ⟨inB_of h.1.2.2.2.2.2, inB_of h.1.2.2.2.2.1⟩
def ackOf (s : Tk) (x : Sg) : List Sg := if x.knd = 4 then [⟨5, s.src, s.ses, 0, 0, 0, 0, 0, 0, 0, false, [], []⟩] else []
theorem over_take {s : Tk} (h : okK s = true) (q : Int) (x : Sg) (now : Int) : takeK (ovS s q) x now = (zeroK, [], 250) ∨ takeK (ovS s q) x now = (zeroK, [], 2) ∨ ∃ p, 0 ≤ p ∧ p ≤ 1114112 ∧ takeK (ovS s q) x now = (ovS s p, ackOf s x, 0) := by
  unfold takeK
  split
  · split
    · rename_i hn
      obtain ⟨n0, n1⟩ := inB_of hn
      obtain ⟨_, l0, l1⟩ := due_ok h
      split
      · refine .inr (.inr ⟨now + s.lif, by omega, by omega, ?_⟩)
        unfold tkK ackOf
        by_cases k1 : x.knd = 1
        · rw [if_pos k1, if_neg (by omega)]
          unfold datK
          rw [if_pos (by rfl)]
          rfl
        · rw [if_neg k1]
          by_cases k4 : x.knd = 4
          · rw [if_pos k4, if_pos k4]
            simp [ovS]
          · rw [if_neg k4, if_neg k4]
            rfl
      · exact .inr (.inl rfl)
    · exact .inr (.inl rfl)
  · exact .inl rfl
theorem over_tick {s : Tk} (h : okK s = true) {q : Int} (h0 : 0 ≤ q) (h1 : q ≤ 1114112) {m : Int} (m0 : 0 ≤ m) (m1 : m ≤ 1048576) : tickK (ovS s q) m = (ovS s q, [], 0) := by
  unfold tickK
  rw [if_pos (okK_over h h0 h1), if_pos (by unfold inB; simp; omega)]
  unfold tiK
  split <;> simp [ovS]
end Go.Proofs.Ytfnkbjfjekfdnaa
