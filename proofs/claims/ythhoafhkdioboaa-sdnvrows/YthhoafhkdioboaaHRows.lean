/- Rows of bytes that came in: how they lie in memory. -/
import Derived.Test.YthhoafhkdioboaaHOpen
namespace Go.Proofs.Ythhoafhkdioboaa
open Go.RowKit Go.Deep Go.ChangeShapes Go.WideShapes
set_option linter.unusedVariables false

theorem bytesBytes : Try.prog.bytesOf 22 = 24 := by kernel_rfl
/-- rows of bytes lie in memory from a on. -/
def BytesAt (w : World) (a : Option Addr) (l : List (List Nat)) : Prop :=
  l.length ≤ 140737488351232 ∧ (0 < l.length → ∃ b o, a = some ⟨b, o, none⟩ ∧ ∀ i (h : i < l.length), ∃ a1 c1, w.cell? ⟨b, o + i, none⟩ = some (.slice a1 l[i].length c1) ∧ Row w a1 l[i] ∧ l[i].length ≤ c1 ∧ l[i].length ≤ 140737488351232)
theorem BytesAt.later {w w' : World} {a : Option Addr} {l : List (List Nat)} (h : BytesAt w a l) (hb : Below w.heap.size w w') : BytesAt w' a l := by
  obtain ⟨h1, h3⟩ := h
  refine ⟨h1, fun h0 => ?_⟩
  obtain ⟨b, o, rfl, hc⟩ := h3 h0
  refine ⟨b, o, rfl, fun i hi => ?_⟩
  obtain ⟨a1, c1, g1, g2, g3⟩ := hc i hi
  exact ⟨a1, c1, cell_later hb g1, g2.later hb, g3⟩
section
variable {H : Type} {enc : TypeId × Value → H} {w : World} {base : Nat} {held : Bool}
theorem open_rows {fuel : Nat} {cs : List Value} {x : DataW H × List MemPlace} (h : DataW.trod enc Try.prog w base (fun _ => true) held fuel 33 cs = some x) (hf : Fit 33 x.1) :
    ∃ a c l, cs = [.slice a (l : List (List Nat)).length c] ∧ l.length ≤ c ∧ c ≤ maxLen ∧ l.length ≤ 140737488351232 ∧ BytesAt w a l := by
  rcases open_slice1 Try.underlying33 cellsBytes h with ⟨rfl, _⟩ | ⟨a, len, cap, m, n, V, D, Pl, rfl, _, hl, hm, hmm, hx, hi⟩
  · exact ⟨none, 0, [], rfl, Nat.le_refl _, Nat.zero_le _, Nat.zero_le _, by simp, fun h => absurd h (by simp)⟩
  · simp only [if_true] at hmm
    subst hmm
    rw [hx] at hf
    obtain ⟨hb, he⟩ := fit_slice Try.underlying33 hf
    rw [bytesBytes] at hb
    simp only [List.length_map, List.length_range, reachBytes] at hb
    have each : ∀ i, i < len → ∃ s : List Nat, ∃ a1 c1, w.cell? (a.add i) = some (.slice a1 s.length c1) ∧ Row w a1 s ∧ s.length ≤ c1 ∧ s.length ≤ 140737488351232 := by
      intro i hil
      obtain ⟨h1, h2⟩ := hi i (by omega)
      have hfit := he (D i) (List.mem_map.2 ⟨i, by simpa using hil, rfl⟩)
      obtain ⟨a1, c1, l1, hcs, g1, g2, g3, g4⟩ := open_bytes h2 hfit
      simp only [List.cons.injEq, and_true] at hcs
      rw [hcs] at h1
      exact ⟨l1, a1, c1, h1, g4, g1, g3⟩
    obtain ⟨F, hF⟩ := choose_at ([] : List Nat) each
    have hlen : ((List.range len).map F).length = len := by simp
    refine ⟨some a, m, (List.range len).map F, by rw [hlen], by rw [hlen]; exact hl, hm, by rw [hlen]; omega, by rw [hlen]; omega, fun h0 => ?_⟩
    rw [hlen] at h0
    obtain ⟨b, off, spot⟩ := a
    have hspot : spot = none := by
      obtain ⟨_, _, c0, _⟩ := hF 0 h0
      simpa [Addr.add] using World.cell?_spot c0
    subst hspot
    refine ⟨b, off, rfl, fun i hil => ?_⟩
    rw [hlen] at hil
    obtain ⟨a1, c1, c0, g⟩ := hF i hil
    rw [add_plain] at c0
    simp only [List.getElem_map, List.getElem_range]
    exact ⟨a1, c1, c0, g⟩
end
end Go.Proofs.Ythhoafhkdioboaa
