/- Texts that came in: how they lie in memory. -/
import Derived.Test.YtlnphaackolojaaFOpen
namespace Go.Proofs.Ytlnphaackolojaa
open Go.RowKit Go.Deep Go.ChangeShapes Go.WideShapes

theorem bytesString : Try.prog.bytesOf 9 = 16 := by kernel_rfl

section
variable {H : Type} {enc : TypeId × Value → H} {w : World} {base : Nat} {held : Bool}

/-- Texts lie in memory from a on. -/
def NamesAt (w : World) (a : Option Addr) (l : List ByteArray) : Prop :=
  (∀ x ∈ l, x.size ≤ 140737488351232) ∧ l.length ≤ 140737488351232 ∧ (0 < l.length → ∃ b o, a = some ⟨b, o, none⟩ ∧ ∀ i (h : i < l.length), w.cell? ⟨b, o + i, none⟩ = some (.string l[i]))
theorem NamesAt.later {w w' : World} {a : Option Addr} {l : List ByteArray} (h : NamesAt w a l) (hb : Below w.heap.size w w') : NamesAt w' a l := by
  obtain ⟨h1, h2, h3⟩ := h
  refine ⟨h1, h2, fun h0 => ?_⟩
  obtain ⟨b, o, rfl, hc⟩ := h3 h0
  exact ⟨b, o, rfl, fun i hi => cell_later hb (hc i hi)⟩

theorem open_names {fuel : Nat} {cs : List Value} {x : DataW H × List MemPlace} (h : DataW.trod enc Try.prog w base (fun _ => true) held fuel 25 cs = some x) (hf : Fit 25 x.1) :
    ∃ a c l, cs = [.slice a (l : List ByteArray).length c] ∧ l.length ≤ c ∧ c ≤ maxLen ∧ NamesAt w a l := by
  rcases open_slice1 Try.underlying25 cellsString h with ⟨rfl, _⟩ | ⟨a, len, cap, m, n, V, D, Pl, rfl, _, hl, hm, hmm, hx, hi⟩
  · exact ⟨none, 0, [], rfl, Nat.le_refl _, Nat.zero_le _, by simp, by simp, fun h => absurd h (by simp)⟩
  · simp only [if_true] at hmm
    subst hmm
    rw [hx] at hf
    obtain ⟨hb, he⟩ := fit_slice Try.underlying25 hf
    rw [bytesString] at hb
    simp only [List.length_map, List.length_range, reachBytes] at hb
    have each : ∀ i, i < len → ∃ s : ByteArray, s.size ≤ 140737488351232 ∧ w.cell? (a.add i) = some (.string s) := by
      intro i hil
      obtain ⟨h1, h2⟩ := hi i (by omega)
      have hfit := he (D i) (List.mem_map.2 ⟨i, by simpa using hil, rfl⟩)
      obtain ⟨s, hs, hsx, _⟩ := DataW.trod_string Try.underlying9 h2
      simp only [Prod.mk.injEq] at hsx
      rw [hsx.1] at hfit
      have hsz := hfit s.data.toList.length (by simp [DataW.weights])
      simp only [List.cons.injEq, and_true] at hs
      rw [hs] at h1
      exact ⟨s, by simpa [reachBytes] using hsz, h1⟩
    obtain ⟨F, hF⟩ := choose_at ByteArray.empty each
    have hlen : ((List.range len).map F).length = len := by simp
    refine ⟨some a, m, (List.range len).map F, by rw [hlen], by rw [hlen]; exact hl, hm, ?_, by rw [hlen]; omega, fun h0 => ?_⟩
    · intro y hy
      obtain ⟨i, hi2, rfl⟩ := List.mem_map.1 hy
      exact (hF i (by simpa using hi2)).1
    · rw [hlen] at h0
      obtain ⟨b, off, spot⟩ := a
      have hspot : spot = none := by simpa [Addr.add] using World.cell?_spot (hF 0 h0).2
      subst hspot
      refine ⟨b, off, rfl, fun i hil => ?_⟩
      rw [hlen] at hil
      have c0 := (hF i hil).2
      rw [add_plain] at c0
      simp only [List.getElem_map, List.getElem_range]
      exact c0

end
end Go.Proofs.Ytlnphaackolojaa
