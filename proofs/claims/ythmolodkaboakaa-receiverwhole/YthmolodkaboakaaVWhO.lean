/- What came in: a list of cuts. -/
import Derived.Test.YthmolodkaboakaaVWhT
import Derived.Test.YthmolodkaboakaaVOpen
namespace Go.Proofs.Ythmolodkaboakaa
open Go.RowKit Go.Deep Go.ChangeShapes Go.WideShapes
set_option linter.unusedVariables false
theorem cellsCut : Try.prog.cellsOf 79 = 3 := by kernel_rfl
theorem bytesCut : Try.prog.bytesOf 79 = 24 := by kernel_rfl
section
variable {H : Type} {enc : TypeId × Value → H} {w : World} {base : Nat} {held : Bool}
set_option maxRecDepth 100000 in
theorem open_cut3 {fuel : Nat} {cs : List Value} {x : DataW H × List MemPlace} (h : DataW.trod enc Try.prog w base (fun _ => true) held fuel 79 cs = some x) :
    ∃ y : CutX, cs = [.int .i64 y.at_, .int .i64 y.n, .bool y.chk] ∧ in64 y.at_ ∧ in64 y.n := by
  obtain ⟨xs, n, _, hx, hcl, hxl, hfs⟩ := DataW.trod_struct Try.underlying79 h
  rw [cellsCut] at hcl
  match cs, hcl, xs, hxl with
  | [v0, v1, v2], _, [y0, y1, y2], _ =>
    have h0 := hfs 0 _ rfl
    have h1 := hfs 1 _ rfl
    have h2 := hfs 2 _ rfl
    change DataW.trod enc Try.prog w base (fun _ => true) held n 3 ([v0, v1, v2].take (Try.prog.cellsOf 3)) = some y0 at h0
    rw [cellsInt] at h0
    change DataW.trod enc Try.prog w base (fun _ => true) held n 3 ([v1, v2].take (Try.prog.cellsOf 3)) = some y1 at h1
    rw [cellsInt] at h1
    change DataW.trod enc Try.prog w base (fun _ => true) held n 4 ([v2].take (Try.prog.cellsOf 4)) = some y2 at h2
    rw [cellsBool] at h2
    simp only [List.take_succ_cons, List.take_zero] at h0 h1 h2
    obtain ⟨k0, e0, _, w0⟩ := DataW.trod_int Try.underlying3 h0
    obtain ⟨k1, e1, _, w1⟩ := DataW.trod_int Try.underlying3 h1
    obtain ⟨k2, e2, _⟩ := DataW.trod_bool Try.underlying4 h2
    simp only [List.cons.injEq, and_true] at e0 e1 e2
    refine ⟨⟨k0, k1, k2⟩, ?_, bounds_i64 w0, bounds_i64 w1⟩
    rw [e0, e1, e2]
theorem open_cuts {fuel : Nat} {cs : List Value} {x : DataW H × List MemPlace} (h : DataW.trod enc Try.prog w base (fun _ => true) held fuel 55 cs = some x) (hf : Fit 55 x.1) :
    ∃ a c l, cs = [.slice a (l : List CutX).length c] ∧ l.length ≤ c ∧ c ≤ maxLen ∧ l.length ≤ 140737488351232 ∧ (RowT w a l ∧ ∀ y ∈ l, in64 y.at_ ∧ in64 y.n) := by
  rcases open_slice Try.underlying55 h with ⟨rfl, _⟩ | ⟨a, len, cap, m, n, D, Pl, rfl, _, hl, hm, hmm, hx, hi⟩
  · exact ⟨none, 0, [], rfl, Nat.le_refl _, Nat.zero_le _, Nat.zero_le _, fun h => absurd h (by simp), by simp⟩
  · simp only [if_true] at hmm
    subst hmm
    rw [hx] at hf
    obtain ⟨hb, he⟩ := fit_slice Try.underlying55 hf
    rw [bytesCut] at hb
    simp only [List.length_map, List.length_range, reachBytes] at hb
    rw [cellsCut] at hi
    have each : ∀ i, i < len → ∃ o : CutX, (in64 o.at_ ∧ in64 o.n) ∧ w.cell? (a.add (i * 3)) = some (.int .i64 o.at_) ∧ w.cell? (a.add (i * 3 + 1)) = some (.int .i64 o.n) ∧ w.cell? (a.add (i * 3 + 2)) = some (.bool o.chk) := by
      intro i hil
      obtain ⟨cs', h1, h2⟩ := hi i (by omega)
      obtain ⟨y, rfl, g⟩ := open_cut3 h2
      obtain ⟨_, _, hcell⟩ := World.cells?_some h1
      have c0 := hcell 0 (by omega)
      have c1 := hcell 1 (by omega)
      have c2 := hcell 2 (by omega)
      rw [add_add] at c0 c1 c2
      exact ⟨y, g, c0, c1, c2⟩
    obtain ⟨F, hF⟩ := choose_at (⟨0, 0, false⟩ : CutX) each
    have hlen : ((List.range len).map F).length = len := by simp
    refine ⟨some a, m, (List.range len).map F, by rw [hlen], by rw [hlen]; exact hl, hm, by rw [hlen]; omega, fun h0 => ?_, ?_⟩
    · rw [hlen] at h0
      obtain ⟨b, off, spot⟩ := a
      have hspot : spot = none := by
        have c0 := (hF 0 h0).2.1
        simpa [Addr.add] using World.cell?_spot c0
      subst hspot
      refine ⟨b, off, rfl, fun i hi => ?_⟩
      rw [hlen] at hi
      simp only [List.getElem_map, List.getElem_range]
      obtain ⟨_, c0, c1, c2⟩ := hF i hi
      rw [add_plain] at c0 c1 c2
      exact ⟨c0, by rw [Nat.add_assoc]; exact c1, by rw [Nat.add_assoc]; exact c2⟩
    · intro y hy
      obtain ⟨i, hi2, rfl⟩ := List.mem_map.1 hy
      exact (hF i (by simpa using hi2)).1
end
end Go.Proofs.Ythmolodkaboakaa
