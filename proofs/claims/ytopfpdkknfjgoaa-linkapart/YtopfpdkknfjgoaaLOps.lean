/- What came in: a list of operations of the law, a pair. -/
import Derived.Test.YtopfpdkknfjgoaaLFew
import Derived.Test.YtopfpdkknfjgoaaLOpen
namespace Go.Proofs.Ytopfpdkknfjgoaa
open Go.RowKit Go.Deep Go.ChangeShapes Go.WideShapes
set_option linter.unusedVariables false
theorem ocell_is (o : OX) : ocells [o] = ocell o := rfl
section
variable {H : Type} {enc : TypeId × Value → H} {w : World} {base : Nat} {held : Bool}
theorem open_ops {fuel : Nat} {cs : List Value} {x : DataW H × List MemPlace} (h : DataW.trod enc Try.prog w base (fun _ => true) held fuel 22 cs = some x) (hf : Fit 22 x.1) :
    ∃ a c l, cs = [.slice a (l : List OX).length c] ∧ l.length ≤ c ∧ c ≤ maxLen ∧ l.length ≤ 140737488351232 ∧ OxAt w a l := by
  rcases open_slice Try.underlying22 h with ⟨rfl, _⟩ | ⟨a, len, cap, m, n, D, Pl, rfl, _, hl, hm, hmm, hx, hi⟩
  · exact ⟨none, 0, [], rfl, Nat.le_refl _, Nat.zero_le _, Nat.zero_le _, by simp, fun h => absurd h (by simp)⟩
  · simp only [if_true] at hmm
    subst hmm
    rw [hx] at hf
    obtain ⟨hb, he⟩ := fit_slice Try.underlying22 hf
    rw [bytesOp] at hb
    simp only [List.length_map, List.length_range, reachBytes] at hb
    rw [cellsOp] at hi
    have each : ∀ i, i < len → ∃ o : OX, CameO w o ∧ ∀ j u, (ocells [o])[j]? = some u → w.cell? (a.add (i * 8 + j)) = some u := by
      intro i hil
      obtain ⟨cs', h1, h2⟩ := hi i (by omega)
      have hfit := he (D i) (List.mem_map.2 ⟨i, by simpa using hil, rfl⟩)
      obtain ⟨o, rfl, g⟩ := open_op8 h2 hfit
      obtain ⟨_, _, hcell⟩ := World.cells?_some h1
      refine ⟨o, g, fun j u hu => ?_⟩
      rw [ocell_is] at hu
      have hj : j < 8 := by have := (List.getElem?_eq_some_iff.1 hu).1; simpa [ocell] using this
      have := hcell j (by omega)
      rw [add_add] at this
      rw [this]
      exact hu
    obtain ⟨F, hF⟩ := choose_at (⟨0, ⟨⟨0, 0, 0, []⟩, none, 0⟩, 0, 0, 0⟩ : OX) each
    have hlen : ((List.range len).map F).length = len := by simp
    refine ⟨some a, m, (List.range len).map F, by rw [hlen], by rw [hlen]; exact hl, hm, by rw [hlen]; omega, ?_, fun h0 => ?_⟩
    · intro y hy
      obtain ⟨i, hi2, rfl⟩ := List.mem_map.1 hy
      exact (hF i (by simpa using hi2)).1
    · rw [hlen] at h0
      obtain ⟨b, off, spot⟩ := a
      have hspot : spot = none := by
        have c0 := (hF 0 h0).2 0 _ rfl
        simpa [Addr.add] using World.cell?_spot c0
      subst hspot
      refine ⟨b, off, rfl, fun j u hu => ?_⟩
      have hj : j < len * 8 := by
        have := (List.getElem?_eq_some_iff.1 hu).1
        rw [ocells_length, hlen] at this
        exact this
      have hd : j = (j / 8) * 8 + j % 8 := by omega
      rw [hd] at hu
      rw [ocells_at _ (j / 8) (by rw [hlen]; omega) (j % 8) (by omega)] at hu
      simp only [List.getElem_map, List.getElem_range] at hu
      have := (hF (j / 8) (by omega)).2 (j % 8) u hu
      rw [← hd, add_plain] at this
      exact this
theorem open_pair {r : Reach} {b0 : Nat} {v : Value} {d : DataW H} {p : List MemPlace} (hv : Value.okWide Try.prog w r b0 55 v) (h : DataW.Trod enc Try.prog w base (fun _ => true) held 55 v d p) :
    ∃ x y : Int, v = .agg #[.int .i64 x, .int .i64 y] ∧ In64 x ∧ In64 y := by
  have hcells : Try.prog.cellsOf 55 = 2 := by kernel_rfl
  have hv' := hv
  simp only [Value.okWide, Try.underlying55] at hv'
  obtain ⟨cs, rfl, hsz, _⟩ := hv'
  obtain ⟨fuel, hfu⟩ := h
  obtain ⟨xs, m, _, _, _, hxl, hi⟩ := DataW.trod_array Try.underlying55 hfu
  simp only [Value.cells] at hi
  rw [hcells] at hsz
  obtain ⟨c0, c1, hcs⟩ : ∃ c0 c1, cs.toList = [c0, c1] := by
    match hc : cs.toList, (show cs.toList.length = 2 by simpa using hsz) with
    | [c0, c1], _ => exact ⟨c0, c1, rfl⟩
  rw [hcs, cellsInt] at hi
  match xs, hxl with
  | [y0, y1], _ =>
    have h0 := hi 0 (by decide)
    have h1 := hi 1 (by decide)
    change DataW.trod enc Try.prog w base (fun _ => true) held m 3 [c0] = some y0 at h0
    change DataW.trod enc Try.prog w base (fun _ => true) held m 3 [c1] = some y1 at h1
    obtain ⟨k0, e0, _, w0⟩ := DataW.trod_int Try.underlying3 h0
    obtain ⟨k1, e1, _, w1⟩ := DataW.trod_int Try.underlying3 h1
    simp only [List.cons.injEq, and_true] at e0 e1
    refine ⟨k0, k1, ?_, bounds_i64 w0, bounds_i64 w1⟩
    rw [show cs = cs.toList.toArray from by simp, hcs, e0, e1]
end
end Go.Proofs.Ytopfpdkknfjgoaa
