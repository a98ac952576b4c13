/- What came in: a segment. -/
import Derived.Test.YtnjcaolkcmpdcaaTCheck
import Derived.Test.YtnjcaolkcmpdcaaHOpen
import Derived.Deep.SlicePairs
namespace Go.Proofs.Ytnjcaolkcmpdcaa
open Go.RowKit Go.Deep Go.ChangeShapes Go.WideShapes
set_option linter.unusedVariables false
theorem cellsSegment : Try.prog.cellsOf 29 = 13 := by kernel_rfl
theorem cellsU32 : Try.prog.cellsOf 22 = 1 := by kernel_rfl
theorem cellsBool : Try.prog.cellsOf 4 = 1 := by kernel_rfl
theorem cellsClaim : Try.prog.cellsOf 56 = 2 := by kernel_rfl
theorem cellsClaims : Try.prog.cellsOf 27 = 1 := by kernel_rfl
theorem bytesClaim : Try.prog.bytesOf 56 = 16 := by kernel_rfl
section
variable {H : Type} {enc : TypeId × Value → H} {w : World} {base : Nat} {held : Bool}
theorem open_claims {fuel : Nat} {cs : List Value} {x : DataW H × List MemPlace} (h : DataW.trod enc Try.prog w base (fun _ => true) held fuel 27 cs = some x) (hf : Fit 27 x.1) :
    ∃ a c L, cs = [.slice a (L : List (Int × Int)).length c] ∧ L.length ≤ c ∧ c ≤ maxLen ∧ RowC w a L ∧ (∀ x ∈ L, in64 x.1 ∧ in64 x.2) ∧ L.length ≤ 140737488351232 := by
  rcases open_slice_pairs Try.underlying27 Try.underlying56 cellsClaim rfl rfl cellsInt cellsInt h with ⟨rfl, _⟩ | ⟨a, len, cap, m, n, V0, V1, D0, D1, P0, P1, rfl, _, hl, hm, hmm, hx, hi⟩
  · exact ⟨none, 0, [], rfl, Nat.le_refl _, Nat.zero_le _, rowC_nil _ _, by simp, by simp⟩
  · simp only [if_true] at hmm
    subst hmm
    rw [hx] at hf
    obtain ⟨hb, he⟩ := fit_slice Try.underlying27 hf
    rw [bytesClaim] at hb
    simp only [List.length_map, List.length_range, reachBytes] at hb
    have each : ∀ i, i < len → ∃ f : Int × Int, (in64 f.1 ∧ in64 f.2) ∧ V0 i = .int .i64 f.1 ∧ V1 i = .int .i64 f.2 := by
      intro i hil
      obtain ⟨_, _, h2, h3⟩ := hi i (by omega)
      obtain ⟨k0, e0, _, w0⟩ := DataW.trod_int Try.underlying3 h2
      obtain ⟨k1, e1, _, w1⟩ := DataW.trod_int Try.underlying3 h3
      simp only [List.cons.injEq, and_true] at e0 e1
      exact ⟨(k0, k1), ⟨bounds_i64 w0, bounds_i64 w1⟩, e0, e1⟩
    obtain ⟨F, hF⟩ := choose_at ((0, 0) : Int × Int) (n := len) (p := fun i f => (in64 f.1 ∧ in64 f.2) ∧ V0 i = .int .i64 f.1 ∧ V1 i = .int .i64 f.2) each
    have hlen : ((List.range len).map F).length = len := by simp
    refine ⟨some a, m, (List.range len).map F, by rw [hlen], by rw [hlen]; exact hl, hm, ⟨by rw [hlen]; omega, fun h0 => ?_⟩, ?_, by rw [hlen]; omega⟩
    · rw [hlen] at h0
      obtain ⟨b, off, spot⟩ := a
      have hspot : spot = none := by simpa [Addr.add] using World.cell?_spot (hi 0 (by omega)).1
      subst hspot
      refine ⟨b, off, rfl, fun i hil => ?_⟩
      rw [hlen] at hil
      obtain ⟨c0, c1, _, _⟩ := hi i (by omega)
      rw [add_plain] at c0 c1
      obtain ⟨_, v0, v1⟩ := hF i hil
      simp only [List.getElem_map, List.getElem_range]
      rw [v0] at c0
      rw [v1] at c1
      exact ⟨c0, c1⟩
    · intro y hy
      obtain ⟨i, hi2, rfl⟩ := List.mem_map.1 hy
      exact (hF i (by simpa using hi2)).1
set_option maxRecDepth 100000 in
theorem open_segment13 {fuel : Nat} {cs : List Value} {x : DataW H × List MemPlace} (h : DataW.trod enc Try.prog w base (fun _ => true) held fuel 29 cs = some x) (hf : Fit 29 x.1) :
    ∃ (s : Sg) (a : Option Addr) (c : Nat) (a2 : Option Addr) (c2 : Nat), cs = [.int .i64 s.knd, .int .i64 s.src, .int .u32 (s.ses : Nat), .int .u32 (s.ser : Nat), .int .u32 (s.cks : Nat), .int .i64 s.off, .int .i64 s.tot, .int .i64 s.low, .int .i64 s.upp, .int .i64 s.rea, .bool s.chk, .slice a s.dat.length c, .slice a2 s.cls.length c2] ∧ Came w s a c a2 c2 := by
  obtain ⟨xs, n, _, hx, hcl, hxl, hfs⟩ := DataW.trod_struct Try.underlying29 h
  rw [cellsSegment] at hcl
  match cs, hcl, xs, hxl with
  | [v0, v1, v2, v3, v4, v5, v6, v7, v8, v9, v10, v11, v12], _, [y0, y1, y2, y3, y4, y5, y6, y7, y8, y9, y10, y11, y12], _ =>
    have h0 := hfs 0 _ rfl
    have h1 := hfs 1 _ rfl
    have h2 := hfs 2 _ rfl
    have h3 := hfs 3 _ rfl
    have h4 := hfs 4 _ rfl
    have h5 := hfs 5 _ rfl
    have h6 := hfs 6 _ rfl
    have h7 := hfs 7 _ rfl
    have h8 := hfs 8 _ rfl
    have h9 := hfs 9 _ rfl
    have h10 := hfs 10 _ rfl
    have h11 := hfs 11 _ rfl
    have h12 := hfs 12 _ rfl
    change DataW.trod enc Try.prog w base (fun _ => true) held n 3 ([v0, v1, v2, v3, v4, v5, v6, v7, v8, v9, v10, v11, v12].take (Try.prog.cellsOf 3)) = some y0 at h0
    rw [cellsInt] at h0
    change DataW.trod enc Try.prog w base (fun _ => true) held n 3 ([v1, v2, v3, v4, v5, v6, v7, v8, v9, v10, v11, v12].take (Try.prog.cellsOf 3)) = some y1 at h1
    rw [cellsInt] at h1
    change DataW.trod enc Try.prog w base (fun _ => true) held n 22 ([v2, v3, v4, v5, v6, v7, v8, v9, v10, v11, v12].take (Try.prog.cellsOf 22)) = some y2 at h2
    rw [cellsU32] at h2
    change DataW.trod enc Try.prog w base (fun _ => true) held n 22 ([v3, v4, v5, v6, v7, v8, v9, v10, v11, v12].take (Try.prog.cellsOf 22)) = some y3 at h3
    rw [cellsU32] at h3
    change DataW.trod enc Try.prog w base (fun _ => true) held n 22 ([v4, v5, v6, v7, v8, v9, v10, v11, v12].take (Try.prog.cellsOf 22)) = some y4 at h4
    rw [cellsU32] at h4
    change DataW.trod enc Try.prog w base (fun _ => true) held n 3 ([v5, v6, v7, v8, v9, v10, v11, v12].take (Try.prog.cellsOf 3)) = some y5 at h5
    rw [cellsInt] at h5
    change DataW.trod enc Try.prog w base (fun _ => true) held n 3 ([v6, v7, v8, v9, v10, v11, v12].take (Try.prog.cellsOf 3)) = some y6 at h6
    rw [cellsInt] at h6
    change DataW.trod enc Try.prog w base (fun _ => true) held n 3 ([v7, v8, v9, v10, v11, v12].take (Try.prog.cellsOf 3)) = some y7 at h7
    rw [cellsInt] at h7
    change DataW.trod enc Try.prog w base (fun _ => true) held n 3 ([v8, v9, v10, v11, v12].take (Try.prog.cellsOf 3)) = some y8 at h8
    rw [cellsInt] at h8
    change DataW.trod enc Try.prog w base (fun _ => true) held n 3 ([v9, v10, v11, v12].take (Try.prog.cellsOf 3)) = some y9 at h9
    rw [cellsInt] at h9
    change DataW.trod enc Try.prog w base (fun _ => true) held n 4 ([v10, v11, v12].take (Try.prog.cellsOf 4)) = some y10 at h10
    rw [cellsBool] at h10
    change DataW.trod enc Try.prog w base (fun _ => true) held n 23 ([v11, v12].take (Try.prog.cellsOf 23)) = some y11 at h11
    rw [cellsBytes] at h11
    change DataW.trod enc Try.prog w base (fun _ => true) held n 27 ([v12].take (Try.prog.cellsOf 27)) = some y12 at h12
    rw [cellsClaims] at h12
    simp only [List.take_succ_cons, List.take_zero] at h0 h1 h2 h3 h4 h5 h6 h7 h8 h9 h10 h11 h12
    rw [hx] at hf
    simp only [List.map_cons, List.map_nil] at hf
    obtain ⟨k0, e0, _, w0⟩ := DataW.trod_int Try.underlying3 h0
    obtain ⟨k1, e1, _, w1⟩ := DataW.trod_int Try.underlying3 h1
    obtain ⟨k2, e2, _, w2⟩ := DataW.trod_int Try.underlying22 h2
    obtain ⟨k3, e3, _, w3⟩ := DataW.trod_int Try.underlying22 h3
    obtain ⟨k4, e4, _, w4⟩ := DataW.trod_int Try.underlying22 h4
    obtain ⟨k5, e5, _, w5⟩ := DataW.trod_int Try.underlying3 h5
    obtain ⟨k6, e6, _, w6⟩ := DataW.trod_int Try.underlying3 h6
    obtain ⟨k7, e7, _, w7⟩ := DataW.trod_int Try.underlying3 h7
    obtain ⟨k8, e8, _, w8⟩ := DataW.trod_int Try.underlying3 h8
    obtain ⟨k9, e9, _, w9⟩ := DataW.trod_int Try.underlying3 h9
    obtain ⟨k10, e10, _⟩ := DataW.trod_bool Try.underlying4 h10
    obtain ⟨a, c, l, e11, g1, g2, g3, g4⟩ := open_bytes h11 (fit_agg Try.underlying29 hf (j := 11) rfl rfl)
    obtain ⟨a2, c2, L, e12, q1, q2, q3, q4, q5⟩ := open_claims h12 (fit_agg Try.underlying29 hf (j := 12) rfl rfl)
    simp only [List.cons.injEq, and_true] at e0 e1 e2 e3 e4 e5 e6 e7 e8 e9 e10 e11 e12
    have b0 := bounds_i64 w0
    have b1 := bounds_i64 w1
    have b2 := bounds_u32 w2
    have b3 := bounds_u32 w3
    have b4 := bounds_u32 w4
    have b5 := bounds_i64 w5
    have b6 := bounds_i64 w6
    have b7 := bounds_i64 w7
    have b8 := bounds_i64 w8
    have b9 := bounds_i64 w9
    refine ⟨⟨k0, k1, k2.toNat, k3.toNat, k4.toNat, k5, k6, k7, k8, k9, k10, l, L⟩, a, c, a2, c2, ?_, ⟨b0, b1, by show k2.toNat < _; omega, by show k3.toNat < _; omega, by show k4.toNat < _; omega, b5, b6, b7, b8, b9, g3, q5, q4⟩, g4, q3, g1, g2, q1, q2⟩
    rw [e0, e1, e2, e3, e4, e5, e6, e7, e8, e9, e10, e11, e12, Int.toNat_of_nonneg b2.1, Int.toNat_of_nonneg b3.1, Int.toNat_of_nonneg b4.1]
set_option maxRecDepth 100000 in
theorem open_segment {r : Reach} {b0 : Nat} {v : Value} {d : DataW H} {p : List MemPlace} (hv : Value.okWide Try.prog w r b0 29 v) (h : DataW.Trod enc Try.prog w base (fun _ => true) held 29 v d p) (hf : Fit 29 d) :
    ∃ s a c a2 c2, v = sv s a c a2 c2 ∧ Came w s a c a2 c2 := by
  obtain ⟨cs, rfl, hsz⟩ := okWide_struct Try.underlying29 hv
  obtain ⟨fuel, hfu⟩ := h
  obtain ⟨s, a, c, a2, c2, hcs, hb⟩ := open_segment13 hfu hf
  refine ⟨s, a, c, a2, c2, ?_, hb⟩
  simp only [Value.cells] at hcs
  rw [show cs = cs.toList.toArray from by simp, hcs]
end
end Go.Proofs.Ytnjcaolkcmpdcaa
