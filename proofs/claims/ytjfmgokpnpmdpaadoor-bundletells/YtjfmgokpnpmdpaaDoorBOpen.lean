/- What came in: a bundle. -/
import Derived.Test.YtjfmgokpnpmdpaaDoorBBack
import Derived.Test.YtjfmgokpnpmdpaaDoorHOpen
namespace Go.Proofs.YtjfmgokpnpmdpaaDoor
open Go.RowKit Go.Deep Go.ChangeShapes Go.WideShapes
set_option linter.unusedVariables false
theorem cellsBundle : Tryd.prog.cellsOf 25 = 11 := by kernel_rfl
theorem cellsU32 : Tryd.prog.cellsOf 22 = 1 := by kernel_rfl
section
variable {H : Type} {enc : TypeId × Value → H} {w : World} {base : Nat} {held : Bool}
set_option maxRecDepth 100000 in
theorem open_bundle11 {fuel : Nat} {cs : List Value} {x : DataW H × List MemPlace} (h : DataW.trod enc Tryd.prog w base (fun _ => true) held fuel 25 cs = some x) (hf : Fit 25 x.1) :
    ∃ (b : Bn) (a : Option Addr) (c : Nat), cs = [.int .i64 b.src, .int .i64 b.dst, .int .u32 (b.seq : Nat), .int .i64 b.cre, .int .i64 b.lif, .int .i64 b.lim, .int .i64 b.hop, .int .i64 b.pri, .int .i64 b.off, .int .i64 b.tot, .slice a b.pay.length c] ∧ Came w b a c := by
  obtain ⟨xs, n, _, hx, hcl, hxl, hfs⟩ := DataW.trod_struct Tryd.underlying25 h
  rw [cellsBundle] at hcl
  match cs, hcl, xs, hxl with
  | [v0, v1, v2, v3, v4, v5, v6, v7, v8, v9, v10], _, [y0, y1, y2, y3, y4, y5, y6, y7, y8, y9, y10], _ =>
    have h0 := hfs 0 _ rfl
    have h1 := hfs 1 _ rfl
    have h2 := hfs 2 _ rfl
    have h3 := hfs 3 _ rfl
    have h4 := hfs 4 _ rfl
    have h5 := hfs 5 _ rfl
    have h6 := hfs 6 _ rfl
    have h7 := hfs 7 _ rfl
    have h8 := hfs 8 _ rfl
    have h9 := hfs 9 _ rfl
    have h10 := hfs 10 _ rfl
    change DataW.trod enc Tryd.prog w base (fun _ => true) held n 3 ([v0, v1, v2, v3, v4, v5, v6, v7, v8, v9, v10].take (Tryd.prog.cellsOf 3)) = some y0 at h0
    rw [cellsInt] at h0
    change DataW.trod enc Tryd.prog w base (fun _ => true) held n 3 ([v1, v2, v3, v4, v5, v6, v7, v8, v9, v10].take (Tryd.prog.cellsOf 3)) = some y1 at h1
    rw [cellsInt] at h1
    change DataW.trod enc Tryd.prog w base (fun _ => true) held n 22 ([v2, v3, v4, v5, v6, v7, v8, v9, v10].take (Tryd.prog.cellsOf 22)) = some y2 at h2
    rw [cellsU32] at h2
    change DataW.trod enc Tryd.prog w base (fun _ => true) held n 3 ([v3, v4, v5, v6, v7, v8, v9, v10].take (Tryd.prog.cellsOf 3)) = some y3 at h3
    rw [cellsInt] at h3
    change DataW.trod enc Tryd.prog w base (fun _ => true) held n 3 ([v4, v5, v6, v7, v8, v9, v10].take (Tryd.prog.cellsOf 3)) = some y4 at h4
    rw [cellsInt] at h4
    change DataW.trod enc Tryd.prog w base (fun _ => true) held n 3 ([v5, v6, v7, v8, v9, v10].take (Tryd.prog.cellsOf 3)) = some y5 at h5
    rw [cellsInt] at h5
    change DataW.trod enc Tryd.prog w base (fun _ => true) held n 3 ([v6, v7, v8, v9, v10].take (Tryd.prog.cellsOf 3)) = some y6 at h6
    rw [cellsInt] at h6
    change DataW.trod enc Tryd.prog w base (fun _ => true) held n 3 ([v7, v8, v9, v10].take (Tryd.prog.cellsOf 3)) = some y7 at h7
    rw [cellsInt] at h7
    change DataW.trod enc Tryd.prog w base (fun _ => true) held n 3 ([v8, v9, v10].take (Tryd.prog.cellsOf 3)) = some y8 at h8
    rw [cellsInt] at h8
    change DataW.trod enc Tryd.prog w base (fun _ => true) held n 3 ([v9, v10].take (Tryd.prog.cellsOf 3)) = some y9 at h9
    rw [cellsInt] at h9
    change DataW.trod enc Tryd.prog w base (fun _ => true) held n 23 ([v10].take (Tryd.prog.cellsOf 23)) = some y10 at h10
    rw [cellsBytes] at h10
    simp only [List.take_succ_cons, List.take_zero] at h0 h1 h2 h3 h4 h5 h6 h7 h8 h9 h10
    rw [hx] at hf
    simp only [List.map_cons, List.map_nil] at hf
    obtain ⟨k0, e0, _, w0⟩ := DataW.trod_int Tryd.underlying3 h0
    obtain ⟨k1, e1, _, w1⟩ := DataW.trod_int Tryd.underlying3 h1
    obtain ⟨k2, e2, _, w2⟩ := DataW.trod_int Tryd.underlying22 h2
    obtain ⟨k3, e3, _, w3⟩ := DataW.trod_int Tryd.underlying3 h3
    obtain ⟨k4, e4, _, w4⟩ := DataW.trod_int Tryd.underlying3 h4
    obtain ⟨k5, e5, _, w5⟩ := DataW.trod_int Tryd.underlying3 h5
    obtain ⟨k6, e6, _, w6⟩ := DataW.trod_int Tryd.underlying3 h6
    obtain ⟨k7, e7, _, w7⟩ := DataW.trod_int Tryd.underlying3 h7
    obtain ⟨k8, e8, _, w8⟩ := DataW.trod_int Tryd.underlying3 h8
    obtain ⟨k9, e9, _, w9⟩ := DataW.trod_int Tryd.underlying3 h9
    obtain ⟨a, c, l, e10, g1, g2, g3, g4⟩ := open_bytes h10 (fit_agg Tryd.underlying25 hf (j := 10) rfl rfl)
    simp only [List.cons.injEq, and_true] at e0 e1 e2 e3 e4 e5 e6 e7 e8 e9 e10
    have b2 := bounds_u32 w2
    have b0 := bounds_i64 w0
    have b1 := bounds_i64 w1
    have b3 := bounds_i64 w3
    have b4 := bounds_i64 w4
    have b5 := bounds_i64 w5
    have b6 := bounds_i64 w6
    have b7 := bounds_i64 w7
    have b8 := bounds_i64 w8
    have b9 := bounds_i64 w9
    refine ⟨⟨k0, k1, k2.toNat, k3, k4, k5, k6, k7, k8, k9, l⟩, a, c, ?_, ⟨b0, b1, by show k2.toNat < _; omega, b3, b4, b5, b6, b7, b8, b9, g3⟩, g4, g1, g2⟩
    rw [e0, e1, e2, e3, e4, e5, e6, e7, e8, e9, e10, Int.toNat_of_nonneg b2.1]
set_option maxRecDepth 100000 in
theorem open_bundle {r : Reach} {b0 : Nat} {v : Value} {d : DataW H} {p : List MemPlace} (hv : Value.okWide Tryd.prog w r b0 25 v) (h : DataW.Trod enc Tryd.prog w base (fun _ => true) held 25 v d p) (hf : Fit 25 d) :
    ∃ b a c, v = bv b a c ∧ Came w b a c := by
  obtain ⟨cs, rfl, hsz⟩ := okWide_struct Tryd.underlying25 hv
  obtain ⟨fuel, hfu⟩ := h
  obtain ⟨b, a, c, hcs, hb⟩ := open_bundle11 hfu hf
  refine ⟨b, a, c, ?_, hb⟩
  simp only [Value.cells] at hcs
  rw [show cs = cs.toList.toArray from by simp, hcs]
end
end Go.Proofs.YtjfmgokpnpmdpaaDoor
