/- What came in: what a session begins with. -/
import Derived.Test.YtnjcaolkcmpdcaaUCheck
import Derived.Test.YtnjcaolkcmpdcaaTOpen
namespace Go.Proofs.Ytnjcaolkcmpdcaa
open Go.RowKit Go.Deep Go.ChangeShapes Go.WideShapes
set_option linter.unusedVariables false
/-- what came in as a Start. -/
structure CameB (w : World) (x : Bg) (a : Option Addr) (c : Nat) : Prop where
  src : in64 x.src
  ses : x.ses < 4294967296
  zb : x.blk.length ≤ 140737488351232
  wai : in64 x.wai
  tri : in64 x.tri
  row : Row w a x.blk
  le : x.blk.length ≤ c
  cap : c ≤ maxLen
theorem cellsStart : Try.prog.cellsOf 25 = 5 := by kernel_rfl
section
variable {H : Type} {enc : TypeId × Value → H} {w : World} {base : Nat} {held : Bool}
set_option maxRecDepth 100000 in
theorem open_start5 {fuel : Nat} {cs : List Value} {x : DataW H × List MemPlace} (h : DataW.trod enc Try.prog w base (fun _ => true) held fuel 25 cs = some x) (hf : Fit 25 x.1) :
    ∃ (b : Bg) (a : Option Addr) (c : Nat), cs = [.int .i64 b.src, .int .u32 (b.ses : Nat), .slice a b.blk.length c, .int .i64 b.wai, .int .i64 b.tri] ∧ CameB w b a c := by
  obtain ⟨xs, n, _, hx, hcl, hxl, hfs⟩ := DataW.trod_struct Try.underlying25 h
  rw [cellsStart] at hcl
  match cs, hcl, xs, hxl with
  | [v0, v1, v2, v3, v4], _, [y0, y1, y2, y3, y4], _ =>
    have h0 := hfs 0 _ rfl
    have h1 := hfs 1 _ rfl
    have h2 := hfs 2 _ rfl
    have h3 := hfs 3 _ rfl
    have h4 := hfs 4 _ rfl
    change DataW.trod enc Try.prog w base (fun _ => true) held n 3 ([v0, v1, v2, v3, v4].take (Try.prog.cellsOf 3)) = some y0 at h0
    rw [cellsInt] at h0
    change DataW.trod enc Try.prog w base (fun _ => true) held n 22 ([v1, v2, v3, v4].take (Try.prog.cellsOf 22)) = some y1 at h1
    rw [cellsU32] at h1
    change DataW.trod enc Try.prog w base (fun _ => true) held n 23 ([v2, v3, v4].take (Try.prog.cellsOf 23)) = some y2 at h2
    rw [cellsBytes] at h2
    change DataW.trod enc Try.prog w base (fun _ => true) held n 3 ([v3, v4].take (Try.prog.cellsOf 3)) = some y3 at h3
    rw [cellsInt] at h3
    change DataW.trod enc Try.prog w base (fun _ => true) held n 3 ([v4].take (Try.prog.cellsOf 3)) = some y4 at h4
    rw [cellsInt] at h4
    simp only [List.take_succ_cons, List.take_zero] at h0 h1 h2 h3 h4
    rw [hx] at hf
    simp only [List.map_cons, List.map_nil] at hf
    obtain ⟨k0, e0, _, w0⟩ := DataW.trod_int Try.underlying3 h0
    obtain ⟨k1, e1, _, w1⟩ := DataW.trod_int Try.underlying22 h1
    obtain ⟨a, c, l, e2, g1, g2, g3, g4⟩ := open_bytes h2 (fit_agg Try.underlying25 hf (j := 2) rfl rfl)
    obtain ⟨k3, e3, _, w3⟩ := DataW.trod_int Try.underlying3 h3
    obtain ⟨k4, e4, _, w4⟩ := DataW.trod_int Try.underlying3 h4
    simp only [List.cons.injEq, and_true] at e0 e1 e2 e3 e4
    have b1 := bounds_u32 w1
    have b0 := bounds_i64 w0
    have b3 := bounds_i64 w3
    have b4 := bounds_i64 w4
    refine ⟨⟨k0, k1.toNat, l, k3, k4⟩, a, c, ?_, ⟨b0, by show k1.toNat < _; omega, g3, b3, b4, g4, g1, g2⟩⟩
    rw [e0, e1, e2, e3, e4, Int.toNat_of_nonneg b1.1]
set_option maxRecDepth 100000 in
theorem open_start {r : Reach} {b0 : Nat} {v : Value} {d : DataW H} {p : List MemPlace} (hv : Value.okWide Try.prog w r b0 25 v) (h : DataW.Trod enc Try.prog w base (fun _ => true) held 25 v d p) (hf : Fit 25 d) :
    ∃ b a c, v = bgv b a c ∧ CameB w b a c := by
  obtain ⟨cs, rfl, hsz⟩ := okWide_struct Try.underlying25 hv
  obtain ⟨fuel, hfu⟩ := h
  obtain ⟨b, a, c, hcs, hb⟩ := open_start5 hfu hf
  refine ⟨b, a, c, ?_, hb⟩
  simp only [Value.cells] at hcs
  rw [show cs = cs.toList.toArray from by simp, hcs]
end
end Go.Proofs.Ytnjcaolkcmpdcaa
