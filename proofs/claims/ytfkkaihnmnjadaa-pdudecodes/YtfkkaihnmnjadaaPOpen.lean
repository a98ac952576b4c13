/- What came in: a message. -/
import Derived.Test.YtfkkaihnmnjadaaPCheck
import Derived.Test.YtfkkaihnmnjadaaHOpen
namespace Go.Proofs.Ytfkkaihnmnjadaa
open Go.RowKit Go.Deep Go.ChangeShapes Go.WideShapes
set_option linter.unusedVariables false
theorem cellsMessage : Try.prog.cellsOf 25 = 8 := by kernel_rfl
theorem cellsU32 : Try.prog.cellsOf 22 = 1 := by kernel_rfl
theorem cellsString : Try.prog.cellsOf 9 = 1 := by kernel_rfl
section
variable {H : Type} {enc : TypeId × Value → H} {w : World} {base : Nat} {held : Bool}
set_option maxRecDepth 100000 in
theorem open_message8 {fuel : Nat} {cs : List Value} {x : DataW H × List MemPlace} (h : DataW.trod enc Try.prog w base (fun _ => true) held fuel 25 cs = some x) (hf : Fit 25 x.1) :
    ∃ (s : Ms) (a : Option Addr) (c : Nat), cs = [.int .i64 s.knd, .int .u32 (s.num : Nat), .string s.nam, .int .i64 s.siz, .int .i64 s.off, .int .u32 (s.sum : Nat), .int .i64 s.cod, .slice a s.bts.length c] ∧ Came w s a c := by
  obtain ⟨xs, n, _, hx, hcl, hxl, hfs⟩ := DataW.trod_struct Try.underlying25 h
  rw [cellsMessage] at hcl
  match cs, hcl, xs, hxl with
  | [v0, v1, v2, v3, v4, v5, v6, v7], _, [y0, y1, y2, y3, y4, y5, y6, y7], _ =>
    have h0 := hfs 0 _ rfl
    have h1 := hfs 1 _ rfl
    have h2 := hfs 2 _ rfl
    have h3 := hfs 3 _ rfl
    have h4 := hfs 4 _ rfl
    have h5 := hfs 5 _ rfl
    have h6 := hfs 6 _ rfl
    have h7 := hfs 7 _ rfl
    change DataW.trod enc Try.prog w base (fun _ => true) held n 3 ([v0, v1, v2, v3, v4, v5, v6, v7].take (Try.prog.cellsOf 3)) = some y0 at h0
    rw [cellsInt] at h0
    change DataW.trod enc Try.prog w base (fun _ => true) held n 22 ([v1, v2, v3, v4, v5, v6, v7].take (Try.prog.cellsOf 22)) = some y1 at h1
    rw [cellsU32] at h1
    change DataW.trod enc Try.prog w base (fun _ => true) held n 9 ([v2, v3, v4, v5, v6, v7].take (Try.prog.cellsOf 9)) = some y2 at h2
    rw [cellsString] at h2
    change DataW.trod enc Try.prog w base (fun _ => true) held n 3 ([v3, v4, v5, v6, v7].take (Try.prog.cellsOf 3)) = some y3 at h3
    rw [cellsInt] at h3
    change DataW.trod enc Try.prog w base (fun _ => true) held n 3 ([v4, v5, v6, v7].take (Try.prog.cellsOf 3)) = some y4 at h4
    rw [cellsInt] at h4
    change DataW.trod enc Try.prog w base (fun _ => true) held n 22 ([v5, v6, v7].take (Try.prog.cellsOf 22)) = some y5 at h5
    rw [cellsU32] at h5
    change DataW.trod enc Try.prog w base (fun _ => true) held n 3 ([v6, v7].take (Try.prog.cellsOf 3)) = some y6 at h6
    rw [cellsInt] at h6
    change DataW.trod enc Try.prog w base (fun _ => true) held n 23 ([v7].take (Try.prog.cellsOf 23)) = some y7 at h7
    rw [cellsBytes] at h7
    simp only [List.take_succ_cons, List.take_zero] at h0 h1 h2 h3 h4 h5 h6 h7
    rw [hx] at hf
    simp only [List.map_cons, List.map_nil] at hf
    obtain ⟨k0, e0, _, w0⟩ := DataW.trod_int Try.underlying3 h0
    obtain ⟨k1, e1, _, w1⟩ := DataW.trod_int Try.underlying22 h1
    obtain ⟨k2, e2, sx2, _⟩ := DataW.trod_string Try.underlying9 h2
    have ff2 := fit_agg Try.underlying25 hf (j := 2) rfl rfl
    rw [sx2] at ff2
    have sz2 := ff2 k2.data.toList.length (by simp [DataW.weights])
    obtain ⟨k3, e3, _, w3⟩ := DataW.trod_int Try.underlying3 h3
    obtain ⟨k4, e4, _, w4⟩ := DataW.trod_int Try.underlying3 h4
    obtain ⟨k5, e5, _, w5⟩ := DataW.trod_int Try.underlying22 h5
    obtain ⟨k6, e6, _, w6⟩ := DataW.trod_int Try.underlying3 h6
    obtain ⟨a, c, l, e7, g1, g2, g3, g4⟩ := open_bytes h7 (fit_agg Try.underlying25 hf (j := 7) rfl rfl)
    simp only [List.cons.injEq, and_true] at e0 e1 e2 e3 e4 e5 e6 e7
    have b0 := bounds_i64 w0
    have b1 := bounds_u32 w1
    have b3 := bounds_i64 w3
    have b4 := bounds_i64 w4
    have b5 := bounds_u32 w5
    have b6 := bounds_i64 w6
    refine ⟨⟨k0, k1.toNat, k2, k3, k4, k5.toNat, k6, l⟩, a, c, ?_, ⟨b0, by show k1.toNat < _; omega, by show k2.size ≤ _; simpa [reachBytes] using sz2, b3, b4, by show k5.toNat < _; omega, b6, g3⟩, g4, g1, g2⟩
    rw [e0, e1, e2, e3, e4, e5, e6, e7, Int.toNat_of_nonneg b1.1, Int.toNat_of_nonneg b5.1]
set_option maxRecDepth 100000 in
theorem open_message {r : Reach} {b0 : Nat} {v : Value} {d : DataW H} {p : List MemPlace} (hv : Value.okWide Try.prog w r b0 25 v) (h : DataW.Trod enc Try.prog w base (fun _ => true) held 25 v d p) (hf : Fit 25 d) :
    ∃ m a c, v = mv m a c ∧ Came w m a c := by
  obtain ⟨cs, rfl, hsz⟩ := okWide_struct Try.underlying25 hv
  obtain ⟨fuel, hfu⟩ := h
  obtain ⟨m, a, c, hcs, hb⟩ := open_message8 hfu hf
  refine ⟨m, a, c, ?_, hb⟩
  simp only [Value.cells] at hcs
  rw [show cs = cs.toList.toArray from by simp, hcs]
end
end Go.Proofs.Ytfkkaihnmnjadaa
