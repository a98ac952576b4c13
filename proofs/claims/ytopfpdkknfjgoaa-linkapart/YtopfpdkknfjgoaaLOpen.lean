/- What came in: flights, operations of the law, numbers. -/
import Derived.Test.YtopfpdkknfjgoaaLMem
import Derived.Test.YtopfpdkknfjgoaaHOpen
namespace Go.Proofs.Ytopfpdkknfjgoaa
open Go.RowKit Go.Deep Go.ChangeShapes Go.WideShapes
set_option linter.unusedVariables false
/-- a flight that came in. -/
structure CameF (w : World) (y : FX) : Prop where
  row : Row w y.a y.x.bytes
  le : y.x.bytes.length ≤ y.c
  cap : y.c ≤ maxLen
  len : y.x.bytes.length ≤ 140737488351232
  i1 : In64 y.x.frm
  i2 : In64 y.x.to
  i3 : In64 y.x.at_
/-- an operation of the law. -/
structure OX where
  knd : Int
  f : FX
  n : Int
  bit : Int
  now : Int
def ocell (o : OX) : List Value := [.int .i64 o.knd, .int .i64 o.f.x.frm, .int .i64 o.f.x.to, .int .i64 o.f.x.at_, .slice o.f.a o.f.x.bytes.length o.f.c, .int .i64 o.n, .int .i64 o.bit, .int .i64 o.now]
structure CameO (w : World) (o : OX) : Prop where
  f : CameF w o.f
  k : In64 o.knd
  n : In64 o.n
  bit : In64 o.bit
  now : In64 o.now
theorem cellsFlight : Try.prog.cellsOf 32 = 4 := by kernel_rfl
theorem cellsOp : Try.prog.cellsOf 34 = 8 := by kernel_rfl
theorem bytesOp : Try.prog.bytesOf 34 = 80 := by kernel_rfl
theorem bytesInt : Try.prog.bytesOf 3 = 8 := by kernel_rfl
section
variable {H : Type} {enc : TypeId × Value → H} {w : World} {base : Nat} {held : Bool}
set_option maxRecDepth 100000 in
theorem open_flight4 {fuel : Nat} {cs : List Value} {x : DataW H × List MemPlace} (h : DataW.trod enc Try.prog w base (fun _ => true) held fuel 32 cs = some x) (hf : Fit 32 x.1) :
    ∃ y : FX, cs = [.int .i64 y.x.frm, .int .i64 y.x.to, .int .i64 y.x.at_, .slice y.a y.x.bytes.length y.c] ∧ CameF w y := by
  obtain ⟨xs, n, _, hx, hcl, hxl, hfs⟩ := DataW.trod_struct Try.underlying32 h
  rw [cellsFlight] at hcl
  match cs, hcl, xs, hxl with
  | [v0, v1, v2, v3], _, [y0, y1, y2, y3], _ =>
    have h0 := hfs 0 _ rfl
    have h1 := hfs 1 _ rfl
    have h2 := hfs 2 _ rfl
    have h3 := hfs 3 _ rfl
    change DataW.trod enc Try.prog w base (fun _ => true) held n 3 ([v0, v1, v2, v3].take (Try.prog.cellsOf 3)) = some y0 at h0
    rw [cellsInt] at h0
    change DataW.trod enc Try.prog w base (fun _ => true) held n 3 ([v1, v2, v3].take (Try.prog.cellsOf 3)) = some y1 at h1
    rw [cellsInt] at h1
    change DataW.trod enc Try.prog w base (fun _ => true) held n 3 ([v2, v3].take (Try.prog.cellsOf 3)) = some y2 at h2
    rw [cellsInt] at h2
    change DataW.trod enc Try.prog w base (fun _ => true) held n 30 ([v3].take (Try.prog.cellsOf 30)) = some y3 at h3
    rw [cellsBytes] at h3
    simp only [List.take_succ_cons, List.take_zero] at h0 h1 h2 h3
    rw [hx] at hf
    simp only [List.map_cons, List.map_nil] at hf
    obtain ⟨k0, e0, _, w0⟩ := DataW.trod_int Try.underlying3 h0
    obtain ⟨k1, e1, _, w1⟩ := DataW.trod_int Try.underlying3 h1
    obtain ⟨k2, e2, _, w2⟩ := DataW.trod_int Try.underlying3 h2
    obtain ⟨a, c, l, e3, g1, g2, g3, g4⟩ := open_bytes h3 (fit_agg Try.underlying32 hf (j := 3) rfl rfl)
    simp only [List.cons.injEq, and_true] at e0 e1 e2 e3
    refine ⟨⟨⟨k0, k1, k2, l⟩, a, c⟩, ?_, ⟨g4, g1, g2, g3, bounds_i64 w0, bounds_i64 w1, bounds_i64 w2⟩⟩
    rw [e0, e1, e2, e3]
set_option maxRecDepth 100000 in
theorem open_flight {r : Reach} {b0 : Nat} {v : Value} {d : DataW H} {p : List MemPlace} (hv : Value.okWide Try.prog w r b0 32 v) (h : DataW.Trod enc Try.prog w base (fun _ => true) held 32 v d p) (hf : Fit 32 d) :
    ∃ y : FX, v = .agg #[.int .i64 y.x.frm, .int .i64 y.x.to, .int .i64 y.x.at_, .slice y.a y.x.bytes.length y.c] ∧ CameF w y := by
  obtain ⟨cs, rfl, hsz⟩ := okWide_struct Try.underlying32 hv
  obtain ⟨fuel, hfu⟩ := h
  obtain ⟨y, hcs, hb⟩ := open_flight4 hfu hf
  refine ⟨y, ?_, hb⟩
  simp only [Value.cells] at hcs
  rw [show cs = cs.toList.toArray from by simp, hcs]
set_option maxRecDepth 100000 in
theorem open_op8 {fuel : Nat} {cs : List Value} {x : DataW H × List MemPlace} (h : DataW.trod enc Try.prog w base (fun _ => true) held fuel 34 cs = some x) (hf : Fit 34 x.1) :
    ∃ o : OX, cs = ocell o ∧ CameO w o := by
  obtain ⟨xs, n, _, hx, hcl, hxl, hfs⟩ := DataW.trod_struct Try.underlying34 h
  rw [cellsOp] at hcl
  match cs, hcl, xs, hxl with
  | [v0, v1, v2, v3, v4, v5, v6, v7], _, [y0, y1, y2, y3, y4], _ =>
    have h0 := hfs 0 _ rfl
    have h1 := hfs 1 _ rfl
    have h2 := hfs 2 _ rfl
    have h3 := hfs 3 _ rfl
    have h4 := hfs 4 _ rfl
    change DataW.trod enc Try.prog w base (fun _ => true) held n 3 ([v0, v1, v2, v3, v4, v5, v6, v7].take (Try.prog.cellsOf 3)) = some y0 at h0
    rw [cellsInt] at h0
    change DataW.trod enc Try.prog w base (fun _ => true) held n 32 ([v1, v2, v3, v4, v5, v6, v7].take (Try.prog.cellsOf 32)) = some y1 at h1
    rw [cellsFlight] at h1
    change DataW.trod enc Try.prog w base (fun _ => true) held n 3 ([v5, v6, v7].take (Try.prog.cellsOf 3)) = some y2 at h2
    rw [cellsInt] at h2
    change DataW.trod enc Try.prog w base (fun _ => true) held n 3 ([v6, v7].take (Try.prog.cellsOf 3)) = some y3 at h3
    rw [cellsInt] at h3
    change DataW.trod enc Try.prog w base (fun _ => true) held n 3 ([v7].take (Try.prog.cellsOf 3)) = some y4 at h4
    rw [cellsInt] at h4
    simp only [List.take_succ_cons, List.take_zero] at h0 h1 h2 h3 h4
    rw [hx] at hf
    simp only [List.map_cons, List.map_nil] at hf
    obtain ⟨k0, e0, _, w0⟩ := DataW.trod_int Try.underlying3 h0
    obtain ⟨y, e1, g⟩ := open_flight4 h1 (fit_agg Try.underlying34 hf (j := 1) rfl rfl)
    obtain ⟨k2, e2, _, w2⟩ := DataW.trod_int Try.underlying3 h2
    obtain ⟨k3, e3, _, w3⟩ := DataW.trod_int Try.underlying3 h3
    obtain ⟨k4, e4, _, w4⟩ := DataW.trod_int Try.underlying3 h4
    simp only [List.cons.injEq, and_true] at e0 e1 e2 e3 e4
    obtain ⟨q1, q2, q3, q4⟩ := e1
    refine ⟨⟨k0, y, k2, k3, k4⟩, ?_, ⟨g, bounds_i64 w0, bounds_i64 w2, bounds_i64 w3, bounds_i64 w4⟩⟩
    rw [e0, q1, q2, q3, q4, e2, e3, e4]
    rfl
set_option maxRecDepth 100000 in
theorem open_op {r : Reach} {b0 : Nat} {v : Value} {d : DataW H} {p : List MemPlace} (hv : Value.okWide Try.prog w r b0 34 v) (h : DataW.Trod enc Try.prog w base (fun _ => true) held 34 v d p) (hf : Fit 34 d) :
    ∃ o : OX, v = .agg (ocell o).toArray ∧ CameO w o := by
  obtain ⟨cs, rfl, hsz⟩ := okWide_struct Try.underlying34 hv
  obtain ⟨fuel, hfu⟩ := h
  obtain ⟨o, hcs, hb⟩ := open_op8 hfu hf
  refine ⟨o, ?_, hb⟩
  simp only [Value.cells] at hcs
  rw [show cs = cs.toList.toArray from by simp, hcs]
/-- numbers that came in. -/
structure RowI (w : World) (a : Option Addr) (l : List Int) : Prop where
  rng : ∀ x ∈ l, In64 x
  here : 0 < l.length → ∃ b o, a = some ⟨b, o, none⟩ ∧ ∀ i, i < l.length → w.cell? ⟨b, o + i, none⟩ = some (.int .i64 (l.getD i 0))
theorem open_nums {fuel : Nat} {cs : List Value} {x : DataW H × List MemPlace} (h : DataW.trod enc Try.prog w base (fun _ => true) held fuel 60 cs = some x) (hf : Fit 60 x.1) :
    ∃ a c l, cs = [.slice a (l : List Int).length c] ∧ l.length ≤ c ∧ c ≤ maxLen ∧ l.length ≤ 140737488351232 ∧ RowI w a l := by
  rcases open_ints Try.underlying60 Try.underlying3 cellsInt h with ⟨rfl, _⟩ | ⟨a, len, cap, zs, rfl, _, hl, hm, hz, hx, hcell, hwz⟩
  · exact ⟨none, 0, [], rfl, Nat.le_refl _, Nat.zero_le _, Nat.zero_le _, by simp, fun h => absurd h (by simp)⟩
  · simp only [if_true] at hz
    have hlen : (zs.take len).length = len := by simp; omega
    refine ⟨some a, cap, zs.take len, by rw [hlen], by rw [hlen]; exact hl, hm, ?_, fun n hn => bounds_i64 (hwz n (List.mem_of_mem_take hn)), fun h0 => ?_⟩
    · rw [hlen]
      rw [hx] at hf
      have hb := (fit_slice Try.underlying60 hf).1
      rw [bytesInt] at hb
      simp only [lits, List.length_map, List.length_take, List.length_drop, reachBytes] at hb
      omega
    · obtain ⟨b, off, rfl, hc⟩ := ints_at hcell (by omega)
      refine ⟨b, off, rfl, fun i hi => ?_⟩
      rw [hlen] at hi
      rw [hc i (by omega), List.getD_eq_getElem?_getD, List.getD_eq_getElem?_getD, List.getElem?_take_of_lt hi]
end
end Go.Proofs.Ytopfpdkknfjgoaa
