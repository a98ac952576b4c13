/- What came in: a session that takes in; a list of segments. -/
import Derived.Test.YthmolodkaboakaaTOpen
import Derived.Test.YthmolodkaboakaaVMem
namespace Go.Proofs.Ythmolodkaboakaa
open Go.RowKit Go.Deep Go.ChangeShapes Go.WideShapes
set_option linter.unusedVariables false
theorem cellsTaking : Try.prog.cellsOf 26 = 9 := by kernel_rfl
theorem bytesSegment : Try.prog.bytesOf 28 = 128 := by kernel_rfl
section
variable {H : Type} {enc : TypeId × Value → H} {w : World} {base : Nat} {held : Bool}
set_option maxRecDepth 100000 in
theorem open_taking9 {fuel : Nat} {cs : List Value} {x : DataW H × List MemPlace} (h : DataW.trod enc Try.prog w base (fun _ => true) held fuel 26 cs = some x) (hf : Fit 26 x.1) :
    ∃ (s : Tk) (a : Option Addr) (c : Nat) (g : Option Addr) (d : Nat), cs = kcells s a c g d ∧ CameK w s a c g d := by
  obtain ⟨xs, n, _, hx, hcl, hxl, hfs⟩ := DataW.trod_struct Try.underlying26 h
  rw [cellsTaking] at hcl
  match cs, hcl, xs, hxl with
  | [v0, v1, v2, v3, v4, v5, v6, v7, v8], _, [y0, y1, y2, y3, y4, y5, y6, y7, y8], _ =>
    have h0 := hfs 0 _ rfl
    have h1 := hfs 1 _ rfl
    have h2 := hfs 2 _ rfl
    have h3 := hfs 3 _ rfl
    have h4 := hfs 4 _ rfl
    have h5 := hfs 5 _ rfl
    have h6 := hfs 6 _ rfl
    have h7 := hfs 7 _ rfl
    have h8 := hfs 8 _ rfl
    change DataW.trod enc Try.prog w base (fun _ => true) held n 3 ([v0, v1, v2, v3, v4, v5, v6, v7, v8].take (Try.prog.cellsOf 3)) = some y0 at h0
    rw [cellsInt] at h0
    change DataW.trod enc Try.prog w base (fun _ => true) held n 22 ([v1, v2, v3, v4, v5, v6, v7, v8].take (Try.prog.cellsOf 22)) = some y1 at h1
    rw [cellsU32] at h1
    change DataW.trod enc Try.prog w base (fun _ => true) held n 3 ([v2, v3, v4, v5, v6, v7, v8].take (Try.prog.cellsOf 3)) = some y2 at h2
    rw [cellsInt] at h2
    change DataW.trod enc Try.prog w base (fun _ => true) held n 23 ([v3, v4, v5, v6, v7, v8].take (Try.prog.cellsOf 23)) = some y3 at h3
    rw [cellsBytes] at h3
    change DataW.trod enc Try.prog w base (fun _ => true) held n 24 ([v4, v5, v6, v7, v8].take (Try.prog.cellsOf 24)) = some y4 at h4
    rw [cellsClaims] at h4
    change DataW.trod enc Try.prog w base (fun _ => true) held n 22 ([v5, v6, v7, v8].take (Try.prog.cellsOf 22)) = some y5 at h5
    rw [cellsU32] at h5
    change DataW.trod enc Try.prog w base (fun _ => true) held n 3 ([v6, v7, v8].take (Try.prog.cellsOf 3)) = some y6 at h6
    rw [cellsInt] at h6
    change DataW.trod enc Try.prog w base (fun _ => true) held n 3 ([v7, v8].take (Try.prog.cellsOf 3)) = some y7 at h7
    rw [cellsInt] at h7
    change DataW.trod enc Try.prog w base (fun _ => true) held n 3 ([v8].take (Try.prog.cellsOf 3)) = some y8 at h8
    rw [cellsInt] at h8
    simp only [List.take_succ_cons, List.take_zero] at h0 h1 h2 h3 h4 h5 h6 h7 h8
    rw [hx] at hf
    simp only [List.map_cons, List.map_nil] at hf
    obtain ⟨k0, e0, _, w0⟩ := DataW.trod_int Try.underlying3 h0
    obtain ⟨k1, e1, _, w1⟩ := DataW.trod_int Try.underlying22 h1
    obtain ⟨k2, e2, _, w2⟩ := DataW.trod_int Try.underlying3 h2
    obtain ⟨k5, e5, _, w5⟩ := DataW.trod_int Try.underlying22 h5
    obtain ⟨k6, e6, _, w6⟩ := DataW.trod_int Try.underlying3 h6
    obtain ⟨k7, e7, _, w7⟩ := DataW.trod_int Try.underlying3 h7
    obtain ⟨k8, e8, _, w8⟩ := DataW.trod_int Try.underlying3 h8
    obtain ⟨a, c, l, e3, g1, g2, g3, g4⟩ := open_bytes h3 (fit_agg Try.underlying26 hf (j := 3) rfl rfl)
    obtain ⟨a2, c2, L, e4, q1, q2, q3, q4, q5⟩ := open_claims h4 (fit_agg Try.underlying26 hf (j := 4) rfl rfl)
    simp only [List.cons.injEq, and_true] at e0 e1 e2 e3 e4 e5 e6 e7 e8
    have b0 := bounds_i64 w0
    have b1 := bounds_u32 w1
    have b2 := bounds_i64 w2
    have b5 := bounds_u32 w5
    have b6 := bounds_i64 w6
    have b7 := bounds_i64 w7
    have b8 := bounds_i64 w8
    refine ⟨⟨k0, k1.toNat, k2, l, L, k5.toNat, k6, k7, k8⟩, a, c, a2, c2, ?_, ⟨g4, q3, ⟨g1, g2⟩, ⟨q1, q2⟩, g3, q5, q4, b0, by show k1.toNat < _; omega, b2, by show k5.toNat < _; omega, b6, b7, b8⟩⟩
    rw [e0, e1, e2, e3, e4, e5, e6, e7, e8]
    simp only [kcells]
    rw [Int.toNat_of_nonneg b1.1, Int.toNat_of_nonneg b5.1]
set_option maxRecDepth 100000 in
theorem open_taking {r : Reach} {b0 : Nat} {v : Value} {d : DataW H} {p : List MemPlace} (hv : Value.okWide Try.prog w r b0 26 v) (h : DataW.Trod enc Try.prog w base (fun _ => true) held 26 v d p) (hf : Fit 26 d) :
    ∃ s a c g k, v = kv s a c g k ∧ CameK w s a c g k := by
  obtain ⟨cs, rfl, hsz⟩ := okWide_struct Try.underlying26 hv
  obtain ⟨fuel, hfu⟩ := h
  obtain ⟨s, a, c, a2, c2, hcs, hb⟩ := open_taking9 hfu hf
  refine ⟨s, a, c, a2, c2, ?_, hb⟩
  simp only [Value.cells] at hcs
  rw [show cs = cs.toList.toArray from by simp, hcs]
/-- a segment, and where its rows lie. -/
structure SX where
  s : Sg
  a : Option Addr
  c : Nat
  g : Option Addr
  d : Nat
def SX.cells (x : SX) : List Value := [.int .i64 x.s.knd, .int .i64 x.s.src, .int .u32 (x.s.ses : Nat), .int .u32 (x.s.ser : Nat), .int .u32 (x.s.cks : Nat), .int .i64 x.s.off, .int .i64 x.s.tot, .int .i64 x.s.low, .int .i64 x.s.upp, .int .i64 x.s.rea, .bool x.s.chk, .slice x.a x.s.dat.length x.c, .slice x.g x.s.cls.length x.d]
theorem SX.len (x : SX) : x.cells.length = 13 := rfl
/-- segments that came in. -/
structure SxAt (w : World) (a : Option Addr) (l : List SX) : Prop where
  came : ∀ x ∈ l, Came w x.s x.a x.c x.g x.d
  here : 0 < l.length → ∃ b o, a = some ⟨b, o, none⟩ ∧ ∀ i (hi : i < l.length), ∀ j u, (l[i]).cells[j]? = some u → w.cell? ⟨b, o + (i * 13 + j), none⟩ = some u
theorem SxAt.later {w w' : World} {a : Option Addr} {l : List SX} (h : SxAt w a l) (hb : Below w.heap.size w w') : SxAt w' a l := by
  refine ⟨fun x hx => (h.came x hx).later hb, fun h0 => ?_⟩
  obtain ⟨b, o, e, hc⟩ := h.here h0
  exact ⟨b, o, e, fun i hi j u hu => cell_later hb (hc i hi j u hu)⟩
theorem open_segments {fuel : Nat} {cs : List Value} {x : DataW H × List MemPlace} (h : DataW.trod enc Try.prog w base (fun _ => true) held fuel 31 cs = some x) (hf : Fit 31 x.1) :
    ∃ a c l, cs = [.slice a (l : List SX).length c] ∧ l.length ≤ c ∧ c ≤ maxLen ∧ l.length ≤ 140737488351232 ∧ SxAt w a l := by
  rcases open_slice Try.underlying31 h with ⟨rfl, _⟩ | ⟨a, len, cap, m, n, D, Pl, rfl, _, hl, hm, hmm, hx, hi⟩
  · exact ⟨none, 0, [], rfl, Nat.le_refl _, Nat.zero_le _, Nat.zero_le _, by simp, fun h => absurd h (by simp)⟩
  · simp only [if_true] at hmm
    subst hmm
    rw [hx] at hf
    obtain ⟨hb, he⟩ := fit_slice Try.underlying31 hf
    rw [bytesSegment] at hb
    simp only [List.length_map, List.length_range, reachBytes] at hb
    rw [cellsSegment] at hi
    have each : ∀ i, i < len → ∃ o : SX, Came w o.s o.a o.c o.g o.d ∧ ∀ j u, o.cells[j]? = some u → w.cell? (a.add (i * 13 + j)) = some u := by
      intro i hil
      obtain ⟨cs', h1, h2⟩ := hi i (by omega)
      have hfit := he (D i) (List.mem_map.2 ⟨i, by simpa using hil, rfl⟩)
      obtain ⟨s, sa, sc, sg, sd, rfl, g⟩ := open_segment13 h2 hfit
      obtain ⟨_, _, hcell⟩ := World.cells?_some h1
      refine ⟨⟨s, sa, sc, sg, sd⟩, g, fun j u hu => ?_⟩
      have hj : j < 13 := (List.getElem?_eq_some_iff.1 hu).1
      have := hcell j (by omega)
      rw [add_add] at this
      rw [this]
      exact hu
    obtain ⟨F, hF⟩ := choose_at (⟨⟨0, 0, 0, 0, 0, 0, 0, 0, 0, 0, false, [], []⟩, none, 0, none, 0⟩ : SX) each
    have hlen : ((List.range len).map F).length = len := by simp
    refine ⟨some a, m, (List.range len).map F, by rw [hlen], by rw [hlen]; exact hl, hm, by rw [hlen]; omega, ?_, fun h0 => ?_⟩
    · intro y hy
      obtain ⟨i, hi2, rfl⟩ := List.mem_map.1 hy
      exact (hF i (by simpa using hi2)).1
    · rw [hlen] at h0
      obtain ⟨b, off, spot⟩ := a
      have hspot : spot = none := by
        have c0 := (hF 0 h0).2 0 _ rfl
        simpa [Addr.add] using World.cell?_spot c0
      subst hspot
      refine ⟨b, off, rfl, fun i hi j u hu => ?_⟩
      rw [hlen] at hi
      simp only [List.getElem_map, List.getElem_range] at hu
      have := (hF i hi).2 j u hu
      rw [add_plain] at this
      exact this
theorem open_pair {r : Reach} {b0 : Nat} {v : Value} {d : DataW H} {p : List MemPlace} (hv : Value.okWide Try.prog w r b0 43 v) (h : DataW.Trod enc Try.prog w base (fun _ => true) held 43 v d p) :
    ∃ x y : Int, v = .agg #[.int .i64 x, .int .i64 y] ∧ in64 x ∧ in64 y := by
  have hcells : Try.prog.cellsOf 43 = 2 := by kernel_rfl
  have hv' := hv
  simp only [Value.okWide, Try.underlying43] at hv'
  obtain ⟨cs, rfl, hsz, _⟩ := hv'
  obtain ⟨fuel, hfu⟩ := h
  obtain ⟨xs, m, _, _, _, hxl, hi⟩ := DataW.trod_array Try.underlying43 hfu
  simp only [Value.cells] at hi
  rw [hcells] at hsz
  obtain ⟨c0, c1, hcs⟩ : ∃ c0 c1, cs.toList = [c0, c1] := by
    match hc : cs.toList, (show cs.toList.length = 2 by simpa using hsz) with
    | [c0, c1], _ => exact ⟨c0, c1, rfl⟩
  rw [hcs, cellsInt] at hi
  match xs, hxl with
  | [y0, y1], _ =>
    have h0 := hi 0 (by decide)
    have h1 := hi 1 (by decide)
    change DataW.trod enc Try.prog w base (fun _ => true) held m 3 [c0] = some y0 at h0
    change DataW.trod enc Try.prog w base (fun _ => true) held m 3 [c1] = some y1 at h1
    obtain ⟨k0, e0, _, w0⟩ := DataW.trod_int Try.underlying3 h0
    obtain ⟨k1, e1, _, w1⟩ := DataW.trod_int Try.underlying3 h1
    simp only [List.cons.injEq, and_true] at e0 e1
    refine ⟨k0, k1, ?_, bounds_i64 w0, bounds_i64 w1⟩
    rw [show cs = cs.toList.toArray from by simp, hcs, e0, e1]
end
end Go.Proofs.Ythmolodkaboakaa
