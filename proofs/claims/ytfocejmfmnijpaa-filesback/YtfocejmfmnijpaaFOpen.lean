/- Files, operations and names that came in: how they lie in memory. -/
import Derived.Test.YtfocejmfmnijpaaFWakes
import Derived.ProofKit
import Derived.Deep.SlicePairs
import Derived.SizedLaws
import Derived.Lib.SmallJoins
namespace Go.Proofs.Ytfocejmfmnijpaa
open Go.RowKit Go.Deep Go.ChangeShapes Go.WideShapes

/-- what a reading takes, each within the reach. -/
def Fit {H : Type} (t : TypeId) (d : DataW H) : Prop := ∀ n ∈ d.weights Try.prog t, n ≤ reachBytes

theorem fit_each {H : Type} {ts : List TypeId} {ds : List (DataW H)} (h : (DataW.weightsEach Try.prog ts ds).all (· ≤ reachBytes) = true) {j : Nat} {t : TypeId} {d : DataW H} (ht : ts[j]? = some t) (hd : ds[j]? = some d) : Fit t d := fun n hn => by
  have := List.all_eq_true.1 h n (DataW.weights_mem_each ht hd n hn)
  simpa using this
theorem fit_of_all {H : Type} {e : TypeId} : ∀ {l : List (DataW H)}, (∀ n ∈ DataW.weightsAll Try.prog e l, n ≤ reachBytes) → ∀ d ∈ l, Fit e d
  | [], _ => by simp
  | x :: r, h => by
    intro d hd n hn
    rcases List.mem_cons.1 hd with rfl | hd
    · exact h n (by simp [DataW.weightsAll, hn])
    · exact fit_of_all (l := r) (fun m hm => h m (by simp [DataW.weightsAll, hm])) d hd n hn
theorem fit_slice {H : Type} {t e : TypeId} {elems spare : List (DataW H)} (ht : Try.prog.underlying t = some (.slice e)) (h : Fit t (.slice elems spare)) : (elems.length + spare.length) * Try.prog.bytesOf e ≤ reachBytes ∧ ∀ d ∈ elems, Fit e d := by
  unfold Fit at h
  simp only [DataW.weights, ht] at h
  exact ⟨h _ (by simp), fit_of_all fun n hn => h n (by simp [hn])⟩
theorem fit_agg {H : Type} {t : TypeId} {fs : Array Field} {parts : List (DataW H)} (ht : Try.prog.underlying t = some (.struct fs)) (h : Fit t (.agg parts)) {j : Nat} {f : Field} {d : DataW H} (hf : fs[j]? = some f) (hd : parts[j]? = some d) : Fit f.type d := by
  intro n hn
  refine h n ?_
  simp only [DataW.weights, ht]
  exact DataW.weights_mem_each (by rw [List.getElem?_map, Array.getElem?_toList, hf]; rfl) hd n hn

theorem bytesU8 : Try.prog.bytesOf 5 = 1 := by kernel_rfl
theorem bytesFile : Try.prog.bytesOf 53 = 40 := by kernel_rfl
theorem bytesOp : Try.prog.bytesOf 44 = 72 := by kernel_rfl
theorem cellsU8 : Try.prog.cellsOf 5 = 1 := by kernel_rfl
theorem cellsInt : Try.prog.cellsOf 3 = 1 := by kernel_rfl
theorem cellsString : Try.prog.cellsOf 9 = 1 := by kernel_rfl
theorem cellsBytes : Try.prog.cellsOf 35 = 1 := by kernel_rfl
theorem cellsFile : Try.prog.cellsOf 53 = 2 := by kernel_rfl
theorem cellsFiles : Try.prog.cellsOf 24 = 1 := by kernel_rfl
theorem cellsOp : Try.prog.cellsOf 44 = 5 := by kernel_rfl
theorem cellsList : Try.prog.cellsOf 22 = 1 := by kernel_rfl

/-- one function, out of one for each place. -/
theorem choose_at {α : Type} (d : α) {n : Nat} {p : Nat → α → Prop} (h : ∀ i, i < n → ∃ x, p i x) : ∃ f : Nat → α, ∀ i, i < n → p i (f i) := @choose_lt α ⟨d⟩ n p h

section
variable {H : Type} {enc : TypeId × Value → H} {w : World} {base : Nat} {held : Bool}

/-- what the shell tells of a slice of bytes that came in, as a row of bytes. -/
theorem row_of {w : World} {a : Addr} {len cap : Nat} {zs : List Int} (hl : len ≤ cap) (hm : cap ≤ maxLen) (hz : zs.length = cap) (hcell : ∀ i, i < zs.length → w.cell? (a.add i) = some (.int .u8 (zs.getD i 0))) (hwz : ∀ n ∈ zs, (Lit.int .u8 n).wf = true) :
    ∃ l : List Nat, l.length = len ∧ Row w (some a) l := by
  have hlen : ((zs.take len).map Int.toNat).length = len := by simp; omega
  have hwf : ∀ n ∈ zs, 0 ≤ n ∧ n ≤ 255 := fun n hn => bounds_u8 (hwz n hn)
  refine ⟨(zs.take len).map Int.toNat, hlen, ?_, by omega, fun h0 => ?_⟩
  · intro y hy
    obtain ⟨n, hn, rfl⟩ := List.mem_map.1 hy
    have := hwf n (List.mem_of_mem_take hn)
    omega
  · obtain ⟨b, off, rfl, hc⟩ := ints_at hcell (by omega)
    refine ⟨b, off, rfl, fun i hi => ?_⟩
    rw [hc i (by omega)]
    have hi1 : i < zs.length := by omega
    have hb := hwf _ (List.getElem_mem hi1)
    simp only [List.getD_eq_getElem?_getD]
    rw [List.getElem?_map, List.getElem?_take_of_lt (by omega), List.getElem?_eq_getElem hi1]
    simp only [Option.map_some, Option.getD_some]
    rw [Int.toNat_of_nonneg hb.1]

theorem open_bytes {fuel : Nat} {cs : List Value} {x : DataW H × List MemPlace} (h : DataW.trod enc Try.prog w base (fun _ => true) held fuel 35 cs = some x) (hf : Fit 35 x.1) :
    ∃ a c l, cs = [.slice a (l : List Nat).length c] ∧ l.length ≤ c ∧ c ≤ maxLen ∧ l.length ≤ 140737488351232 ∧ Row w a l := by
  rcases open_ints Try.underlying35 Try.underlying5 cellsU8 h with ⟨rfl, _⟩ | ⟨a, len, cap, zs, rfl, _, hl, hm, hz, hx, hcell, hwz⟩
  · exact ⟨none, 0, [], rfl, Nat.le_refl _, Nat.zero_le _, Nat.zero_le _, by simp, by simp, fun h => absurd h (by simp)⟩
  · simp only [if_true] at hz
    obtain ⟨l, rfl, hr⟩ := row_of hl hm hz hcell hwz
    refine ⟨some a, cap, l, rfl, hl, hm, ?_, hr⟩
    rw [hx] at hf
    have hb := (fit_slice Try.underlying35 hf).1
    rw [bytesU8] at hb
    simp only [lits, List.length_map, List.length_take, List.length_drop, reachBytes] at hb
    omega

theorem open_list {fuel : Nat} {cs : List Value} {x : DataW H × List MemPlace} (h : DataW.trod enc Try.prog w base (fun _ => true) held fuel 22 cs = some x) (hf : Fit 22 x.1) :
    ∃ a c L, cs = [.slice a (L : List Fil).length c] ∧ L.length ≤ c ∧ c ≤ maxLen ∧ ListAt w a L ∧ ∀ x ∈ L, x.bytes.length ≤ 140737488351232 := by
  rcases open_slice_pairs Try.underlying22 Try.underlying53 cellsFile rfl rfl cellsString cellsBytes h with ⟨rfl, _⟩ | ⟨a, len, cap, m, n, V0, V1, D0, D1, P0, P1, rfl, _, hl, hm, hmm, hx, hi⟩
  · exact ⟨none, 0, [], rfl, Nat.le_refl _, Nat.zero_le _, list_none _ _, by simp⟩
  · simp only [if_true] at hmm
    subst hmm
    rw [hx] at hf
    obtain ⟨hb, he⟩ := fit_slice Try.underlying22 hf
    rw [bytesFile] at hb
    simp only [List.length_map, List.length_range, reachBytes] at hb
    have each : ∀ i, i < len → ∃ f : Fil, (f.name.size ≤ 140737488351232 ∧ f.bytes.length ≤ 140737488351232) ∧ V0 i = .string f.name ∧ ∃ ad c, V1 i = .slice ad f.bytes.length c ∧ f.bytes.length ≤ c ∧ c ≤ maxLen ∧ Row w ad f.bytes := by
      intro i hil
      obtain ⟨_, _, h2, h3⟩ := hi i (by omega)
      have hfit := he (.agg [D0 i, D1 i]) (List.mem_map.2 ⟨i, by simpa using hil, rfl⟩)
      obtain ⟨s, hs, hsx, _⟩ := DataW.trod_string Try.underlying9 h2
      have f0 := fit_agg Try.underlying53 hfit (j := 0) rfl rfl
      have f1 := fit_agg Try.underlying53 hfit (j := 1) rfl rfl
      obtain ⟨ad, c, l, hcs, g1, g2, g0, g3⟩ := open_bytes h3 f1
      simp only [Prod.mk.injEq] at hsx
      rw [hsx.1] at f0
      have hsz := f0 s.data.toList.length (by simp [DataW.weights])
      simp only [List.cons.injEq, and_true] at hs hcs
      exact ⟨⟨s, l⟩, ⟨by simpa [reachBytes] using hsz, g0⟩, hs, ad, c, hcs, g1, g2, g3⟩
    obtain ⟨F, hF⟩ := choose_at (⟨ByteArray.empty, []⟩ : Fil) (n := len) (p := fun i f => (f.name.size ≤ 140737488351232 ∧ f.bytes.length ≤ 140737488351232) ∧ V0 i = .string f.name ∧ ∃ ad c, V1 i = .slice ad f.bytes.length c ∧ f.bytes.length ≤ c ∧ c ≤ maxLen ∧ Row w ad f.bytes) each
    have hlen : ((List.range len).map F).length = len := by simp
    refine ⟨some a, m, (List.range len).map F, by rw [hlen], by rw [hlen]; exact hl, hm, ⟨?_, by rw [hlen]; omega, fun h0 => ?_⟩, ?_⟩
    rotate_left 2
    · intro y hy
      obtain ⟨i, hi2, rfl⟩ := List.mem_map.1 hy
      exact (hF i (by simpa using hi2)).1.2
    · intro y hy
      obtain ⟨i, hi2, rfl⟩ := List.mem_map.1 hy
      exact (hF i (by simpa using hi2)).1.1
    · rw [hlen] at h0
      obtain ⟨b, off, spot⟩ := a
      have hspot : spot = none := by simpa [Addr.add] using World.cell?_spot (hi 0 (by omega)).1
      subst hspot
      refine ⟨b, off, rfl, fun i hil => ?_⟩
      rw [hlen] at hil
      obtain ⟨c0, c1, _, _⟩ := hi i (by omega)
      rw [add_plain] at c0 c1
      obtain ⟨_, v0, ad, c, v1, g1, g2, g3⟩ := hF i hil
      simp only [List.getElem_map, List.getElem_range]
      rw [v0] at c0
      rw [v1] at c1
      exact ⟨c0, ad, c, c1, g1, g2, g3⟩


set_option maxRecDepth 100000 in
theorem open_files {r : Reach} {b0 : Nat} {v : Value} {d : DataW H} {p : List MemPlace} (hv : Value.okWide Try.prog w r b0 24 v) (h : DataW.Trod enc Try.prog w base (fun _ => true) held 24 v d p) (hf : Fit 24 d) :
    ∃ a c L, v = .agg #[.slice a (L : List Fil).length c] ∧ L.length ≤ c ∧ c ≤ maxLen ∧ ListAt w a L ∧ ∀ x ∈ L, x.bytes.length ≤ 140737488351232 := by
  obtain ⟨cs, rfl, hsz⟩ := okWide_struct Try.underlying24 hv
  rw [cellsFiles] at hsz
  obtain ⟨fuel, hfu⟩ := h
  obtain ⟨xs, n, _, hx, _, hxl, hfs⟩ := DataW.trod_struct Try.underlying24 hfu
  have h0 := hfs 0 _ rfl
  match xs, hxl with
  | [y], _ =>
    simp only [List.getElem?_cons_zero] at h0
    have e0 : ((Value.agg cs).cells.toList.take (Try.prog.cellsOf 22)) = cs.toList := by
      rw [cellsList]
      exact List.take_of_length_le (by simp [Value.cells, hsz])
    change DataW.trod enc Try.prog w base (fun _ => true) held n 22 ((Value.agg cs).cells.toList.take (Try.prog.cellsOf 22)) = some y at h0
    rw [e0] at h0
    simp only [Prod.mk.injEq, List.map_cons, List.map_nil] at hx
    rw [hx.1] at hf
    obtain ⟨a, c, L, hcs, g⟩ := open_list h0 (fit_agg Try.underlying24 hf (j := 0) rfl rfl)
    refine ⟨a, c, L, ?_, g⟩
    rw [← hcs, Array.toArray_toList]

set_option maxRecDepth 100000 in
theorem open_opCells {fuel : Nat} {cs : List Value} {x : DataW H × List MemPlace} (h : DataW.trod enc Try.prog w base (fun _ => true) held fuel 44 cs = some x) (hf : Fit 44 x.1) :
    ∃ (o : OpS) (a : Option Addr) (c : Nat), cs = [.int .i64 o.kind, .string o.name, .string o.new, .int .i64 o.at_, .slice a o.bytes.length c] ∧ OpFits o ∧ o.bytes.length ≤ c ∧ c ≤ maxLen ∧ Row w a o.bytes ∧ (Lit.int .i64 o.kind).wf = true ∧ (Lit.int .i64 o.at_).wf = true := by
  obtain ⟨xs, n, _, hx, hcl, hxl, hfs⟩ := DataW.trod_struct Try.underlying44 h
  rw [cellsOp] at hcl
  match cs, hcl, xs, hxl with
  | [v0, v1, v2, v3, v4], _, [y0, y1, y2, y3, y4], _ =>
    have h0 := hfs 0 _ rfl
    have h1 := hfs 1 _ rfl
    have h2 := hfs 2 _ rfl
    have h3 := hfs 3 _ rfl
    have h4 := hfs 4 _ rfl
    change DataW.trod enc Try.prog w base (fun _ => true) held n 3 ([v0, v1, v2, v3, v4].take (Try.prog.cellsOf 3)) = some y0 at h0
    rw [cellsInt] at h0
    change DataW.trod enc Try.prog w base (fun _ => true) held n 9 ([v1, v2, v3, v4].take (Try.prog.cellsOf 9)) = some y1 at h1
    rw [cellsString] at h1
    change DataW.trod enc Try.prog w base (fun _ => true) held n 9 ([v2, v3, v4].take (Try.prog.cellsOf 9)) = some y2 at h2
    rw [cellsString] at h2
    change DataW.trod enc Try.prog w base (fun _ => true) held n 3 ([v3, v4].take (Try.prog.cellsOf 3)) = some y3 at h3
    rw [cellsInt] at h3
    change DataW.trod enc Try.prog w base (fun _ => true) held n 35 ([v4].take (Try.prog.cellsOf 35)) = some y4 at h4
    rw [cellsBytes] at h4
    simp only [List.take_succ_cons, List.take_zero] at h0 h1 h2 h3 h4
    rw [hx] at hf
    simp only [List.map_cons, List.map_nil] at hf
    obtain ⟨k, hk, _, hkw⟩ := DataW.trod_int Try.underlying3 h0
    obtain ⟨s1, hs1, hx1, _⟩ := DataW.trod_string Try.underlying9 h1
    obtain ⟨s2, hs2, hx2, _⟩ := DataW.trod_string Try.underlying9 h2
    obtain ⟨t, ht, _, htw⟩ := DataW.trod_int Try.underlying3 h3
    have f1 := fit_agg Try.underlying44 hf (j := 1) rfl rfl
    have f2 := fit_agg Try.underlying44 hf (j := 2) rfl rfl
    have f4 := fit_agg Try.underlying44 hf (j := 4) rfl rfl
    obtain ⟨a, c, l, hcs, g1, g2, g3, g4⟩ := open_bytes h4 f4
    rw [hx1] at f1
    rw [hx2] at f2
    have z1 := f1 s1.data.toList.length (by simp [DataW.weights])
    have z2 := f2 s2.data.toList.length (by simp [DataW.weights])
    simp only [List.cons.injEq, and_true] at hk hs1 hs2 ht hcs
    refine ⟨⟨k, s1, s2, t, l⟩, a, c, by rw [hk, hs1, hs2, ht, hcs], ⟨by simpa [reachBytes] using z1, by simpa [reachBytes] using z2, g3⟩, g1, g2, g4, hkw, htw⟩


set_option maxRecDepth 100000 in
/-- An operation by value. -/
theorem open_op {r : Reach} {b0 : Nat} {v : Value} {d : DataW H} {p : List MemPlace} (hv : Value.okWide Try.prog w r b0 44 v) (h : DataW.Trod enc Try.prog w base (fun _ => true) held 44 v d p) (hf : Fit 44 d) :
    ∃ (o : OpS) (a : Option Addr) (c : Nat), v = opv o a c ∧ OpFits o ∧ o.bytes.length ≤ c ∧ c ≤ maxLen ∧ Row w a o.bytes ∧ (Lit.int .i64 o.kind).wf = true ∧ (Lit.int .i64 o.at_).wf = true := by
  obtain ⟨cs, rfl, hsz⟩ := okWide_struct Try.underlying44 hv
  obtain ⟨fuel, hfu⟩ := h
  obtain ⟨o, a, c, hcs, g⟩ := open_opCells hfu hf
  refine ⟨o, a, c, ?_, g⟩
  unfold opv
  have : cs.toList = [.int .i64 o.kind, .string o.name, .string o.new, .int .i64 o.at_, .slice a o.bytes.length c] := by simpa [Value.cells] using hcs
  rw [← this, Array.toArray_toList]

theorem open_ops {fuel : Nat} {cs : List Value} {x : DataW H × List MemPlace} (h : DataW.trod enc Try.prog w base (fun _ => true) held fuel 25 cs = some x) (hf : Fit 25 x.1) :
    ∃ a c l, cs = [.slice a (l : List OpS).length c] ∧ l.length ≤ c ∧ c ≤ maxLen ∧ OpsAt w a l := by
  rcases open_slice Try.underlying25 h with ⟨rfl, _⟩ | ⟨a, len, cap, m, n, D, Pl, rfl, _, hl, hm, hmm, hx, hi⟩
  · exact ⟨none, 0, [], rfl, Nat.le_refl _, Nat.zero_le _, by simp, by simp, fun h => absurd h (by simp)⟩
  · simp only [if_true] at hmm
    subst hmm
    rw [hx] at hf
    obtain ⟨hb, he⟩ := fit_slice Try.underlying25 hf
    rw [bytesOp] at hb
    simp only [List.length_map, List.length_range, reachBytes] at hb
    rw [cellsOp] at hi
    have each : ∀ i, i < len → ∃ o : OpS, OpFits o ∧ w.cell? (a.add (i * 5)) = some (.int .i64 o.kind) ∧ w.cell? (a.add (i * 5 + 1)) = some (.string o.name) ∧ w.cell? (a.add (i * 5 + 2)) = some (.string o.new) ∧ w.cell? (a.add (i * 5 + 3)) = some (.int .i64 o.at_) ∧
        ∃ ad c, w.cell? (a.add (i * 5 + 4)) = some (.slice ad o.bytes.length c) ∧ o.bytes.length ≤ c ∧ c ≤ maxLen ∧ Row w ad o.bytes := by
      intro i hil
      obtain ⟨cs', h1, h2⟩ := hi i (by omega)
      have hfit := he (D i) (List.mem_map.2 ⟨i, by simpa using hil, rfl⟩)
      obtain ⟨o, ad, c, rfl, g1, g2, g3, g4, _⟩ := open_opCells h2 hfit
      obtain ⟨_, _, hcell⟩ := World.cells?_some h1
      have e0 := hcell 0 (by omega)
      have e1 := hcell 1 (by omega)
      have e2 := hcell 2 (by omega)
      have e3 := hcell 3 (by omega)
      have e4 := hcell 4 (by omega)
      rw [add_add] at e0 e1 e2 e3 e4
      exact ⟨o, g1, e0, e1, e2, e3, ad, c, e4, g2, g3, g4⟩
    obtain ⟨F, hF⟩ := choose_at (⟨0, ByteArray.empty, ByteArray.empty, 0, []⟩ : OpS) each
    have hlen : ((List.range len).map F).length = len := by simp
    refine ⟨some a, m, (List.range len).map F, by rw [hlen], by rw [hlen]; exact hl, hm, ?_, by rw [hlen]; omega, fun h0 => ?_⟩
    · intro y hy
      obtain ⟨i, hi2, rfl⟩ := List.mem_map.1 hy
      exact (hF i (by simpa using hi2)).1
    · rw [hlen] at h0
      obtain ⟨b, off, spot⟩ := a
      have hspot : spot = none := by simpa [Addr.add] using World.cell?_spot (hF 0 h0).2.1
      subst hspot
      refine ⟨b, off, rfl, fun i hil => ?_⟩
      rw [hlen] at hil
      obtain ⟨_, c0, c1, c2, c3, ad, c, c4, g1, g2, g3⟩ := hF i hil
      rw [add_plain] at c0 c1 c2 c3 c4
      simp only [List.getElem_map, List.getElem_range]
      exact ⟨c0, c1, c2, c3, ad, c, c4, g1, g2, g3⟩

end
end Go.Proofs.Ytfocejmfmnijpaa
