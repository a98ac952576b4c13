/- What came in: a list of Flats. -/
import Derived.Test.YthjemjclpjmomaaDoorCBd2
import Derived.Test.YthjemjclpjmomaaDoorCOpen
import Derived.OpenShut
namespace Go.Proofs.YthjemjclpjmomaaDoor
open Go.RowKit Go.Deep Go.ChangeShapes Go.WideShapes
set_option linter.unusedVariables false

theorem cellsItem : Tryd.prog.cellsOf 28 = 4 := by kernel_rfl
theorem cellsItems : Tryd.prog.cellsOf 26 = 1 := by kernel_rfl
theorem cellsU64 : Tryd.prog.cellsOf 24 = 1 := by kernel_rfl
theorem cellsBool : Tryd.prog.cellsOf 4 = 1 := by kernel_rfl
theorem cellsFlat : Tryd.prog.cellsOf 48 = 6 := by kernel_rfl
theorem bytesFlat : Tryd.prog.bytesOf 48 = 72 := by kernel_rfl

section
variable {H : Type} {enc : TypeId × Value → H} {w : World} {base : Nat} {held : Bool}
set_option maxRecDepth 100000 in
theorem open_item4 {fuel : Nat} {cs : List Value} {x : DataW H × List MemPlace} (h : DataW.trod enc Tryd.prog w base (fun _ => true) held fuel 28 cs = some x) (hf : Fit 28 x.1) :
    ∃ (k : Int) (n : Nat) (l : List Nat) (a1 : Option Addr) (c1 : Nat) (a2 : Option Addr) (n2 c2 : Nat), cs = [.int .i64 k, .int .u64 n, .slice a1 l.length c1, .slice a2 n2 c2] ∧ (n < 18446744073709551616 ∧ -9223372036854775808 ≤ k ∧ k ≤ 9223372036854775807 ∧ l.length ≤ 140737488351232) ∧ Row w a1 l ∧ l.length ≤ c1 := by
  obtain ⟨xs, n, _, hx, hcl, hxl, hfs⟩ := DataW.trod_struct Tryd.underlying28 h
  rw [cellsItem] at hcl
  match cs, hcl, xs, hxl with
  | [v0, v1, v2, v3], _, [y0, y1, y2, y3], _ =>
    have h0 := hfs 0 _ rfl
    have h1 := hfs 1 _ rfl
    have h2 := hfs 2 _ rfl
    have h3 := hfs 3 _ rfl
    change DataW.trod enc Tryd.prog w base (fun _ => true) held n 3 ([v0, v1, v2, v3].take (Tryd.prog.cellsOf 3)) = some y0 at h0
    rw [cellsInt] at h0
    change DataW.trod enc Tryd.prog w base (fun _ => true) held n 24 ([v1, v2, v3].take (Tryd.prog.cellsOf 24)) = some y1 at h1
    rw [cellsU64] at h1
    change DataW.trod enc Tryd.prog w base (fun _ => true) held n 25 ([v2, v3].take (Tryd.prog.cellsOf 25)) = some y2 at h2
    rw [cellsBytes] at h2
    change DataW.trod enc Tryd.prog w base (fun _ => true) held n 26 ([v3].take (Tryd.prog.cellsOf 26)) = some y3 at h3
    rw [cellsItems] at h3
    simp only [List.take_succ_cons, List.take_zero] at h0 h1 h2 h3
    rw [hx] at hf
    simp only [List.map_cons, List.map_nil] at hf
    obtain ⟨k, hk, _, hkw⟩ := DataW.trod_int Tryd.underlying3 h0
    obtain ⟨t, ht, _, htw⟩ := DataW.trod_int Tryd.underlying24 h1
    have f2 := fit_agg Tryd.underlying28 hf (j := 2) rfl rfl
    obtain ⟨a, c, l, hcs, g1, g2, g3, g4⟩ := open_bytes h2 f2
    have hsl : ∃ a2 n2 c2, v3 = .slice a2 n2 c2 := by
      rcases open_slice Tryd.underlying26 h3 with ⟨e, _⟩ | ⟨a, len, cap, m, n, D, Pl, e, _⟩
      · exact ⟨none, 0, 0, by simpa using e⟩
      · exact ⟨some a, len, cap, by simpa using e⟩
    obtain ⟨a2, n2, c2, rfl⟩ := hsl
    simp only [List.cons.injEq, and_true] at hk ht hcs
    have b0 := bounds_i64 hkw
    have b1 := bounds_u64 htw
    refine ⟨k, t.toNat, l, a, c, a2, n2, c2, ?_, ⟨by omega, b0.1, b0.2, g3⟩, g4, g1⟩
    rw [hk, ht, hcs, Int.toNat_of_nonneg b1.1]

set_option maxRecDepth 100000 in
theorem open_flat6 {fuel : Nat} {cs : List Value} {x : DataW H × List MemPlace} (h : DataW.trod enc Tryd.prog w base (fun _ => true) held fuel 48 cs = some x) (hf : Fit 48 x.1) :
    ∃ (f : FT) (a1 : Option Addr) (c1 : Nat) (a2 : Option Addr) (n2 c2 : Nat), cs = [.int .i64 f.k, .int .u64 f.n, .slice a1 f.b.length c1, .slice a2 n2 c2, .bool f.o, .bool f.c] ∧ (f.n < 18446744073709551616 ∧ -9223372036854775808 ≤ f.k ∧ f.k ≤ 9223372036854775807 ∧ f.b.length ≤ 140737488351232) ∧ Row w a1 f.b ∧ f.b.length ≤ c1 := by
  obtain ⟨xs, n, _, hx, hcl, hxl, hfs⟩ := DataW.trod_struct Tryd.underlying48 h
  rw [cellsFlat] at hcl
  match cs, hcl, xs, hxl with
  | [v0, v1, v2, v3, v4, v5], _, [y0, y1, y2], _ =>
    have h0 := hfs 0 _ rfl
    have h1 := hfs 1 _ rfl
    have h2 := hfs 2 _ rfl
    change DataW.trod enc Tryd.prog w base (fun _ => true) held n 28 ([v0, v1, v2, v3, v4, v5].take (Tryd.prog.cellsOf 28)) = some y0 at h0
    rw [cellsItem] at h0
    change DataW.trod enc Tryd.prog w base (fun _ => true) held n 4 ([v4, v5].take (Tryd.prog.cellsOf 4)) = some y1 at h1
    rw [cellsBool] at h1
    change DataW.trod enc Tryd.prog w base (fun _ => true) held n 4 ([v5].take (Tryd.prog.cellsOf 4)) = some y2 at h2
    rw [cellsBool] at h2
    simp only [List.take_succ_cons, List.take_zero] at h0 h1 h2
    rw [hx] at hf
    simp only [List.map_cons, List.map_nil] at hf
    have f0 := fit_agg Tryd.underlying48 hf (j := 0) rfl rfl
    obtain ⟨k, t, l, a1, c1, a2, n2, c2, e0, g⟩ := open_item4 h0 f0
    obtain ⟨o, e1, _⟩ := DataW.trod_bool Tryd.underlying4 h1
    obtain ⟨c, e2, _⟩ := DataW.trod_bool Tryd.underlying4 h2
    simp only [List.cons.injEq, and_true] at e0 e1 e2
    obtain ⟨rfl, rfl, rfl, rfl⟩ := e0
    subst e1 e2
    exact ⟨⟨k, t, l, o, c⟩, a1, c1, a2, n2, c2, rfl, g⟩

set_option maxRecDepth 100000 in
theorem open_flats {fuel : Nat} {cs : List Value} {x : DataW H × List MemPlace} (h : DataW.trod enc Tryd.prog w base (fun _ => true) held fuel 22 cs = some x) (hf : Fit 22 x.1) :
    ∃ a c l, cs = [.slice a (l : List FT).length c] ∧ l.length ≤ c ∧ c ≤ maxLen ∧ FlatsAt w a l := by
  rcases open_slice Tryd.underlying22 h with ⟨rfl, _⟩ | ⟨a, len, cap, m, n, D, Pl, rfl, _, hl, hm, hmm, hx, hi⟩
  · exact ⟨none, 0, [], rfl, Nat.le_refl _, Nat.zero_le _, by simp, fun h => absurd h (by simp)⟩
  · simp only [if_true] at hmm
    subst hmm
    rw [hx] at hf
    obtain ⟨hb, he⟩ := fit_slice Tryd.underlying22 hf
    rw [bytesFlat] at hb
    simp only [List.length_map, List.length_range, reachBytes] at hb
    rw [cellsFlat] at hi
    have each : ∀ i, i < len → ∃ f : FT, ∃ a1 c1 a2 n2 c2, (w.cell? (a.add (i * 6)) = some (.int .i64 f.k) ∧ w.cell? (a.add (i * 6 + 1)) = some (.int .u64 f.n) ∧ w.cell? (a.add (i * 6 + 2)) = some (.slice a1 f.b.length c1) ∧ w.cell? (a.add (i * 6 + 3)) = some (.slice a2 n2 c2) ∧ w.cell? (a.add (i * 6 + 4)) = some (.bool f.o) ∧ w.cell? (a.add (i * 6 + 5)) = some (.bool f.c)) ∧ (f.n < 18446744073709551616 ∧ -9223372036854775808 ≤ f.k ∧ f.k ≤ 9223372036854775807 ∧ f.b.length ≤ 140737488351232) ∧ Row w a1 f.b ∧ f.b.length ≤ c1 := by
      intro i hil
      obtain ⟨cs', h1, h2⟩ := hi i (by omega)
      have hfit := he (D i) (List.mem_map.2 ⟨i, by simpa using hil, rfl⟩)
      obtain ⟨f, a1, c1, a2, n2, c2, rfl, g⟩ := open_flat6 h2 hfit
      obtain ⟨_, _, hcell⟩ := World.cells?_some h1
      have e0 := hcell 0 (by omega)
      have e1 := hcell 1 (by omega)
      have e2 := hcell 2 (by omega)
      have e3 := hcell 3 (by omega)
      have e4 := hcell 4 (by omega)
      have e5 := hcell 5 (by omega)
      rw [add_add] at e0 e1 e2 e3 e4 e5
      exact ⟨f, a1, c1, a2, n2, c2, ⟨e0, e1, e2, e3, e4, e5⟩, g⟩
    obtain ⟨F, hF⟩ := choose_at (⟨0, 0, [], false, false⟩ : FT) each
    have hlen : ((List.range len).map F).length = len := by simp
    refine ⟨some a, m, (List.range len).map F, by rw [hlen], by rw [hlen]; exact hl, hm, by rw [hlen]; omega, fun h0 => ?_⟩
    rw [hlen] at h0
    obtain ⟨b, off, spot⟩ := a
    have hspot : spot = none := by
      obtain ⟨_, _, _, _, _, ⟨c0, _⟩, _⟩ := hF 0 h0
      simpa [Addr.add] using World.cell?_spot c0
    subst hspot
    refine ⟨b, off, rfl, fun i hil => ?_⟩
    rw [hlen] at hil
    obtain ⟨a1, c1, a2, n2, c2, ⟨c0, c1', c2', c3, c4, c5⟩, g⟩ := hF i hil
    rw [add_plain] at c0 c1' c2' c3 c4 c5
    simp only [List.getElem_map, List.getElem_range]
    exact ⟨a1, c1, a2, n2, c2, ⟨c0, c1', c2', c3, c4, c5⟩, g⟩
end
end Go.Proofs.YthjemjclpjmomaaDoor
