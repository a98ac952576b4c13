/- What came in: plans, contacts, asks, numbers. -/
import Derived.Test.YtmmcdnniconalaaQSome
import Derived.ProofKit
import Derived.SizedLaws
import Derived.Lib.SmallJoins
import Derived.Deep.Slices
namespace Go.Proofs.Ytmmcdnniconalaa
open Go.RowKit Go.Deep Go.ChangeShapes Go.WideShapes
set_option linter.unusedVariables false
set_option linter.unusedVariables false

/-- what a reading takes, each within the reach. -/
def Fit {H : Type} (t : TypeId) (d : DataW H) : Prop := ∀ n ∈ d.weights Try.prog t, n ≤ reachBytes
theorem fit_each {H : Type} {ts : List TypeId} {ds : List (DataW H)} (h : (DataW.weightsEach Try.prog ts ds).all (· ≤ reachBytes) = true) {j : Nat} {t : TypeId} {d : DataW H} (ht : ts[j]? = some t) (hd : ds[j]? = some d) : Fit t d := fun n hn => by
  have := List.all_eq_true.1 h n (DataW.weights_mem_each ht hd n hn)
  simpa using this
theorem fit_of_all {H : Type} {e : TypeId} : ∀ {l : List (DataW H)}, (∀ n ∈ DataW.weightsAll Try.prog e l, n ≤ reachBytes) → ∀ d ∈ l, Fit e d
  | [], _ => by simp
  | x :: r, h => by
    intro d hd n hn
    rcases List.mem_cons.1 hd with rfl | hd
    · exact h n (by simp [DataW.weightsAll, hn])
    · exact fit_of_all (l := r) (fun m hm => h m (by simp [DataW.weightsAll, hm])) d hd n hn
theorem fit_slice {H : Type} {t e : TypeId} {elems spare : List (DataW H)} (ht : Try.prog.underlying t = some (.slice e)) (h : Fit t (.slice elems spare)) : (elems.length + spare.length) * Try.prog.bytesOf e ≤ reachBytes ∧ ∀ d ∈ elems, Fit e d := by
  unfold Fit at h
  simp only [DataW.weights, ht] at h
  exact ⟨h _ (by simp), fit_of_all fun n hn => h n (by simp [hn])⟩
theorem fit_agg {H : Type} {t : TypeId} {fs : Array Field} {parts : List (DataW H)} (ht : Try.prog.underlying t = some (.struct fs)) (h : Fit t (.agg parts)) {j : Nat} {f : Field} {d : DataW H} (hf : fs[j]? = some f) (hd : parts[j]? = some d) : Fit f.type d := by
  intro n hn
  refine h n ?_
  simp only [DataW.weights, ht]
  exact DataW.weights_mem_each (by rw [List.getElem?_map, Array.getElem?_toList, hf]; rfl) hd n hn
theorem cellsInt : Try.prog.cellsOf 3 = 1 := by kernel_rfl
/-- one function, out of one for each place. -/
theorem choose_at {α : Type} (d : α) {n : Nat} {p : Nat → α → Prop} (h : ∀ i, i < n → ∃ x, p i x) : ∃ f : Nat → α, ∀ i, i < n → p i (f i) := @choose_lt α ⟨d⟩ n p h
theorem bytesInt : Try.prog.bytesOf 3 = 8 := by kernel_rfl
theorem cellsContact : Try.prog.cellsOf 43 = 6 := by kernel_rfl
theorem bytesContact : Try.prog.bytesOf 43 = 48 := by kernel_rfl
theorem cellsPlan : Try.prog.cellsOf 24 = 2 := by kernel_rfl
theorem cellsAsk : Try.prog.cellsOf 27 = 4 := by kernel_rfl
theorem cellsCts : Try.prog.cellsOf 22 = 1 := by kernel_rfl
def ccell (c : Ct) : List Value := [.int .i64 c.frm, .int .i64 c.to, .int .i64 c.st, .int .i64 c.en, .int .i64 c.rt, .int .i64 c.dl]
theorem ccell_is (c : Ct) : ccells [c] = ccell c := rfl
theorem ccells_pt : ∀ (X : List Ct) (i : Nat) (h : i < X.length) (j : Nat), j < 6 → (ccells X)[i * 6 + j]? = (ccells [X[i]])[j]?
  | [], i, h, j, hj => by simp at h
  | x :: r, 0, h, j, hj => by
    rcases j with _ | _ | _ | _ | _ | _ | j
    all_goals first | rfl | omega
  | x :: r, i + 1, h, j, hj => by
    have := ccells_pt r i (by simpa using h) j hj
    rw [show (i + 1) * 6 + j = (i * 6 + j) + 1 + 1 + 1 + 1 + 1 + 1 by omega]
    simp only [ccells, List.getElem?_cons_succ, List.getElem_cons_succ] at this ⊢
    exact this
section
variable {H : Type} {enc : TypeId × Value → H} {w : World} {base : Nat} {held : Bool}
set_option maxRecDepth 100000 in
theorem open_ct6 {fuel : Nat} {cs : List Value} {x : DataW H × List MemPlace} (h : DataW.trod enc Try.prog w base (fun _ => true) held fuel 43 cs = some x) :
    ∃ c : Ct, cs = ccell c := by
  obtain ⟨xs, n, _, hx, hcl, hxl, hfs⟩ := DataW.trod_struct Try.underlying43 h
  rw [cellsContact] at hcl
  match cs, hcl, xs, hxl with
  | [v0, v1, v2, v3, v4, v5], _, [y0, y1, y2, y3, y4, y5], _ =>
    have h0 := hfs 0 _ rfl
    have h1 := hfs 1 _ rfl
    have h2 := hfs 2 _ rfl
    have h3 := hfs 3 _ rfl
    have h4 := hfs 4 _ rfl
    have h5 := hfs 5 _ rfl
    change DataW.trod enc Try.prog w base (fun _ => true) held n 3 ([v0, v1, v2, v3, v4, v5].take (Try.prog.cellsOf 3)) = some y0 at h0
    rw [cellsInt] at h0
    change DataW.trod enc Try.prog w base (fun _ => true) held n 3 ([v1, v2, v3, v4, v5].take (Try.prog.cellsOf 3)) = some y1 at h1
    rw [cellsInt] at h1
    change DataW.trod enc Try.prog w base (fun _ => true) held n 3 ([v2, v3, v4, v5].take (Try.prog.cellsOf 3)) = some y2 at h2
    rw [cellsInt] at h2
    change DataW.trod enc Try.prog w base (fun _ => true) held n 3 ([v3, v4, v5].take (Try.prog.cellsOf 3)) = some y3 at h3
    rw [cellsInt] at h3
    change DataW.trod enc Try.prog w base (fun _ => true) held n 3 ([v4, v5].take (Try.prog.cellsOf 3)) = some y4 at h4
    rw [cellsInt] at h4
    change DataW.trod enc Try.prog w base (fun _ => true) held n 3 ([v5].take (Try.prog.cellsOf 3)) = some y5 at h5
    rw [cellsInt] at h5
    simp only [List.take_succ_cons, List.take_zero] at h0 h1 h2 h3 h4 h5
    obtain ⟨k0, e0, _, w0⟩ := DataW.trod_int Try.underlying3 h0
    obtain ⟨k1, e1, _, w1⟩ := DataW.trod_int Try.underlying3 h1
    obtain ⟨k2, e2, _, w2⟩ := DataW.trod_int Try.underlying3 h2
    obtain ⟨k3, e3, _, w3⟩ := DataW.trod_int Try.underlying3 h3
    obtain ⟨k4, e4, _, w4⟩ := DataW.trod_int Try.underlying3 h4
    obtain ⟨k5, e5, _, w5⟩ := DataW.trod_int Try.underlying3 h5
    simp only [List.cons.injEq, and_true] at e0 e1 e2 e3 e4 e5
    refine ⟨⟨k0, k1, k2, k3, k4, k5⟩, ?_⟩
    rw [e0, e1, e2, e3, e4, e5]
    rfl
set_option maxRecDepth 100000 in
theorem open_ask4 {fuel : Nat} {cs : List Value} {x : DataW H × List MemPlace} (h : DataW.trod enc Try.prog w base (fun _ => true) held fuel 27 cs = some x) :
    ∃ p : Int × Int × Int × Int, In64 p.2.2.2 ∧ cs = [.int .i64 p.1, .int .i64 p.2.1, .int .i64 p.2.2.1, .int .i64 p.2.2.2] := by
  obtain ⟨xs, n, _, hx, hcl, hxl, hfs⟩ := DataW.trod_struct Try.underlying27 h
  rw [cellsAsk] at hcl
  match cs, hcl, xs, hxl with
  | [v0, v1, v2, v3], _, [y0, y1, y2, y3], _ =>
    have h0 := hfs 0 _ rfl
    have h1 := hfs 1 _ rfl
    have h2 := hfs 2 _ rfl
    have h3 := hfs 3 _ rfl
    change DataW.trod enc Try.prog w base (fun _ => true) held n 3 ([v0, v1, v2, v3].take (Try.prog.cellsOf 3)) = some y0 at h0
    rw [cellsInt] at h0
    change DataW.trod enc Try.prog w base (fun _ => true) held n 3 ([v1, v2, v3].take (Try.prog.cellsOf 3)) = some y1 at h1
    rw [cellsInt] at h1
    change DataW.trod enc Try.prog w base (fun _ => true) held n 3 ([v2, v3].take (Try.prog.cellsOf 3)) = some y2 at h2
    rw [cellsInt] at h2
    change DataW.trod enc Try.prog w base (fun _ => true) held n 3 ([v3].take (Try.prog.cellsOf 3)) = some y3 at h3
    rw [cellsInt] at h3
    simp only [List.take_succ_cons, List.take_zero] at h0 h1 h2 h3
    obtain ⟨k0, e0, _, w0⟩ := DataW.trod_int Try.underlying3 h0
    obtain ⟨k1, e1, _, w1⟩ := DataW.trod_int Try.underlying3 h1
    obtain ⟨k2, e2, _, w2⟩ := DataW.trod_int Try.underlying3 h2
    obtain ⟨k3, e3, _, w3⟩ := DataW.trod_int Try.underlying3 h3
    simp only [List.cons.injEq, and_true] at e0 e1 e2 e3
    refine ⟨(k0, k1, k2, k3), bounds_i64 w3, ?_⟩
    rw [e0, e1, e2, e3]
theorem open_contact {r : Reach} {b0 : Nat} {v : Value} {d : DataW H} {p : List MemPlace} (hv : Value.okWide Try.prog w r b0 43 v) (h : DataW.Trod enc Try.prog w base (fun _ => true) held 43 v d p) : ∃ c : Ct, v = cv c := by
  obtain ⟨cs, rfl, hsz⟩ := okWide_struct Try.underlying43 hv
  obtain ⟨fuel, hfu⟩ := h
  obtain ⟨c, hcs⟩ := open_ct6 hfu
  refine ⟨c, ?_⟩
  simp only [Value.cells] at hcs
  rw [show cs = cs.toList.toArray from by simp, hcs]
  rfl
theorem open_ask {r : Reach} {b0 : Nat} {v : Value} {d : DataW H} {p : List MemPlace} (hv : Value.okWide Try.prog w r b0 27 v) (h : DataW.Trod enc Try.prog w base (fun _ => true) held 27 v d p) : ∃ f t n e : Int, v = .agg #[.int .i64 f, .int .i64 t, .int .i64 n, .int .i64 e] ∧ e ≤ 9223372036854775807 := by
  obtain ⟨cs, rfl, hsz⟩ := okWide_struct Try.underlying27 hv
  obtain ⟨fuel, hfu⟩ := h
  obtain ⟨q, hq, hcs⟩ := open_ask4 hfu
  refine ⟨q.1, q.2.1, q.2.2.1, q.2.2.2, ?_, hq.2⟩
  simp only [Value.cells] at hcs
  rw [show cs = cs.toList.toArray from by simp, hcs]
/-- contacts that came in. -/
theorem open_cts {fuel : Nat} {cs : List Value} {x : DataW H × List MemPlace} (h : DataW.trod enc Try.prog w base (fun _ => true) held fuel 22 cs = some x) (hf : Fit 22 x.1) :
    ∃ a c l, cs = [.slice a (l : List Ct).length c] ∧ l.length ≤ c ∧ c ≤ maxLen ∧ l.length * 48 ≤ 140737488351232 ∧ CtAt (fun _ => False) w a l := by
  rcases open_slice Try.underlying22 h with ⟨rfl, _⟩ | ⟨a, len, cap, m, n, D, Pl, rfl, _, hl, hm, hmm, hx, hi⟩
  · exact ⟨none, 0, [], rfl, Nat.le_refl _, Nat.zero_le _, Nat.zero_le _, fun h => absurd h (by simp)⟩
  · simp only [if_true] at hmm
    subst hmm
    rw [hx] at hf
    obtain ⟨hb, he⟩ := fit_slice Try.underlying22 hf
    rw [bytesContact] at hb
    simp only [List.length_map, List.length_range, reachBytes] at hb
    rw [cellsContact] at hi
    have each : ∀ i, i < len → ∃ c : Ct, ∀ j u, (ccells [c])[j]? = some u → w.cell? (a.add (i * 6 + j)) = some u := by
      intro i hil
      obtain ⟨cs', h1, h2⟩ := hi i (by omega)
      obtain ⟨c, rfl⟩ := open_ct6 h2
      obtain ⟨_, _, hcell⟩ := World.cells?_some h1
      refine ⟨c, fun j u hu => ?_⟩
      rw [ccell_is] at hu
      have hj : j < 6 := by have := (List.getElem?_eq_some_iff.1 hu).1; simpa [ccell] using this
      have := hcell j (by omega)
      rw [add_add] at this
      rw [this]
      exact hu
    obtain ⟨F, hF⟩ := choose_at (⟨0, 0, 0, 0, 0, 0⟩ : Ct) each
    have hlen : ((List.range len).map F).length = len := by simp
    refine ⟨some a, m, (List.range len).map F, by rw [hlen], by rw [hlen]; exact hl, hm, by rw [hlen]; omega, fun h0 => ?_⟩
    rw [hlen] at h0
    obtain ⟨b, off, spot⟩ := a
    have hspot : spot = none := by
      have c0 := (hF 0 h0) 0 _ rfl
      simpa [Addr.add] using World.cell?_spot c0
    subst hspot
    refine ⟨b, off, rfl, id, fun j u hu => ?_⟩
    have hj : j < len * 6 := by
      have := (List.getElem?_eq_some_iff.1 hu).1
      rw [ccells_length, hlen] at this
      exact this
    have hd : j = (j / 6) * 6 + j % 6 := by omega
    rw [hd] at hu
    rw [ccells_pt _ (j / 6) (by rw [hlen]; omega) (j % 6) (by omega)] at hu
    simp only [List.getElem_map, List.getElem_range] at hu
    have := (hF (j / 6) (by omega)) (j % 6) u hu
    rw [← hd, add_plain] at this
    exact this
set_option maxRecDepth 100000 in
theorem open_plan {r : Reach} {b0 : Nat} {v : Value} {d : DataW H} {p : List MemPlace} (hv : Value.okWide Try.prog w r b0 24 v) (h : DataW.Trod enc Try.prog w base (fun _ => true) held 24 v d p) (hf : Fit 24 d) :
    ∃ nn a c l, v = pv nn a (l : List Ct).length c ∧ l.length ≤ c ∧ c ≤ maxLen ∧ l.length * 48 ≤ 140737488351232 ∧ CtAt (fun _ => False) w a l := by
  obtain ⟨cs, rfl, hsz⟩ := okWide_struct Try.underlying24 hv
  obtain ⟨fuel, hfu⟩ := h
  obtain ⟨xs, n, _, hx, hcl, hxl, hfs⟩ := DataW.trod_struct Try.underlying24 hfu
  simp only [Value.cells] at hfs hcl
  rw [cellsPlan] at hcl
  obtain ⟨c0, c1, hcs⟩ : ∃ c0 c1, cs.toList = [c0, c1] := by
    match hc : cs.toList, (show cs.toList.length = 2 from hcl) with
    | [c0, c1], _ => exact ⟨c0, c1, rfl⟩
  rw [hcs] at hfs
  match xs, hxl with
  | [y0, y1], _ =>
    have h0 := hfs 0 _ rfl
    have h1 := hfs 1 _ rfl
    change DataW.trod enc Try.prog w base (fun _ => true) held n 3 ([c0, c1].take (Try.prog.cellsOf 3)) = some y0 at h0
    rw [cellsInt] at h0
    change DataW.trod enc Try.prog w base (fun _ => true) held n 22 ([c1].take (Try.prog.cellsOf 22)) = some y1 at h1
    rw [cellsCts] at h1
    simp only [List.take_succ_cons, List.take_zero] at h0 h1
    rw [(Prod.mk.inj hx).1] at hf
    simp only [List.map_cons, List.map_nil] at hf
    obtain ⟨k0, e0, _, w0⟩ := DataW.trod_int Try.underlying3 h0
    obtain ⟨a, c, l, e1, g1, g2, g3, g4⟩ := open_cts h1 (fit_agg Try.underlying24 hf (j := 1) rfl rfl)
    simp only [List.cons.injEq, and_true] at e0 e1
    refine ⟨k0, a, c, l, ?_, g1, g2, g3, g4⟩
    rw [show cs = cs.toList.toArray from by simp, hcs, e0, e1]
    rfl
/-- numbers that came in. -/
theorem open_nums {fuel : Nat} {cs : List Value} {x : DataW H × List MemPlace} (h : DataW.trod enc Try.prog w base (fun _ => true) held fuel 25 cs = some x) (hf : Fit 25 x.1) :
    ∃ a c l, cs = [.slice a (l : List Int).length c] ∧ l.length ≤ c ∧ c ≤ maxLen ∧ l.length * 8 ≤ 140737488351232 ∧ (∀ x ∈ l, In64 x) ∧ RowI (fun _ => False) w a l := by
  rcases open_ints Try.underlying25 Try.underlying3 cellsInt h with ⟨rfl, _⟩ | ⟨a, len, cap, zs, rfl, _, hl, hm, hz, hx, hcell, hwz⟩
  · exact ⟨none, 0, [], rfl, Nat.le_refl _, Nat.zero_le _, Nat.zero_le _, by simp, fun h => absurd h (by simp)⟩
  · simp only [if_true] at hz
    have hlen : (zs.take len).length = len := by simp; omega
    refine ⟨some a, cap, zs.take len, by rw [hlen], by rw [hlen]; exact hl, hm, ?_, fun n hn => bounds_i64 (hwz n (List.mem_of_mem_take hn)), fun h0 => ?_⟩
    · rw [hlen]
      rw [hx] at hf
      have hb := (fit_slice Try.underlying25 hf).1
      rw [bytesInt] at hb
      simp only [lits, List.length_map, List.length_take, List.length_drop, reachBytes] at hb
      omega
    · obtain ⟨b, off, rfl, hc⟩ := ints_at hcell (by omega)
      refine ⟨b, off, rfl, id, fun i hi => ?_⟩
      rw [hlen] at hi
      rw [hc i (by omega), List.getD_eq_getElem?_getD, List.getD_eq_getElem?_getD, List.getElem?_take_of_lt hi]
end
end Go.Proofs.Ytmmcdnniconalaa
