/- What came in: how bytes lie in memory. -/
import Derived.Test.YtnjcaolkcmpdcaaHMem
import Derived.ProofKit
import Derived.SizedLaws
import Derived.Lib.SmallJoins
namespace Go.Proofs.Ytnjcaolkcmpdcaa
open Go.RowKit Go.Deep Go.ChangeShapes Go.WideShapes
set_option linter.unusedVariables false

/-- what a reading takes, each within the reach. -/
def Fit {H : Type} (t : TypeId) (d : DataW H) : Prop := ∀ n ∈ d.weights Try.prog t, n ≤ reachBytes
theorem fit_each {H : Type} {ts : List TypeId} {ds : List (DataW H)} (h : (DataW.weightsEach Try.prog ts ds).all (· ≤ reachBytes) = true) {j : Nat} {t : TypeId} {d : DataW H} (ht : ts[j]? = some t) (hd : ds[j]? = some d) : Fit t d := fun n hn => by
  have := List.all_eq_true.1 h n (DataW.weights_mem_each ht hd n hn)
  simpa using this
theorem fit_of_all {H : Type} {e : TypeId} : ∀ {l : List (DataW H)}, (∀ n ∈ DataW.weightsAll Try.prog e l, n ≤ reachBytes) → ∀ d ∈ l, Fit e d
  | [], _ => by simp
  | x :: r, h => by
    intro d hd n hn
    rcases List.mem_cons.1 hd with rfl | hd
    · exact h n (by simp [DataW.weightsAll, hn])
    · exact fit_of_all (l := r) (fun m hm => h m (by simp [DataW.weightsAll, hm])) d hd n hn
theorem fit_slice {H : Type} {t e : TypeId} {elems spare : List (DataW H)} (ht : Try.prog.underlying t = some (.slice e)) (h : Fit t (.slice elems spare)) : (elems.length + spare.length) * Try.prog.bytesOf e ≤ reachBytes ∧ ∀ d ∈ elems, Fit e d := by
  unfold Fit at h
  simp only [DataW.weights, ht] at h
  exact ⟨h _ (by simp), fit_of_all fun n hn => h n (by simp [hn])⟩
theorem fit_agg {H : Type} {t : TypeId} {fs : Array Field} {parts : List (DataW H)} (ht : Try.prog.underlying t = some (.struct fs)) (h : Fit t (.agg parts)) {j : Nat} {f : Field} {d : DataW H} (hf : fs[j]? = some f) (hd : parts[j]? = some d) : Fit f.type d := by
  intro n hn
  refine h n ?_
  simp only [DataW.weights, ht]
  exact DataW.weights_mem_each (by rw [List.getElem?_map, Array.getElem?_toList, hf]; rfl) hd n hn
theorem bytesU8 : Try.prog.bytesOf 5 = 1 := by kernel_rfl
theorem cellsU8 : Try.prog.cellsOf 5 = 1 := by kernel_rfl
theorem cellsInt : Try.prog.cellsOf 3 = 1 := by kernel_rfl
theorem cellsBytes : Try.prog.cellsOf 23 = 1 := by kernel_rfl
/-- one function, out of one for each place. -/
theorem choose_at {α : Type} (d : α) {n : Nat} {p : Nat → α → Prop} (h : ∀ i, i < n → ∃ x, p i x) : ∃ f : Nat → α, ∀ i, i < n → p i (f i) := @choose_lt α ⟨d⟩ n p h

section
variable {H : Type} {enc : TypeId × Value → H} {w : World} {base : Nat} {held : Bool}

/-- what the shell tells of a slice of bytes that came in, as a row of bytes. -/
theorem row_of {w : World} {a : Addr} {len cap : Nat} {zs : List Int} (hl : len ≤ cap) (hm : cap ≤ maxLen) (hz : zs.length = cap) (hcell : ∀ i, i < zs.length → w.cell? (a.add i) = some (.int .u8 (zs.getD i 0))) (hwz : ∀ n ∈ zs, (Lit.int .u8 n).wf = true) :
    ∃ l : List Nat, l.length = len ∧ Row w (some a) l := by
  have hlen : ((zs.take len).map Int.toNat).length = len := by simp; omega
  have hwf : ∀ n ∈ zs, 0 ≤ n ∧ n ≤ 255 := fun n hn => bounds_u8 (hwz n hn)
  refine ⟨(zs.take len).map Int.toNat, hlen, ?_, by omega, fun h0 => ?_⟩
  · intro y hy
    obtain ⟨n, hn, rfl⟩ := List.mem_map.1 hy
    have := hwf n (List.mem_of_mem_take hn)
    omega
  · obtain ⟨b, off, rfl, hc⟩ := ints_at hcell (by omega)
    refine ⟨b, off, rfl, fun i hi => ?_⟩
    rw [hc i (by omega)]
    have hi1 : i < zs.length := by omega
    have hb := hwf _ (List.getElem_mem hi1)
    simp only [List.getD_eq_getElem?_getD]
    rw [List.getElem?_map, List.getElem?_take_of_lt (by omega), List.getElem?_eq_getElem hi1]
    simp only [Option.map_some, Option.getD_some]
    rw [Int.toNat_of_nonneg hb.1]
theorem open_bytes {fuel : Nat} {cs : List Value} {x : DataW H × List MemPlace} (h : DataW.trod enc Try.prog w base (fun _ => true) held fuel 23 cs = some x) (hf : Fit 23 x.1) :
    ∃ a c l, cs = [.slice a (l : List Nat).length c] ∧ l.length ≤ c ∧ c ≤ maxLen ∧ l.length ≤ 140737488351232 ∧ Row w a l := by
  rcases open_ints Try.underlying23 Try.underlying5 cellsU8 h with ⟨rfl, _⟩ | ⟨a, len, cap, zs, rfl, _, hl, hm, hz, hx, hcell, hwz⟩
  · exact ⟨none, 0, [], rfl, Nat.le_refl _, Nat.zero_le _, Nat.zero_le _, by simp, by simp, fun h => absurd h (by simp)⟩
  · simp only [if_true] at hz
    obtain ⟨l, rfl, hr⟩ := row_of hl hm hz hcell hwz
    refine ⟨some a, cap, l, rfl, hl, hm, ?_, hr⟩
    rw [hx] at hf
    have hb := (fit_slice Try.underlying23 hf).1
    rw [bytesU8] at hb
    simp only [lits, List.length_map, List.length_take, List.length_drop, reachBytes] at hb
    omega
end
/-- an argument of 64 bits without a sign. -/
theorem nat_u64 {x : Int} (h : (Lit.int .u64 x).wf = true) : ∃ n : Nat, x = (n : Nat) ∧ n < 18446744073709551616 := by
  have := bounds_u64 h
  exact ⟨x.toNat, by omega, by omega⟩
end Go.Proofs.Ytnjcaolkcmpdcaa
