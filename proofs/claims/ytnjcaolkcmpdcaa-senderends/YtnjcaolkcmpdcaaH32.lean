/- How numbers of 32 bits lie in memory; append of one; what came in. -/
import Derived.Test.YtnjcaolkcmpdcaaHAppend
import Derived.Test.YtnjcaolkcmpdcaaHOpen
namespace Go.Proofs.Ytnjcaolkcmpdcaa
open Go.RowKit Go.Deep Go.ChangeShapes Go.WideShapes
set_option linter.unusedVariables false

/-- The numbers l lie in memory from a on. -/
def Row32 (w : World) (a : Option Addr) (l : List Nat) : Prop :=
  (∀ x ∈ l, x < 4294967296) ∧ l.length ≤ maxLen ∧ (0 < l.length → ∃ b off, a = some ⟨b, off, none⟩ ∧ ∀ i, i < l.length → w.cell? ⟨b, off + i, none⟩ = some (.int .u32 ((l.getD i 0 : Nat) : Int)))
theorem Row32.later {w w' : World} {a : Option Addr} {l : List Nat} (h : Row32 w a l) (hb : Below w.heap.size w w') : Row32 w' a l := by
  obtain ⟨h1, h2, h3⟩ := h
  refine ⟨h1, h2, fun h0 => ?_⟩
  obtain ⟨b, off, rfl, hc⟩ := h3 h0
  exact ⟨b, off, rfl, fun i hi => cell_later hb (hc i hi)⟩
theorem row32_take {w : World} {a : Option Addr} {l : List Nat} (h : Row32 w a l) (n : Nat) : Row32 w a (l.take n) := by
  refine ⟨fun x hx => h.1 x (List.mem_of_mem_take hx), by have := h.2.1; rw [List.length_take]; omega, fun h0 => ?_⟩
  rw [List.length_take] at h0
  obtain ⟨b, o, rfl, hc⟩ := h.2.2 (by omega)
  refine ⟨b, o, rfl, fun i hi => ?_⟩
  rw [List.length_take] at hi
  rw [hc i (by omega), List.getD_eq_getElem?_getD, List.getD_eq_getElem?_getD, List.getElem?_take_of_lt (by omega)]
theorem row32_at {w : World} {a : Option Addr} {l : List Nat} (h : Row32 w a l) (k : Nat) (hk : k < l.length) : ∃ b off, a = some ⟨b, off, none⟩ ∧ w.cell? ⟨b, off + k, none⟩ = some (.int .u32 (l[k] : Nat)) ∧ l[k] < 4294967296 := by
  obtain ⟨b, off, rfl, hc⟩ := h.2.2 (by omega)
  refine ⟨b, off, rfl, ?_, h.1 _ (List.getElem_mem hk)⟩
  rw [hc k hk, List.getD_eq_getElem?_getD, List.getElem?_eq_getElem hk]
  rfl
def cells32 (l : List Nat) : List Value := l.map fun x => Value.int .u32 (x : Nat)
theorem cells32_length (l : List Nat) : (cells32 l).length = l.length := by simp [cells32]
theorem cells32_append (l m : List Nat) : cells32 (l ++ m) = cells32 l ++ cells32 m := by simp [cells32]
theorem own32_row {w : World} {base n : Nat} {v : Value} {l : List Nat} (h : w.ownsRow base 22 1 v n (cells32 l)) (hb : ∀ x ∈ l, x < 4294967296) (hm : l.length ≤ maxLen) :
    ∃ a cap, v = .slice a l.length cap ∧ l.length ≤ cap ∧ cap ≤ maxLen ∧ Row32 w a l := by
  obtain ⟨hl, h⟩ := h
  rw [cells32_length, Nat.mul_one] at hl
  subst hl
  rcases h with ⟨rfl, h0⟩ | ⟨g, cap, cur, rfl, _, hg, hnc, hcm, hcs, ht⟩
  · rw [h0]
    exact ⟨none, 0, rfl, Nat.le_refl _, by simp, hb, hm, fun h => absurd h (by omega)⟩
  · refine ⟨_, cap, rfl, hnc, hcm, hb, hm, fun h0 => ⟨g, 0, rfl, fun i hi => ?_⟩⟩
    have hcur : cur[i]? = some (Value.int .u32 ((l.getD i 0 : Nat) : Int)) := by
      have h1 : (cur.toList.take (l.length * 1))[i]? = cur.toList[i]? := List.getElem?_take_of_lt (by omega)
      rw [ht] at h1
      rw [← Array.getElem?_toList, ← h1]
      unfold cells32
      rw [List.getElem?_map, List.getD_eq_getElem?_getD, List.getElem?_eq_getElem hi]
      rfl
    rw [Nat.zero_add]
    simp [World.cell?, hg, hcur]
theorem none32 (w : World) (base : Nat) : w.ownsRow base 22 1 (.slice none 0 0) 0 (cells32 []) := ⟨rfl, .inl ⟨rfl, rfl⟩⟩
theorem Try.info22 : (Try.prog.info? 22).map (fun i => (i.zero, i.size, i.bytes)) = some (some (.int .u32 0), 1, 4) := by kernel_rfl
/-- append of one number onto numbers that the call owns. -/
theorem wpList_append_32 {ops : Array Oper} {rest : List Oper} {o : Oper} {a : Act} {w : World} {Q : Exit → Act → World → Prop} (hgd : o.guard = none) (s x : Operand)
    (ho : o.op = .call { callee := .builtin .append, args := #[s, x], argTypes := #[30, 30] }) (base : Nat) (v : Value) (l : List Nat) (n : Nat) (hs : a.eval s = v) (hown : w.ownsRow base 22 1 v n (cells32 l))
    (g c : Nat) (y : Nat) (hx : a.eval x = .slice (some ⟨g, 0, none⟩) 1 c) (hg : w.heap[g]? = some (.cells #[.int .u32 (y : Nat)] 22 (0, 0))) (hz : n ≤ 1000000000) (hbase : base ≤ w.heap.size)
    (h : ∀ q cap w', w'.ownsRow base 22 1 (.slice (some ⟨q, 0, none⟩) (n + 1) cap) (n + 1) (cells32 (l ++ [y])) → Below base w w' → n + 1 ≤ cap → wpList Try.prog ops Q rest (a.put o.dst (.slice (some ⟨q, 0, none⟩) (n + 1) cap)) w') : wpList Try.prog ops Q (o :: rest) a w := by
  obtain ⟨i0, hi, hz0, hz1, hz2⟩ := info_parts Try.info22
  refine wpList_append_lies _ hgd s x 30 ho base 22 i0 (.int .u32 0) 1 4 Try.underlying30 hi hz0 hz1 hz2 rfl (by decide) v n (cells32 l) hs hown ⟨g, 0, none⟩ 1 c (cells32 [y]) hx (by simp [cells32]) (fun j u hu => ?_) (by intro u hu; simp [cells32] at hu; subst hu; rfl) (by omega) (by unfold maxLen; omega) (by omega) hbase w.heap.size rfl ?_
  · have hj : j = 0 := by have := (List.getElem?_eq_some_iff.1 hu).1; simp [cells32] at this; exact this
    subst hj
    simp [cells32] at hu
    subst hu
    rw [Go.WideShapes.add_plain, cell_of hg]
    rfl
  · intro q cap w' h1 h2 h3 _
    have hcap : n + 1 ≤ cap := by
      obtain ⟨a', c', e, hle, _⟩ := own_form h1
      cases e
      exact hle
    refine h q cap w' (by rw [cells32_append]; exact h1) ?_ hcap
    exact ((Off.refl (fun k => v.ownBlock = some k) w).grown h2 (fun _ e => .inr e)).below hbase (own_ge hown)

theorem bytesU32 : Try.prog.bytesOf 22 = 4 := by kernel_rfl
theorem cellsU32h : Try.prog.cellsOf 22 = 1 := by kernel_rfl
section
variable {H : Type} {enc : TypeId × Value → H} {w : World} {base : Nat} {held : Bool}
theorem row32_of {w : World} {a : Addr} {len cap : Nat} {zs : List Int} (hl : len ≤ cap) (hm : cap ≤ maxLen) (hz : zs.length = cap) (hcell : ∀ i, i < zs.length → w.cell? (a.add i) = some (.int .u32 (zs.getD i 0))) (hwz : ∀ n ∈ zs, (Lit.int .u32 n).wf = true) :
    ∃ l : List Nat, l.length = len ∧ Row32 w (some a) l := by
  have hlen : ((zs.take len).map Int.toNat).length = len := by simp; omega
  have hwf : ∀ n ∈ zs, 0 ≤ n ∧ n ≤ 4294967295 := fun n hn => bounds_u32 (hwz n hn)
  refine ⟨(zs.take len).map Int.toNat, hlen, ?_, by omega, fun h0 => ?_⟩
  · intro y hy
    obtain ⟨n, hn, rfl⟩ := List.mem_map.1 hy
    have := hwf n (List.mem_of_mem_take hn)
    omega
  · obtain ⟨b, off, rfl, hc⟩ := ints_at hcell (by omega)
    refine ⟨b, off, rfl, fun i hi => ?_⟩
    rw [hc i (by omega)]
    have hi1 : i < zs.length := by omega
    have hb := hwf _ (List.getElem_mem hi1)
    simp only [List.getD_eq_getElem?_getD]
    rw [List.getElem?_map, List.getElem?_take_of_lt (by omega), List.getElem?_eq_getElem hi1]
    simp only [Option.map_some, Option.getD_some]
    rw [Int.toNat_of_nonneg hb.1]
theorem open_u32s {fuel : Nat} {cs : List Value} {x : DataW H × List MemPlace} (h : DataW.trod enc Try.prog w base (fun _ => true) held fuel 30 cs = some x) (hf : Fit 30 x.1) :
    ∃ a c l, cs = [.slice a (l : List Nat).length c] ∧ l.length ≤ c ∧ c ≤ maxLen ∧ l.length ≤ 140737488351232 ∧ Row32 w a l := by
  rcases open_ints Try.underlying30 Try.underlying22 cellsU32h h with ⟨rfl, _⟩ | ⟨a, len, cap, zs, rfl, _, hl, hm, hz, hx, hcell, hwz⟩
  · exact ⟨none, 0, [], rfl, Nat.le_refl _, Nat.zero_le _, Nat.zero_le _, by simp, by simp, fun h => absurd h (by simp)⟩
  · simp only [if_true] at hz
    obtain ⟨l, rfl, hr⟩ := row32_of hl hm hz hcell hwz
    refine ⟨some a, cap, l, rfl, hl, hm, ?_, hr⟩
    rw [hx] at hf
    have hb := (fit_slice Try.underlying30 hf).1
    rw [bytesU32] at hb
    simp only [lits, List.length_map, List.length_take, List.length_drop, reachBytes] at hb
    omega
end
end Go.Proofs.Ytnjcaolkcmpdcaa
