/- Files that are being gathered in memory of their own. -/
import Derived.Test.YtfocejmfmnijpaaFSame
import Derived.Laws.AppendOwnNone
namespace Go.Proofs.Ytfocejmfmnijpaa
open Go.RowKit

/-- append(new bytes of none, bytes that lie somewhere): bytes of the call's own. -/
theorem step_append_bytes {ops : Array Oper} {o : Oper} {a : Act} {w : World} {K : Act → World → Prop} {Q : Exit → Act → World → Prop} {E : Prop} (hgd : o.guard = none) (s x : Operand)
    (ho : o.op = .call { callee := .builtin .append, args := #[s, x], argTypes := #[35, 35] }) (g base : Nat) (hs : a.eval s = .slice (some ⟨g, 0, none⟩) 0 0) (hg : w.heap[g]? = some (.cells #[] 5 (0, 0))) (hb : base ≤ g)
    (src : Option Addr) (c : Nat) (l : List Nat) (hr : Row w src l) (hx : a.eval x = .slice src l.length c) (hz : l.length ≤ 140737488351232)
    (h : ∀ a3 c3 w', Row w' a3 l → l.length ≤ c3 → c3 ≤ maxLen → (∀ b, a3 = some b → base ≤ b.block) → w.grownBy w' (some g) → K (a.put o.dst (.slice a3 l.length c3)) w') :
    if Region.wanted o (yielded ops a.tmps) = true then Oper.wp Try.prog o a w K Q else E := by
  have hw : Region.wanted o (yielded ops a.tmps) = true := by simp [Region.wanted, hgd]
  rw [if_pos hw]
  obtain ⟨i0, hi, hz0, hz1, hz2⟩ := info_parts Try.info5
  have hgl : g < w.heap.size := (Array.getElem?_eq_some_iff.1 hg).1
  have hown : w.ownsRow base 5 1 (.slice (some ⟨g, 0, none⟩) 0 0) 0 [] := ⟨rfl, .inr ⟨g, 0, #[], rfl, hb, hg, Nat.le_refl _, Nat.zero_le _, rfl, rfl⟩⟩
  cases src with
  | none =>
    obtain rfl := row_none hr
    have hsrc : Src Try.prog i0.size 35 (.slice none 0 c) 0 [] w := Src.ofNil _ Try.underlying35 c
    have happ := run_append_room_src w 35 35 o.type 5 i0 Try.underlying35 hi g 0 0 0 (.slice none 0 c) 0 [] hsrc
    have happ := happ (by omega) (by simp) (by simp)
    rw [Nat.add_zero, World.setCells] at happ
    unfold Oper.wp
    simp only [List.length_nil] at hx
    simp [execOp, ho, resolve, invoke, builtin, hs, hx, happ, Result.andThen]
    exact h (some ⟨g, 0, none⟩) 0 w ⟨by simp, by simp, fun h => absurd h (by simp)⟩ (Nat.le_refl _) (Nat.zero_le _) (fun b hb2 => by cases hb2; exact hb) (World.grownBy.refl w _)
  | some ad =>
    refine wp_append_own w s x 35 ho base 5 i0 (.int .u8 0) 1 1 Try.underlying35 hi hz0 hz1 hz2 rfl (by decide) _ 0 [] hs hown ad l.length c (cells l) hx (by rw [cells_length, Nat.mul_one]) (row_cells hr _ rfl) (one_cell l) (by unfold maxLen; omega) (by omega) (by omega) ?_
    intro v' w' h1 h2 _
    rw [Nat.zero_add, List.nil_append] at h1
    obtain ⟨a3, c3, rfl, e1, e2, e3⟩ := own_row h1 hr.1 hr.2.1
    exact h a3 c3 w' e3 e1 e2 (fun b hb2 => own_ge h1 b.block (by rw [hb2]; rfl)) h2

/-- files that are being gathered: their struct in block q, their list in the slice v. -/
structure Out (w : World) (q : Nat) (v : Value) (X : List FX) : Prop where
  here : w.heap[q]? = some (.cells #[v] 24 (0, 0))
  list : w.ownsRow (q + 1) 53 2 v X.length (fcells X)
  files : ∀ x ∈ X, Good w (own q v) x

theorem Out.later {w w' : World} {q : Nat} {v : Value} {X : List FX} (h : Out w q v X) (hb : Below w.heap.size w w') : Out w' q v X :=
  ⟨old_block hb h.here, (Off.of_below (S := fun _ => False) hb).owns h.list (fun _ _ => id), fun x hx => (h.files x hx).off (T := fun _ => False) (below_off hb) (fun _ h => h.elim)⟩

theorem out_snoc {w wa wb wc : World} {q : Nat} {v : Value} {X : List FX} {y : FX} {g cap : Nat} (h : Out w q v X) (hb : Below w.heap.size w wa)
    (hown : wc.ownsRow (q + 1) 53 2 (.slice (some ⟨g, 0, none⟩) (X.length + 1) cap) (X.length + 1) (fcells X ++ [.string y.name, y.val])) (hgrow : wb.grownBy wc v.ownBlock) (hab : Below wa.heap.size wa wb) (hat : v.ownBlock = some g ∨ g = wb.heap.size)
    (hy : Good wb (own q v) y) : Out (wc.setCell ⟨q, 0, none⟩ (.slice (some ⟨g, 0, none⟩) (X.length + 1) cap)) q (.slice (some ⟨g, 0, none⟩) (X.length + 1) cap) (X ++ [y]) ∧ Off (own q v) w (wc.setCell ⟨q, 0, none⟩ (.slice (some ⟨g, 0, none⟩) (X.length + 1) cap)) := by
  have hq : q < w.heap.size := (Array.getElem?_eq_some_iff.1 h.here).1
  have hwb : Below w.heap.size w wb := below_of hb hab
  have hqv : v.ownBlock ≠ some q := fun e => by have := (h.list.lt q e).1; omega
  have ob : Off (own q v) wb wc := (Off.refl (own q v) wb).grown hgrow (fun k hk => .inr (.inr hk))
  have oc : Off (own q v) wb (wc.setCell ⟨q, 0, none⟩ (.slice (some ⟨g, 0, none⟩) (X.length + 1) cap)) := ob.setCell (p := ⟨q, 0, none⟩) (.inr (.inl rfl)) _
  have hgq : g ≠ q := by have := (hown.lt g rfl).1; omega
  have os : Off (fun k => k = q) wc (wc.setCell ⟨q, 0, none⟩ (.slice (some ⟨g, 0, none⟩) (X.length + 1) cap)) := (Off.refl (fun k => k = q) wc).setCell (p := ⟨q, 0, none⟩) (.inr rfl) _
  have hlen : (X ++ [y]).length = X.length + 1 := by simp
  have tr : ∀ x, Good wb (own q v) x → Good (wc.setCell ⟨q, 0, none⟩ (.slice (some ⟨g, 0, none⟩) (X.length + 1) cap)) (own q (.slice (some ⟨g, 0, none⟩) (X.length + 1) cap)) x := fun x hx => by
    obtain ⟨g1, g2, g3, g4, g5⟩ := hx
    refine ⟨g1, g2, g3, g4.off oc g5, fun h0 b hb2 hk => ?_⟩
    rcases hk with hk | hk
    · exact g5 h0 b hb2 (.inl hk)
    · have e : g = b.block := by simpa [Value.ownBlock] using hk
      rcases hat with ha | ha
      · exact g5 h0 b hb2 (.inr (by rw [ha, e]))
      · have := g4.lt h0 b hb2; omega
  refine ⟨⟨?_, ?_, ?_⟩, (Off.of_below (S := own q v) hwb).trans oc (fun _ _ t => t)⟩
  · rw [heap_setCell_same wc q 0 #[v] 24 _ (((Off.refl (fun k => v.ownBlock = some k) wb).grown hgrow (fun k hk => .inr hk)).at (old_block hwb h.here) hqv)]
    rfl
  · rw [hlen, fcells_append]
    exact os.owns hown (fun k hk e => hgq (by cases hk; exact e))
  · intro x hx
    rcases List.mem_append.1 hx with hx | hx
    · exact tr x (good_later (h.files x hx) hwb)
    · obtain rfl : x = y := by simpa using hx
      exact tr x hy


theorem three_new {w : World} {A B C : Obj} : (((w.alloc A).alloc B).alloc C).heap[w.heap.size]? = some A ∧ (((w.alloc A).alloc B).alloc C).heap[w.heap.size + 1]? = some B ∧ (((w.alloc A).alloc B).alloc C).heap[w.heap.size + 1 + 1]? = some C := by
  refine ⟨?_, ?_, ?_⟩
  · rw [Below.heap_alloc _ _ _ (by simp; omega), Below.heap_alloc _ _ _ (by simp)]; exact heap_alloc_new w _
  · rw [Below.heap_alloc _ _ _ (by simp)]
    have := heap_alloc_new (w.alloc A) B
    simpa using this
  · have := heap_alloc_new ((w.alloc A).alloc B) C
    simpa using this

/-- the two cells of a file in its block. -/
abbrev SX (q : Nat) (s : ByteArray) (v : Value) (w : World) : Prop := w.cell? ⟨q, 0, none⟩ = some (.string s) ∧ w.cell? ⟨q, 1, none⟩ = some v
theorem SX.off {q : Nat} {s : ByteArray} {v : Value} {w w' : World} {S : Nat → Prop} (h : SX q s v w) (ho : Off S w w') (hn : ¬ S q) : SX q s v w' := ⟨ho.cell h.1 hn, ho.cell h.2 hn⟩
theorem SX.alloc {q : Nat} {s : ByteArray} {v : Value} {w : World} (h : SX q s v w) (o : Obj) : SX q s v (w.alloc o) := h.off (S := fun _ => False) ((Off.refl _ w).alloc o) id
theorem SX.grown {q : Nat} {s : ByteArray} {v : Value} {w w' : World} {row : Option Nat} (h : SX q s v w) (hg : w.grownBy w' row) (hn : row ≠ some q) : SX q s v w' := h.off (S := fun k => row = some k) ((Off.refl _ w).grown hg (fun _ e => .inr e)) hn
theorem SX.set {q p : Nat} {s : ByteArray} {v u : Value} {w : World} (h : SX q s v w) (hn : q ≠ p) : SX q s v (w.setCell ⟨p, 0, none⟩ u) := h.off (S := fun k => k = p) ((Off.refl (fun k => k = p) w).setCell (p := ⟨p, 0, none⟩) (.inr rfl) u) hn
theorem off_frozen {S : Nat → Prop} {a b : World} (h : Off S a b) {p : Addr} (hk : p.block < a.heap.size) (hn : ¬ S p.block) (hf : a.frozen? p = false) : b.frozen? p = false := by
  unfold World.frozen? at hf ⊢
  rw [h.block _ hk hn]; exact hf
/-- one operation of a region that draws its order, taken first. -/
theorem takeH {P : Program} {md : Region.Mode} {ops : Array Oper} {Q : Exit → Act → World → Prop} {S : World → Prop} (i : Nat) (v : Value) {d : Option Tmp} {o : Op} {t : TypeId} {ps : String} {af : Array Edge} {g : Option (Nat × Bool)} {fuel : Nat} {listed : Array Bool} {a : Act} {w : World}
    (hi : ops[i]? = some { dst := d, op := o, type := t, pos := ps, after := af, guard := g }) (hs : Region.noSelect ops = true) (hf : Region.free md ops listed i = true) (hr : (Region.ready md ops listed).contains i = true)
    (hQ : ∀ c a w, Q (.panic c) (a.put d v) w → Q (.panic c) a w) (hy : YieldsIf P ops S { dst := d, op := o, type := t, pos := ps, after := af, guard := g } v a) (hS : S w)
    (h : wpAnyH P md ops Q S fuel (listed.setIfInBounds i true) (a.put d v) w) : wpAnyH P md ops Q S (fuel + 1) listed a w := wpAnyH_take hi hs hf hr hQ hy hS h
/-- one that comes up. -/
theorem stepH {P : Program} {md : Region.Mode} {ops : Array Oper} {Q : Exit → Act → World → Prop} {S : World → Prop} {fuel : Nat} {listed : Array Bool} {a : Act} {w : World} (i : Nat) {d : Option Tmp} {o : Op} {t : TypeId} {ps : String} {af : Array Edge} {g : Option (Nat × Bool)} {rs : List Nat}
    (ho : ops[i]? = some { dst := d, op := o, type := t, pos := ps, after := af, guard := g })
    (h : ∀ K' : Act → World → Prop, Shut (∀ a w, S w → (S w → wpAnyH P md ops Q S fuel (listed.setIfInBounds i true) a w) → K' a w) → if Region.wanted { dst := d, op := o, type := t, pos := ps, after := af, guard := g } (yielded ops a.tmps) = true then Oper.wp P { dst := d, op := o, type := t, pos := ps, after := af, guard := g } a w K' Q else K' (a.put d undef) w)
    (hs : AllReadyH P md ops Q S fuel listed a w rs) : AllReadyH P md ops Q S fuel listed a w (i :: rs) := AllReadyH.cons ho h hs
theorem second_new (w : World) (A B : Obj) : ((w.alloc A).alloc B).heap[w.heap.size + 1]? = some B := by
  have := heap_alloc_new (w.alloc A) B
  simpa using this
theorem out_own {w : World} {q : Nat} {v : Value} {X : List FX} (h : Out w (q + 1 + 1) v X) : ∀ k, own (q + 1 + 1) v k → q + 1 + 1 ≤ k := by
  rintro k (rfl | hk)
  · exact Nat.le_refl _
  · have := (h.list.lt k hk).1; omega


end Go.Proofs.Ytfocejmfmnijpaa
