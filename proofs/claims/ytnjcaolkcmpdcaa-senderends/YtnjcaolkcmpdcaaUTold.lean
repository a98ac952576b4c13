/- (made out of QTold by sed: the import alone is another) Ranges over functions: what stays, rounds, a law for iterators that tell what they hand over. -/
import Derived.Test.YtnjcaolkcmpdcaaUSay
import Derived.RangeFuncNested
import Derived.RangeFuncBound
import Derived.RangeFuncCalls
import Derived.RangeFuncLeaves
import Derived.Shelf.Abstract
import Derived.Shelf.RegionOpen
import Derived.OwnWalkIn
import Derived.TacticsInMore
import Derived.LoopNIn
import Derived.LoopIn
import Derived.Deep.RegionHeld
namespace Go.Proofs.Ytnjcaolkcmpdcaa
open Go.RowKit Go.Shelf
set_option linter.unusedVariables false
set_option linter.unusedVariables false

theorem cell_is {w : World} {a : Addr} {u : Value} (h : w.cell? a = some u) : ∃ C t fr, w.heap[a.block]? = some (.cells C t fr) := by
  unfold World.cell? at h
  split at h
  · rename_i c t fr he; exact ⟨c, t, fr, he⟩
  · cases h
/-- all cells but those of T are as they were. -/
structure KpT (T : Nat → Prop) (W W' : World) : Prop where
  size : W.heap.size ≤ W'.heap.size
  cells : ∀ k C t fr, W.heap[k]? = some (.cells C t fr) → ¬ T k → W'.heap[k]? = some (.cells C t fr)
theorem KpT.refl (T : Nat → Prop) (W : World) : KpT T W W := ⟨Nat.le_refl _, fun _ _ _ _ h _ => h⟩
theorem KpT.trans {T : Nat → Prop} {A B C : World} (h : KpT T A B) (k : KpT T B C) : KpT T A C := ⟨Nat.le_trans h.size k.size, fun i c t fr hi hn => k.cells i c t fr (h.cells i c t fr hi hn) hn⟩
theorem KpT.put {T : Nat → Prop} {W : World} {l : Nat} {o o' : Obj} (h : W.heap[l]? = some o) (hc : o.isCells = false) : KpT T W (W.putObj l o') :=
  ⟨by simp [World.putObj], fun k C t fr hk _ => by
    have hne : k ≠ l := fun e => by subst e; rw [h] at hk; cases hk; simp [Obj.isCells] at hc
    simp [World.putObj, Array.getElem?_setIfInBounds_ne (Ne.symm hne), hk]⟩
theorem KpT.of_off {T S : Nat → Prop} {W W' : World} (h : Off S W W') (hS : ∀ k C t fr, W.heap[k]? = some (.cells C t fr) → S k → T k) : KpT T W W' := ⟨h.size, fun k C t fr hk hn => h.at hk (fun hs => hn (hS k C t fr hk hs))⟩
theorem KpT.of_below {T : Nat → Prop} {W W' : World} (h : Below W.heap.size W W') : KpT T W W' := KpT.of_off (S := fun _ => False) (Off.of_below h) (fun _ _ _ _ _ hf => hf.elim)
theorem KpT.cell {T : Nat → Prop} {W W' : World} (h : KpT T W W') {a : Addr} {u : Value} (hc : W.cell? a = some u) (hn : ¬ T a.block) : W'.cell? a = some u := by
  obtain ⟨C, t, fr, he⟩ := cell_is hc
  have := h.cells _ C t fr he hn
  unfold World.cell? at hc ⊢
  rw [he] at hc
  rw [this]
  exact hc
theorem grown_of {w w' : World} (h : Below w.heap.size w w') : w.grownBy w' none := ⟨h.os, h.tape, h.output, h.size, fun k hk _ => h.block k hk⟩
theorem abides_below {α : Type} {J : List α → World → Prop} {B : Nat} (h : AbidesFrom B J) {pre : List α} {w w' : World} (hj : J pre w) (hb : Below w.heap.size w w') : J pre w' := h pre w w' none hj (grown_of hb) (fun _ e => by cases e)
theorem kept_cells {W W' : World} {row : Option Nat} {B k : Nat} {C : Array Value} {t : TypeId} {fr : Nat × Nat} (h : W.heap[k]? = some (.cells C t fr)) (hg : W.grownBy W' row) (hr : ∀ r, row = some r → B ≤ r ∧ ∃ o : Obj, W.heap[r]? = some o ∧ o.isCells = false) : W'.heap[k]? = some (.cells C t fr) := by
  rw [hg.block k (Array.getElem?_eq_some_iff.1 h).1 (fun e => by obtain ⟨_, o, h1, h2⟩ := hr k e.symm; rw [h] at h1; cases h1; simp [Obj.isCells] at h2)]
  exact h
attribute [local go_sem] Oper.semAt_some
theorem keeps_below {B : Nat} {W W' : World} (h : Below W.heap.size W W') : KeepsFrom B W W' := ⟨h.size, fun k o hk hko _ => old_block h hko⟩
theorem set2 {W : World} {g1 g2 : Nat} {u u' v v' : Value} {t1 t2 : TypeId} (h1 : W.heap[g1]? = some (.cells #[u] t1 (0, 0))) (h2 : W.heap[g2]? = some (.cells #[v] t2 (0, 0))) (hne : g1 ≠ g2) :
    ((W.setCell ⟨g1, 0, none⟩ u').setCell ⟨g2, 0, none⟩ v').heap[g1]? = some (.cells #[u'] t1 (0, 0)) ∧ ((W.setCell ⟨g1, 0, none⟩ u').setCell ⟨g2, 0, none⟩ v').heap[g2]? = some (.cells #[v'] t2 (0, 0)) ∧ Off (fun k => k = g1 ∨ k = g2) W ((W.setCell ⟨g1, 0, none⟩ u').setCell ⟨g2, 0, none⟩ v') ∧ ∀ B, KeepsFrom B W ((W.setCell ⟨g1, 0, none⟩ u').setCell ⟨g2, 0, none⟩ v') := by
  refine ⟨?_, ?_, ((Off.refl _ W).setCell (p := ⟨g1, 0, none⟩) (.inr (.inl rfl)) _).setCell (p := ⟨g2, 0, none⟩) (.inr (.inr rfl)) _, fun B => ((KeepsOthers.setCell _ _ _).from B).trans ((KeepsOthers.setCell _ _ _).from B)⟩
  · rw [Below.heap_setCell _ _ _ _ hne, heap_setCell_same _ _ _ _ _ _ h1]; rfl
  · rw [heap_setCell_same _ _ _ _ _ _ (by rw [Below.heap_setCell _ _ _ _ (Ne.symm hne)]; exact h2)]; rfl
theorem put_def {W : World} {D : Nat} {o : Obj} : Off (fun k => k = D) W (W.putObj D o) := ⟨rfl, rfl, rfl, by simp [World.putObj], fun k _ hn => by simp [World.putObj, Array.getElem?_setIfInBounds_ne (Ne.symm hn)]⟩

attribute [local go_sem] Oper.semAt_some
set_option linter.unusedVariables false

theorem upon_round {n l : Nat} {P : Program} {o : Oper} {a : Act} {K K' : Act → World → Prop} {Q : Exit → Act → World → Prop} (hK : ∀ a w, K a w → K' a w) : ∀ (r : Result Next), o.upon P a K Q r → o.uponIn (Fence.wide.inRound l) n P a K' Q r
  | .ok (.value v) w', h => hK _ _ h
  | .ok .skip w', h => hK _ _ h
  | .ok (.defer d) w', h => hK _ _ h
  | .ok (.enter f args) w', h => ⟨fun h => (by cases h), CallsIn.inRound l ((callsIn_wide.2 h).mono (by
      intro e w'' he
      cases e with
      | returned v => exact hK _ _ he
      | panicked c => exact he
      | outgrown => exact he))⟩
  | .ok (.row row args) w', h => ⟨fun h => (by cases h), fun c cs _ => by
      obtain ⟨v, w'', h1, h2⟩ := h c cs
      exact ⟨v, w'', hK _ _ h1, stepsIn_wide.2 h2⟩⟩
  | .halt (.panic v) w', h => h
theorem any_round {n l : Nat} {P : Program} {md : Region.Mode} {ops : Array Oper} {Q : Exit → Act → World → Prop} (hd : ∀ (i : Nat) (o : Oper), ops[i]? = some o → ∀ c, o.op ≠ .defer c) (hQ : ¬ LetsOut Q) : ∀ (fuel : Nat) (listed : Array Bool) (a : Act) (w : World), wpAny P md ops Q fuel listed a w → wpAnyIn (Fence.wide.inRound l) n P md ops Q fuel listed a w
  | 0, _, _, _, h => h
  | fuel + 1, listed, a, w, h => by
    refine ⟨h.1, fun i hi => ?_⟩
    have h2 := h.2 i hi
    unfold wpOp at h2
    unfold wpOpIn
    cases ho : ops[i]? with
    | none => rw [ho] at h2; exact any_round hd hQ fuel _ _ _ h2
    | some o =>
      rw [ho] at h2
      simp only at h2 ⊢
      split
      · rename_i hw
        rw [if_pos hw] at h2
        rcases h2 with h2 | h2
        · refine ⟨fun _ _ => trivial, ?_⟩
          rw [Oper.semAt_eq _ _ _ (hd i o ho)]
          exact upon_round (fun a w h => any_round hd hQ fuel _ a w h) _ h2
        · exact absurd h2.2 hQ
      · rename_i hw
        rw [if_neg hw] at h2
        exact ⟨fun _ _ => trivial, any_round hd hQ fuel _ _ _ h2⟩
/-- none of the operations is a defer. -/
def noDefer (ops : List Oper) : Bool := ops.all fun o => match o.op with | .defer _ => false | _ => true
theorem noDefer_is {l : List Oper} (h : noDefer l = true) : ∀ (i : Nat) (o : Oper), l.toArray[i]? = some o → ∀ c, o.op ≠ .defer c := by
  intro i o ho c hc
  have hm : o ∈ l := by
    rw [List.getElem?_toArray] at ho
    exact List.mem_of_getElem? ho
  have := List.all_eq_true.1 h o hm
  rw [hc] at this
  cases this
theorem region_round {n l : Nat} {P : Program} {id : Nat} {ops : List Oper} {Q : Exit → Act → World → Prop} {a : Act} {w : World} (S : World → Prop) (hm : P.follows .mixedOrders = true) (hd : noDefer ops = true) (hQ : ¬ LetsOut Q) (hS : S w.drew)
    (h : S w.drew → wpAnyH P .any ops.toArray Q S ops.toArray.size (Array.replicate ops.toArray.size false) a w.drew) : (Code.region id ops.toArray true).wpIn (Fence.wide.inRound l) n P Q a w :=
  wpIn_region_any hm (any_round (noDefer_is hd) hQ _ _ _ _ (wpAny_of_held _ _ _ _ (h hS)))
theorem takeH {P : Program} {md : Region.Mode} {ops : Array Oper} {Q : Exit → Act → World → Prop} {S : World → Prop} (i : Nat) (v : Value) {d : Option Tmp} {o : Op} {t : TypeId} {ps : String} {af : Array Edge} {g : Option (Nat × Bool)} {fuel : Nat} {listed : Array Bool} {a : Act} {w : World}
    (hi : ops[i]? = some { dst := d, op := o, type := t, pos := ps, after := af, guard := g }) (hs : Region.noSelect ops = true) (hf : Region.free md ops listed i = true) (hr : (Region.ready md ops listed).contains i = true)
    (hQ : ∀ c a w, Q (.panic c) (a.put d v) w → Q (.panic c) a w) (hy : YieldsIf P ops S { dst := d, op := o, type := t, pos := ps, after := af, guard := g } v a) (hS : S w)
    (h : wpAnyH P md ops Q S fuel (listed.setIfInBounds i true) (a.put d v) w) : wpAnyH P md ops Q S (fuel + 1) listed a w := wpAnyH_take hi hs hf hr hQ hy hS h
/-- one that comes up. -/
theorem stepH {P : Program} {md : Region.Mode} {ops : Array Oper} {Q : Exit → Act → World → Prop} {S : World → Prop} {fuel : Nat} {listed : Array Bool} {a : Act} {w : World} (i : Nat) {d : Option Tmp} {o : Op} {t : TypeId} {ps : String} {af : Array Edge} {g : Option (Nat × Bool)} {rs : List Nat}
    (ho : ops[i]? = some { dst := d, op := o, type := t, pos := ps, after := af, guard := g })
    (h : ∀ K' : Act → World → Prop, Shut (∀ a w, S w → (S w → wpAnyH P md ops Q S fuel (listed.setIfInBounds i true) a w) → K' a w) → if Region.wanted { dst := d, op := o, type := t, pos := ps, after := af, guard := g } (yielded ops a.tmps) = true then Oper.wp P { dst := d, op := o, type := t, pos := ps, after := af, guard := g } a w K' Q else K' (a.put d undef) w)
    (hs : AllReadyH P md ops Q S fuel listed a w rs) : AllReadyH P md ops Q S fuel listed a w (i :: rs) := AllReadyH.cons ho h hs
theorem own_below {α : Type} {J : List α → World → Prop} {B : Nat} (h : OwnFrom B J) {pre : List α} {w w' : World} (hj : J pre w) (hb : Below w.heap.size w w') : J pre w' := h pre w w' none hj (grown_of hb) (fun _ e => by cases e)
/-- how the body of a round may be left. -/
def postK {α : Type} (B : Nat) (Kp : World → World → Prop) (I : List α → World → Prop) (Ix : Code → List α → World → Prop) (xs : List α) (W : World) : Exit → Act → World → Prop
  | .normal, _, W' => KeepsFrom B W W' ∧ Kp W W' ∧ I xs W'
  | .ret, _, W' => KeepsFrom B W W' ∧ Kp W W' ∧ Ix .ret xs W'
  | .exit id, _, W' => KeepsFrom B W W' ∧ Kp W W' ∧ Ix (.exit id) xs W'
  | .goto t, _, W' => KeepsFrom B W W' ∧ Kp W W' ∧ Ix (.goto t) xs W'
  | .panic _, _, _ => False
  | .outgrown, _, _ => False
/-- the function hands over values of which T holds, in the world in which it hands over the last one, and at its end. -/
def Hands {α : Type} (n : Nat) (P : Program) (g : Nat) (lb : Array Value) (encs : α → Array Value) (Kp : World → World → Prop) (T : List α → World → Prop) (S : List α → Prop) (N : Nat) (w : World) : Prop :=
  ∀ (l : Nat) (J Jx : List α → World → Prop) (W : World), Below w.heap.size w W → OwnFrom W.heap.size J → OwnFrom W.heap.size Jx →
    (∀ pre x W1, J pre W1 → T (pre ++ [x]) W1 → pre.length < N → YieldAt Fence.wide (n - 1) P l (encs x) W1 fun e W' =>
      (e = .returned (.bool true) ∧ J (pre ++ [x]) W' ∧ Kp W1 W' ∧ KeepsFrom W.heap.size W1 W') ∨ (e = .returned (.bool false) ∧ Jx (pre ++ [x]) W' ∧ Kp W1 W' ∧ KeepsFrom W.heap.size W1 W')) →
    J [] W → CallsIn Fence.wide n P g (#[.func (.yield l) #[] #[]] ++ lb) W fun e W' => (∃ v, e = .returned v) ∧ ((∃ xs, S xs ∧ T xs W' ∧ J xs W') ∨ ∃ pre, Jx pre W')

/-- a loop's two blocks of book-keeping, at B and behind it. -/
structure Bk (B : Nat) (r : Loop) (W : World) : Prop where
  block : W.heap[B]? = some (.deferred (some []))
  loop : W.heap[B + 1]? = some (.loop r)
theorem Bk.lt {B : Nat} {r : Loop} {W : World} (h : Bk B r W) : B + 1 < W.heap.size := (Array.getElem?_eq_some_iff.1 h.loop).1
theorem Bk.put {B : Nat} {r : Loop} {W : World} (h : Bk B r W) (r' : Loop) : Bk B r' (W.putObj (B + 1) (.loop r')) := ⟨(World.putObj_heap_other (by omega)).trans h.block, World.putObj_heap_same h.lt⟩
theorem Bk.kept {B : Nat} {r : Loop} {W W' : World} (h : Bk B r W) (k : KeepsFrom B W W') : Bk B r W' := ⟨k.same _ _ (Nat.le_refl _) h.block rfl, k.same _ _ (by omega) h.loop rfl⟩
theorem Bk.grown {B : Nat} {r : Loop} {W W' : World} {row : Option Nat} (h : Bk B r W) (hg : W.grownBy W' row) (hr : ∀ k, row = some k → B + 2 ≤ k) : Bk B r W' := ⟨(hg.block B (by have := h.lt; omega) (fun e => by have := hr B e.symm; omega)).trans h.block, (hg.block (B + 1) h.lt (fun e => by have := hr _ e.symm; omega)).trans h.loop⟩
theorem Bk.own {β : Type} {B : Nat} {r : Loop} {I : β → World → Prop} {W : World} {s : β} (h : Bk B r W) (hI : OwnFrom B I) (hs : I s W) (r' : Loop) : I s (W.putObj (B + 1) (.loop r')) := hI.putObj _ hs (by omega) h.loop rfl

section law
variable {α : Type} {n : Nat} {P : Program} {B : Nat} {r : Loop} {Kp : World → World → Prop} {I T : List α → World → Prop} {Ix : Code → List α → World → Prop}

theorem keeps_put {B k : Nat} {W : World} {o : Obj} (hk : k < B) : KeepsFrom B W (W.putObj k o) := ⟨by simp [World.putObj], fun i o' hi ho _ => by rw [World.putObj_heap_other (by omega)]; exact ho⟩
theorem keeps_mono {B D : Nat} {W W' : World} (h : KeepsFrom B W W') (hD : B ≤ D) : KeepsFrom D W W' := ⟨h.size, fun k o hk => h.same k o (by omega)⟩
/-- how a round is left. -/
theorem hands_leave (hKt : ∀ {A B C : World}, Kp A B → Kp B C → Kp A C) (hKb : ∀ (W : World) (l : Nat) (o o' : Obj), W.heap[l]? = some o → o.isCells = false → Kp W (W.putObj l o'))
    (hI : OwnFrom B I) (hIx : ∀ c, OwnFrom B (Ix c)) (hp : r.pending = none) (hs : r.state = .ready) {xs : List α} {W0 W : World} (hW0 : Kp W0 W) (hF0 : KeepsFrom B W0 W) (hW : Bk B r W) : ∀ (e : Exit) (a : Act) (W3 : World), postK B Kp I Ix xs (W.putObj (B + 1) (.loop { r with state := .busy })) e a W3 →
      roundPost P (B + 1) (fun e W' => (e = .returned (.bool true) ∧ (I xs W' ∧ Bk B r W') ∧ Kp W0 W' ∧ KeepsFrom (B + 2) W0 W') ∨ (e = .returned (.bool false) ∧ (∃ c, Ix c xs W' ∧ Bk B { r with state := .done, pending := some c } W') ∧ Kp W0 W' ∧ KeepsFrom (B + 2) W0 W')) e a W3 := by
  have e0 : ({ r with state := .ready, pending := none } : Loop) = r := by cases r; simp only at hp hs; subst hp; subst hs; rfl
  have hb := hW.put { r with state := .busy }
  have hK2 : ∀ (W3 : World) (o : Obj), KeepsFrom B (W.putObj (B + 1) (.loop { r with state := .busy })) W3 → KeepsFrom (B + 2) W0 (W3.putObj (B + 1) o) := fun W3 o hk => (((keeps_mono hF0 (by omega)).trans (keeps_put (by omega))).trans (keeps_mono hk (by omega))).trans (keeps_put (by omega))
  have out : ∀ (c : Code) (W3 : World), KeepsFrom B (W.putObj (B + 1) (.loop { r with state := .busy })) W3 → Kp (W.putObj (B + 1) (.loop { r with state := .busy })) W3 → Ix c xs W3 → ∃ W4, (Instr.endRound (B + 1) (some c)).run P W3 = .ok (.bool false) W4 ∧ Ix c xs W4 ∧ Bk B { r with state := .done, pending := some c } W4 ∧ Kp W0 W4 ∧ KeepsFrom (B + 2) W0 W4 := fun c W3 hk hkp hi => by
    have h3 := hb.kept hk
    exact ⟨_, run_endRound (some c) h3.loop, h3.own (hIx c) hi _, h3.put _, hKt (hKt hW0 (hKb _ _ _ _ hW.loop rfl)) (hKt hkp (hKb _ _ _ _ h3.loop rfl)), hK2 W3 _ hk⟩
  intro e a W3 hq
  cases e with
  | normal =>
    obtain ⟨hk, hkp, hi⟩ := hq
    have h3 := hb.kept hk
    have hr := run_endRound (P := P) none h3.loop
    have hx := h3.put { r with state := .ready, pending := none }
    simp only [Option.isNone_none, if_true] at hr
    have hk2 := hK2 W3 (.loop { r with state := .ready, pending := none }) hk
    rw [e0] at hr hx hk2
    exact ⟨_, _, hr, .inl ⟨rfl, ⟨h3.own hI hi _, hx⟩, hKt (hKt hW0 (hKb _ _ _ _ hW.loop rfl)) (hKt hkp (hKb _ _ _ _ h3.loop rfl)), hk2⟩⟩
  | ret =>
    obtain ⟨W4, hr, hi, h4, h5⟩ := out .ret W3 hq.1 hq.2.1 hq.2.2
    exact ⟨_, _, hr, .inr ⟨rfl, ⟨.ret, hi, h4⟩, h5⟩⟩
  | exit id =>
    obtain ⟨W4, hr, hi, h4, h5⟩ := out (.exit id) W3 hq.1 hq.2.1 hq.2.2
    exact ⟨_, _, hr, .inr ⟨rfl, ⟨.exit id, hi, h4⟩, h5⟩⟩
  | goto t =>
    obtain ⟨W4, hr, hi, h4, h5⟩ := out (.goto t) W3 hq.1 hq.2.1 hq.2.2
    exact ⟨_, _, hr, .inr ⟨rfl, ⟨.goto t, hi, h4⟩, h5⟩⟩
  | panic ch => exact hq.elim
  | outgrown => exact hq.elim

/-- the range itself. -/
theorem range_hands {g : Operand} {ps : Array Tmp} {assign body : Code} {Q : Exit → Act → World → Prop} {a : Act} {w : World} (h1 : 1 ≤ n) {gf : Nat} {lb : Array Value} (hg : a.eval g = .func (.func gf) #[] lb) (eg : ∀ args w, (callFunc gf args).run P w = .ok (.enter gf args) w)
    {encs : α → Array Value} {S : List α → Prop} {N : Nat} {w0 : World} (hseq : Hands (n - 1) P gf lb encs Kp T S N w0)
    (hKt : ∀ {A B C : World}, Kp A B → Kp B C → Kp A C) (hKb : ∀ (W : World) (l : Nat) (o o' : Obj), W.heap[l]? = some o → o.isCells = false → Kp W (W.putObj l o')) (hb0 : Below w0.heap.size w0 w) (hps : ∀ x, (encs x).size = ps.size)
    (hI : OwnFrom w.heap.size I) (hIx : ∀ c, OwnFrom w.heap.size (Ix c)) (hT : OwnFrom w.heap.size T) (h0 : I [] w) (Ax : α → Act → World → Prop) (hAx : ∀ x a', OwnFrom w.heap.size (fun (_ : Unit) W => Ax x a' W))
    (hassign : ∀ (l : Nat) (pre : List α) (x : α) (W : World) (K : Act → World → Prop), I pre W → T (pre ++ [x]) W → (∀ a' W', KeepsFrom w.heap.size W W' → Kp W W' → I pre W' → T (pre ++ [x]) W' → Ax x a' W' → K a' W') → assign.wpIn (Fence.wide.inRound l) (n - 1 - 1) P (Exit.then K (fun _ _ _ => False)) { tmps := (ps.zip (encs x)).foldl (fun t (p, v) => t.setIfInBounds p v) a.tmps, defers := [] } W)
    (hbody : ∀ (l : Nat) (pre : List α) (x : α) (a' : Act) (W : World), I pre W → T (pre ++ [x]) W → Ax x a' W → pre.length < N → body.wpIn (Fence.wide.inRound l) (n - 1 - 1) P (postK w.heap.size Kp I Ix (pre ++ [x]) W) a' W)
    (hdone : ∀ (D : Nat) (xs : List α) (W : World), w.heap.size ≤ D → S xs → T xs W → I xs W → W.heap[D]? = some (.deferred (some [])) → Q .normal { a with defers := { target := .collected D, args := #[] } :: a.defers } W)
    (hstop : ∀ (D : Nat) (c : Code) (pre : List α) (W : World), w.heap.size ≤ D → Ix c pre W → W.heap[D]? = some (.deferred (some [])) → c.wpIn Fence.wide n P Q { a with defers := { target := .collected D, args := #[] } :: a.defers } W) :
    (Code.rangeFunc g ps assign body).wpIn Fence.wide n P Q a w := by
  refine wpIn_rangeFunc fun fn hfn => ?_
  obtain ⟨r, hr⟩ : ∃ r : Loop, r = { state := .ready, pending := none, fn, tmps := a.tmps, params := ps, assign, body, defers := w.heap.size } := ⟨_, rfl⟩
  have hent := run_enterLoop_outer (P := P) (w := w) fn a.tmps ps assign body
  rw [← hr] at hent
  obtain ⟨W1, hW1⟩ : ∃ W1, W1 = (w.alloc (.deferred (some []))).alloc (.loop r) := ⟨_, rfl⟩
  rw [← hW1] at hent
  have hk1 : Bk w.heap.size r W1 := by
    have q1 := World.alloc_heap_new w (.deferred (some []))
    have q2 := World.alloc_heap_new (w.alloc (.deferred (some []))) (.loop r)
    rw [World.size_alloc] at q2
    rw [hW1]
    exact ⟨(Below.heap_alloc _ _ _ (by simp)).trans q1, q2⟩
  have hi1 : I [] W1 := by rw [hW1]; exact hI.alloc _ (hI.alloc _ h0)
  have hbel : Below w.heap.size w W1 := by rw [hW1]; exact ((Below.refl _ w).alloc (Nat.le_refl _) _).alloc (by simp) _
  have hsz : w.heap.size ≤ W1.heap.size := hbel.size
  have hsz2 : W1.heap.size = w.heap.size + 2 := by rw [hW1]; simp
  have wide : ∀ {A : World} {row : Option Nat}, (∀ k, row = some k → W1.heap.size ≤ k ∧ ∃ o : Obj, A.heap[k]? = some o ∧ o.isCells = false) → ∀ k, row = some k → w.heap.size ≤ k ∧ ∃ o : Obj, A.heap[k]? = some o ∧ o.isCells = false := fun hq k e => ⟨Nat.le_trans hsz (hq k e).1, (hq k e).2⟩
  refine ⟨w.heap.size + 1, [{ target := .collected w.heap.size, args := #[] }], W1, { target := .fn (.func gf) lb, args := #[.func (.yield (w.heap.size + 1)) #[] #[]] }, W1, gf, #[.func (.yield (w.heap.size + 1)) #[] #[]] ++ lb, W1, hent, ?_, fun _ _ => trivial, ?_, fun _ => h1, ?_⟩
  · simp only [resolve, hg]
    simp [go_sem]
  · simp [invoke, go_sem, eg]
  refine (hseq (w.heap.size + 1) (fun pre W => I pre W ∧ Bk w.heap.size r W) (fun pre W => ∃ c, Ix c pre W ∧ Bk w.heap.size { r with state := .done, pending := some c } W) W1 (hb0.trans (hbel.mono hb0.size))
    (fun s A A' row hs hg' hq => ⟨hI s A A' row hs.1 hg' (wide hq), hs.2.grown hg' (fun k e => by have := (hq k e).1; omega)⟩)
    (fun s A A' row hs hg' hq => by obtain ⟨c, hc, hk⟩ := hs; exact ⟨c, hIx c s A A' row hc hg' (wide hq), hk.grown hg' (fun k e => by have := (hq k e).1; omega)⟩)
    ?_ ⟨hi1, hk1⟩).mono ?_
  · rintro pre x W ⟨hi, hk⟩ ht hlen
    have hy := run_yield (P := P) (args := encs x) hk.loop (by rw [hr]; exact hps x)
    have e1 : r.fn = fn := by rw [hr]
    have e2 : r.params = ps := by rw [hr]
    have e3 : r.tmps = a.tmps := by rw [hr]
    have e4 : r.assign = assign := by rw [hr]
    have e5 : r.body = body := by rw [hr]
    have e6 : r.pending = none := by rw [hr]
    have e7 : r.state = .ready := by rw [hr]
    rw [e1, e2, e3, e4, e5] at hy
    refine ⟨fn, _, assign, body, hy, roundIn_of_wpIn hfn (hassign _ pre x W _ hi ht ?_)⟩
    intro a' Wa q1 q2 q3 q4 q5
    have hka := hk.kept q1
    refine ⟨_, run_beginRound hka.loop e7, ?_⟩
    rw [hsz2]
    exact wpIn_mono (hbody _ pre x a' _ (hka.own hI q3 _) (hka.own hT q4 _) (hka.own (s := ()) (hAx x a') q5 _) hlen) (hands_leave (Kp := Kp) (fun h k => hKt h k) hKb hI hIx e6 e7 q2 q1 hka)
  · rintro e W2 ⟨⟨v, rfl⟩, (⟨xs, hS, ht, hi, hk⟩ | ⟨pre, c, hi, hk⟩)⟩
    · have hl := run_endLoop (P := P) hk.loop (by rw [hr]; simp)
      have e6 : r.pending = none := by rw [hr]
      rw [e6] at hl
      exact ⟨none, _, hl, hdone _ xs _ (Nat.le_refl _) hS (hk.own hT ht _) (hk.own hI hi _) (hk.put _).block⟩
    · have hl := run_endLoop (P := P) hk.loop (by simp)
      exact ⟨some c, _, hl, hstop _ c pre _ (Nat.le_refl _) (hk.own (hIx c) hi _) (hk.put _).block⟩

end law
end Go.Proofs.Ytnjcaolkcmpdcaa
