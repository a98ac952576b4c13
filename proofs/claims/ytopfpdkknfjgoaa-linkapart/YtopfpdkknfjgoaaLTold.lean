/- A range over a function that tells what lies in memory of what it hands over. -/
import Derived.Test.YtopfpdkknfjgoaaLRound
namespace Go.Proofs.Ytopfpdkknfjgoaa
open Go.RowKit Go.Shelf
set_option linter.unusedVariables false

/-- the function hands over values of which T holds, in the world in which it hands over the last one, and at its end. -/
def Tells {α : Type} (n : Nat) (P : Program) (g : Nat) (lb : Array Value) (encs : α → Array Value) (Kp : World → World → Prop) (T : List α → World → Prop) (S : List α → Prop) (N : Nat) (w : World) : Prop :=
  ∀ (l : Nat) (J Jx : List α → World → Prop) (W : World), Below w.heap.size w W → AbidesFrom W.heap.size J → AbidesFrom W.heap.size Jx →
    (∀ pre x W1, J pre W1 → T (pre ++ [x]) W1 → pre.length < N → YieldAt Fence.wide (n - 1) P l (encs x) W1 fun e W' =>
      (e = .returned (.bool true) ∧ J (pre ++ [x]) W' ∧ Kp W1 W') ∨ (e = .returned (.bool false) ∧ Jx (pre ++ [x]) W')) →
    J [] W → CallsIn Fence.wide n P g (#[.func (.yield l) #[] #[]] ++ lb) W fun e W' => (∃ v, e = .returned v) ∧ ((∃ xs, S xs ∧ T xs W' ∧ J xs W') ∨ ∃ pre, Jx pre W')

/-- a loop's two blocks of book-keeping, at B and behind it. -/
structure Bk (B : Nat) (r : Loop) (W : World) : Prop where
  block : W.heap[B]? = some (.deferred (some []))
  loop : W.heap[B + 1]? = some (.loop r)
theorem Bk.lt {B : Nat} {r : Loop} {W : World} (h : Bk B r W) : B + 1 < W.heap.size := (Array.getElem?_eq_some_iff.1 h.loop).1
theorem Bk.put {B : Nat} {r : Loop} {W : World} (h : Bk B r W) (r' : Loop) : Bk B r' (W.putObj (B + 1) (.loop r')) := ⟨(World.putObj_heap_other (by omega)).trans h.block, World.putObj_heap_same h.lt⟩
theorem Bk.kept {B : Nat} {r : Loop} {W W' : World} (h : Bk B r W) (k : KeepsFrom B W W') : Bk B r W' := ⟨k.same _ _ (Nat.le_refl _) h.block rfl, k.same _ _ (by omega) h.loop rfl⟩
theorem Bk.grown {B : Nat} {r : Loop} {W W' : World} {row : Option Nat} (h : Bk B r W) (hg : W.grownBy W' row) (hr : ∀ k, row = some k → ∃ o : Obj, W.heap[k]? = some o ∧ o.isWalk = true) : Bk B r W' := ⟨(grownBy_keeps hg hr h.block rfl).trans h.block, (grownBy_keeps hg hr h.loop rfl).trans h.loop⟩
theorem Bk.own {β : Type} {B : Nat} {r : Loop} {I : β → World → Prop} {W : World} {s : β} (h : Bk B r W) (hI : OwnFrom B I) (hs : I s W) (r' : Loop) : I s (W.putObj (B + 1) (.loop r')) := hI.putObj _ hs (by omega) h.loop rfl

section law
variable {α : Type} {n : Nat} {P : Program} {B : Nat} {r : Loop} {Kp : World → World → Prop} {I T : List α → World → Prop} {Ix : Code → List α → World → Prop}

/-- how a round is left. -/
theorem tells_leave (hKt : ∀ {A B C : World}, Kp A B → Kp B C → Kp A C) (hKb : ∀ (W : World) (l : Nat) (o o' : Obj), W.heap[l]? = some o → o.isCells = false → Kp W (W.putObj l o'))
    (hI : OwnFrom B I) (hIx : ∀ c, OwnFrom B (Ix c)) (hp : r.pending = none) (hs : r.state = .ready) {xs : List α} {W0 W : World} (hW0 : Kp W0 W) (hW : Bk B r W) : ∀ (e : Exit) (a : Act) (W3 : World), ownPostG B Kp I Ix xs (W.putObj (B + 1) (.loop { r with state := .busy })) e a W3 →
      roundPost P (B + 1) (fun e W' => (e = .returned (.bool true) ∧ (I xs W' ∧ Bk B r W') ∧ Kp W0 W') ∨ (e = .returned (.bool false) ∧ ∃ c, Ix c xs W' ∧ Bk B { r with state := .done, pending := some c } W')) e a W3 := by
  have e0 : ({ r with state := .ready, pending := none } : Loop) = r := by cases r; simp only at hp hs; subst hp; subst hs; rfl
  have hb := hW.put { r with state := .busy }
  have out : ∀ (c : Code) (W3 : World), KeepsFrom B (W.putObj (B + 1) (.loop { r with state := .busy })) W3 → Ix c xs W3 → ∃ W4, (Instr.endRound (B + 1) (some c)).run P W3 = .ok (.bool false) W4 ∧ Ix c xs W4 ∧ Bk B { r with state := .done, pending := some c } W4 := fun c W3 hk hi => by
    have h3 := hb.kept hk
    exact ⟨_, run_endRound (some c) h3.loop, h3.own (hIx c) hi _, h3.put _⟩
  intro e a W3 hq
  cases e with
  | normal =>
    obtain ⟨hk, hkp, hi⟩ := hq
    have h3 := hb.kept hk
    have hr := run_endRound (P := P) none h3.loop
    have hx := h3.put { r with state := .ready, pending := none }
    simp only [Option.isNone_none, if_true] at hr
    rw [e0] at hr hx
    exact ⟨_, _, hr, .inl ⟨rfl, ⟨h3.own hI hi _, hx⟩, hKt (hKt hW0 (hKb _ _ _ _ hW.loop rfl)) (hKt hkp (hKb _ _ _ _ h3.loop rfl))⟩⟩
  | ret =>
    obtain ⟨W4, hr, hi, h4⟩ := out .ret W3 hq.1 hq.2
    exact ⟨_, _, hr, .inr ⟨rfl, .ret, hi, h4⟩⟩
  | exit id =>
    obtain ⟨W4, hr, hi, h4⟩ := out (.exit id) W3 hq.1 hq.2
    exact ⟨_, _, hr, .inr ⟨rfl, .exit id, hi, h4⟩⟩
  | goto t =>
    obtain ⟨W4, hr, hi, h4⟩ := out (.goto t) W3 hq.1 hq.2
    exact ⟨_, _, hr, .inr ⟨rfl, .goto t, hi, h4⟩⟩
  | panic ch => exact hq.elim
  | outgrown => exact hq.elim

/-- the range itself. -/
theorem range_tells {g : Operand} {ps : Array Tmp} {assign body : Code} {Q : Exit → Act → World → Prop} {a : Act} {w : World} (h1 : 1 ≤ n) {gf : Nat} {lb : Array Value} (hg : a.eval g = .func (.func gf) #[] lb) (eg : ∀ args w, (callFunc gf args).run P w = .ok (.enter gf args) w)
    {encs : α → Array Value} {S : List α → Prop} {N : Nat} {w0 : World} (hseq : Tells (n - 1) P gf lb encs Kp T S N w0)
    (hKt : ∀ {A B C : World}, Kp A B → Kp B C → Kp A C) (hKb : ∀ (W : World) (l : Nat) (o o' : Obj), W.heap[l]? = some o → o.isCells = false → Kp W (W.putObj l o')) (hb0 : Below w0.heap.size w0 w) (hps : ∀ x, (encs x).size = ps.size)
    (hI : OwnFrom w.heap.size I) (hIx : ∀ c, OwnFrom w.heap.size (Ix c)) (hT : OwnFrom w.heap.size T) (h0 : I [] w) (Ax : α → Act → World → Prop) (hAx : ∀ x a', OwnFrom w.heap.size (fun (_ : Unit) W => Ax x a' W))
    (hassign : ∀ (l : Nat) (pre : List α) (x : α) (W : World) (K : Act → World → Prop), I pre W → T (pre ++ [x]) W → (∀ a' W', KeepsFrom w.heap.size W W' → Kp W W' → I pre W' → T (pre ++ [x]) W' → Ax x a' W' → K a' W') → assign.wpIn (Fence.wide.inRound l) (n - 1 - 1) P (Exit.then K (fun _ _ _ => False)) { tmps := (ps.zip (encs x)).foldl (fun t (p, v) => t.setIfInBounds p v) a.tmps, defers := [] } W)
    (hbody : ∀ (l : Nat) (pre : List α) (x : α) (a' : Act) (W : World), I pre W → T (pre ++ [x]) W → Ax x a' W → pre.length < N → body.wpIn (Fence.wide.inRound l) (n - 1 - 1) P (ownPostG w.heap.size Kp I Ix (pre ++ [x]) W) a' W)
    (hdone : ∀ (D : Nat) (xs : List α) (W : World), w.heap.size ≤ D → S xs → T xs W → I xs W → W.heap[D]? = some (.deferred (some [])) → Q .normal { a with defers := { target := .collected D, args := #[] } :: a.defers } W)
    (hstop : ∀ (D : Nat) (c : Code) (pre : List α) (W : World), w.heap.size ≤ D → Ix c pre W → W.heap[D]? = some (.deferred (some [])) → c.wpIn Fence.wide n P Q { a with defers := { target := .collected D, args := #[] } :: a.defers } W) :
    (Code.rangeFunc g ps assign body).wpIn Fence.wide n P Q a w := by
  refine wpIn_rangeFunc fun fn hfn => ?_
  obtain ⟨r, hr⟩ : ∃ r : Loop, r = { state := .ready, pending := none, fn, tmps := a.tmps, params := ps, assign, body, defers := w.heap.size } := ⟨_, rfl⟩
  have hent := run_enterLoop_outer (P := P) (w := w) fn a.tmps ps assign body
  rw [← hr] at hent
  obtain ⟨W1, hW1⟩ : ∃ W1, W1 = (w.alloc (.deferred (some []))).alloc (.loop r) := ⟨_, rfl⟩
  rw [← hW1] at hent
  have hk1 : Bk w.heap.size r W1 := by
    have q1 := World.alloc_heap_new w (.deferred (some []))
    have q2 := World.alloc_heap_new (w.alloc (.deferred (some []))) (.loop r)
    rw [World.size_alloc] at q2
    rw [hW1]
    exact ⟨(Below.heap_alloc _ _ _ (by simp)).trans q1, q2⟩
  have hi1 : I [] W1 := by rw [hW1]; exact hI.alloc _ (hI.alloc _ h0)
  have hbel : Below w.heap.size w W1 := by rw [hW1]; exact ((Below.refl _ w).alloc (Nat.le_refl _) _).alloc (by simp) _
  have hsz : w.heap.size ≤ W1.heap.size := hbel.size
  have wide : ∀ {A : World} {row : Option Nat}, (∀ k, row = some k → W1.heap.size ≤ k ∧ ∃ o : Obj, A.heap[k]? = some o ∧ o.isWalk = true) → ∀ k, row = some k → w.heap.size ≤ k ∧ ∃ o : Obj, A.heap[k]? = some o ∧ o.isCells = false := fun hq k e => by
    obtain ⟨q1, o, q2, q3⟩ := hq k e
    exact ⟨Nat.le_trans hsz q1, o, q2, Obj.not_cells_of_walk q3⟩
  refine ⟨w.heap.size + 1, [{ target := .collected w.heap.size, args := #[] }], W1, { target := .fn (.func gf) lb, args := #[.func (.yield (w.heap.size + 1)) #[] #[]] }, W1, gf, #[.func (.yield (w.heap.size + 1)) #[] #[]] ++ lb, W1, hent, ?_, fun _ _ => trivial, ?_, fun _ => h1, ?_⟩
  · simp only [resolve, hg]
    simp [go_sem]
  · simp [invoke, go_sem, eg]
  refine (hseq (w.heap.size + 1) (fun pre W => I pre W ∧ Bk w.heap.size r W) (fun pre W => ∃ c, Ix c pre W ∧ Bk w.heap.size { r with state := .done, pending := some c } W) W1 (hb0.trans (hbel.mono hb0.size))
    (fun s A A' row hs hg' hq => ⟨hI s A A' row hs.1 hg' (wide hq), hs.2.grown hg' (fun k e => (hq k e).2)⟩)
    (fun s A A' row hs hg' hq => by obtain ⟨c, hc, hk⟩ := hs; exact ⟨c, hIx c s A A' row hc hg' (wide hq), hk.grown hg' (fun k e => (hq k e).2)⟩)
    ?_ ⟨hi1, hk1⟩).mono ?_
  · rintro pre x W ⟨hi, hk⟩ ht hlen
    have hy := run_yield (P := P) (args := encs x) hk.loop (by rw [hr]; exact hps x)
    have e1 : r.fn = fn := by rw [hr]
    have e2 : r.params = ps := by rw [hr]
    have e3 : r.tmps = a.tmps := by rw [hr]
    have e4 : r.assign = assign := by rw [hr]
    have e5 : r.body = body := by rw [hr]
    have e6 : r.pending = none := by rw [hr]
    have e7 : r.state = .ready := by rw [hr]
    rw [e1, e2, e3, e4, e5] at hy
    refine ⟨fn, _, assign, body, hy, roundIn_of_wpIn hfn (hassign _ pre x W _ hi ht ?_)⟩
    intro a' Wa q1 q2 q3 q4 q5
    have hka := hk.kept q1
    refine ⟨_, run_beginRound hka.loop e7, ?_⟩
    exact wpIn_mono (hbody _ pre x a' _ (hka.own hI q3 _) (hka.own hT q4 _) (hka.own (s := ()) (hAx x a') q5 _) hlen) (tells_leave (Kp := Kp) (fun h k => hKt h k) hKb hI hIx e6 e7 q2 hka)
  · rintro e W2 ⟨⟨v, rfl⟩, (⟨xs, hS, ht, hi, hk⟩ | ⟨pre, c, hi, hk⟩)⟩
    · have hl := run_endLoop (P := P) hk.loop (by rw [hr]; simp)
      have e6 : r.pending = none := by rw [hr]
      rw [e6] at hl
      exact ⟨none, _, hl, hdone _ xs _ (Nat.le_refl _) hS (hk.own hT ht _) (hk.own hI hi _) (hk.put _).block⟩
    · have hl := run_endLoop (P := P) hk.loop (by simp)
      exact ⟨some c, _, hl, hstop _ c pre _ (Nat.le_refl _) (hk.own (hIx c) hi _) (hk.put _).block⟩

/-- the same, where each round's variable lies in a box that is made anew. -/
theorem range_box {g : Operand} {ps : Array Tmp} {assign body : Code} {Q : Exit → Act → World → Prop} {a : Act} {w : World} (h1 : 1 ≤ n) {gf : Nat} {lb : Array Value} (hg : a.eval g = .func (.func gf) #[] lb) (eg : ∀ args w, (callFunc gf args).run P w = .ok (.enter gf args) w)
    {encs : α → Array Value} {S : List α → Prop} {N : Nat} {w0 : World} (hseq : Tells (n - 1) P gf lb encs Kp T S N w0)
    (hKt : ∀ {A B C : World}, Kp A B → Kp B C → Kp A C) (hKb : ∀ (W : World) (l : Nat) (o o' : Obj), W.heap[l]? = some o → o.isCells = false → Kp W (W.putObj l o')) (hKa : ∀ (W : World) (o : Obj), Kp W (W.alloc o)) (hb0 : Below w0.heap.size w0 w) (hps : ∀ x, (encs x).size = ps.size)
    (hI : OwnFrom w.heap.size I) (hIx : ∀ c, OwnFrom w.heap.size (Ix c)) (hT : OwnFrom w.heap.size T) (h0 : I [] w) (hIs : ∀ pre W, I pre W → w.heap.size ≤ W.heap.size) (r : Tmp) (t : TypeId) (cs : α → Array Value)
    (hassign : ∀ (l : Nat) (x : α) (W : World) (K : Act → World → Prop), K { tmps := ((ps.zip (encs x)).foldl (fun t (p, v) => t.setIfInBounds p v) a.tmps).setIfInBounds r (.pointer (some ⟨W.heap.size, 0, none⟩)), defers := [] } (W.alloc (.cells (cs x) t)) →
      assign.wpIn (Fence.wide.inRound l) (n - 1 - 1) P (Exit.then K (fun _ _ _ => False)) { tmps := (ps.zip (encs x)).foldl (fun t (p, v) => t.setIfInBounds p v) a.tmps, defers := [] } W)
    (hbody : ∀ (l : Nat) (pre : List α) (x : α) (f : Nat) (W : World), I pre W → T (pre ++ [x]) W → w.heap.size ≤ f → W.heap[f]? = some (.cells (cs x) t (0, 0)) → pre.length < N → body.wpIn (Fence.wide.inRound l) (n - 1 - 1) P (ownPostG w.heap.size Kp I Ix (pre ++ [x]) W) { tmps := ((ps.zip (encs x)).foldl (fun t (p, v) => t.setIfInBounds p v) a.tmps).setIfInBounds r (.pointer (some ⟨f, 0, none⟩)), defers := [] } W)
    (hdone : ∀ (D : Nat) (xs : List α) (W : World), w.heap.size ≤ D → S xs → T xs W → I xs W → W.heap[D]? = some (.deferred (some [])) → Q .normal { a with defers := { target := .collected D, args := #[] } :: a.defers } W)
    (hstop : ∀ (D : Nat) (c : Code) (pre : List α) (W : World), w.heap.size ≤ D → Ix c pre W → W.heap[D]? = some (.deferred (some [])) → c.wpIn Fence.wide n P Q { a with defers := { target := .collected D, args := #[] } :: a.defers } W) :
    (Code.rangeFunc g ps assign body).wpIn Fence.wide n P Q a w := by
  refine range_tells h1 hg eg hseq (fun h k => hKt h k) hKb hb0 hps hI hIx hT h0
    (fun x a' W => ∃ f, w.heap.size ≤ f ∧ W.heap[f]? = some (.cells (cs x) t (0, 0)) ∧ a' = { tmps := ((ps.zip (encs x)).foldl (fun t (p, v) => t.setIfInBounds p v) a.tmps).setIfInBounds r (.pointer (some ⟨f, 0, none⟩)), defers := [] })
    (fun x a' _ W W' row h hg' hr => by obtain ⟨f, q1, q2, q3⟩ := h; exact ⟨f, q1, kept_cells q2 hg' hr, q3⟩) ?_ ?_ hdone hstop
  · intro l pre x W K hi ht hK
    have hb : Below W.heap.size W (W.alloc (.cells (cs x) t)) := (Below.refl _ W).alloc (Nat.le_refl _) _
    refine hassign l x W K (hK _ _ ⟨hb.size, fun k o _ hk _ => old_block hb hk⟩ (hKa _ _) (hI.alloc _ hi) (hT.alloc _ ht) ⟨_, hIs pre W hi, heap_alloc_new W _, rfl⟩)
  · rintro l pre x a' W hi ht ⟨f, q1, q2, rfl⟩ hlen
    exact hbody l pre x f W hi ht q1 q2 hlen
end law
end Go.Proofs.Ytopfpdkknfjgoaa
