/- A range over a function within a round of another one, told what is handed over. -/
import Derived.Test.YtnjcaolkcmpdcaaUTold
namespace Go.Proofs.Ytnjcaolkcmpdcaa
open Go.RowKit Go.Shelf
set_option linter.unusedVariables false
/-- what abides, also where the blocks of S are written. -/
def Stb {α : Type} (B : Nat) (S : Nat → Prop) (J : List α → World → Prop) : Prop := OwnFrom B J ∧ ∀ s W W', J s W → Off S W W' → J s W'
/-- as Hands, of a function that writes the blocks of S itself, and whose rounds go on. -/
def HandsB {α : Type} (n : Nat) (P : Program) (g : Nat) (lb : Array Value) (encs : α → Array Value) (Kp : World → World → Prop) (T : List α → Prop) (E : List α → Prop) (N : Nat) (S : Nat → Prop) (X : World → Prop) (w : World) : Prop :=
  ∀ (l : Nat) (J : List α → World → Prop) (W : World), Below w.heap.size w W → Stb W.heap.size S J → (∀ pre W1, J pre W1 → X W1) →
    (∀ pre x W1, J pre W1 → T (pre ++ [x]) → pre.length < N → YieldAt Fence.wide (n - 1) P l (encs x) W1 fun e W' => e = .returned (.bool true) ∧ J (pre ++ [x]) W' ∧ Kp W1 W' ∧ KeepsFrom W.heap.size W1 W') →
    J [] W → CallsIn Fence.wide n P g (#[.func (.yield l) #[] #[]] ++ lb) W fun e W' => (∃ v, e = .returned v) ∧ ∃ xs, E xs ∧ T xs ∧ J xs W'
section law
variable {α : Type} {n : Nat} {P : Program} {Kp : World → World → Prop} {I : List α → World → Prop} {T : List α → Prop}
theorem off_put {S : Nat → Prop} {W : World} {l : Nat} {o : Obj} (h : S l) : Off S W (W.putObj l o) := ⟨rfl, rfl, rfl, by simp [World.putObj], fun k _ hn => by
  have : k ≠ l := fun e => hn (by rw [e]; exact h)
  simp [World.putObj, Array.getElem?_setIfInBounds_ne (Ne.symm this)]⟩
/-- how a round ends: it goes on. -/
def postN {α : Type} (B : Nat) (Kp : World → World → Prop) (I : List α → World → Prop) (xs : List α) (W : World) : Exit → Act → World → Prop
  | .normal, _, W' => KeepsFrom B W W' ∧ Kp W W' ∧ I xs W'
  | _, _, _ => False
theorem round_ends (hKt : ∀ {A B C : World}, Kp A B → Kp B C → Kp A C) (hKb : ∀ (W : World) (l : Nat) (o o' : Obj), W.heap[l]? = some o → o.isCells = false → Kp W (W.putObj l o')) {B l : Nat} {r : Loop} (hI : OwnFrom B I) (hlB : B ≤ l) (hp : r.pending = none) (hs : r.state = .ready) {xs : List α} {W0 W : World} (hW0 : Kp W0 W) (hF0 : KeepsFrom B W0 W) (hW : W.heap[l]? = some (.loop r)) :
    ∀ (e : Exit) (a : Act) (W3 : World), postN B Kp I xs (W.putObj l (.loop { r with state := .busy })) e a W3 → roundPost P l (fun e W' => e = .returned (.bool true) ∧ (I xs W' ∧ W'.heap[l]? = some (.loop r)) ∧ Kp W0 W' ∧ KeepsFrom (l + 1) W0 W') e a W3 := by
  have e0 : ({ r with state := .ready, pending := none } : Loop) = r := by cases r; simp only at hp hs; subst hp; subst hs; rfl
  have hlt := (Array.getElem?_eq_some_iff.1 hW).1
  have hb : (W.putObj l (.loop { r with state := .busy })).heap[l]? = some (.loop { r with state := .busy }) := World.putObj_heap_same hlt
  intro e a W3 hq
  cases e with
  | normal =>
    obtain ⟨hk, hkp, hi⟩ := hq
    have h3 := hk.same _ _ hlB hb rfl
    have hr := run_endRound (P := P) none h3
    simp only [Option.isNone_none, if_true] at hr
    have hx : (W3.putObj l (.loop { r with state := .ready, pending := none })).heap[l]? = some (.loop { r with state := .ready, pending := none }) := World.putObj_heap_same (Array.getElem?_eq_some_iff.1 h3).1
    rw [e0] at hr hx
    refine ⟨_, _, hr, rfl, ⟨hI.putObj _ hi hlB h3 rfl, hx⟩, hKt (hKt hW0 (hKb _ _ _ _ hW rfl)) (hKt hkp (hKb _ _ _ _ h3 rfl)), ?_⟩
    exact (((keeps_mono hF0 (by omega)).trans (keeps_put (by omega))).trans (keeps_mono hk (by omega))).trans (keeps_put (by omega))
  | ret => exact hq.elim
  | exit id => exact hq.elim
  | goto t => exact hq.elim
  | panic ch => exact hq.elim
  | outgrown => exact hq.elim
/-- the inner range. -/
theorem range_in {g : Operand} {ps : Array Tmp} {assign body : Code} {Q : Exit → Act → World → Prop} {a : Act} {w : World} {l0 : Nat} {r0 : Loop} (hl0 : w.heap[l0]? = some (.loop r0)) (h1 : 1 ≤ n) {gf : Nat} {lb : Array Value} (hg : a.eval g = .func (.func gf) #[] lb) (eg : ∀ args w, (callFunc gf args).run P w = .ok (.enter gf args) w)
    {encs : α → Array Value} {E : List α → Prop} {N : Nat} {S : Nat → Prop} {X : World → Prop} {w0 : World} (hseq : HandsB (n - 1) P gf lb encs Kp T E N S X w0) (hIX : ∀ pre W1, I pre W1 → X W1)
    (hKt : ∀ {A B C : World}, Kp A B → Kp B C → Kp A C) (hKb : ∀ (W : World) (l : Nat) (o o' : Obj), W.heap[l]? = some o → o.isCells = false → Kp W (W.putObj l o')) (hb0 : Below w0.heap.size w0 w) (hps : ∀ x, (encs x).size = ps.size)
    (hI : Stb w.heap.size S I) (hS : ∀ k, S k → k < w.heap.size) (h0 : I [] w) (Ax : α → Act → World → Prop) (hAx : ∀ x a', OwnFrom w.heap.size (fun (_ : Unit) W => Ax x a' W))
    (hassign : ∀ (l : Nat) (pre : List α) (x : α) (W : World) (K : Act → World → Prop), I pre W → T (pre ++ [x]) → (∀ a' W', KeepsFrom w.heap.size W W' → Kp W W' → I pre W' → Ax x a' W' → K a' W') → assign.wpIn (Fence.wide.inRound l) (n - 1 - 1) P (Exit.then K (fun _ _ _ => False)) { tmps := (ps.zip (encs x)).foldl (fun t (p, v) => t.setIfInBounds p v) a.tmps, defers := [] } W)
    (hbody : ∀ (l : Nat) (pre : List α) (x : α) (a' : Act) (W : World), I pre W → T (pre ++ [x]) → Ax x a' W → pre.length < N → body.wpIn (Fence.wide.inRound l) (n - 1 - 1) P (postN w.heap.size Kp I (pre ++ [x]) W) a' W)
    (hdone : ∀ (xs : List α) (W : World), E xs → T xs → I xs W → Q .normal a W) :
    (Code.rangeFunc g ps assign body).wpIn (Fence.wide.inRound l0) n P Q a w := by
  refine wpIn_rangeFunc fun fn hfn => ?_
  obtain ⟨r, hr⟩ : ∃ r : Loop, r = { state := .ready, pending := none, fn, tmps := a.tmps, params := ps, assign, body, defers := r0.defers } := ⟨_, rfl⟩
  have hent := run_enterLoop_inner (P := P) hl0 fn a.tmps ps assign body
  rw [← hr] at hent
  obtain ⟨W1, hW1⟩ : ∃ W1, W1 = w.alloc (.loop r) := ⟨_, rfl⟩
  rw [← hW1] at hent
  have hL1 : W1.heap[w.heap.size]? = some (.loop r) := by rw [hW1]; exact World.alloc_heap_new w _
  have hi1 : I [] W1 := by rw [hW1]; exact hI.1.alloc _ h0
  have hbel : Below w.heap.size w W1 := by rw [hW1]; exact (Below.refl _ w).alloc (Nat.le_refl _) _
  have hsz2 : W1.heap.size = w.heap.size + 1 := by rw [hW1]; simp
  have e6 : r.pending = none := by rw [hr]
  have e7 : r.state = .ready := by rw [hr]
  have wide : ∀ {A : World} {row : Option Nat}, (∀ k, row = some k → W1.heap.size ≤ k ∧ ∃ o : Obj, A.heap[k]? = some o ∧ o.isCells = false) → ∀ k, row = some k → w.heap.size ≤ k ∧ ∃ o : Obj, A.heap[k]? = some o ∧ o.isCells = false := fun hq k e => ⟨Nat.le_trans hbel.size (hq k e).1, (hq k e).2⟩
  refine ⟨w.heap.size, [], W1, { target := .fn (.func gf) lb, args := #[.func (.yield w.heap.size) #[] #[]] }, W1, gf, #[.func (.yield w.heap.size) #[] #[]] ++ lb, W1, hent, ?_, fun _ _ => trivial, ?_, fun _ => h1, ?_⟩
  · simp only [resolve, hg]
    simp [go_sem]
  · simp [invoke, go_sem, eg]
  refine CallsIn.inRound l0 ((hseq w.heap.size (fun pre W => I pre W ∧ W.heap[w.heap.size]? = some (.loop r)) W1 (hb0.trans (hbel.mono hb0.size)) ⟨?_, ?_⟩ (fun pre W1 h => hIX pre W1 h.1) ?_ ⟨hi1, hL1⟩).mono ?_)
  · exact fun s A A' row hs hg' hq => ⟨hI.1 s A A' row hs.1 hg' (wide hq), (hg'.block _ (Array.getElem?_eq_some_iff.1 hs.2).1 (fun e => by have := (hq _ e.symm).1; omega)).trans hs.2⟩
  · exact fun s A A' hs ho => ⟨hI.2 s A A' hs.1 ho, ho.at hs.2 (fun e => by have := hS _ e; omega)⟩
  · rintro pre x W ⟨hi, hk⟩ ht hlen
    have hy := run_yield (P := P) (args := encs x) hk (by rw [hr]; exact hps x)
    have e1 : r.fn = fn := by rw [hr]
    have e2 : r.params = ps := by rw [hr]
    have e3 : r.tmps = a.tmps := by rw [hr]
    have e4 : r.assign = assign := by rw [hr]
    have e5 : r.body = body := by rw [hr]
    rw [e1, e2, e3, e4, e5] at hy
    refine ⟨fn, _, assign, body, hy, roundIn_of_wpIn hfn (hassign _ pre x W _ hi ht ?_)⟩
    intro a' Wa q1 q2 q3 q5
    have hka := q1.same _ _ (Nat.le_refl _) hk rfl
    refine ⟨_, run_beginRound hka e7, ?_⟩
    rw [hsz2]
    exact wpIn_mono (hbody _ pre x a' _ (hI.1.putObj _ q3 (Nat.le_refl _) hka rfl) ht ((hAx x a').putObj (s := ()) _ q5 (Nat.le_refl _) hka rfl) hlen) (round_ends (Kp := Kp) (fun h k => hKt h k) hKb hI.1 (Nat.le_refl _) e6 e7 q2 q1 hka)
  · rintro e W2 ⟨⟨v, rfl⟩, xs, hE, ht, hi, hk⟩
    have hl := run_endLoop (P := P) hk (by rw [e7]; simp)
    rw [e6] at hl
    exact ⟨none, _, hl, hdone xs _ hE ht (hI.1.putObj _ hi (Nat.le_refl _) hk rfl)⟩
/-- the outer range: its body is told of its record. -/
theorem range_out {g : Operand} {ps : Array Tmp} {assign body : Code} {Q : Exit → Act → World → Prop} {a : Act} {w : World} (h1 : 1 ≤ n) {gf : Nat} {lb : Array Value} (hg : a.eval g = .func (.func gf) #[] lb) (eg : ∀ args w, (callFunc gf args).run P w = .ok (.enter gf args) w)
    {encs : α → Array Value} {E : List α → Prop} {N : Nat} {S : Nat → Prop} {X : World → Prop} {w0 : World} (hseq : HandsB (n - 1) P gf lb encs Kp T E N S X w0) (hIX : ∀ pre W1, I pre W1 → X W1)
    (hKt : ∀ {A B C : World}, Kp A B → Kp B C → Kp A C) (hKb : ∀ (W : World) (l : Nat) (o o' : Obj), W.heap[l]? = some o → o.isCells = false → Kp W (W.putObj l o')) (hb0 : Below w0.heap.size w0 w) (hps : ∀ x, (encs x).size = ps.size)
    (hI : Stb w.heap.size S I) (hS : ∀ k, S k → k < w.heap.size) (h0 : I [] w) (Ax : α → Act → World → Prop) (hAx : ∀ x a', OwnFrom w.heap.size (fun (_ : Unit) W => Ax x a' W))
    (hassign : ∀ (l : Nat) (pre : List α) (x : α) (W : World) (K : Act → World → Prop), I pre W → T (pre ++ [x]) → (∀ a' W', KeepsFrom w.heap.size W W' → Kp W W' → I pre W' → Ax x a' W' → K a' W') → assign.wpIn (Fence.wide.inRound l) (n - 1 - 1) P (Exit.then K (fun _ _ _ => False)) { tmps := (ps.zip (encs x)).foldl (fun t (p, v) => t.setIfInBounds p v) a.tmps, defers := [] } W)
    (hbody : ∀ (l : Nat) (pre : List α) (x : α) (a' : Act) (W : World), w.heap.size ≤ l → (∃ r, W.heap[l]? = some (.loop r)) → I pre W → T (pre ++ [x]) → Ax x a' W → pre.length < N → body.wpIn (Fence.wide.inRound l) (n - 1 - 1) P (postN w.heap.size Kp I (pre ++ [x]) W) a' W)
    (hdone : ∀ (D : Nat) (xs : List α) (W : World), w.heap.size ≤ D → E xs → T xs → I xs W → W.heap[D]? = some (.deferred (some [])) → Q .normal { a with defers := { target := .collected D, args := #[] } :: a.defers } W) :
    (Code.rangeFunc g ps assign body).wpIn Fence.wide n P Q a w := by
  refine wpIn_rangeFunc fun fn hfn => ?_
  obtain ⟨r, hr⟩ : ∃ r : Loop, r = { state := .ready, pending := none, fn, tmps := a.tmps, params := ps, assign, body, defers := w.heap.size } := ⟨_, rfl⟩
  have hent := run_enterLoop_outer (P := P) (w := w) fn a.tmps ps assign body
  rw [← hr] at hent
  obtain ⟨W1, hW1⟩ : ∃ W1, W1 = (w.alloc (.deferred (some []))).alloc (.loop r) := ⟨_, rfl⟩
  rw [← hW1] at hent
  have hk1 : Bk w.heap.size r W1 := by
    have q1 := World.alloc_heap_new w (.deferred (some []))
    have q2 := World.alloc_heap_new (w.alloc (.deferred (some []))) (.loop r)
    rw [World.size_alloc] at q2
    rw [hW1]
    exact ⟨(Below.heap_alloc _ _ _ (by simp)).trans q1, q2⟩
  have hi1 : I [] W1 := by rw [hW1]; exact hI.1.alloc _ (hI.1.alloc _ h0)
  have hbel : Below w.heap.size w W1 := by rw [hW1]; exact ((Below.refl _ w).alloc (Nat.le_refl _) _).alloc (by simp) _
  have hsz2 : W1.heap.size = w.heap.size + 1 + 1 := by rw [hW1]; simp
  have e6 : r.pending = none := by rw [hr]
  have e7 : r.state = .ready := by rw [hr]
  have wide : ∀ {A : World} {row : Option Nat}, (∀ k, row = some k → W1.heap.size ≤ k ∧ ∃ o : Obj, A.heap[k]? = some o ∧ o.isCells = false) → ∀ k, row = some k → w.heap.size ≤ k ∧ ∃ o : Obj, A.heap[k]? = some o ∧ o.isCells = false := fun hq k e => ⟨Nat.le_trans hbel.size (hq k e).1, (hq k e).2⟩
  refine ⟨w.heap.size + 1, [{ target := .collected w.heap.size, args := #[] }], W1, { target := .fn (.func gf) lb, args := #[.func (.yield (w.heap.size + 1)) #[] #[]] }, W1, gf, #[.func (.yield (w.heap.size + 1)) #[] #[]] ++ lb, W1, hent, ?_, fun _ _ => trivial, ?_, fun _ => h1, ?_⟩
  · simp only [resolve, hg]
    simp [go_sem]
  · simp [invoke, go_sem, eg]
  refine (hseq (w.heap.size + 1) (fun pre W => I pre W ∧ Bk w.heap.size r W) W1 (hb0.trans (hbel.mono hb0.size)) ⟨?_, ?_⟩ (fun pre W1 h => hIX pre W1 h.1) ?_ ⟨hi1, hk1⟩).mono ?_
  · exact fun s A A' row hs hg' hq => ⟨hI.1 s A A' row hs.1 hg' (wide hq), hs.2.grown hg' (fun k e => by have := (hq k e).1; omega)⟩
  · exact fun s A A' hs ho => ⟨hI.2 s A A' hs.1 ho, ho.at hs.2.block (fun e => by have := hS _ e; omega), ho.at hs.2.loop (fun e => by have := hS _ e; omega)⟩
  · rintro pre x W ⟨hi, hk⟩ ht hlen
    have hy := run_yield (P := P) (args := encs x) hk.loop (by rw [hr]; exact hps x)
    have e1 : r.fn = fn := by rw [hr]
    have e2 : r.params = ps := by rw [hr]
    have e3 : r.tmps = a.tmps := by rw [hr]
    have e4 : r.assign = assign := by rw [hr]
    have e5 : r.body = body := by rw [hr]
    rw [e1, e2, e3, e4, e5] at hy
    refine ⟨fn, _, assign, body, hy, roundIn_of_wpIn hfn (hassign _ pre x W _ hi ht ?_)⟩
    intro a' Wa q1 q2 q3 q5
    have hka := hk.kept q1
    refine ⟨_, run_beginRound hka.loop e7, ?_⟩
    rw [hsz2]
    refine wpIn_mono (hbody _ pre x a' _ (by omega) ⟨_, (hka.put _).loop⟩ (hka.own hI.1 q3 _) ht (hka.own (s := ()) (hAx x a') q5 _) hlen) ?_
    intro e a3 W3 hq
    cases e with
    | normal =>
      obtain ⟨hk3, hkp, hi3⟩ := hq
      have hb3 := (hka.put { r with state := .busy }).kept hk3
      have e0 : ({ r with state := .ready, pending := none } : Loop) = r := by cases r; simp only at e6 e7; subst e6; subst e7; rfl
      have hr3 := run_endRound (P := P) none hb3.loop
      simp only [Option.isNone_none, if_true] at hr3
      have hx := hb3.put { r with state := .ready, pending := none }
      rw [e0] at hr3 hx
      refine ⟨_, _, hr3, rfl, ⟨hb3.own hI.1 hi3 _, hx⟩, hKt (hKt q2 (hKb _ _ _ _ hka.loop rfl)) (hKt hkp (hKb _ _ _ _ hb3.loop rfl)), ?_⟩
      exact (((keeps_mono q1 (by omega)).trans (keeps_put (by omega))).trans (keeps_mono hk3 (by omega))).trans (keeps_put (by omega))
    | ret => exact hq.elim
    | exit id => exact hq.elim
    | goto t => exact hq.elim
    | panic ch => exact hq.elim
    | outgrown => exact hq.elim
  · rintro e W2 ⟨⟨v, rfl⟩, xs, hE, ht, hi, hk⟩
    have hl := run_endLoop (P := P) hk.loop (by rw [e7]; simp)
    rw [e6] at hl
    exact ⟨none, _, hl, hdone _ xs _ (Nat.le_refl _) hE ht (hk.own hI.1 hi _) (hk.put _).block⟩
end law
end Go.Proofs.Ytnjcaolkcmpdcaa
