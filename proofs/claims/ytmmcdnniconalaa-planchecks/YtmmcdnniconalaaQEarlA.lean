/- What the walk of earliest holds: arrivals and marks in memory; what is left behind a function's marks. -/
import Derived.Test.YtmmcdnniconalaaQUs
import Derived.Scope
namespace Go.Proofs.Ytmmcdnniconalaa
open Go.RowKit Go.Shelf
set_option linter.unusedVariables false

theorem alloc2w (w : World) (a b : Obj) : ∃ W0, W0 = ((w.alloc a).alloc b) ∧ W0.heap.size = w.heap.size + 2 ∧ Below w.heap.size w W0 ∧ W0.heap[w.heap.size]? = some a ∧ W0.heap[w.heap.size + 1]? = some b := by
  refine ⟨_, rfl, by simp, ?_, ?_, ?_⟩
  · exact ((Below.refl _ w).alloc (Nat.le_refl _) _).alloc (by simp) _
  all_goals (show ((w.heap.push a).push b)[_]? = _; simp only [Array.getElem?_push, Array.size_push]; repeat (first | (rw [if_neg (by omega)]) | (rw [if_pos trivial]) | (rw [if_pos rfl])))
/-- seven numbers, seven truths in a block. -/
def wc (V : List Int) : Array Value := #[.int .i64 (gt V 0), .int .i64 (gt V 1), .int .i64 (gt V 2), .int .i64 (gt V 3), .int .i64 (gt V 4), .int .i64 (gt V 5), .int .i64 (gt V 6)]
def bc (S : List Bool) : Array Value := #[.bool (gb S 0), .bool (gb S 1), .bool (gb S 2), .bool (gb S 3), .bool (gb S 4), .bool (gb S 5), .bool (gb S 6)]
theorem wc_at {V : List Int} {v : Nat} (hv : v < 7) : (wc V)[v]? = some (.int .i64 (gt V v)) := by
  rcases v with _ | _ | _ | _ | _ | _ | _ | v
  · rfl
  · rfl
  · rfl
  · rfl
  · rfl
  · rfl
  · rfl
  · omega
theorem bc_at {S : List Bool} {v : Nat} (hv : v < 7) : (bc S)[v]? = some (.bool (gb S v)) := by
  rcases v with _ | _ | _ | _ | _ | _ | _ | v
  · rfl
  · rfl
  · rfl
  · rfl
  · rfl
  · rfl
  · rfl
  · omega
theorem wc_set {V : List Int} {u : Nat} (hu : u < 7) (hl : V.length = 7) (x : Int) : (wc V).setIfInBounds u (.int .i64 x) = wc (V.set u x) := by
  have hg : ∀ v, gt (V.set u x) v = if v = u then x else gt V v := fun v => gt_set (by omega)
  unfold wc
  simp only [hg]
  rcases u with _ | _ | _ | _ | _ | _ | _ | u
  · rfl
  · rfl
  · rfl
  · rfl
  · rfl
  · rfl
  · rfl
  · omega
theorem bc_set {S : List Bool} {u : Nat} (hu : u < 7) (hl : S.length = 7) (x : Bool) : (bc S).setIfInBounds u (.bool x) = bc (S.set u x) := by
  have hg : ∀ v, gb (S.set u x) v = if v = u then x else gb S v := fun v => gb_set (by omega)
  unfold bc
  simp only [hg]
  rcases u with _ | _ | _ | _ | _ | _ | _ | u
  · rfl
  · rfl
  · rfl
  · rfl
  · rfl
  · rfl
  · rfl
  · omega
/-- one of seven numbers, by its place. -/
theorem index7 {V : List Int} {j : Nat} (hj : j < 7) (w : World) : Sem.run Try.prog (Instr.index 51 (.agg (wc V)) (.int .i64 (j : Nat))) w = .ok (.int .i64 (gt V j)) w := by
  have hsz : (Try.prog.info? 3).map (·.size) = some 1 := by kernel_rfl
  cases h1 : Try.prog.info? 3 with
  | none => simp [h1] at hsz
  | some it =>
    simp only [h1, Option.map_some, Option.some.injEq] at hsz
    have hl : (0 : Int) ≤ (j : Int) ∧ (j : Int) < 7 := by omega
    have hc := wc_at (V := V) hj
    simp [Instr.index, run_underlying Try.underlying51, run_underlying Try.underlying3, asIntOf, sizeOf, typeInfo, h1, hsz, part, isAgg, hc, hj, go_sem]
/-- a scope that is left by no goto, inside a fence. -/
theorem scope_in {F : Fence} {n : Nat} {P : Program} {Q : Exit → Act → World → Prop} {a : Act} {w : World} {c : Code} (h : c.wpIn F n P (Exit.noGoto Q) a w) : (Code.scope c).wpIn F n P Q a w := by
  intro b k cs hro hb hr
  have s1 : ∀ a w, step P (lone (b.atR a (.code (.scope c) :: k)) cs w) = .next (lone (b.atR a (.code c :: .inScope c :: k)) cs w) := fun a w => step_lone_go (by simp [stepG, stepG.exec, Frame.atR])
  have s2 : ∀ a w, step P (lone (b.atR a (.inScope c :: k)) cs w) = .next (lone (b.atR a k) cs w) := fun a w => step_lone_go (by simp [stepG, stepG.exec, Frame.atR])
  have h0 : (lone (b.atR a (.code (.scope c) :: k)) cs w).fenced P F := fenced_calm hb hr rfl
  obtain ⟨e, a₁, w₁, hq, harr⟩ := h b (.inScope c :: k) cs hro hb hr
  have hx : ∀ id, exitTo id (.inScope c :: k) = exitTo id k := fun id => by simp [exitTo]
  match e, hq, harr with
  | .normal, hq, harr => exact ⟨.normal, a₁, w₁, hq, .head h0 (s1 a w) (StepsIn.trans harr (.one (fenced_calm hb hr rfl) (s2 a₁ w₁)))⟩
  | .exit id, hq, harr => exact ⟨.exit id, a₁, w₁, hq, fun k' hk => .head h0 (s1 a w) (harr.1 k' (by rw [hx]; exact hk)), fun hr' hk => let ⟨k₁, q1, q2⟩ := harr.2 hr' (by rw [hx]; exact hk); ⟨k₁, q1, .head h0 (s1 a w) q2⟩⟩
  | .goto l, hq, _ => exact hq.elim
  | .ret, hq, harr => exact ⟨.ret, a₁, w₁, hq, .of_steps (.one h0 (s1 a w)) harr⟩
  | .panic ch, hq, harr => exact ⟨.panic ch, a₁, w₁, hq, .of_steps (.one h0 (s1 a w)) harr⟩
  | .outgrown, hq, harr => exact ⟨.outgrown, a₁, w₁, hq, .of_steps (.one h0 (s1 a w)) harr⟩
/-- a mark among a function's deferred calls. -/
def mrk (D : Nat) : Deferred := { target := .collected D, args := #[] }
/-- a function with marks alone leaves. -/
theorem leaves_marks {n : Nat} {P : Program} {fn : Func} {tmps : Array Value} {R : Ending → World → Prop} : ∀ (Ds : List Nat) (W : World), Ds.Nodup → (∀ D ∈ Ds, W.heap[D]? = some (.deferred (some []))) →
    (∀ W', Off (fun k => k ∈ Ds) W W' → ∃ v, (results fn tmps).run P W' = .ok v W' ∧ R (.returned v) W') → LeavesInM Fence.wide n P fn tmps R (Ds.map mrk) .returning W
  | [], W, _, _, h => h W (Off.refl _ W)
  | D :: r, W, hn, hm, h => by
    refine ⟨by simp, .inl ⟨D, _, rfl, run_takeDeferred (hm D List.mem_cons_self), ?_⟩⟩
    rw [List.nodup_cons] at hn
    refine leaves_marks r _ hn.2 (fun E hE => ?_) (fun W' hW' => h W' ?_)
    · rw [World.putObj_heap_other (fun e => by subst e; exact hn.1 hE)]
      exact hm E (List.mem_cons_of_mem _ hE)
    · exact ((put_def (W := W) (D := D) (o := .deferred none)).mono (fun i _ e => by rw [e]; exact List.mem_cons_self)).trans hW' (fun i _ hi => List.mem_cons_of_mem _ hi)
/-- what lies in memory between two rounds. -/
structure EI (w : World) (s : Array Value) (V : List Int) (S : List Bool) (Ds : List Nat) (W : World) : Prop where
  sb : W.heap[w.heap.size]? = some (.cells s 48 (0, 0))
  wb : W.heap[w.heap.size + 1]? = some (.cells (wc V) 51 (0, 0))
  tb : W.heap[w.heap.size + 1 + 1]? = some (.cells (bc S) 66 (0, 0))
  bel : Below w.heap.size w W
  mks : ∀ D ∈ Ds, W.heap[D]? = some (.deferred (some []))
  nd : Ds.Nodup
  ge : ∀ D ∈ Ds, w.heap.size ≤ D
theorem EI.later {w W W' : World} {s : Array Value} {V : List Int} {S : List Bool} {Ds : List Nat} (h : EI w s V S Ds W) (hb : Below W.heap.size W W') : EI w s V S Ds W' :=
  ⟨old_block hb h.sb, old_block hb h.wb, old_block hb h.tb, below_of h.bel hb, fun D hD => old_block hb (h.mks D hD), h.nd, h.ge⟩
theorem EI.grown {w W W' : World} {s : Array Value} {V : List Int} {S : List Bool} {Ds : List Nat} {B : Nat} {row : Option Nat} (h : EI w s V S Ds W) (hB : w.heap.size ≤ B) (hD : ∀ D ∈ Ds, D < B) (hg : W.grownBy W' row) (hr : ∀ r, row = some r → B ≤ r ∧ ∃ o : Obj, W.heap[r]? = some o ∧ o.isCells = false) : EI w s V S Ds W' :=
  ⟨kept_cells h.sb hg hr, kept_cells h.wb hg hr, kept_cells h.tb hg hr, h.bel.grown hg h.bel.size (fun k e => by have := (hr k e).1; omega), fun D hm => by
    rw [hg.block D (Array.getElem?_eq_some_iff.1 (h.mks D hm)).1 (fun e => by have := (hr D e.symm).1; have := hD D hm; omega)]
    exact h.mks D hm, h.nd, h.ge⟩
theorem set_heap {W : World} {b u : Nat} {C : Array Value} {t : TypeId} (h : W.heap[b]? = some (.cells C t (0, 0))) (x : Value) : (W.setCell ⟨b, u, none⟩ x).heap[b]? = some (.cells (C.setIfInBounds u x) t (0, 0)) := heap_setCell_same _ _ _ _ _ _ h
/-- an arrival is written. -/
theorem EI.setw {w W : World} {s : Array Value} {V : List Int} {S : List Bool} {Ds : List Nat} (h : EI w s V S Ds W) {u : Nat} (hu : u < 7) (hl : V.length = 7) (x : Int) : EI w s (V.set u x) S Ds (W.setCell ⟨w.heap.size + 1, u, none⟩ (.int .i64 x)) := by
  have ho : Off (fun k => k = w.heap.size + 1) W (W.setCell ⟨w.heap.size + 1, u, none⟩ (.int .i64 x)) := (Off.refl (fun k => k = w.heap.size + 1) W).setCell (p := ⟨w.heap.size + 1, u, none⟩) (.inr rfl) _
  refine ⟨ho.at h.sb (by omega), ?_, ho.at h.tb (by omega), h.bel.setCell (p := ⟨w.heap.size + 1, u, none⟩) (by show _ ≤ w.heap.size + 1; omega) _, fun D hD => ho.at (h.mks D hD) (fun e => ?_), h.nd, h.ge⟩
  · rw [set_heap h.wb, wc_set hu hl]
  · have := h.mks D hD; rw [e, h.wb] at this; cases this
/-- a node is settled. -/
theorem EI.sett {w W : World} {s : Array Value} {V : List Int} {S : List Bool} {Ds : List Nat} (h : EI w s V S Ds W) {u : Nat} (hu : u < 7) (hl : S.length = 7) : EI w s V (S.set u true) Ds (W.setCell ⟨w.heap.size + 1 + 1, u, none⟩ (.bool true)) := by
  have ho : Off (fun k => k = w.heap.size + 1 + 1) W (W.setCell ⟨w.heap.size + 1 + 1, u, none⟩ (.bool true)) := (Off.refl (fun k => k = w.heap.size + 1 + 1) W).setCell (p := ⟨w.heap.size + 1 + 1, u, none⟩) (.inr rfl) _
  refine ⟨ho.at h.sb (by omega), ho.at h.wb (by omega), ?_, h.bel.setCell (p := ⟨w.heap.size + 1 + 1, u, none⟩) (by show _ ≤ w.heap.size + 1 + 1; omega) _, fun D hD => ho.at (h.mks D hD) (fun e => ?_), h.nd, h.ge⟩
  · rw [set_heap h.tb, bc_set hu hl]
  · have := h.mks D hD; rw [e, h.tb] at this; cases this
/-- a box is written that is none of these. -/
theorem EI.setb {w W : World} {s : Array Value} {V : List Int} {S : List Bool} {Ds : List Nat} (h : EI w s V S Ds W) {b u : Nat} (hb : w.heap.size + 3 ≤ b) {C : Array Value} {t : TypeId} (hc : W.heap[b]? = some (.cells C t (0, 0))) (x : Value) : EI w s V S Ds (W.setCell ⟨b, u, none⟩ x) := by
  have ho : Off (fun k => k = b) W (W.setCell ⟨b, u, none⟩ x) := (Off.refl (fun k => k = b) W).setCell (p := ⟨b, u, none⟩) (.inr rfl) _
  refine ⟨ho.at h.sb (by omega), ho.at h.wb (by omega), ho.at h.tb (by omega), h.bel.setCell (p := ⟨b, u, none⟩) (by show _ ≤ b; omega) _, fun D hD => ho.at (h.mks D hD) (fun e => ?_), h.nd, h.ge⟩
  have := h.mks D hD; rw [e, hc] at this; cases this
theorem EI.wcell {w W : World} {s : Array Value} {V : List Int} {S : List Bool} {Ds : List Nat} (h : EI w s V S Ds W) {v : Nat} (hv : v < 7) : W.cell? ⟨w.heap.size + 1, v, none⟩ = some (.int .i64 (gt V v)) := by rw [cell_of h.wb, wc_at hv]
theorem EI.tcell {w W : World} {s : Array Value} {V : List Int} {S : List Bool} {Ds : List Nat} (h : EI w s V S Ds W) {v : Nat} (hv : v < 7) : W.cell? ⟨w.heap.size + 1 + 1, v, none⟩ = some (.bool (gb S v)) := by rw [cell_of h.tb, bc_at hv]
theorem marks_below {w W W' : World} {s : Array Value} {V : List Int} {S : List Bool} {Ds : List Nat} (h : EI w s V S Ds W) (ho : Off (fun k => k ∈ Ds) W W') : Below w.heap.size w W' :=
  h.bel.trans (ho.below h.bel.size (fun i hi => h.ge i hi))
/-- where the rounds begin. -/
theorem earl_begin {w wr : World} {V : List Int} {s : Array Value} {u : Nat} {t : Int} (h : V.length = 7 ∧ (∀ v, v < 7 → gt V v = nvr) ∧ wr.heap[w.heap.size]? = some (.cells s 48 (0, 0)) ∧ wr.heap[w.heap.size + 1]? = some (.cells (wc V) 51 (0, 0)) ∧ Below w.heap.size w wr ∧ wr.heap.size = w.heap.size + 2) (hu : u < 7) :
    EI w s ((List.replicate 7 nvr).set u t) (List.replicate 7 false) [] ((wr.setCell ⟨w.heap.size + 1, u, none⟩ (.int .i64 t)).alloc (.cells #[.bool false, .bool false, .bool false, .bool false, .bool false, .bool false, .bool false] 66)) := by
  obtain ⟨q1, q2, q3, q4, q5, q6⟩ := h
  have hV : wc V = wc (List.replicate 7 nvr) := by
    unfold wc
    rw [q2 0 (by omega), q2 1 (by omega), q2 2 (by omega), q2 3 (by omega), q2 4 (by omega), q2 5 (by omega), q2 6 (by omega)]
    rfl
  rw [hV] at q4
  have hsz : (wr.setCell ⟨w.heap.size + 1, u, none⟩ (.int .i64 t)).heap.size = w.heap.size + 1 + 1 := by rw [show w.heap.size + 1 + 1 = wr.heap.size from q6.symm]; simp [World.setCell]
  have hb : Below (wr.setCell ⟨w.heap.size + 1, u, none⟩ (.int .i64 t)).heap.size (wr.setCell ⟨w.heap.size + 1, u, none⟩ (.int .i64 t)) ((wr.setCell ⟨w.heap.size + 1, u, none⟩ (.int .i64 t)).alloc (.cells #[.bool false, .bool false, .bool false, .bool false, .bool false, .bool false, .bool false] 66)) := (Below.refl _ _).alloc (Nat.le_refl _) _
  refine ⟨old_block hb ?_, old_block hb ?_, ?_, below_of (q5.setCell (p := ⟨w.heap.size + 1, u, none⟩) (by show _ ≤ w.heap.size + 1; omega) _) hb, by simp, by simp, by simp⟩
  · rw [Below.heap_setCell _ _ _ _ (by show _ ≠ w.heap.size + 1; omega)]; exact q3
  · rw [set_heap q4, wc_set hu (by simp)]
  · have := heap_alloc_new (wr.setCell ⟨w.heap.size + 1, u, none⟩ (.int .i64 t)) (.cells #[.bool false, .bool false, .bool false, .bool false, .bool false, .bool false, .bool false] 66)
    rw [hsz] at this
    exact this
theorem EI.mark {w W : World} {s : Array Value} {V : List Int} {S : List Bool} {Ds : List Nat} {D : Nat} (h : EI w s V S Ds W) (hD : W.heap[D]? = some (.deferred (some []))) (hn : D ∉ Ds) (hg : w.heap.size ≤ D) : EI w s V S (D :: Ds) W :=
  ⟨h.sb, h.wb, h.tb, h.bel, fun E hE => by rcases List.mem_cons.1 hE with rfl | hE; exact hD; exact h.mks E hE, List.nodup_cons.2 ⟨hn, h.nd⟩, fun E hE => by rcases List.mem_cons.1 hE with rfl | hE; exact hg; exact h.ge E hE⟩
/-- what is read while a contact is gone by stays. -/
theorem earl_held {W w1 : World} {p : Addr} {f : Nat} {v v0 v1 v2 v3 v4 v5 : Value} (h : W.cell? p = some v ∧ W.cell? ⟨f, 0, none⟩ = some v0 ∧ W.cell? ⟨f, 1, none⟩ = some v1 ∧ W.cell? ⟨f, 2, none⟩ = some v2 ∧ W.cell? ⟨f, 3, none⟩ = some v3 ∧ W.cell? ⟨f, 4, none⟩ = some v4 ∧ W.cell? ⟨f, 5, none⟩ = some v5) (hb : Below W.heap.size W w1) : w1.cell? p = some v ∧ w1.cell? ⟨f, 0, none⟩ = some v0 ∧ w1.cell? ⟨f, 1, none⟩ = some v1 ∧ w1.cell? ⟨f, 2, none⟩ = some v2 ∧ w1.cell? ⟨f, 3, none⟩ = some v3 ∧ w1.cell? ⟨f, 4, none⟩ = some v4 ∧ w1.cell? ⟨f, 5, none⟩ = some v5 :=
  ⟨cell_later hb h.1, cell_later hb h.2.1, cell_later hb h.2.2.1, cell_later hb h.2.2.2.1, cell_later hb h.2.2.2.2.1, cell_later hb h.2.2.2.2.2.1, cell_later hb h.2.2.2.2.2.2⟩
theorem earl_held2 {W : World} {q f b u : Nat} {v v0 v1 v2 v3 v4 v5 x : Value} (h : W.cell? ⟨q, 0, none⟩ = some v ∧ W.cell? ⟨f, 0, none⟩ = some v0 ∧ W.cell? ⟨f, 1, none⟩ = some v1 ∧ W.cell? ⟨f, 2, none⟩ = some v2 ∧ W.cell? ⟨f, 3, none⟩ = some v3 ∧ W.cell? ⟨f, 4, none⟩ = some v4 ∧ W.cell? ⟨f, 5, none⟩ = some v5) (hq : q ≠ b) (hf : f ≠ b) : (W.setCell ⟨b, u, none⟩ x).cell? ⟨q, 0, none⟩ = some v ∧ (W.setCell ⟨b, u, none⟩ x).cell? ⟨f, 0, none⟩ = some v0 ∧ (W.setCell ⟨b, u, none⟩ x).cell? ⟨f, 1, none⟩ = some v1 ∧ (W.setCell ⟨b, u, none⟩ x).cell? ⟨f, 2, none⟩ = some v2 ∧ (W.setCell ⟨b, u, none⟩ x).cell? ⟨f, 3, none⟩ = some v3 ∧ (W.setCell ⟨b, u, none⟩ x).cell? ⟨f, 4, none⟩ = some v4 ∧ (W.setCell ⟨b, u, none⟩ x).cell? ⟨f, 5, none⟩ = some v5 := by
  have ho : Off (fun k => k = b) W (W.setCell ⟨b, u, none⟩ x) := (Off.refl (fun k => k = b) W).setCell (p := ⟨b, u, none⟩) (.inr rfl) _
  exact ⟨ho.cell h.1 hq, ho.cell h.2.1 hf, ho.cell h.2.2.1 hf, ho.cell h.2.2.2.1 hf, ho.cell h.2.2.2.2.1 hf, ho.cell h.2.2.2.2.2.1 hf, ho.cell h.2.2.2.2.2.2 hf⟩
/-- between two contacts of the nearest node. -/
structure GI (w wq W3 : World) (X : List Ct) (L : List Int) (need : Int) (s : Array Value) (V : List Int) (S : List Bool) (Ds : List Nat) (near : Nat) (pre : List (Nat × Ct)) (W : World) : Prop where
  ex : ∃ V', Stp X L need V near pre V' ∧ EI w s V' S Ds W
  nb : W.heap[wq.heap.size]? = some (.cells #[.int .i64 (near : Nat)] 3 (0, 0))
  ge : W3.heap.size ≤ W.heap.size
theorem GI.own {w wq W3 : World} {X : List Ct} {L : List Int} {need : Int} {s : Array Value} {V : List Int} {S : List Bool} {Ds : List Nat} {near : Nat} (hw : w.heap.size ≤ W3.heap.size) (hD : ∀ D ∈ Ds, D < W3.heap.size) : OwnFrom W3.heap.size (GI w wq W3 X L need s V S Ds near) := fun pre A B row h hg hr => by
  obtain ⟨V', h1, h2⟩ := h.ex
  exact ⟨⟨V', h1, h2.grown hw hD hg hr⟩, kept_cells h.nb hg hr, Nat.le_trans h.ge hg.size⟩
theorem GI.alloc {w wq W3 W : World} {X : List Ct} {L : List Int} {need : Int} {s : Array Value} {V : List Int} {S : List Bool} {Ds : List Nat} {near : Nat} {pre : List (Nat × Ct)} (h : GI w wq W3 X L need s V S Ds near pre W) (o : Obj) : GI w wq W3 X L need s V S Ds near pre (W.alloc o) := by
  have hb : Below W.heap.size W (W.alloc o) := (Below.refl _ W).alloc (Nat.le_refl _) _
  obtain ⟨V', h1, h2⟩ := h.ex
  exact ⟨⟨V', h1, h2.later hb⟩, old_block hb h.nb, Nat.le_trans h.ge hb.size⟩
/-- a contact is gone by. -/
theorem GI.next {w wq W3 W w1 : World} {n : Int} {X : List Ct} {L : List Int} {need : Int} {s : Array Value} {V V' : List Int} {S : List Bool} {Ds : List Nat} {near i : Nat} {c : Ct} {l : Int} {pre : List (Nat × Ct)} (hX : OkX n X) (h : GI w wq W3 X L need s V S Ds near pre W) (h1 : Stp X L need V near pre V') (h2 : EI w s V' S Ds W) (hq : w.heap.size + 3 ≤ wq.heap.size)
    (hc : X[i]? = some c) (hl : L[i]? = some l) (hn : need ≤ l) (hf : c.frm.toNat = near) (hb : Below W.heap.size W w1) (B : Nat) :
    KeepsFrom B W (w1.setCell ⟨w.heap.size + 1, c.to.toNat, none⟩ (.int .i64 (min (gt V' c.to.toNat) (arr c (gt V' near))))) ∧ KpT (fun k => k = w.heap.size + 1) W (w1.setCell ⟨w.heap.size + 1, c.to.toNat, none⟩ (.int .i64 (min (gt V' c.to.toNat) (arr c (gt V' near))))) ∧
      GI w wq W3 X L need s V S Ds near (pre ++ [(i, c)]) (w1.setCell ⟨w.heap.size + 1, c.to.toNat, none⟩ (.int .i64 (min (gt V' c.to.toNat) (arr c (gt V' near))))) := by
  have ho : Off (fun k => k = w.heap.size + 1) w1 (w1.setCell ⟨w.heap.size + 1, c.to.toNat, none⟩ (.int .i64 (min (gt V' c.to.toNat) (arr c (gt V' near))))) := (Off.refl (fun k => k = w.heap.size + 1) w1).setCell (p := ⟨w.heap.size + 1, c.to.toNat, none⟩) (.inr rfl) _
  have hto := ((hX.each _ _ hc).fi hX.n6).2.1
  refine ⟨(keeps_below hb).trans ((KeepsOthers.setCell _ _ _).from B), (KpT.of_below hb).trans (KpT.of_off ho (fun _ _ _ _ _ e => e)), ⟨_, h1.next hX hc hl hn hf, (h2.later hb).setw hto h1.vl _⟩, ho.at (old_block hb h.nb) (by omega), ?_⟩
  exact Nat.le_trans (Nat.le_trans h.ge hb.size) ho.size
end Go.Proofs.Ytmmcdnniconalaa
