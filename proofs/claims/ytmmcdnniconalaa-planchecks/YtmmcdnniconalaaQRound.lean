/- A region that draws its order, in a round, with a call of the loop's own yield in it: a condition on the world is held; what reads is taken first. -/
import Derived.Test.YtmmcdnniconalaaQIter
namespace Go.Proofs.Ytmmcdnniconalaa
open Go.RowKit Go.Shelf
set_option linter.unusedVariables false

section
variable {n l : Nat} {P : Program} {md : Region.Mode} {ops : Array Oper} {Q : Exit → Act → World → Prop} {S : World → Prop}
/-- in whatever order; S holds behind each operation. -/
def anyR (n l : Nat) (P : Program) (md : Region.Mode) (ops : Array Oper) (Q : Exit → Act → World → Prop) (S : World → Prop) : Nat → Array Bool → Act → World → Prop
  | 0, listed, a, w => Region.ready md ops listed = [] ∧ Q .normal a w
  | fuel + 1, listed, a, w => (Region.ready md ops listed = [] → Q .normal a w) ∧
    ∀ i ∈ Region.ready md ops listed, wpOpIn (Fence.wide.inRound l) n P ops Q i (fun a' w' => S w' ∧ anyR n l P md ops Q S fuel (listed.setIfInBounds i true) a' w') a w
theorem anyR_in : ∀ (fuel : Nat) (listed : Array Bool) (a : Act) (w : World), anyR n l P md ops Q S fuel listed a w → wpAnyIn (Fence.wide.inRound l) n P md ops Q fuel listed a w
  | 0, _, _, _, h => h
  | fuel + 1, _, _, _, h => ⟨h.1, fun i hi => wpOpIn_mono (fun a' w' q => anyR_in fuel _ a' w' q.2) (h.2 i hi)⟩
/-- an operation of this fence is carried out as everywhere, if it is no defer. -/
theorem wpR_eq {o : Oper} (hd : ∀ c, o.op ≠ .defer c) {a : Act} {w : World} {K : Act → World → Prop} : o.wpIn (Fence.wide.inRound l) n P a w K Q ↔ o.uponIn (Fence.wide.inRound l) n P a K Q ((execOp a.eval o).run P w) := by
  unfold Oper.wpIn
  rw [Oper.semAt_eq _ _ _ hd]
  exact ⟨fun h => h.2, fun h => ⟨fun _ _ => trivial, h⟩⟩
theorem wpR_one {i : Nat} {o : Oper} {v : Value} {a : Act} (hd : ∀ c, o.op ≠ .defer c) (hi : ops[i]? = some o) (hy : YieldsIf P ops S o v a) {K : Act → World → Prop} {w : World} (hS : S w) (h : K (a.put o.dst v) w) : wpOpIn (Fence.wide.inRound l) n P ops Q i K a w := by
  unfold wpOpIn
  rw [hi]
  rcases hy with ⟨hw, hv⟩ | ⟨hw, rfl⟩
  · simp only [hw, if_true]
    rw [wpR_eq hd, hv w hS]
    exact h
  · simp only [hw, Bool.false_eq_true, if_false]
    exact ⟨fun _ _ => trivial, h⟩
/-- another operation goes alike, whether the value lies there already or not. -/
theorem wpR_put {j : Nat} {oi oj : Oper} {v : Value} (hdj : ∀ c, oj.op ≠ .defer c) (hj : ops[j]? = some oj) (hap : oi.apart ops oj = true) (hsi : ∀ cs b, oi.op ≠ .select cs b) (hsj : ∀ cs b, oj.op ≠ .select cs b)
    (hQ : ∀ c a w, Q (.panic c) (a.put oi.dst v) w → Q (.panic c) a w) {K : Act → World → Prop} {a : Act} {w : World} (hy : YieldsIf P ops S oi v a) (h : wpOpIn (Fence.wide.inRound l) n P ops Q j K (a.put oi.dst v) w) :
    wpOpIn (Fence.wide.inRound l) n P ops Q j (fun a' w' => YieldsIf P ops S oi v a' ∧ K (a'.put oi.dst v) w') a w := by
  obtain ⟨q1, q2, q3⟩ := Oper.apart_spec hap
  have keep : ∀ u, YieldsIf P ops S oi v (a.put oj.dst u) := fun u => hy.of_same (execOp_put oi hsi a oj.dst u q3) (wanted_put oi a oj.dst u q3)
  have turn : ∀ (u : Value) (w' : World), K ((a.put oi.dst v).put oj.dst u) w' → YieldsIf P ops S oi v (a.put oj.dst u) ∧ K ((a.put oj.dst u).put oi.dst v) w' := fun u w' hk => ⟨keep u, by rw [← Act.put_comm a v u q2]; exact hk⟩
  unfold wpOpIn at h ⊢
  rw [hj] at h ⊢
  simp only at h ⊢
  rw [wanted_put oj a oi.dst v q1] at h
  by_cases hw : Region.wanted oj (yielded ops a.tmps) = true
  · rw [if_pos hw] at h ⊢
    rw [wpR_eq hdj] at h ⊢
    rw [execOp_put oj hsj a oi.dst v q1] at h
    generalize he : (execOp a.eval oj).run P w = r at h
    match r, h with
    | .ok (.value u) w', h => exact turn u w' h
    | .ok .skip w', h => exact turn undef w' h
    | .ok (.defer d) w', h => exact ⟨(hy.of_same (a' := { a with defers := d :: a.defers }) rfl rfl).of_same (execOp_put oi hsi _ oj.dst undef q3) (wanted_put oi _ oj.dst undef q3), by rw [← Act.put_comm _ v undef q2, ← Act.put_defers]; exact h⟩
    | .ok (.enter f args) w', h => exact ⟨h.1, h.2.mono fun e w2 hq => by cases e with | returned u => exact turn u w2 hq | panicked c => exact hQ _ _ _ hq | outgrown => exact hq⟩
    | .ok (.row row args) w', h => exact ⟨h.1, h.2.mono fun u w2 hq => turn u w2 hq⟩
    | .ok (.round l' f tmps asg body) w', h => exact ⟨h.1, h.2.mono fun e w2 hq => by cases e with | returned u => exact turn u w2 hq | panicked c => exact hQ _ _ _ hq | outgrown => exact hq⟩
    | .halt (.panic u) w', h => exact hQ _ _ _ h
  · rw [if_neg hw] at h ⊢
    exact ⟨fun _ _ => trivial, turn undef w h.2⟩
theorem anyR_first {i : Nat} {oi : Oper} {v : Value} (hd : ∀ (j : Nat) (o : Oper), ops[j]? = some o → ∀ c, o.op ≠ .defer c) (hi : ops[i]? = some oi) (hsel : ∀ (j : Nat) (o : Oper) cs b, ops[j]? = some o → o.op ≠ .select cs b) (hQ : ∀ c a w, Q (.panic c) (a.put oi.dst v) w → Q (.panic c) a w) :
    ∀ (fuel : Nat) (listed : Array Bool) (a : Act) (w : World), (∀ j oj, ops[j]? = some oj → j ≠ i → listed.getD j true = false → (∀ e ∈ oj.after, Region.binds md e = true → e.on ≠ i) → oi.apart ops oj = true) → i ∈ Region.ready md ops listed → YieldsIf P ops S oi v a → S w →
      anyR n l P md ops Q S fuel (listed.setIfInBounds i true) (a.put oi.dst v) w → anyR n l P md ops Q S (fuel + 1) listed a w
  | fuel, listed, a, w, hfree, hr, hy, hS, H => by
    refine ⟨fun h => (by rw [h] at hr; cases hr), fun j hj => ?_⟩
    by_cases hji : j = i
    · subst hji; exact wpR_one (hd j oi hi) hi hy hS ⟨hS, H⟩
    · have hrj := ready_mono hj hji
      match fuel, H with
      | 0, H => rw [H.1] at hrj; cases hrj
      | fuel + 1, H =>
        have h1 := H.2 j hrj
        obtain ⟨hjun, oj, hoj, hall⟩ := mem_ready.1 hj
        have hnot : ∀ e ∈ oj.after, Region.binds md e = true → e.on ≠ i := fun e he hb heq => by
          have g1 := hall e he hb
          have g0 := (mem_ready.1 hr).1
          rw [heq] at g1
          rcases Nat.lt_or_ge i listed.size with h' | h'
          · simp [h'] at g0 g1; rw [g0] at g1; cases g1
          · simp [Array.getElem?_eq_none h'] at g1
        refine wpOpIn_mono (fun a' w' h3 => ⟨h3.2.1, anyR_first hd hi hsel hQ fuel (listed.setIfInBounds j true) a' w' ?_ (ready_mono hr (Ne.symm hji)) h3.1 h3.2.1 ?_⟩) (wpR_put (hd j oj hoj) hoj (hfree j oj hoj hji hjun hnot) (fun cs b => hsel i oi cs b hi) (fun cs b => hsel j oj cs b hoj) hQ hy h1)
        · intro k ok hk hki hun hno
          refine hfree k ok hk hki ?_ hno
          by_cases hjk : j = k
          · subst hjk; exact hjun
          · rw [getD_set_ne true hjk] at hun; exact hun
        · rw [Array.setIfInBounds_comm _ _ hji]
          exact h3.2.2
theorem takeR (i : Nat) (v : Value) {d : Option Tmp} {o : Op} {t : TypeId} {ps : String} {af : Array Edge} {g : Option (Nat × Bool)} {fuel : Nat} {listed : Array Bool} {a : Act} {w : World}
    (hd : ∀ (j : Nat) (o : Oper), ops[j]? = some o → ∀ c, o.op ≠ .defer c) (hi : ops[i]? = some { dst := d, op := o, type := t, pos := ps, after := af, guard := g }) (hs : Region.noSelect ops = true) (hf : Region.free md ops listed i = true) (hr : (Region.ready md ops listed).contains i = true)
    (hQ : ∀ c a w, Q (.panic c) (a.put d v) w → Q (.panic c) a w) (hy : YieldsIf P ops S { dst := d, op := o, type := t, pos := ps, after := af, guard := g } v a) (hS : S w)
    (h : anyR n l P md ops Q S fuel (listed.setIfInBounds i true) (a.put d v) w) : anyR n l P md ops Q S (fuel + 1) listed a w :=
  anyR_first hd hi (Region.noSelect_spec hs) hQ fuel listed a w (Region.free_spec hi hf) (by simpa using hr) hy hS h
/-- one alone comes up. -/
theorem stepR {fuel : Nat} {listed : Array Bool} {a : Act} {w : World} (i : Nat) {d : Option Tmp} {o : Op} {t : TypeId} {ps : String} {af : Array Edge} {g : Option (Nat × Bool)} (hr : Region.ready md ops listed = [i]) (ho : ops[i]? = some { dst := d, op := o, type := t, pos := ps, after := af, guard := g })
    (h : ∀ K' : Act → World → Prop, Shut (∀ a w, S w → (S w → anyR n l P md ops Q S fuel (listed.setIfInBounds i true) a w) → K' a w) → if Region.wanted { dst := d, op := o, type := t, pos := ps, after := af, guard := g } (yielded ops a.tmps) = true then Oper.wpIn (Fence.wide.inRound l) n P { dst := d, op := o, type := t, pos := ps, after := af, guard := g } a w K' Q else (∀ f, Oper.about P w a.eval { dst := d, op := o, type := t, pos := ps, after := af, guard := g } = some f → (Fence.wide.inRound l).fn f) ∧ K' (a.put d undef) w) :
    anyR n l P md ops Q S (fuel + 1) listed a w :=
  ⟨fun h0 => (by rw [hr] at h0; cases h0), fun j hj => by
    rw [hr, List.mem_singleton] at hj
    subst hj
    exact wpOpIn_step ho (fun K' hK => h K' (fun a w hS hW => hK a w ⟨hS, hW hS⟩))⟩
theorem anyR_done {listed : Array Bool} {a : Act} {w : World} (hr : Region.ready md ops listed = []) (h : Q .normal a w) : ∀ fuel, anyR n l P md ops Q S fuel listed a w
  | 0 => ⟨hr, h⟩
  | _ + 1 => ⟨fun _ => h, by rw [hr]; simp⟩
end
theorem region_held {n l : Nat} {P : Program} {id : Nat} {ops : List Oper} {Q : Exit → Act → World → Prop} {a : Act} {w : World} (S : World → Prop) (hm : P.follows .mixedOrders = true) (hS : S w.drew)
    (h : S w.drew → anyR n l P .any ops.toArray Q S ops.toArray.size (Array.replicate ops.toArray.size false) a w.drew) : (Code.region id ops.toArray true).wpIn (Fence.wide.inRound l) n P Q a w :=
  wpIn_region_any hm (anyR_in _ _ _ _ (h hS))
end Go.Proofs.Ytmmcdnniconalaa
