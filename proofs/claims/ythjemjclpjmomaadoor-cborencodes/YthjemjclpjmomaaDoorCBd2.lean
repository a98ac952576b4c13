/- The stack's first list, and a list more on the stack. -/
import Derived.Test.YthjemjclpjmomaaDoorCBd
namespace Go.Proofs.YthjemjclpjmomaaDoor
open Go.RowKit
set_option linter.unusedVariables false

theorem Bd.later {w wr wx : World} {s : Value} {k : Nat} {S : List (List T)} (h : Bd w wr s k S) (hb : Below wr.heap.size wr wx) : Bd w wx s k S := by
  obtain ⟨sg, cap, Es, Xs, h0, hst, h1, h7, hX⟩ := h.ex
  exact ⟨sg, cap, Es, Xs, h0, hst.later hb, h1, h7, hX⟩

theorem Bd.start (w : World) : Bd w ((Z0 w).alloc (.cells #[.int .i64 4, .int .u64 0, .slice none 0 0, .slice none 0 0] 28)) (.slice (some ⟨w.heap.size + 1, 0, none⟩) 1 1) 0 [[]] := by
  refine ⟨w.heap.size + 1, 1, [⟨mkI 4 0 [] [], none, 0, none, 0⟩], fun _ => [], rfl, ⟨?_, ?_, ?_, ?_, ?_, ?_, ?_, ?_⟩, by simp, by simp, by simp, rfl⟩
  · have := World.ownsRow_lit (base := (Z0 w).heap.size) (e := 28) (size := 4) (Z0 w) #[.int .i64 4, .int .u64 0, .slice none 0 0, .slice none 0 0] 1 (Nat.le_refl _) (by unfold maxLen; omega) rfl
    rw [z0_size] at this ⊢
    exact this
  · intro j hj
    match j, hj with
    | 0, _ => exact ⟨rfl, rfl, rfl⟩
  · intro j hj
    match j, hj with
    | 0, _ => exact World.ownsRow_nil _ _ _ _
  · intro i j hi hj hne
    match i, j, hi, hj with
    | 0, 0, _, _ => exact absurd rfl hne
  · intro j hj e
    match j, hj with
    | 0, _ => simp [ob, Value.ownBlock] at e
  · intro j hj y hy
    simp at hy
  · exact (Below.refl _ _).alloc (Nat.le_refl _) _
  · rw [z0_size]; omega

theorem Bd.opened {w W0 W W2 : World} {sg cap n k g2 c2 : Nat} {Es : List IX} {Xs : Nat → List IX} (h : Stk (Z0 w) W0 w.heap.size sg cap Es Xs) (hn : Es.length = n + 1) (h7 : n + 2 ≤ 7) (hX : ∀ j, (Xs j).length ≤ k) (hb : Below W0.heap.size W0 W) (hg : W.grownBy W2 (some sg))
    (hown : W2.ownsRow (w.heap.size + 1) 28 4 (.slice (some ⟨g2, 0, none⟩) (n + 2) c2) (n + 2) (icells Es ++ icells [⟨mkI 4 0 [] [], none, 0, none, 0⟩])) (hat : sg = g2 ∨ g2 = W.heap.size) :
    Bd w W2 (.slice (some ⟨g2, 0, none⟩) (n + 2) c2) (k + 1) ([] :: stk Xs (n + 1)) := by
  obtain ⟨E, hE⟩ : ∃ E : IX, (⟨mkI 4 0 [] [], none, 0, none, 0⟩ : IX) = E := ⟨_, rfl⟩
  have hE' : E.x = mkI 4 0 [] [] ∧ E.a1 = none ∧ E.c1 = 0 ∧ E.a2 = none ∧ E.c2 = 0 := by rw [← hE]; exact ⟨rfl, rfl, rfl, rfl, rfl⟩
  have hob : ob E = none := by rw [ob, hE'.2.2.2.1]; rfl
  rw [hE] at hown
  have hl : (Es ++ [E]).length = n + 2 := by simp [hn]
  have hsg := h.sg
  have hw := hb.size
  have ho : Off (fun k => k = sg) W0 W2 := (Off.of_below hb).grown hg (fun k e => .inr (by cases e; rfl))
  have hge : ∀ i (hi : i < (Es ++ [E]).length), (∃ h' : i < Es.length, (Es ++ [E])[i] = Es[i] ∧ upd Xs (n + 1) [] i = Xs i) ∨ (i = n + 1 ∧ (Es ++ [E])[i] = E ∧ upd Xs (n + 1) [] i = []) := by
    intro i hi
    rcases Nat.lt_or_ge i Es.length with hlt | hge
    · exact .inl ⟨hlt, List.getElem_append_left hlt, by rw [upd, if_neg (by omega)]⟩
    · have : i = n + 1 := by omega
      refine .inr ⟨this, ?_, by rw [upd, if_pos this]⟩
      rw [List.getElem_append_right hge]
      simp
  have hGs : ∀ k, k < W0.heap.size → Gs w.heap.size g2 (Es ++ [E]) k → Gs w.heap.size sg Es k := by
    intro k hk e
    rcases e with e | e | ⟨F, hF, e⟩
    · exact .inl e
    · rcases hat with e' | e'
      · exact .inr (.inl (by omega))
      · omega
    · rcases List.mem_append.1 hF with hF | hF
      · exact .inr (.inr ⟨F, hF, e⟩)
      · rw [List.mem_singleton.1 hF, hob] at e
        cases e
  refine ⟨g2, c2, Es ++ [E], upd Xs (n + 1) [], by rw [hl], ⟨?_, ?_, ?_, ?_, ?_, ?_, ?_, h.rbl⟩, by omega, by omega, ?_, by rw [hl]; show _ = (upd Xs (n + 1) [] (n + 1)).map IX.x :: stk (upd Xs (n + 1) []) (n + 1); rw [stk_upd _ _ _ _ (Nat.le_refl _), upd, if_pos rfl]; rfl⟩
  · rw [hl, z0_size, icells_append]; exact hown
  · intro j hj
    rcases hge j hj with ⟨h', e1, e2⟩ | ⟨_, e1, e2⟩
    · rw [e1, e2]; exact h.ent j h'
    · rw [e1, e2]; exact ⟨hE'.1, hE'.2.1, hE'.2.2.1⟩
  · intro j hj
    rcases hge j hj with ⟨h', e1, e2⟩ | ⟨_, e1, e2⟩
    · rw [e1, e2]
      exact ho.owns (h.own j h') (fun k hk e => by
        rw [ob_own] at hk
        subst e
        exact h.nsg j h' hk)
    · rw [e1, e2, hE'.2.2.2.1, hE'.2.2.2.2]
      exact World.ownsRow_nil _ _ _ _
  · intro i j hi hj hne k e1 e2
    rcases hge i hi with ⟨hi', f1, _⟩ | ⟨_, f1, _⟩
    · rcases hge j hj with ⟨hj', f2, _⟩ | ⟨_, f2, _⟩
      · rw [f1] at e1; rw [f2] at e2; exact h.dis i j hi' hj' hne k e1 e2
      · rw [f2, hob] at e2; cases e2
    · rw [f1, hob] at e1; cases e1
  · intro j hj e
    rcases hge j hj with ⟨h', e1, e2⟩ | ⟨_, e1, e2⟩
    · rw [e1] at e
      rcases hat with e' | e'
      · rw [← e'] at e; exact h.nsg j h' e
      · have := h.obs j h' _ e; omega
    · rw [e1, hob] at e; cases e
  · intro j hj y hy
    rcases hge j hj with ⟨h', e1, e2⟩ | ⟨_, e1, e2⟩
    · rw [e2] at hy
      have hi := h.items j h' y hy
      refine ⟨?_, hi.2⟩
      have q1 : Lie (fun k => Gs w.heap.size sg Es k ∨ Gs w.heap.size g2 (Es ++ [E]) k) W0 (8 - j) y.a1 y.x y.a2 := Lie.apart (fun k hk e => e.elim id (hGs k hk)) _ hi.1
      have q2 := Lie.off ho (fun k e => .inl (.inr (.inl e))) _ q1
      exact Lie.apart (fun k _ e => .inr e) _ q2
    · rw [e2] at hy; cases hy
  · exact h.below.trans (ho.below h.below.size (fun i e => by rw [e]; exact hsg.1))
  · intro j
    unfold upd
    by_cases e : j = n + 1
    · rw [if_pos e]; simp
    · rw [if_neg e]; have := hX j; omega

/-- what is given out: the first list. -/
theorem Bd.last {w W0 : World} {sg cap k : Nat} {Es : List IX} {Xs : Nat → List IX} (h : Stk (Z0 w) W0 w.heap.size sg cap Es Xs) (h1 : 1 ≤ Es.length) (h7 : Es.length ≤ 7) (hk : k ≤ 1000) (hX : ∀ j, (Xs j).length ≤ k) :
    Lie (fun k => k = w.heap.size) W0 9 none (mkI 4 0 [] ((Xs 0).map IX.x)) Es[0].a2 := by
  have hp : Stk (Z0 w) W0 w.heap.size sg cap (Es.take 1) Xs := h.pop h1
  have hl : (Es.take 1).length = 0 + 1 := by rw [List.length_take]; omega
  have ht := (hp.top (n := 0) hl (by omega) (by have := hX 0; omega)).1
  obtain ⟨e1, e2, e3⟩ := hp.ent 0 (by omega)
  rw [e1, e2] at ht
  have he : (Es.take 1)[0]'(by omega) = Es[0] := by rw [List.getElem_take]
  rw [he] at ht
  exact Lie.apart (fun k _ e => .inl e) _ ht
end Go.Proofs.YthjemjclpjmomaaDoor
