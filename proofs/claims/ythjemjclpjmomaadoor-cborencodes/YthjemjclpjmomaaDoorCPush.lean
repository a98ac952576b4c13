/- An item more in a list of the stack, as append and the stores leave it. -/
import Derived.Test.YthjemjclpjmomaaDoorCStack
namespace Go.Proofs.YthjemjclpjmomaaDoor
open Go.RowKit
set_option linter.unusedVariables false

theorem icells_head (X : List IX) (i : Nat) (h : i < X.length) (ha : X[i].a1 = none ∧ X[i].c1 = 0) (L : List T) (hx : X[i].x = mkI 4 0 [] L) (L' : List T) (a2 : Option Addr) (c2 : Nat) : (icells X).set (i * 4 + 3) (.slice a2 L'.length c2) = icells (X.set i ⟨mkI 4 0 [] L', none, 0, a2, c2⟩) := by
  induction X generalizing i with
  | nil => simp at h
  | cons x r ih =>
    cases i with
    | zero =>
      simp only [List.getElem_cons_zero] at ha hx
      simp only [icells, List.set_cons_zero, hx, ha.1, ha.2, kd_mk, nm_mk, bs_mk, its_mk]
      rfl
    | succ i =>
      rw [show (i + 1) * 4 + 3 = i * 4 + 3 + 1 + 1 + 1 + 1 by omega]
      simp only [icells, List.set_cons_succ]
      rw [ih i (by simpa using h) (by simpa using ha) (by simpa using hx)]

theorem icells_last (X : List IX) (z y : IX) (m : Nat) (hm : X.length = m) : ((((icells X ++ icells [z]).set (m * 4) (.int .i64 (kd y.x))).set (m * 4 + 1) (.int .u64 (nm y.x))).set (m * 4 + 2) (.slice y.a1 (bs y.x).length y.c1)).set (m * 4 + 3) (.slice y.a2 (its y.x).length y.c2) = icells (X ++ [y]) := by
  have hl : (icells X).length = m * 4 := by rw [icells_length, hm]
  rw [icells_append]
  rw [List.set_append_right _ _ (by omega), List.set_append_right _ _ (by omega), List.set_append_right _ _ (by omega), List.set_append_right _ _ (by omega), hl]
  simp [icells]

/-- the stack's row while a list's row grows. -/
theorem Stk.stays {w W0 W W2 : World} {rb sg cap j m : Nat} {Es : List IX} {Xs : Nat → List IX} (h : Stk w W0 rb sg cap Es Xs) (hj : j < Es.length) (hb : Below W0.heap.size W0 W) (hg : W.grownBy W2 (Value.slice Es[j].a2 m Es[j].c2).ownBlock) :
    W2.ownsRow w.heap.size 28 4 (.slice (some ⟨sg, 0, none⟩) Es.length cap) Es.length (icells Es) :=
  ((Off.of_below (S := fun _ => False) hb).owns h.row (fun _ _ => id)).kept hg (.inr (by
    rw [ob_own]
    intro e
    exact h.nsg j hj e.symm))

theorem Stk.pushed {w W0 W W2 : World} {rb sg cap j m g2 c2 : Nat} {Es : List IX} {Xs : Nat → List IX} (h : Stk w W0 rb sg cap Es Xs) (hj : j < Es.length) (hm : (Xs j).length = m) (y : IX) (hb : Below W0.heap.size W0 W) (hg : W.grownBy W2 (Value.slice Es[j].a2 m Es[j].c2).ownBlock)
    (hown : W2.ownsRow w.heap.size 28 4 (.slice (some ⟨g2, 0, none⟩) (m + 1) c2) (m + 1) (icells (Xs j) ++ icells [y])) (hat : (Value.slice Es[j].a2 m Es[j].c2).ownBlock = some g2 ∨ g2 = W.heap.size)
    (hy : Lie (Gs rb sg Es) W0 (8 - j) y.a1 y.x y.a2 ∧ (bs y.x).length ≤ y.c1) :
    Stk w (W2.setCell ⟨sg, j * 4 + 3, none⟩ (.slice (some ⟨g2, 0, none⟩) (m + 1) c2)) rb sg cap (Es.set j ⟨mkI 4 0 [] ((Xs j ++ [y]).map IX.x), none, 0, some ⟨g2, 0, none⟩, c2⟩) (upd Xs j (Xs j ++ [y])) := by
  have hrow := h.stays hj hb hg
  obtain ⟨e1, e2, e3⟩ := h.ent j hj
  have hsg := h.sg
  rw [ob_own] at hat
  have hw := hb.size
  have hne : g2 ≠ sg := by
    rintro rfl
    rcases hat with e | e
    · exact h.nsg j hj e
    · omega
  have hlen : (Xs j ++ [y]).length = m + 1 := by simp [hm]
  have hr2 := (hrow.stored (j * 4 + 3) (.slice (some ⟨g2, 0, none⟩) (m + 1) c2)).1
  have hq : (Value.slice (some ⟨g2, 0, none⟩) (m + 1) c2) = .slice (some ⟨g2, 0, none⟩) ((Xs j ++ [y]).map IX.x).length c2 := by rw [List.length_map, hlen]
  have ho : Off (fun k => k = sg ∨ ob Es[j] = some k) W0 (W2.setCell ⟨sg, j * 4 + 3, none⟩ (.slice (some ⟨g2, 0, none⟩) (m + 1) c2)) := ((Off.of_below hb).grown hg (fun k e => .inr (.inr (by rw [ob_own] at e; exact e)))).setCell (p := ⟨sg, j * 4 + 3, none⟩) (.inr (.inl rfl)) _
  refine h.push hj y (some ⟨g2, 0, none⟩) c2 ho ?_ ?_ ?_ hy
  · have hs := icells_head Es j hj ⟨e2, e3⟩ _ e1 ((Xs j ++ [y]).map IX.x) (some ⟨g2, 0, none⟩) c2
    rw [← hq] at hs
    rw [← hs]
    exact hr2
  · rw [hlen, icells_append]
    exact (off_setG W2 sg (j * 4 + 3) _).owns hown (fun k hk e => by cases hk; exact hne e)
  · intro k hk
    have hk : g2 = k := by simpa [ob, Value.ownBlock] using hk
    subst hk
    rcases hat with e | e
    · exact .inl e
    · exact .inr (by omega)

theorem Stk.pushed4 {w W0 W W2 : World} {rb sg cap j m g2 c2 : Nat} {Es : List IX} {Xs : Nat → List IX} (h : Stk w W0 rb sg cap Es Xs) (hj : j < Es.length) (hm : (Xs j).length = m) (z y : IX) (hb : Below W0.heap.size W0 W) (hg : W.grownBy W2 (Value.slice Es[j].a2 m Es[j].c2).ownBlock)
    (hown : W2.ownsRow w.heap.size 28 4 (.slice (some ⟨g2, 0, none⟩) (m + 1) c2) (m + 1) (icells (Xs j) ++ icells [z])) (hat : (Value.slice Es[j].a2 m Es[j].c2).ownBlock = some g2 ∨ g2 = W.heap.size)
    (hy : Lie (Gs rb sg Es) W0 (8 - j) y.a1 y.x y.a2 ∧ (bs y.x).length ≤ y.c1) :
    Stk w (((((W2.setCell ⟨sg, j * 4 + 3, none⟩ (.slice (some ⟨g2, 0, none⟩) (m + 1) c2)).setCell ⟨g2, m * 4, none⟩ (.int .i64 (kd y.x))).setCell ⟨g2, m * 4 + 1, none⟩ (.int .u64 (nm y.x))).setCell ⟨g2, m * 4 + 2, none⟩ (.slice y.a1 (bs y.x).length y.c1)).setCell ⟨g2, m * 4 + 3, none⟩ (.slice y.a2 (its y.x).length y.c2)) rb sg cap (Es.set j ⟨mkI 4 0 [] ((Xs j ++ [y]).map IX.x), none, 0, some ⟨g2, 0, none⟩, c2⟩) (upd Xs j (Xs j ++ [y])) := by
  have hrow := h.stays hj hb hg
  obtain ⟨e1, e2, e3⟩ := h.ent j hj
  have hsg := h.sg
  rw [ob_own] at hat
  have hw := hb.size
  have hne : g2 ≠ sg := by
    rintro rfl
    rcases hat with e | e
    · exact h.nsg j hj e
    · omega
  have hlen : (Xs j ++ [y]).length = m + 1 := by simp [hm]
  have hr2 := (hrow.stored (j * 4 + 3) (.slice (some ⟨g2, 0, none⟩) (m + 1) c2)).1
  have hq : (Value.slice (some ⟨g2, 0, none⟩) (m + 1) c2) = .slice (some ⟨g2, 0, none⟩) ((Xs j ++ [y]).map IX.x).length c2 := by rw [List.length_map, hlen]
  obtain ⟨Wh, hWh⟩ : ∃ Wh, W2.setCell ⟨sg, j * 4 + 3, none⟩ (.slice (some ⟨g2, 0, none⟩) (m + 1) c2) = Wh := ⟨_, rfl⟩
  have ho : Off (fun k => k = sg ∨ ob Es[j] = some k) W0 Wh := by
    rw [← hWh]
    exact ((Off.of_below hb).grown hg (fun k e => .inr (.inr (by rw [ob_own] at e; exact e)))).setCell (p := ⟨sg, j * 4 + 3, none⟩) (.inr (.inl rfl)) _
  have ow1 : Wh.ownsRow w.heap.size 28 4 (.slice (some ⟨g2, 0, none⟩) (m + 1) c2) (m + 1) (icells (Xs j) ++ icells [z]) := by
    rw [← hWh]
    exact (off_setG W2 sg (j * 4 + 3) _).owns hown (fun k hk e => by cases hk; exact hne e)
  rw [hWh] at hr2 ⊢
  have hg2 : W0.heap.size ≤ g2 ∨ (g2 = sg ∨ ob Es[j] = some g2) := by
    rcases hat with e | e
    · exact .inr (.inr e)
    · exact .inl (by omega)
  have o4 : Off (fun k => k = g2) Wh ((((Wh.setCell ⟨g2, m * 4, none⟩ (.int .i64 (kd y.x))).setCell ⟨g2, m * 4 + 1, none⟩ (.int .u64 (nm y.x))).setCell ⟨g2, m * 4 + 2, none⟩ (.slice y.a1 (bs y.x).length y.c1)).setCell ⟨g2, m * 4 + 3, none⟩ (.slice y.a2 (its y.x).length y.c2)) :=
    ((((Off.refl (fun k => k = g2) Wh).setCell (p := ⟨g2, m * 4, none⟩) (.inr rfl) _).setCell (p := ⟨g2, m * 4 + 1, none⟩) (.inr rfl) _).setCell (p := ⟨g2, m * 4 + 2, none⟩) (.inr rfl) _).setCell (p := ⟨g2, m * 4 + 3, none⟩) (.inr rfl) _
  refine h.push hj y (some ⟨g2, 0, none⟩) c2 ?_ ?_ ?_ ?_ hy
  · exact (((ho.setCell (p := ⟨g2, m * 4, none⟩) hg2 _).setCell (p := ⟨g2, m * 4 + 1, none⟩) hg2 _).setCell (p := ⟨g2, m * 4 + 2, none⟩) hg2 _).setCell (p := ⟨g2, m * 4 + 3, none⟩) hg2 _
  · have hs := icells_head Es j hj ⟨e2, e3⟩ _ e1 ((Xs j ++ [y]).map IX.x) (some ⟨g2, 0, none⟩) c2
    rw [← hq] at hs
    rw [← hs]
    exact o4.owns hr2 (fun k hk e => by cases hk; exact hne e.symm)
  · have := ((((ow1.stored (m * 4) (.int .i64 (kd y.x))).1.stored (m * 4 + 1) (.int .u64 (nm y.x))).1.stored (m * 4 + 2) (.slice y.a1 (bs y.x).length y.c1)).1.stored (m * 4 + 3) (.slice y.a2 (its y.x).length y.c2)).1
    rw [icells_last _ _ _ _ hm] at this
    rw [hlen]
    exact this
  · intro k hk
    have hk : g2 = k := by simpa [ob, Value.ownBlock] using hk
    subst hk
    rcases hat with e | e
    · exact .inl e
    · exact .inr (by omega)
end Go.Proofs.YthjemjclpjmomaaDoor
