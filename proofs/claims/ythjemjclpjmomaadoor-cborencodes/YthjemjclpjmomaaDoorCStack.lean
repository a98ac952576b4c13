/- Lists of items that are being built: a stack in memory of the call's own. -/
import Derived.Test.YthjemjclpjmomaaDoorCMake
namespace Go.Proofs.YthjemjclpjmomaaDoor
open Go.RowKit
set_option linter.unusedVariables false

def ob (E : IX) : Option Nat := (Value.slice E.a2 0 0).ownBlock
theorem ob_own (E : IX) (n c : Nat) : (Value.slice E.a2 n c).ownBlock = ob E := by unfold ob; cases E.a2 <;> rfl
def Gs (rb sg : Nat) (Es : List IX) : Nat → Prop := fun k => k = rb ∨ k = sg ∨ ∃ E ∈ Es, ob E = some k
def upd (Xs : Nat → List IX) (j : Nat) (X : List IX) : Nat → List IX := fun i => if i = j then X else Xs i

/-- A stack of lists: its row in block sg, each list's Items in a row of its own. -/
structure Stk (w wr : World) (rb sg cap : Nat) (Es : List IX) (Xs : Nat → List IX) : Prop where
  row : wr.ownsRow w.heap.size 28 4 (.slice (some ⟨sg, 0, none⟩) Es.length cap) Es.length (icells Es)
  ent : ∀ j (h : j < Es.length), Es[j].x = mkI 4 0 [] ((Xs j).map IX.x) ∧ Es[j].a1 = none ∧ Es[j].c1 = 0
  own : ∀ j (h : j < Es.length), wr.ownsRow w.heap.size 28 4 (.slice Es[j].a2 (Xs j).length Es[j].c2) (Xs j).length (icells (Xs j))
  dis : ∀ i j (hi : i < Es.length) (hj : j < Es.length), i ≠ j → ∀ k, ob Es[i] = some k → ob Es[j] = some k → False
  nsg : ∀ j (h : j < Es.length), ob Es[j] ≠ some sg
  items : ∀ j (h : j < Es.length), ∀ y ∈ Xs j, Lie (Gs rb sg Es) wr (8 - j) y.a1 y.x y.a2 ∧ (bs y.x).length ≤ y.c1
  below : Below w.heap.size w wr
  rbl : rb < w.heap.size

theorem Stk.obs {w wr : World} {rb sg cap : Nat} {Es : List IX} {Xs : Nat → List IX} (h : Stk w wr rb sg cap Es Xs) (j : Nat) (hj : j < Es.length) : ∀ k, ob Es[j] = some k → w.heap.size ≤ k ∧ k < wr.heap.size := fun k hk => (h.own j hj).lt k (by rw [ob_own]; exact hk)
theorem Stk.sg {w wr : World} {rb sg cap : Nat} {Es : List IX} {Xs : Nat → List IX} (h : Stk w wr rb sg cap Es Xs) : w.heap.size ≤ sg ∧ sg < wr.heap.size := h.row.lt sg rfl
/-- nothing of it has turned. -/
theorem Stk.later {w wr wx : World} {rb sg cap : Nat} {Es : List IX} {Xs : Nat → List IX} (h : Stk w wr rb sg cap Es Xs) (hb : Below wr.heap.size wr wx) : Stk w wx rb sg cap Es Xs :=
  ⟨(Off.of_below (S := fun _ => False) hb).owns h.row (fun _ _ => id), h.ent, fun j hj => (Off.of_below (S := fun _ => False) hb).owns (h.own j hj) (fun _ _ => id), h.dis, h.nsg, fun j hj y hy => ⟨(h.items j hj y hy).1.later hb, (h.items j hj y hy).2⟩, below_of h.below hb, h.rbl⟩

/-- an item more in the list j. -/
theorem Stk.push {w wr wf : World} {rb sg cap j : Nat} {Es : List IX} {Xs : Nat → List IX} (h : Stk w wr rb sg cap Es Xs) (hj : j < Es.length) (y : IX) (a2 : Option Addr) (c2 : Nat)
    (ho : Off (fun k => k = sg ∨ ob Es[j] = some k) wr wf) (hrow : wf.ownsRow w.heap.size 28 4 (.slice (some ⟨sg, 0, none⟩) Es.length cap) Es.length (icells (Es.set j ⟨mkI 4 0 [] ((Xs j ++ [y]).map IX.x), none, 0, a2, c2⟩)))
    (hown : wf.ownsRow w.heap.size 28 4 (.slice a2 (Xs j ++ [y]).length c2) (Xs j ++ [y]).length (icells (Xs j ++ [y]))) (hat : ∀ k, ob ⟨mkI 4 0 [] ((Xs j ++ [y]).map IX.x), none, 0, a2, c2⟩ = some k → ob Es[j] = some k ∨ wr.heap.size ≤ k)
    (hy : Lie (Gs rb sg Es) wr (8 - j) y.a1 y.x y.a2 ∧ (bs y.x).length ≤ y.c1) :
    Stk w wf rb sg cap (Es.set j ⟨mkI 4 0 [] ((Xs j ++ [y]).map IX.x), none, 0, a2, c2⟩) (upd Xs j (Xs j ++ [y])) := by
  obtain ⟨E', hE'⟩ : ∃ E', (⟨mkI 4 0 [] ((Xs j ++ [y]).map IX.x), none, 0, a2, c2⟩ : IX) = E' := ⟨_, rfl⟩
  have hx' : E'.x = mkI 4 0 [] ((Xs j ++ [y]).map IX.x) ∧ E'.a1 = none ∧ E'.c1 = 0 ∧ E'.a2 = a2 ∧ E'.c2 = c2 := by rw [← hE']; exact ⟨rfl, rfl, rfl, rfl, rfl⟩
  rw [hE'] at hrow hat ⊢
  have hsg := h.sg
  have hbig : ∀ (n : Nat) (a1 : Option Addr) (z : T) (b2 : Option Addr), Lie (Gs rb sg Es) wr n a1 z b2 → Lie (Gs rb sg (Es.set j E')) wf n a1 z b2 := by
    intro n a1 z b2 hz
    have q1 : Lie (fun k => Gs rb sg Es k ∨ Gs rb sg (Es.set j E') k) wr n a1 z b2 := Lie.apart (fun k hk ee => ee.elim id (fun e0 => by
      rcases e0 with e1 | e1 | ⟨E, hE, e1⟩
      · exact .inl e1
      · exact .inr (.inl e1)
      · rcases List.mem_or_eq_of_mem_set hE with hE | hE
        · exact .inr (.inr ⟨E, hE, e1⟩)
        · rw [hE] at e1
          rcases hat k e1 with e2 | e2
          · exact .inr (.inr ⟨Es[j], List.getElem_mem hj, e2⟩)
          · omega)) n hz
    have q2 := Lie.off ho (fun k e => .inl (.inr (e.elim .inl (fun e => .inr ⟨Es[j], List.getElem_mem hj, e⟩)))) n q1
    exact Lie.apart (fun k _ e => .inr e) n q2
  refine ⟨by rw [List.length_set]; exact hrow, ?_, ?_, ?_, ?_, ?_, ?_, h.rbl⟩
  · intro i hi2
    have hi : i < Es.length := by rw [List.length_set] at hi2; exact hi2
    by_cases he : i = j
    · subst he
      rw [List.getElem_set_self, upd, if_pos rfl]
      exact ⟨hx'.1, hx'.2.1, hx'.2.2.1⟩
    · rw [List.getElem_set_ne (fun e => he e.symm), upd, if_neg he]
      exact h.ent i hi
  · intro i hi2
    have hi : i < Es.length := by rw [List.length_set] at hi2; exact hi2
    by_cases he : i = j
    · subst he
      rw [List.getElem_set_self, upd, if_pos rfl, hx'.2.2.2.1, hx'.2.2.2.2]
      exact hown
    · rw [List.getElem_set_ne (fun e => he e.symm), upd, if_neg he]
      exact ho.owns (h.own i hi) (fun k hk e => by
        rw [ob_own] at hk
        rcases e with rfl | e
        · exact h.nsg i hi hk
        · exact h.dis i j hi hj he k hk e)
  · intro i m hi2 hm2 hne k e1 e2
    have hi : i < Es.length := by rw [List.length_set] at hi2; exact hi2
    have hm : m < Es.length := by rw [List.length_set] at hm2; exact hm2
    by_cases h1 : i = j
    · subst h1
      rw [List.getElem_set_self] at e1
      rw [List.getElem_set_ne hne] at e2
      rcases hat k e1 with e3 | e3
      · exact h.dis i m hi hm hne k e3 e2
      · have := h.obs m hm k e2; omega
    · rw [List.getElem_set_ne (fun e => h1 e.symm)] at e1
      by_cases h2 : m = j
      · subst h2
        rw [List.getElem_set_self] at e2
        rcases hat k e2 with e3 | e3
        · exact h.dis i m hi hm hne k e1 e3
        · have := h.obs i hi k e1; omega
      · rw [List.getElem_set_ne (fun e => h2 e.symm)] at e2
        exact h.dis i m hi hm hne k e1 e2
  · intro i hi2 e
    have hi : i < Es.length := by rw [List.length_set] at hi2; exact hi2
    by_cases h1 : i = j
    · subst h1
      rw [List.getElem_set_self] at e
      rcases hat sg e with e3 | e3
      · exact h.nsg i hi e3
      · omega
    · rw [List.getElem_set_ne (fun e => h1 e.symm)] at e
      exact h.nsg i hi e
  · intro i hi2 z hz
    have hi : i < Es.length := by rw [List.length_set] at hi2; exact hi2
    by_cases h1 : i = j
    · subst h1
      rw [upd, if_pos rfl] at hz
      rcases List.mem_append.1 hz with hz | hz
      · exact ⟨hbig _ _ _ _ (h.items i hi z hz).1, (h.items i hi z hz).2⟩
      · rw [List.mem_singleton.1 hz]
        exact ⟨hbig _ _ _ _ hy.1, hy.2⟩
    · rw [upd, if_neg h1] at hz
      exact ⟨hbig _ _ _ _ (h.items i hi z hz).1, (h.items i hi z hz).2⟩
  · exact h.below.trans (ho.below h.below.size (fun i e => by
      rcases e with rfl | e
      · exact hsg.1
      · exact (h.obs j hj i e).1))

/-- the last list is left out. -/
theorem own_less {w : World} {base g n cap m : Nat} {X : List IX} (h : w.ownsRow base 28 4 (.slice (some ⟨g, 0, none⟩) n cap) n (icells X)) (hn : X.length = n) (hm : m ≤ n) : w.ownsRow base 28 4 (.slice (some ⟨g, 0, none⟩) m cap) m (icells (X.take m)) := by
  rcases h.2 with ⟨h', _⟩ | ⟨g', cap', cur, hv, hb, hg, hnc, hcm, hcs, ht⟩
  · cases h'
  · cases hv
    refine ⟨by rw [icells_length, List.length_take]; omega, .inr ⟨g, cap, cur, rfl, hb, hg, by omega, hcm, hcs, ?_⟩⟩
    have h2 : icells X = icells (X.take m) ++ icells (X.drop m) := by rw [← icells_append, List.take_append_drop]
    have h3 : (cur.toList.take (n * 4)).take (m * 4) = cur.toList.take (m * 4) := by rw [List.take_take, Nat.min_eq_left (by omega)]
    rw [← h3, ht, h2, List.take_left']
    rw [icells_length, List.length_take]
    omega
theorem Stk.pop {w wr : World} {rb sg cap m : Nat} {Es : List IX} {Xs : Nat → List IX} (h : Stk w wr rb sg cap Es Xs) (hm : m ≤ Es.length) : Stk w wr rb sg cap (Es.take m) Xs := by
  have hl : (Es.take m).length = m := by rw [List.length_take]; omega
  have hge : ∀ j (hj : j < (Es.take m).length), (Es.take m)[j] = Es[j]'(by omega) := fun j hj => by rw [List.getElem_take]
  refine ⟨by rw [hl]; exact own_less h.row rfl hm, fun j hj => by rw [hge]; exact h.ent j _, fun j hj => by rw [hge]; exact h.own j _, fun i j hi hj hne k e1 e2 => by rw [hge] at e1 e2; exact h.dis i j _ _ hne k e1 e2, fun j hj => by rw [hge]; exact h.nsg j _, fun j hj y hy => ⟨Lie.apart (fun k _ e => ?_) _ (h.items j (by omega) y hy).1, (h.items j (by omega) y hy).2⟩, h.below, h.rbl⟩
  rcases e with e | e | ⟨E, hE, e⟩
  · exact .inl e
  · exact .inr (.inl e)
  · exact .inr (.inr ⟨E, List.mem_of_mem_take hE, e⟩)
/-- the last list as an item of the one below. -/
theorem Stk.top {w wr : World} {rb sg cap n : Nat} {Es : List IX} {Xs : Nat → List IX} (h : Stk w wr rb sg cap Es Xs) (hn : Es.length = n + 1) (h7 : n ≤ 7) (hc : (Xs n).length ≤ 1000000) : Lie (Gs rb sg (Es.take n)) wr (8 - n + 1) (Es[n]'(by omega)).a1 (Es[n]'(by omega)).x (Es[n]'(by omega)).a2 ∧ (bs (Es[n]'(by omega)).x).length ≤ (Es[n]'(by omega)).c1 := by
  have hj : n < Es.length := by omega
  obtain ⟨e1, e2, e3⟩ := h.ent n hj
  have hlt : (Es.take n).length = n := by rw [List.length_take]; omega
  have hsub : ∀ k, Gs rb sg (Es.take n) k → Gs rb sg Es k := fun k e => by
    rcases e with e | e | ⟨E, hE, e⟩
    · exact .inl e
    · exact .inr (.inl e)
    · exact .inr (.inr ⟨E, List.mem_of_mem_take hE, e⟩)
  have hno : ∀ k, ob Es[n] = some k → ¬ Gs rb sg (Es.take n) k := by
    intro k hk e
    rcases e with rfl | rfl | ⟨E, hE, e⟩
    · have := h.obs n hj _ hk; have := h.rbl; omega
    · exact h.nsg n hj hk
    · obtain ⟨i, hi, rfl⟩ := List.getElem_of_mem hE
      rw [List.getElem_take] at e
      exact h.dis i n (by omega) hj (by omega) k e hk
  have hL := own_items (A := Gs rb sg (Es.take n)) (m := 8 - n) (h.own n hj) (fun y hy => ⟨Lie.apart (fun k _ e => hsub k e) _ (h.items n hj y hy).1, (h.items n hj y hy).2⟩) (by omega) (fun k hk => hno k (by rw [ob_own] at hk; exact hk))
  rw [e1, e2, e3]
  exact ⟨⟨⟨by simp [nm_mk], by simp [kd_mk], by simp [kd_mk], by simp [bs_mk]⟩, ⟨by simp [bs_mk], by simp [bs_mk], fun h => absurd h (by simp [bs_mk])⟩, fun h => absurd h (by simp [bs_mk]), hL.1⟩, Nat.le_refl _⟩
end Go.Proofs.YthjemjclpjmomaaDoor
