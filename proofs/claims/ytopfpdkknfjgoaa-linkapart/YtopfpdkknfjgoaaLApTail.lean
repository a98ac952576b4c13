/- LinkApart: what the two loops over All gather. -/
import Derived.Test.YtopfpdkknfjgoaaLApOps
namespace Go.Proofs.Ytopfpdkknfjgoaa
open Go.RowKit Go.Shelf
set_option linter.unusedVariables false
def slv (y : Nat × FX) : Value := .slice y.2.a y.2.x.bytes.length y.2.c
/-- the variable at s holds what has been gathered. -/
structure Rw (W : World) (s base : Nat) (ys : List (Nat × FX)) (av : Option Addr) (cv : Nat) : Prop where
  var : W.heap[s]? = some (.cells #[.slice av ys.length cv] 57 (0, 0))
  row : W.ownsRow base 30 1 (.slice av ys.length cv) ys.length (ys.map slv)
theorem own_cells {W : World} {base n size : Nat} {e : TypeId} {v : Value} {xs : List Value} (h : W.ownsRow base e size v n xs) : ∀ k, v.ownBlock = some k → base ≤ k ∧ ∃ C, W.heap[k]? = some (.cells C e (0, 0)) := by
  intro k hk
  rcases h.2 with ⟨rfl, _⟩ | ⟨g, cap, cur, rfl, hb, hg, _⟩
  · cases hk
  · cases hk; exact ⟨hb, cur, hg⟩
theorem own_sl1 {W : World} {base n size : Nat} {e : TypeId} {v : Value} {xs : List Value} (h : W.ownsRow base e size v (n + 1) xs) : ∃ a c, v = .slice a (n + 1) c := by
  rcases h.2 with ⟨_, h0⟩ | ⟨g, cap, cur, rfl, _⟩
  · omega
  · exact ⟨_, _, rfl⟩
theorem Rw.grown {W W' : World} {s base : Nat} {ys : List (Nat × FX)} {av : Option Addr} {cv B : Nat} {row : Option Nat} (h : Rw W s base ys av cv) (hg : W.grownBy W' row) (hr : ∀ r, row = some r → B ≤ r ∧ ∃ o : Obj, W.heap[r]? = some o ∧ o.isCells = false) : Rw W' s base ys av cv := by
  refine ⟨kept_cells h.var hg hr, h.row.kept hg ?_⟩
  cases hv : (Value.slice av ys.length cv).ownBlock with
  | none => exact .inl rfl
  | some k =>
    refine .inr (fun e => ?_)
    obtain ⟨_, C, hk⟩ := own_cells h.row k hv
    obtain ⟨_, o, h1, h2⟩ := hr k e.symm
    rw [hk] at h1; cases h1; simp [Obj.isCells] at h2
theorem Rw.off {W W' : World} {S : Nat → Prop} {s base : Nat} {ys : List (Nat × FX)} {av : Option Addr} {cv : Nat} (h : Rw W s base ys av cv) (ho : Off S W W') (h1 : ¬ S s) (h2 : ∀ k, S k → ¬ base ≤ k) : Rw W' s base ys av cv := by
  refine ⟨ho.at h.var h1, h.row.1, ?_⟩
  rcases h.row.2 with hn | ⟨g, cap, cur, e, hb, hgg, rest⟩
  · exact .inl hn
  · exact .inr ⟨g, cap, cur, e, hb, ho.at hgg (fun hs => h2 g hs hb), rest⟩
theorem gather_var {W w1 : World} {s base : Nat} {ys : List (Nat × FX)} {av : Option Addr} {cv n : Nat} {O : Obj} (h : Rw W s base ys av cv) (hn : ys.length = n) (hs : s < base) (hg : (W.alloc O).grownBy w1 (Value.slice av n cv).ownBlock) : w1.heap[s]? = some (.cells #[.slice av n cv] 57 (0, 0)) := by
  subst hn
  have hsl : s < W.heap.size := (Array.getElem?_eq_some_iff.1 h.var).1
  have h0 := old_block ((Below.refl _ W).alloc (Nat.le_refl _) O) h.var
  rw [hg.block s (by simp; omega) (fun e => by obtain ⟨hb, _⟩ := own_cells h.row s e.symm; omega)]
  exact h0
/-- one more. -/
theorem gather {W w1 : World} {s base : Nat} {ys : List (Nat × FX)} {x : Nat × FX} {av : Option Addr} {cv : Nat} {O : Obj} {v' : Value} (h : Rw W s base ys av cv) (hs : s < base) (ho : w1.ownsRow base 30 1 v' (ys.length + 1) (ys.map slv ++ [slv x])) (hg : (W.alloc O).grownBy w1 (Value.slice av ys.length cv).ownBlock) :
    ∃ av' cv', v' = .slice av' (ys.length + 1) cv' ∧ Rw (w1.setCell ⟨s, 0, none⟩ v') s base (ys ++ [x]) av' cv' ∧ Off (fun k => k = s ∨ (Value.slice av ys.length cv).ownBlock = some k) W (w1.setCell ⟨s, 0, none⟩ v') := by
  have hoff : Off (fun k => k = s ∨ (Value.slice av ys.length cv).ownBlock = some k) W w1 := ((Off.of_below ((Below.refl _ W).alloc (Nat.le_refl _) O)).grown hg (fun k e => .inr (.inr e)))
  have hsl : s < W.heap.size := (Array.getElem?_eq_some_iff.1 h.var).1
  have hvar : w1.heap[s]? = some (.cells #[.slice av ys.length cv] 57 (0, 0)) := by
    have h0 := old_block ((Below.refl _ W).alloc (Nat.le_refl _) O) h.var
    rw [hg.block s (by simp; omega) (fun e => by obtain ⟨hb, _⟩ := own_cells h.row s e.symm; omega)]
    exact h0
  obtain ⟨av', cv', rfl⟩ : ∃ av' cv', v' = .slice av' (ys.length + 1) cv' := by
    rcases ho.2 with ⟨_, h0⟩ | ⟨g, cap, cur, rfl, _⟩
    · omega
    · exact ⟨_, _, rfl⟩
  refine ⟨av', cv', rfl, ⟨?_, ?_⟩, hoff.setCell (p := ⟨s, 0, none⟩) (.inr (.inl rfl)) _⟩
  · rw [heap_setCell_same _ _ _ _ _ _ hvar, List.length_append]; rfl
  · rw [List.length_append, List.map_append]
    have hoff2 : Off (fun k => k = s) w1 (w1.setCell ⟨s, 0, none⟩ (.slice av' (ys.length + 1) cv')) := (Off.refl (fun k => k = s) w1).setCell (p := ⟨s, 0, none⟩) (.inr rfl) _
    refine ⟨ho.1, ?_⟩
    rcases ho.2 with hn | ⟨g, cap, cur, e, hb, hgg, rest⟩
    · exact .inl hn
    · exact .inr ⟨g, cap, cur, e, hb, hoff2.at hgg (fun e => by have e2 : g = s := e; omega), rest⟩
/-- what a round may write keeps what the function behind All wants. -/
theorem gather_kp {W W2 : World} {s base B : Nat} {ys : List (Nat × FX)} {av : Option Addr} {cv : Nat} (h : Rw W s base ys av cv) (hs : B ≤ s) (hB : B ≤ base) (ho : Off (fun k => k = s ∨ (Value.slice av ys.length cv).ownBlock = some k) W W2) : KpU (fun _ => False) B W W2 ∧ ∀ D, KeepsFrom D W W2 := by
  refine ⟨KpU.of_off ho (fun k C t fr hk hn hS => ?_), fun D => ⟨ho.size, fun k o _ hk hc => ho.at hk (fun hS => ?_)⟩⟩
  · rcases hS with rfl | hS
    · rw [h.var] at hk; cases hk
      rcases hn with ⟨hn, _⟩ | hn
      · omega
      · revert hn; decide
    · obtain ⟨hb, C', hk'⟩ := own_cells h.row k hS
      rw [hk'] at hk; cases hk
      rcases hn with ⟨hn, _⟩ | hn
      · omega
      · revert hn; decide
  · rcases hS with rfl | hS
    · rw [h.var] at hk; cases hk; simp [Obj.isCells] at hc
    · obtain ⟨hb, C', hk'⟩ := own_cells h.row k hS
      rw [hk'] at hk; cases hk; simp [Obj.isCells] at hc
theorem slv_one (y : Nat × FX) : ∀ u ∈ [slv y], u.oneCell' = true := by
  intro u hu
  simp at hu
  subst hu
  rfl
/-- in the first loop. -/
structure G1 (wo w6 W : World) (ys : List (Nat × FX)) : Prop where
  var : ∃ av cv, Rw W wo.heap.size (wo.heap.size + 2) ys av cv
  oth : W.heap[wo.heap.size + 1]? = some (.cells #[.slice none 0 0] 57 (0, 0))
  bel : Below wo.heap.size wo W
  ge : w6.heap.size ≤ W.heap.size
theorem G1.own {wo w6 : World} {B : Nat} (hB : wo.heap.size ≤ B) : OwnFrom B (fun ys W => G1 wo w6 W ys) := fun ys W W' row h hg hr => by
  obtain ⟨av, cv, hv⟩ := h.var
  exact ⟨⟨av, cv, hv.grown hg hr⟩, kept_cells h.oth hg hr, h.bel.grown hg h.bel.size (fun k e => by have := (hr k e).1; omega), Nat.le_trans h.ge hg.size⟩
theorem G1.start {wo w6 : World} (hb : Below ((wo.alloc (.cells #[.slice none 0 0] 57)).alloc (.cells #[.slice none 0 0] 57)).heap.size ((wo.alloc (.cells #[.slice none 0 0] 57)).alloc (.cells #[.slice none 0 0] 57)) w6) : G1 wo w6 w6 [] := by
  have q1 := heap_alloc_new (wo.alloc (.cells #[.slice none 0 0] 57)) (.cells #[.slice none 0 0] 57)
  rw [World.size_alloc] at q1
  exact ⟨⟨none, 0, old_block hb (old_block ((Below.refl _ _).alloc (Nat.le_refl _) _) (heap_alloc_new wo _)), World.ownsRow_nil _ _ _ _⟩, old_block hb q1, below_of (((Below.refl _ wo).alloc (Nat.le_refl _) _).alloc (by simp) _) hb, Nat.le_refl _⟩
theorem G1.next {wo w6 W w1 : World} {ys : List (Nat × FX)} {x : Nat × FX} {av : Option Addr} {cv : Nat} {O : Obj} {v' : Value} (h : G1 wo w6 W ys) (hv : Rw W wo.heap.size (wo.heap.size + 2) ys av cv) (ho : w1.ownsRow (wo.heap.size + 2) 30 1 v' (ys.length + 1) (ys.map slv ++ [slv x])) (hg : (W.alloc O).grownBy w1 (Value.slice av ys.length cv).ownBlock) :
    KeepsFrom w6.heap.size W (w1.setCell ⟨wo.heap.size, 0, none⟩ v') ∧ KpU (fun _ => False) wo.heap.size W (w1.setCell ⟨wo.heap.size, 0, none⟩ v') ∧ G1 wo w6 (w1.setCell ⟨wo.heap.size, 0, none⟩ v') (ys ++ [x]) := by
  obtain ⟨av', cv', rfl, q1, q2⟩ := gather hv (by omega) ho hg
  obtain ⟨k1, k2⟩ := gather_kp hv (B := wo.heap.size) (Nat.le_refl _) (by omega) q2
  refine ⟨k2 _, k1, ⟨_, _, q1⟩, q2.at h.oth (fun hS => ?_), ?_, Nat.le_trans h.ge q2.size⟩
  · rcases hS with hS | hS
    · omega
    · obtain ⟨hb, _⟩ := own_cells hv.row _ hS; omega
  · refine ⟨q2.os.trans h.bel.os, q2.tape.trans h.bel.tape, q2.output.trans h.bel.output, Nat.le_trans h.bel.size q2.size, fun k hk => (q2.block k (Nat.lt_of_lt_of_le hk h.bel.size) (fun hS => ?_)).trans (h.bel.block k hk)⟩
    rcases hS with hS | hS
    · omega
    · obtain ⟨hb, _⟩ := own_cells hv.row _ hS; omega
/-- in the second loop. -/
structure G2 (wo w8 W : World) (Y : List FX) (zs : List (Nat × FX)) (az : Option Addr) (cz : Nat) (ys : List (Nat × FX)) : Prop where
  a : Rw W wo.heap.size (wo.heap.size + 2) zs az cz
  alt : ∀ k, (Value.slice az zs.length cz).ownBlock = some k → k < w8.heap.size
  td : Td Y zs W
  var : ∃ av cv, Rw W (wo.heap.size + 1) w8.heap.size ys av cv
  bel : Below wo.heap.size wo W
  ge : w8.heap.size ≤ W.heap.size
  lt : wo.heap.size + 2 ≤ w8.heap.size
theorem G2.own {wo w8 : World} {Y : List FX} {zs : List (Nat × FX)} {az : Option Addr} {cz B : Nat} (hB : wo.heap.size ≤ B) : OwnFrom B (fun ys W => G2 wo w8 W Y zs az cz ys) := fun ys W W' row h hg hr => by
  obtain ⟨av, cv, hv⟩ := h.var
  exact ⟨h.a.grown hg hr, h.alt, h.td.same (fun k C fr hk => kept_cells hk hg hr), ⟨av, cv, hv.grown hg hr⟩, h.bel.grown hg h.bel.size (fun k e => by have := (hr k e).1; omega), Nat.le_trans h.ge hg.size, h.lt⟩
theorem G2.start {wo w6 w7 w8 : World} {Y : List FX} {zs : List (Nat × FX)} {az : Option Addr} {cz : Nat} (h : G1 wo w6 w7 zs) (hv : Rw w7 wo.heap.size (wo.heap.size + 2) zs az cz) (ht : Td Y zs w7) (hb : Below w7.heap.size w7 w8) : G2 wo w8 w8 Y zs az cz [] := by
  have hs : wo.heap.size + 1 < w7.heap.size := (Array.getElem?_eq_some_iff.1 h.oth).1
  refine ⟨hv.off (S := fun _ => False) (Off.of_below hb) id (fun _ e => e.elim), fun k hk => ?_, ht.same (fun _ _ _ hk => old_block hb hk), ⟨none, 0, old_block hb h.oth, World.ownsRow_nil _ _ _ _⟩, below_of h.bel hb, Nat.le_refl _, Nat.le_trans hs hb.size⟩
  obtain ⟨_, C, hc⟩ := own_cells hv.row k hk
  exact Nat.lt_of_lt_of_le (Array.getElem?_eq_some_iff.1 hc).1 hb.size
theorem G2.next {wo w8 W w1 : World} {Y : List FX} {zs ys : List (Nat × FX)} {x : Nat × FX} {av az : Option Addr} {cv cz : Nat} {O : Obj} {v' : Value} (h : G2 wo w8 W Y zs az cz ys) (hv : Rw W (wo.heap.size + 1) w8.heap.size ys av cv) (ho : w1.ownsRow w8.heap.size 30 1 v' (ys.length + 1) (ys.map slv ++ [slv x])) (hg : (W.alloc O).grownBy w1 (Value.slice av ys.length cv).ownBlock) :
    KeepsFrom w8.heap.size W (w1.setCell ⟨wo.heap.size + 1, 0, none⟩ v') ∧ KpU (fun _ => False) wo.heap.size W (w1.setCell ⟨wo.heap.size + 1, 0, none⟩ v') ∧ G2 wo w8 (w1.setCell ⟨wo.heap.size + 1, 0, none⟩ v') Y zs az cz (ys ++ [x]) ∧ ∀ (k : Nat) (o : Obj), W.heap[k]? = some o → o.isCells = false → (w1.setCell ⟨wo.heap.size + 1, 0, none⟩ v').heap[k]? = some o := by
  have hlt := h.lt
  obtain ⟨av', cv', rfl, q1, q2⟩ := gather hv (by omega) ho hg
  obtain ⟨k1, k2⟩ := gather_kp hv (B := wo.heap.size) (by omega) (by omega) q2
  refine ⟨k2 _, k1, ⟨⟨q2.at h.a.var (fun hS => ?_), h.a.row.1, ?_⟩, h.alt, h.td.same (fun k C fr hk => k1.cells k C _ fr hk (.inr rfl)), ⟨_, _, q1⟩, ?_, Nat.le_trans h.ge q2.size, h.lt⟩, fun k o hk hc => (k2 0).same k o (Nat.zero_le _) hk hc⟩
  · rcases hS with hS | hS
    · omega
    · obtain ⟨hb, _⟩ := own_cells hv.row _ hS; omega
  · rcases h.a.row.2 with hn | ⟨g, cap, cur, e, hb, hgg, rest⟩
    · exact .inl hn
    · refine .inr ⟨g, cap, cur, e, hb, q2.at hgg (fun hS => ?_), rest⟩
      have hgl := h.alt g (by rw [e]; rfl)
      rcases hS with hS | hS
      · omega
      · obtain ⟨hb2, _⟩ := own_cells hv.row _ hS; omega
  · refine ⟨q2.os.trans h.bel.os, q2.tape.trans h.bel.tape, q2.output.trans h.bel.output, Nat.le_trans h.bel.size q2.size, fun k hk => (q2.block k (Nat.lt_of_lt_of_le hk h.bel.size) (fun hS => ?_)).trans (h.bel.block k hk)⟩
    rcases hS with hS | hS
    · omega
    · obtain ⟨hb, _⟩ := own_cells hv.row _ hS; omega
/-- behind both loops. -/
structure Fn (wo W : World) (lb mb n mm D D2 : Nat) (M : List Fl) (zs ys : List (Nat × FX)) (az av : Option Addr) (cz cv base : Nat) : Prop where
  a : Rw W wo.heap.size (wo.heap.size + 2) zs az cz
  b : Rw W (wo.heap.size + 1) base ys av cv
  lz : zs.length = mm
  ly : ys.length = mm
  rows : ∀ (i : Nat) (z y : Nat × FX), zs[i]? = some z → ys[i]? = some y → z.2.x.bytes = y.2.x.bytes ∧ Row W z.2.a z.2.x.bytes ∧ Row W y.2.a y.2.x.bytes
  lk : Lk No W lb mb n M
  lM : M.length = mm
  bel : Below wo.heap.size wo W
  d1 : W.heap[D]? = some (.deferred (some []))
  d2 : W.heap[D2]? = some (.deferred (some []))
theorem Fn.later {wo W W' : World} {lb mb n mm D D2 : Nat} {M : List Fl} {zs ys : List (Nat × FX)} {az av : Option Addr} {cz cv base : Nat} (h : Fn wo W lb mb n mm D D2 M zs ys az av cz cv base) (hb : Below W.heap.size W W') : Fn wo W' lb mb n mm D D2 M zs ys az av cz cv base :=
  ⟨h.a.off (S := fun _ => False) (Off.of_below hb) id (fun _ e => e.elim), h.b.off (S := fun _ => False) (Off.of_below hb) id (fun _ e => e.elim), h.lz, h.ly, fun i z y hz hy => by obtain ⟨q1, q2, q3⟩ := h.rows i z y hz hy; exact ⟨q1, q2.later hb, q3.later hb⟩, h.lk.later hb, h.lM, below_of h.bel hb, old_block hb h.d1, old_block hb h.d2⟩
theorem fn_of {wo w8 W : World} {lb mb n D D2 : Nat} {p q : Int} {L M : List Fl} {Y Z : List FX} {zs ys : List (Nat × FX)} {az av : Option Addr} {cz cv : Nat} (h : G2 wo w8 W Y zs az cz ys) (hv : Rw W (wo.heap.size + 1) w8.heap.size ys av cv) (hl : Lk No wo lb mb n M) (ht : Td Z ys W) (hz : zs.length = Y.length) (hy : ys.length = Z.length) (hY : Y.map FX.x = L.filter (pf p q)) (hZ : Z.map FX.x = M.filter (pf p q)) (he : L.filter (pf p q) = M.filter (pf p q)) (ha : ∀ x ∈ M, pf p q x = true) (d1 : W.heap[D]? = some (.deferred (some []))) (d2 : W.heap[D2]? = some (.deferred (some []))) :
    Fn wo W lb mb n ys.length D D2 M zs ys az av cz cv w8.heap.size := by
  have hYZ : Y.map FX.x = Z.map FX.x := by rw [hY, hZ, he]
  have hlen : Y.length = Z.length := by have := congrArg List.length hYZ; simpa using this
  have hM : M.filter (pf p q) = M := List.filter_eq_self.2 ha
  refine ⟨h.a, hv, by omega, rfl, fun i z y hzi hyi => ?_, hl.later h.bel, ?_, h.bel, d1, d2⟩
  · obtain ⟨_, ⟨u, hu, eu⟩, bt, _⟩ := h.td.each i z hzi
    obtain ⟨_, ⟨v, hv', ev⟩, bt', _⟩ := ht.each i y hyi
    have e : (Y[i]?).map FX.x = (Z[i]?).map FX.x := by rw [← List.getElem?_map, ← List.getElem?_map, hYZ]
    rw [hu, hv'] at e
    simp only [Option.map_some, Option.some.injEq] at e
    exact ⟨by rw [eu, ev, e], bt.row, bt'.row⟩
  · rw [← hM, ← hZ, List.length_map, hy]
theorem rw_cell {W : World} {s base : Nat} {ys : List (Nat × FX)} {av : Option Addr} {cv : Nat} (h : Rw W s base ys av cv) (i : Nat) (hi : i < ys.length) : ∃ g, av = some ⟨g, 0, none⟩ ∧ W.cell? ⟨g, i, none⟩ = some (slv ys[i]) ∧ ys.length ≤ cv := by
  rcases h.row.2 with ⟨_, h0⟩ | ⟨g, cap, cur, e, hb, hgg, hle, _, _, hx⟩
  · omega
  · cases e
    refine ⟨g, rfl, ?_, hle⟩
    have h2 := h.row.cellAt i (by omega)
    rw [h2, List.getElem?_map, List.getElem?_eq_getElem hi]
    rfl
end Go.Proofs.Ytopfpdkknfjgoaa
