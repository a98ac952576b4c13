/- sendRows: what stands between the rounds. -/
import Derived.Test.YtnjcaolkcmpdcaaUGap
namespace Go.Proofs.Ytnjcaolkcmpdcaa
open Go.RowKit Go.Shelf
set_option linter.unusedVariables false
/-- a block that what a turn sends does not touch. -/
def FarT (tb : Nat) (W : World) (k : Nat) : Prop := ∃ v, W.cell? ⟨tb, 24, none⟩ = some v ∧ k ≠ tb ∧ v.ownBlock ≠ some k ∧ k < W.heap.size
/-- what a turn's sending leaves. -/
structure KpV (tb : Nat) (A B : World) : Prop where
  size : A.heap.size ≤ B.heap.size
  keep : ∀ v, A.cell? ⟨tb, 24, none⟩ = some v → ∃ v', B.cell? ⟨tb, 24, none⟩ = some v' ∧ (∀ k, v'.ownBlock = some k → v.ownBlock = some k ∨ A.heap.size ≤ k) ∧ ∀ k C t fr, A.heap[k]? = some (.cells C t fr) → k ≠ tb → v.ownBlock ≠ some k → B.heap[k]? = some (.cells C t fr)
theorem KpV.trans {tb : Nat} {A B C : World} (h : KpV tb A B) (k : KpV tb B C) : KpV tb A C := by
  refine ⟨Nat.le_trans h.size k.size, fun v hv => ?_⟩
  obtain ⟨v1, c1, o1, k1⟩ := h.keep v hv
  obtain ⟨v2, c2, o2, k2⟩ := k.keep v1 c1
  refine ⟨v2, c2, fun i e => ?_, fun i D t fr hi hn ho => ?_⟩
  · rcases o2 i e with e | e
    · exact o1 i e
    · exact .inr (Nat.le_trans h.size e)
  · refine k2 i D t fr (k1 i D t fr hi hn ho) hn (fun e => ?_)
    rcases o1 i e with e | e
    · exact ho e
    · have := (Array.getElem?_eq_some_iff.1 hi).1
      omega
theorem KpV.put {tb : Nat} {W : World} {l : Nat} {o o' : Obj} (h : W.heap[l]? = some o) (hc : o.isCells = false) : KpV tb W (W.putObj l o') := by
  have ne : ∀ {k : Nat} {C : Array Value} {t : TypeId} {fr : Nat × Nat}, W.heap[k]? = some (.cells C t fr) → k ≠ l := fun hk e => by subst e; rw [h] at hk; cases hk; simp [Obj.isCells] at hc
  have kp : ∀ {k : Nat} {C : Array Value} {t : TypeId} {fr : Nat × Nat}, W.heap[k]? = some (.cells C t fr) → (W.putObj l o').heap[k]? = some (.cells C t fr) := fun hk => by simp [World.putObj, Array.getElem?_setIfInBounds_ne (Ne.symm (ne hk)), hk]
  refine ⟨by simp [World.putObj], fun v hv => ⟨v, ?_, fun k e => .inl e, fun k C t fr hk _ _ => kp hk⟩⟩
  obtain ⟨C, t, fr, he⟩ := cell_is hv
  have := kp he
  unfold World.cell? at hv ⊢
  rw [he] at hv
  rw [this]
  exact hv
theorem KpV.of_below {tb : Nat} {A B : World} (h : Below A.heap.size A B) : KpV tb A B := ⟨h.size, fun v hv => ⟨v, cell_later h hv, fun k e => .inl e, fun k C t fr hk _ _ => old_block h hk⟩⟩
theorem farO {tb : Nat} {S : Nat → Prop} (hS : ¬ S tb) : FarO (FarT tb) (KpV tb) S where
  kp := fun {A B k C t fr} hk hf hc => by
    obtain ⟨v, h1, h2, h3, h4⟩ := hf
    obtain ⟨v', c1, o1, k1⟩ := hk.keep v h1
    refine ⟨k1 k C t fr hc h2 h3, v', c1, h2, fun e => ?_, Nat.lt_of_lt_of_le h4 hk.size⟩
    rcases o1 k e with e | e
    · exact h3 e
    · omega
  off := fun {A B k} hf ho => by
    obtain ⟨v, h1, h2, h3, h4⟩ := hf
    exact ⟨v, ho.cell h1 hS, h2, h3, Nat.lt_of_lt_of_le h4 ho.size⟩
/-- the segment of a piece. -/
def segOf (s : Sn) (x : Nat × Nat) : Sg := ⟨1, s.bgn.src, s.bgn.ses, 0, 0, (x.1 : Int), (s.bgn.blk.length : Int), 0, 0, 0, false, (s.bgn.blk.drop x.1).take x.2, []⟩
/-- where a row lies apart of what is sent. -/
def Apt (tb : Nat) (Q : Nat → Prop) (v : Value) (W : World) (k : Nat) : Prop := k < W.heap.size ∧ k ≠ tb ∧ v.ownBlock ≠ some k ∧ ¬ Q k
structure SnI (W0 : World) (tb tx n0 : Nat) (v0 : Value) (s : Sn) (p : Pt) (L0 : List Sg) (Q : Nat → Prop) (D : List (Nat × Nat)) (v : Value) (L : List SD) (W : World) : Prop where
  sy : Sy W tb n0 s p v L
  lst : L.map SD.s = L0 ++ D.map (segOf s)
  each : ∀ x ∈ L, Row W x.a x.s.dat ∧ x.s.dat.length ≤ x.c ∧ x.c ≤ maxLen ∧ x.a2 = none ∧ x.c2 = 0 ∧ ∀ b, x.a = some b → Apt tb Q v W b.block
  blk : Row W p.ab s.bgn.blk ∧ ∀ b, p.ab = some b → Apt tb Q v W b.block
  txb : W.heap[tx]? = some (.cells #[.pointer (some ⟨tb, 0, none⟩)] 101 (0, 0)) ∧ Apt tb Q v W tx
  vq : ∀ k, v.ownBlock = some k → ¬ Q k
  tq : ¬ Q tb
  off : Off (fun i => i = tb ∨ v0.ownBlock = some i) W0 W
  vo : ∀ k, v.ownBlock = some k → v0.ownBlock = some k ∨ W0.heap.size ≤ k
theorem row_keep {W W' : World} {a : Option Addr} {l : List Nat} {Q : Nat → Prop} (h : Row W a l) (ha : 0 < l.length → ∀ b, a = some b → ¬ Q b.block) (hk : ∀ k C t fr, W.heap[k]? = some (.cells C t fr) → ¬ Q k → W'.heap[k]? = some (.cells C t fr)) : Row W' a l := by
  refine ⟨h.1, h.2.1, fun h0 => ?_⟩
  obtain ⟨b, o, rfl, hc⟩ := h.2.2 h0
  refine ⟨b, o, rfl, fun i hi => ?_⟩
  have hu := hc i hi
  obtain ⟨C, t, fr, he⟩ := cell_is hu
  have := hk _ C t fr he (ha h0 ⟨b, o, none⟩ rfl)
  unfold World.cell? at hu ⊢
  simp only at he this hu ⊢
  rw [he] at hu
  rw [this]
  exact hu
theorem SnI.step {W0 W W' : World} {tb tx n0 : Nat} {v0 : Value} {s : Sn} {p : Pt} {L0 : List Sg} {Q : Nat → Prop} {D : List (Nat × Nat)} {v : Value} {L : List SD} (h : SnI W0 tb tx n0 v0 s p L0 Q D v L W) (hs : W.heap.size ≤ W'.heap.size)
    (hk : ∀ k C t fr, W.heap[k]? = some (.cells C t fr) → ¬ Q k → W'.heap[k]? = some (.cells C t fr)) (ho : Off (fun i => i = tb ∨ v0.ownBlock = some i) W0 W') : SnI W0 tb tx n0 v0 s p L0 Q D v L W' := by
  have ap : ∀ {k : Nat}, Apt tb Q v W k → Apt tb Q v W' k := fun h => ⟨Nat.lt_of_lt_of_le h.1 hs, h.2⟩
  refine ⟨⟨hk _ _ _ _ h.sy.box h.tq, ?_, h.sy.lt, Nat.le_trans h.sy.le hs⟩, h.lst, fun x hx => ?_, ⟨row_keep h.blk.1 (fun _ b e => (h.blk.2 b e).2.2.2) hk, fun b e => ap (h.blk.2 b e)⟩, ⟨hk _ _ _ _ h.txb.1 h.txb.2.2.2.2, ap h.txb.2⟩, h.vq, h.tq, ho, h.vo⟩
  · obtain ⟨h1, h2⟩ := h.sy.own
    refine ⟨h1, ?_⟩
    rcases h2 with h2 | ⟨g, cap, cur, hv, a2, a3, a4⟩
    · exact .inl h2
    · exact .inr ⟨g, cap, cur, hv, a2, hk _ _ _ _ a3 (h.vq g (by rw [hv]; rfl)), a4⟩
  · obtain ⟨r1, r2, r3, r4, r5, r6⟩ := h.each x hx
    exact ⟨row_keep r1 (fun _ b e => (r6 b e).2.2.2) hk, r2, r3, r4, r5, fun b e => ap (r6 b e)⟩
theorem SnI.later {W0 W W' : World} {tb tx n0 : Nat} {v0 : Value} {s : Sn} {p : Pt} {L0 : List Sg} {Q : Nat → Prop} {D : List (Nat × Nat)} {v : Value} {L : List SD} (h : SnI W0 tb tx n0 v0 s p L0 Q D v L W) (hb : Below W.heap.size W W') : SnI W0 tb tx n0 v0 s p L0 Q D v L W' :=
  h.step hb.size (fun k C t fr hk _ => old_block hb hk) (h.off.trans (Off.of_below (S := fun _ => False) hb) (fun _ _ t => t.elim))
theorem SnI.grown {W0 W W' : World} {tb tx n0 B : Nat} {v0 : Value} {s : Sn} {p : Pt} {L0 : List Sg} {Q : Nat → Prop} {D : List (Nat × Nat)} {v : Value} {L : List SD} {row : Option Nat} (h : SnI W0 tb tx n0 v0 s p L0 Q D v L W) (hB : W0.heap.size ≤ B) (hg : W.grownBy W' row) (hr : ∀ r, row = some r → B ≤ r ∧ ∃ o : Obj, W.heap[r]? = some o ∧ o.isCells = false) : SnI W0 tb tx n0 v0 s p L0 Q D v L W' :=
  h.step hg.size (fun k C t fr hk _ => kept_cells hk hg hr) (h.off.grown hg (fun k e => .inl (by have := (hr k e).1; omega)))
theorem SnI.offq {W0 W W' : World} {tb tx n0 bq : Nat} {v0 : Value} {s : Sn} {p : Pt} {L0 : List Sg} {D : List (Nat × Nat)} {v : Value} {L : List SD} (h : SnI W0 tb tx n0 v0 s p L0 (fun k => k = bq) D v L W) (hB : W0.heap.size ≤ bq) (ho : Off (fun k => k = bq) W W') : SnI W0 tb tx n0 v0 s p L0 (fun k => k = bq) D v L W' :=
  h.step ho.size (fun k C t fr hk hn => ho.at hk hn) (h.off.trans ho (fun i hi e => by have : i = bq := e; omega))
theorem own_in {w : World} {base n z : Nat} {e : TypeId} {v : Value} {xs : List Value} (h : w.ownsRow base e z v n xs) : ∀ k, v.ownBlock = some k → k < w.heap.size := by
  intro k hk
  rcases h.2 with ⟨rfl, _⟩ | ⟨g, cap, cur, rfl, _, hc, _⟩
  · cases hk
  · cases hk
    exact (Array.getElem?_eq_some_iff.1 hc).1
/-- a block that was just made is avoided by all. -/
theorem SnI.avoid {W0 W : World} {tb tx n0 : Nat} {v0 : Value} {s : Sn} {p : Pt} {L0 : List Sg} {D : List (Nat × Nat)} {v : Value} {L : List SD} (h : SnI W0 tb tx n0 v0 s p L0 (fun _ => False) D v L W) (O : Obj) : SnI W0 tb tx n0 v0 s p L0 (fun k => k = W.heap.size) D v L (W.alloc O) := by
  have h2 := h.later ((Below.refl _ W).alloc (Nat.le_refl _) O)
  have hlt : ∀ {k : Nat}, Apt tb (fun _ => False) v W k → Apt tb (fun k => k = W.heap.size) v (W.alloc O) k := fun {k} q => ⟨by have := q.1; simp; omega, q.2.1, q.2.2.1, fun e => by have := q.1; have : k = W.heap.size := e; omega⟩
  refine ⟨h2.sy, h2.lst, fun x hx => ?_, ⟨h2.blk.1, fun b e => hlt (h.blk.2 b e)⟩, ⟨h2.txb.1, hlt h.txb.2⟩, fun k e q => by have := own_in h.sy.own k e; have : k = W.heap.size := q; omega, fun q => by have := h.sy.lt; have := h.sy.le; have : tb = W.heap.size := q; omega, h2.off, h2.vo⟩
  obtain ⟨r1, r2, r3, r4, r5, _⟩ := h2.each x hx
  exact ⟨r1, r2, r3, r4, r5, fun b e => hlt ((h.each x hx).2.2.2.2.2 b e)⟩
/-- and need not be avoided any more. -/
theorem SnI.free {W0 W : World} {tb tx n0 : Nat} {v0 : Value} {s : Sn} {p : Pt} {L0 : List Sg} {Q : Nat → Prop} {D : List (Nat × Nat)} {v : Value} {L : List SD} (h : SnI W0 tb tx n0 v0 s p L0 Q D v L W) : SnI W0 tb tx n0 v0 s p L0 (fun _ => False) D v L W := by
  have hlt : ∀ {k : Nat}, Apt tb Q v W k → Apt tb (fun _ => False) v W k := fun q => ⟨q.1, q.2.1, q.2.2.1, id⟩
  refine ⟨h.sy, h.lst, fun x hx => ?_, ⟨h.blk.1, fun b e => hlt (h.blk.2 b e)⟩, ⟨h.txb.1, hlt h.txb.2⟩, fun _ _ => id, id, h.off, h.vo⟩
  obtain ⟨r1, r2, r3, r4, r5, r6⟩ := h.each x hx
  exact ⟨r1, r2, r3, r4, r5, fun b e => hlt (r6 b e)⟩
/-- one more segment was said. -/
theorem SnI.said {W0 w w' : World} {tb tx n0 : Nat} {v0 v v' : Value} {s : Sn} {p : Pt} {L0 : List Sg} {Q : Nat → Prop} {D : List (Nat × Nat)} {L : List SD} {x : Nat × Nat} {X : SD} (h : SnI W0 tb tx n0 v0 s p L0 Q D v L w) (hQ : ∀ k, Q k → k < w.heap.size) (hq : Sy w' tb n0 s p v' (L ++ [X])) (ho : Off (fun i => i = tb ∨ v.ownBlock = some i) w w') (hv : ∀ k, v'.ownBlock = some k → v.ownBlock = some k ∨ w.heap.size ≤ k)
    (hX : X.s = segOf s x) (hr : Row w X.a X.s.dat) (hl : X.s.dat.length ≤ X.c ∧ X.c ≤ maxLen) (h2 : X.a2 = none ∧ X.c2 = 0) (ha : ∀ b, X.a = some b → Apt tb Q v w b.block) : SnI W0 tb tx n0 v0 s p L0 Q (D ++ [x]) v' (L ++ [X]) w' := by
  have ap : ∀ {k : Nat}, Apt tb Q v w k → Apt tb Q v' w' k := fun {k} q => ⟨Nat.lt_of_lt_of_le q.1 ho.size, q.2.1, fun e => by
    rcases hv k e with e | e
    · exact q.2.2.1 e
    · have := q.1; omega, q.2.2.2⟩
  have kp : ∀ {a : Option Addr} {l : List Nat}, Row w a l → (∀ b, a = some b → Apt tb Q v w b.block) → Row w' a l := fun hr hb => hr.off ho (fun _ b e => by
    have := hb b e
    rintro (q | q)
    · exact this.2.1 q
    · exact this.2.2.1 q)
  refine ⟨hq, by rw [List.map_append, h.lst, List.map_append, List.append_assoc]; simp [hX], fun y hy => ?_, ⟨kp h.blk.1 h.blk.2, fun b e => ap (h.blk.2 b e)⟩, ⟨ho.at h.txb.1 (by rintro (q | q); exact h.txb.2.2.1 q; exact h.txb.2.2.2.1 q), ap h.txb.2⟩, fun k e q => ?_, h.tq, h.off.trans ho (fun i hi q => ?_), fun k e => ?_⟩
  · rcases List.mem_append.1 hy with hy | hy
    · obtain ⟨r1, r2, r3, r4, r5, r6⟩ := h.each y hy
      exact ⟨kp r1 r6, r2, r3, r4, r5, fun b e => ap (r6 b e)⟩
    · rw [List.mem_singleton] at hy
      subst hy
      exact ⟨kp hr ha, hl.1, hl.2, h2.1, h2.2, fun b e => ap (ha b e)⟩
  · rcases hv k e with e | e
    · exact h.vq k e q
    · have := hQ k q; omega
  · rcases q with q | q
    · exact .inl q
    · rcases h.vo i q with q | q
      · exact .inr q
      · omega
  · rcases hv k e with e | e
    · exact h.vo k e
    · exact .inr (Nat.le_trans h.off.size e)
/-- what saying leaves. -/
theorem kpv_said {w w' : World} {tb n0 : Nat} {s : Sn} {p : Pt} {v v' : Value} {L M : List SD} (h : Sy w tb n0 s p v L) (hq : Sy w' tb n0 s p v' M) (ho : Off (fun i => i = tb ∨ v.ownBlock = some i) w w') (hv : ∀ k, v'.ownBlock = some k → v.ownBlock = some k ∨ w.heap.size ≤ k) : KpV tb w w' := by
  refine ⟨ho.size, fun u hu => ?_⟩
  have : w.cell? ⟨tb, 24, none⟩ = some v := by rw [cell_of h.box]; rfl
  rw [this] at hu
  cases hu
  exact ⟨v', by rw [cell_of hq.box]; rfl, hv, fun k C t fr hk h1 h2 => ho.at hk (by rintro (q | q); exact h1 q; exact h2 q)⟩
theorem keeps_said {w w' : World} {tb n0 B : Nat} {s : Sn} {p : Pt} {v : Value} {L : List SD} (h : Sy w tb n0 s p v L) (ho : Off (fun i => i = tb ∨ v.ownBlock = some i) w w') : KeepsFrom B w w' := by
  refine ⟨ho.size, fun k o hk hko hc => ho.at hko ?_⟩
  rintro (q | q)
  · subst q
    rw [h.box] at hko
    cases hko
    simp [Obj.isCells] at hc
  · rcases h.own.2 with ⟨rfl, _⟩ | ⟨g, cap, cur, rfl, _, hb, _⟩
    · cases q
    · cases q
      rw [hb] at hko
      cases hko
      simp [Obj.isCells] at hc
theorem sni_far {W0 W : World} {tb tx n0 : Nat} {v0 : Value} {s : Sn} {p : Pt} {L0 : List Sg} {Q : Nat → Prop} {D : List (Nat × Nat)} {v : Value} {L : List SD} (h : SnI W0 tb tx n0 v0 s p L0 Q D v L W) (O : Obj) : FarT tb (W.alloc O) W.heap.size := by
  refine ⟨v, cell_later ((Below.refl _ W).alloc (Nat.le_refl _) O) (by rw [cell_of h.sy.box]; rfl), fun e => by have := h.sy.lt; have := h.sy.le; omega, fun e => by have := own_in h.sy.own _ e; omega, by simp⟩
end Go.Proofs.Ytnjcaolkcmpdcaa
