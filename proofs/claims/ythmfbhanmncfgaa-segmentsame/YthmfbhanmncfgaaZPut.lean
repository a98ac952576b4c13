/- (*segment.writer).put, data, report. -/
import Derived.Test.YthmfbhanmncfgaaZClaims
import Derived.Deep.RegionLaw
namespace Go.Proofs.Ythmfbhanmncfgaa
open Go.RowKit
set_option linter.unusedVariables false
/-- a writer: its block, its bytes, owned. -/
structure Wr (w : World) (base p : Nat) (v : Value) (l : List Nat) : Prop where
  here : w.heap[p]? = some (.cells #[v] 42 (0, 0))
  own : w.ownsRow base 5 1 v l.length (cells l)
  ne : ∀ g, v.ownBlock = some g → g ≠ p
  byte : ∀ x ∈ l, x < 256
/-- the writer has the bytes m now; nothing else has turned. -/
def Wrote (w : World) (base p : Nat) (v : Value) (m : List Nat) (w' : World) (v' : Value) : Prop :=
  Wr w' base p v' m ∧ Off (fun k => k = p ∨ v.ownBlock = some k) w w' ∧ ∀ k, v'.ownBlock = some k → v.ownBlock = some k ∨ w.heap.size ≤ k
theorem Wr.later {w w' : World} {base p : Nat} {v : Value} {l : List Nat} (h : Wr w base p v l) (hb : Below w.heap.size w w') : Wr w' base p v l :=
  ⟨old_block hb h.here, (Off.of_below (S := fun _ => False) hb).owns h.own (fun _ _ => id), h.ne, h.byte⟩
theorem Wrote.trans {w w1 w2 w3 : World} {base p : Nat} {v v1 v2 : Value} {m m2 : List Nat} (h : Wrote w base p v m w1 v1) (hb : Below w1.heap.size w1 w2) (k : Wrote w2 base p v1 m2 w3 v2) : Wrote w base p v m2 w3 v2 := by
  obtain ⟨h1, h2, h3⟩ := h
  obtain ⟨k1, k2, k3⟩ := k
  refine ⟨k1, (h2.trans (Off.of_below (S := fun _ => False) hb) (fun _ _ t => t.elim)).trans k2 (fun i hi t => ?_), fun i e => ?_⟩
  · rcases t with t | t
    · exact .inl t
    · exact (h3 i t).elim .inr (fun hge => by omega)
  · rcases k3 i e with t | t
    · exact h3 i t
    · exact .inr (by have := h2.size; have := hb.size; omega)
theorem Wrote.ahead {w w2 w3 : World} {base p : Nat} {v v2 : Value} {m2 : List Nat} (hb : Below w.heap.size w w2) (k : Wrote w2 base p v m2 w3 v2) : Wrote w base p v m2 w3 v2 :=
  ⟨k.1, (Off.of_below (S := fun k => k = p ∨ v.ownBlock = some k) hb).trans k.2.1 (fun _ _ t => t), fun i e => (k.2.2 i e).elim .inl (fun t => .inr (by have := hb.size; omega))⟩
theorem rowL_pos (L : List Nat) (h : 0 < L.length) : 0 < (rowL L).length := by
  cases L with
  | nil => simp at h
  | cons n r => simp [rowL, sd]; omega
theorem Wr.keep {w w1 w2 : World} {base p : Nat} {v : Value} {l : List Nat} (h : Wr w base p v l) (hb : Below w.heap.size w w1) (hg : w1.grownBy w2 v.ownBlock) : w2.heap[p]? = some (.cells #[v] 42 (0, 0)) := by
  have hp := (Array.getElem?_eq_some_iff.1 h.here).1
  rw [hg.block p (by have := hb.size; omega) (fun e => h.ne p e.symm rfl), hb.block p hp]
  exact h.here
theorem Wr.put {w w1 w2 : World} {base p : Nat} {v : Value} {l m : List Nat} {g n cap : Nat} (h : Wr w base p v l) (hb : Below w.heap.size w w1) (hg : w1.grownBy w2 v.ownBlock) (hat : v.ownBlock = some g ∨ g = w1.heap.size) (ho : w2.ownsRow base 5 1 (.slice (some ⟨g, 0, none⟩) n cap) n (cells l ++ cells m)) (hm : ∀ x ∈ m, x < 256) :
    Wr (w2.setCell ⟨p, 0, none⟩ (.slice (some ⟨g, 0, none⟩) n cap)) base p (.slice (some ⟨g, 0, none⟩) n cap) (l ++ m) ∧ Off (fun k => k = p ∨ v.ownBlock = some k) w (w2.setCell ⟨p, 0, none⟩ (.slice (some ⟨g, 0, none⟩) n cap)) ∧ ∀ k, (Value.slice (some ⟨g, 0, none⟩) n cap).ownBlock = some k → v.ownBlock = some k ∨ w.heap.size ≤ k := by
  have hk := h.keep hb hg
  have hp := (Array.getElem?_eq_some_iff.1 h.here).1
  have hgp : g ≠ p := by
    rcases hat with e | e
    · exact h.ne g e
    · have := hb.size; omega
  have hoff : Off (fun k => k = p) w2 (w2.setCell ⟨p, 0, none⟩ (.slice (some ⟨g, 0, none⟩) n cap)) := (Off.refl (fun k => k = p) w2).setCell (p := ⟨p, 0, none⟩) (.inr rfl) _
  have hn : n = (l ++ m).length := by
    have := ho.1
    rw [← cells_append, cells_length] at this
    omega
  refine ⟨⟨by rw [heap_setCell_same _ _ _ _ _ _ hk]; rfl, ?_, ?_, ?_⟩, ?_, ?_⟩
  · rw [cells_append, ← hn]
    exact hoff.owns ho (fun g' e => by cases e; exact hgp)
  · intro g' e; cases e; exact hgp
  · intro x hx
    rcases List.mem_append.1 hx with hx | hx
    · exact h.byte x hx
    · exact hm x hx
  · refine Off.trans (Off.trans (Off.of_below (S := fun k => k = p ∨ v.ownBlock = some k) hb) ((Off.refl (fun k => v.ownBlock = some k) w1).grown hg (fun k e => .inr e)) (fun i _ t => .inr t)) hoff (fun i _ t => .inl t)
  · intro k e
    cases e
    rcases hat with e | e
    · exact .inl e
    · exact .inr (by show _ ≤ g; have := hb.size; omega)
set_option maxRecDepth 20000 in
set_option maxHeartbeats 4000000 in
theorem put_any (w : World) (base p : Nat) (v : Value) (l : List Nat) (h : Wr w base p v l) (hbase : base ≤ w.heap.size) (a : Option Addr) (c : Nat) (L : List Nat) (hr : Row64 w a L) (hz : L.length ≤ 1000) (h0 : 0 < L.length) (hl : l.length ≤ 10000) :
    Calls Try.prog 15 #[.pointer (some ⟨p, 0, none⟩), .slice a L.length c] w fun e w' => e = .returned (.tuple #[]) ∧ ∃ v', Hid (Wrote w base p v (l ++ rowL L) w' v') := by
  obtain ⟨i0, hi, hz0, hz1, hz2⟩ := info_parts Try.info5
  have HI : Hid _ := hi
  clear hi
  have hcell : w.cell? ⟨p, 0, none⟩ = some v := by rw [cell_of h.here]; rfl
  have hfr : w.frozen? ⟨p, 0, none⟩ = false := frozen_of h.here 0
  have HR : Hid (∀ W, Below w.heap.size w W → Calls Try.prog 27 #[.slice a L.length c] W fun e w' => e = .returned (.slice (some ⟨W.heap.size, 0, none⟩) (rowL L).length (rowL L).length) ∧ Hid (Bs w' W.heap.size (rowL L) ∧ Below W.heap.size W w')) := fun W hb => row_any W a c L (hr.later hb) (by omega)
  have hpos := rowL_pos L h0
  have hlen := rowL_len L hr.1
  have HW : Hid (Wr w base p v l) := h
  have HBY : Hid (∀ x ∈ rowL L, x < 256) := rowL_byte L
  have HO : Hid (∀ W, Below w.heap.size w W → W.ownsRow base 5 1 v l.length (cells l)) := fun W hb => (Off.of_below (S := fun _ => False) hb).owns h.own (fun _ _ => id)
  clear h hr
  generalize rowL L = M at HR hpos hlen HBY ⊢
  go_enter Try.func15, Try.ntmps15
  go_wp2_with fail
  go_region_law (first
    | (refine step_append_lies _ rfl (.tmp 8) (.tmp 10) 23 rfl base 5 i0 _ 1 1 Try.underlying23 HI.out hz0 hz1 hz2 rfl (by decide) v l.length (cells l) (by first | (simp [Act.eval]; done) | simp [Act.eval, Act.put]) (HO.out _ (by repeat (first | exact hb1 | apply Below.drew))) ⟨w.heap.size, 0, none⟩ M.length M.length (cells M) (by first | (simp [Act.eval]; done) | simp [Act.eval, Act.put]) (by rw [cells_length, Nat.mul_one]) (row_cells (hq1.out.1.later (by repeat (first | exact Below.refl _ _ | apply Below.drew))).row _ rfl) (one_cell _) (by omega) (by unfold maxLen; omega) (by omega) (by have := hb1.size; simp; omega) _ rfl ?_; intro g2 c2 w2 ho2 hg2 hat2 hlt2; have hk2 := HW.out.keep (by repeat (first | exact hb1 | apply Below.drew)) hg2; have hfr2 : w2.frozen? ⟨p, 0, none⟩ = false := frozen_of hk2 0; have hc2 : w2.cell? ⟨p, 0, none⟩ = some v := (by rw [cell_of hk2]; rfl))
    | (go_simp; go_at_call 27; refine (HR.out _ (by repeat (first | exact Below.refl _ _ | apply Below.drew))).mono ?_; rintro e w1 ⟨rfl, hq1⟩; have hb1 : Below w.heap.size w w1 := below_of ((Below.refl _ w).drew) hq1.out.2; have hc1 : w1.cell? ⟨p, 0, none⟩ = some v := (by rw [cell_of (old_block hb1 HW.out.here)]; rfl)))
  all_goals
    have HQ : Hid (Wrote w base p v (l ++ M) (w2.setCell ⟨p, 0, none⟩ (.slice (some ⟨g2, 0, none⟩) (l.length + M.length) c2)) (.slice (some ⟨g2, 0, none⟩) (l.length + M.length) c2)) := HW.out.put hb1 hg2 hat2 ho2 HBY.out
    clear hg2 hat2 ho2 hk2
    go_wp2
    go_end0
    exact ⟨rfl, _, HQ⟩
theorem made_at {w : World} {X : Obj} {h : Nat} (e : w.heap.size = h) : (w.alloc X).heap[h]? = some X := by subst e; exact heap_alloc_new _ _
theorem own_lt {w : World} {b : Nat} {e : TypeId} {size : Nat} {v : Value} {n : Nat} {xs : List Value} (h : w.ownsRow b e size v n xs) : ∀ k, v.ownBlock = some k → k < w.heap.size := by
  intro k hk
  rcases h.2 with ⟨rfl, _⟩ | ⟨g, cap, cur, rfl, _, a3, _⟩
  · cases hk
  · cases hk; exact (Array.getElem?_eq_some_iff.1 a3).1
theorem Wrote.kept {w w' : World} {base p : Nat} {v v' : Value} {m : List Nat} (h : Wrote w base p v m w' v') {q : Nat} {o : Obj} (hq : w.heap[q]? = some o) (h1 : q ≠ p) (h2 : v.ownBlock ≠ some q) : w'.heap[q]? = some o ∧ v'.ownBlock ≠ some q := by
  refine ⟨h.2.1.at hq (fun e => e.elim h1 h2), fun e => ?_⟩
  have hlt := (Array.getElem?_eq_some_iff.1 hq).1
  rcases h.2.2 q e with t | t
  · exact h2 t
  · omega
theorem Wrote.row {w w' : World} {base p : Nat} {v v' : Value} {m : List Nat} (h : Wrote w base p v m w' v') (hown : ∀ k, v.ownBlock = some k → base ≤ k) (hp : base ≤ p) {a : Option Addr} {l : List Nat} (hr : Row w a l) (ha : 0 < l.length → ∀ b, a = some b → b.block < base) : Row w' a l :=
  hr.off h.2.1 (fun h0 b hb e => by
    have := ha h0 b hb
    rcases e with e | e
    · omega
    · have := hown _ e; omega)
theorem RowC.off {w w' : World} {S : Nat → Prop} {a : Option Addr} {l : List (Int × Int)} (h : RowC w a l) (ho : Off S w w') (hS : 0 < l.length → ∀ b, a = some b → ¬ S b.block) : RowC w' a l := by
  obtain ⟨h2, h3⟩ := h
  refine ⟨h2, fun h0 => ?_⟩
  obtain ⟨b, off, rfl, hc⟩ := h3 h0
  exact ⟨b, off, rfl, fun i hi => ⟨ho.cell (hc i hi).1 (hS h0 ⟨b, off, none⟩ rfl), ho.cell (hc i hi).2 (hS h0 ⟨b, off, none⟩ rfl)⟩⟩
theorem Wrote.rowc {w w' : World} {base p : Nat} {v v' : Value} {m : List Nat} (h : Wrote w base p v m w' v') (hown : ∀ k, v.ownBlock = some k → base ≤ k) (hp : base ≤ p) {a : Option Addr} {l : List (Int × Int)} (hr : RowC w a l) (ha : 0 < l.length → ∀ b, a = some b → b.block < base) : RowC w' a l :=
  hr.off h.2.1 (fun h0 b hb e => by
    have := ha h0 b hb
    rcases e with e | e
    · omega
    · have := hown _ e; omega)
theorem row64_made {w : World} {g : Nat} {t : TypeId} {L : List Nat} (h : w.heap[g]? = some (.cells (cells64 L).toArray t (0, 0))) (hb : ∀ x ∈ L, x < 18446744073709551616) (hl : L.length ≤ maxLen) : Row64 w (some ⟨g, 0, none⟩) L :=
  ⟨hb, hl, fun _ => ⟨g, 0, rfl, fun i hi => by
    rw [cell_of h, Nat.zero_add]
    simp only [List.getElem?_toArray]
    unfold cells64
    rw [List.getElem?_map, List.getD_eq_getElem?_getD, List.getElem?_eq_getElem hi]
    rfl⟩⟩
theorem put_at (W : World) (base p : Nat) (v : Value) (l : List Nat) (g n c : Nat) (t : TypeId) (L : List Nat) (hn : L.length = n) (hg : W.heap[g]? = some (.cells (cells64 L).toArray t (0, 0))) (h : Wr W base p v l) (hbase : base ≤ W.heap.size) (hb : ∀ x ∈ L, x < 18446744073709551616) (h0 : 0 < n) (hz : n ≤ 1000) (hl : l.length ≤ 10000) :
    Calls Try.prog 15 #[.pointer (some ⟨p, 0, none⟩), .slice (some ⟨g, 0, none⟩) n c] W fun e w' => e = .returned (.tuple #[]) ∧ ∃ v', Hid (Wrote W base p v (l ++ rowL L) w' v') := by
  subst hn
  exact put_any W base p v l h hbase _ c L (row64_made hg hb (by unfold maxLen; omega)) hz h0 hl
end Go.Proofs.Ythmfbhanmncfgaa
