/- append of claims; the laws' own short. -/
import Derived.Test.YthmfbhanmncfgaaZOwnC
import Derived.Test.YthmfbhanmncfgaaZCheck
import Derived.Deep.AppendSrc
import Derived.Deep.AppendLies
import Derived.Deep.Cut
import Derived.Deep.RegionLaw
namespace Go.Proofs.Ythmfbhanmncfgaa
open Go.RowKit
set_option linter.unusedVariables false
/-- append of claims onto claims that the call owns and that lie somewhere, be they none. -/
theorem wpList_append_claims {ops : Array Oper} {rest : List Oper} {o : Oper} {a : Act} {w : World} {Q : Exit → Act → World → Prop} (hgd : o.guard = none) (s x : Operand)
    (ho : o.op = .call { callee := .builtin .append, args := #[s, x], argTypes := #[24, 24] }) (base g cap : Nat) (l : List (Int × Int)) (nl nm : Nat) (hs : a.eval s = .slice (some ⟨g, 0, none⟩) nl cap) (hown : w.ownsRow base 38 2 (.slice (some ⟨g, 0, none⟩) nl cap) nl (ccells l))
    (src : Option Addr) (c : Nat) (m : List (Int × Int)) (hnm : m.length = nm) (hx : a.eval x = .slice src nm c) (hr : RowC w src m) (hz : nl + nm ≤ 8796093022208) (hbase : base ≤ w.heap.size)
    (h : ∀ g' cap' w', w'.ownsRow base 38 2 (.slice (some ⟨g', 0, none⟩) (nl + nm) cap') (nl + nm) (ccells (l ++ m)) → Off (fun k => k = g) w w' → (g' = g ∨ w.heap.size ≤ g') → nl + nm ≤ cap' → wpList Try.prog ops Q rest (a.put o.dst (.slice (some ⟨g', 0, none⟩) (nl + nm) cap')) w') : wpList Try.prog ops Q (o :: rest) a w := by
  obtain ⟨i0, hi, hz0, hz1, hz2⟩ := info_parts Try.info38
  obtain ⟨_, _, hv, hle, _⟩ := own_form hown
  cases hv
  rcases Nat.eq_zero_or_pos nm with hm | hm
  · subst hm
    obtain rfl : m = [] := List.eq_nil_of_length_eq_zero hnm
    refine wpList_plain hgd fun K hK => ?_
    have hsrc : Src Try.prog i0.size 24 (.slice src 0 c) 0 [] w := by
      cases src with
      | none => exact Src.ofNil _ Try.underlying24 c
      | some ad => exact Src.ofSlice _ Try.underlying24 ad 0 c [] (by simp) (by simp) (by simp)
    have happ := run_append_room_src w 24 24 o.type 38 i0 Try.underlying24 hi g 0 nl cap (.slice src 0 c) 0 [] hsrc
    have happ := happ (by omega) (by simp) (by simp)
    rw [World.setCells] at happ
    unfold Oper.wp
    simp [execOp, ho, resolve, invoke, builtin, hs, hx, happ, Result.andThen]
    exact hK _ _ (h g cap w (by rw [List.append_nil]; exact hown) (Off.refl _ _) (.inl rfl) (by omega))
  · subst hnm
    obtain ⟨b, off, rfl, hc⟩ := hr.2 hm
    have hcells : ∀ j u, (ccells m)[j]? = some u → w.cell? ((⟨b, off, none⟩ : Addr).add j) = some u := by
      intro j u hu
      have hj : j < m.length * 2 := by rw [← ccells_length m]; exact (List.getElem?_eq_some_iff.1 hu).1
      obtain ⟨k1, k2⟩ := ccells_get m (j / 2) (by omega)
      obtain ⟨q1, q2⟩ := hc (j / 2) (by omega)
      rw [Go.WideShapes.add_plain]
      rcases Nat.mod_two_eq_zero_or_one j with e | e
      · have ej : j = j / 2 * 2 := by omega
        rw [ej] at hu ⊢
        rw [q1, ← k1]; exact hu
      · have ej : j = j / 2 * 2 + 1 := by omega
        rw [show off + j = off + j / 2 * 2 + 1 by omega, q2, ← k2, ← ej]; exact hu
    refine wpList_append_lies _ hgd s x 24 ho base 38 i0 _ 2 16 Try.underlying24 hi hz0 hz1 hz2 rfl (by decide) _ nl (ccells l) hs hown ⟨b, off, none⟩ m.length c (ccells m) hx (ccells_length m) hcells (ccells_one _) hm (by unfold maxLen; omega) (by omega) hbase w.heap.size rfl ?_
    intro g2 cap2 w' h1 h2 h3 _
    obtain ⟨_, _, hv2, hle2, _⟩ := own_form h1
    cases hv2
    refine h g2 cap2 w' (by rw [ccells_append]; exact h1) ((Off.refl (fun k => k = g) w).grown h2 (fun k e => by cases e; exact .inr rfl)) ?_ hle2
    rcases h3 with h3 | h3
    · cases h3; exact .inl rfl
    · exact .inr (by omega)
/-- in a region that draws: append of claims onto claims that the call owns and that lie somewhere, be they none. -/
theorem step_append_claims {ops : Array Oper} {o : Oper} {a : Act} {w : World} {K : Act → World → Prop} {Q : Exit → Act → World → Prop} {E : Prop} (hgd : o.guard = none) (s x : Operand)
    (ho : o.op = .call { callee := .builtin .append, args := #[s, x], argTypes := #[24, 24] }) (base g cap : Nat) (l : List (Int × Int)) (nl nm : Nat) (hs : a.eval s = .slice (some ⟨g, 0, none⟩) nl cap) (hown : w.ownsRow base 38 2 (.slice (some ⟨g, 0, none⟩) nl cap) nl (ccells l))
    (src : Option Addr) (c : Nat) (m : List (Int × Int)) (hnm : m.length = nm) (hx : a.eval x = .slice src nm c) (hr : RowC w src m) (hz : nl + nm ≤ 8796093022208) (hbase : base ≤ w.heap.size)
    (h : ∀ g' cap' w', w'.ownsRow base 38 2 (.slice (some ⟨g', 0, none⟩) (nl + nm) cap') (nl + nm) (ccells (l ++ m)) → Off (fun k => k = g) w w' → (g' = g ∨ w.heap.size ≤ g') → nl + nm ≤ cap' → K (a.put o.dst (.slice (some ⟨g', 0, none⟩) (nl + nm) cap')) w') : if Region.wanted o (yielded ops a.tmps) = true then Oper.wp Try.prog o a w K Q else E := by
  rw [if_pos (by simp [Region.wanted, hgd])]
  obtain ⟨i0, hi, hz0, hz1, hz2⟩ := info_parts Try.info38
  obtain ⟨_, _, hv, hle, _⟩ := own_form hown
  cases hv
  rcases Nat.eq_zero_or_pos nm with hm | hm
  · subst hm
    obtain rfl : m = [] := List.eq_nil_of_length_eq_zero hnm
    have hsrc : Src Try.prog i0.size 24 (.slice src 0 c) 0 [] w := by
      cases src with
      | none => exact Src.ofNil _ Try.underlying24 c
      | some ad => exact Src.ofSlice _ Try.underlying24 ad 0 c [] (by simp) (by simp) (by simp)
    have happ := run_append_room_src w 24 24 o.type 38 i0 Try.underlying24 hi g 0 nl cap (.slice src 0 c) 0 [] hsrc
    have happ := happ (by omega) (by simp) (by simp)
    rw [World.setCells] at happ
    unfold Oper.wp
    simp [execOp, ho, resolve, invoke, builtin, hs, hx, happ, Result.andThen]
    exact h g cap w (by rw [List.append_nil]; exact hown) (Off.refl _ _) (.inl rfl) (by omega)
  · subst hnm
    obtain ⟨b, off, rfl, hc⟩ := hr.2 hm
    have hcells : ∀ j u, (ccells m)[j]? = some u → w.cell? ((⟨b, off, none⟩ : Addr).add j) = some u := by
      intro j u hu
      have hj : j < m.length * 2 := by rw [← ccells_length m]; exact (List.getElem?_eq_some_iff.1 hu).1
      obtain ⟨k1, k2⟩ := ccells_get m (j / 2) (by omega)
      obtain ⟨q1, q2⟩ := hc (j / 2) (by omega)
      rw [Go.WideShapes.add_plain]
      rcases Nat.mod_two_eq_zero_or_one j with e | e
      · have ej : j = j / 2 * 2 := by omega
        rw [ej] at hu ⊢
        rw [q1, ← k1]; exact hu
      · have ej : j = j / 2 * 2 + 1 := by omega
        rw [show off + j = off + j / 2 * 2 + 1 by omega, q2, ← k2, ← ej]; exact hu
    refine wp_append_lies _ s x 24 ho base 38 i0 _ 2 16 Try.underlying24 hi hz0 hz1 hz2 rfl (by decide) _ nl (ccells l) hs hown ⟨b, off, none⟩ m.length c (ccells m) hx (ccells_length m) hcells (ccells_one _) hm (by unfold maxLen; omega) (by omega) hbase w.heap.size rfl ?_
    intro g2 cap2 w' h1 h2 h3 _
    obtain ⟨_, _, hv2, hle2, _⟩ := own_form h1
    cases hv2
    refine h g2 cap2 w' (by rw [ccells_append]; exact h1) ((Off.refl (fun k => k = g) w).grown h2 (fun k e => by cases e; exact .inr rfl)) ?_ hle2
    rcases h3 with h3 | h3
    · cases h3; exact .inl rfl
    · exact .inr (by omega)
/-- in a region that draws: append of bytes onto bytes that the call owns and that lie somewhere, be they none. -/
theorem step_append_bytes {ops : Array Oper} {o : Oper} {a : Act} {w : World} {K : Act → World → Prop} {Q : Exit → Act → World → Prop} {E : Prop} (hgd : o.guard = none) (s x : Operand)
    (ho : o.op = .call { callee := .builtin .append, args := #[s, x], argTypes := #[23, 23] }) (base g cap : Nat) (l : List Nat) (nl nm : Nat) (hs : a.eval s = .slice (some ⟨g, 0, none⟩) nl cap) (hown : w.ownsRow base 5 1 (.slice (some ⟨g, 0, none⟩) nl cap) nl (cells l))
    (src : Option Addr) (c : Nat) (m : List Nat) (hnm : m.length = nm) (hx : a.eval x = .slice src nm c) (hr : Row w src m) (hz : nl + nm ≤ 140737488351232) (hbase : base ≤ w.heap.size)
    (h : ∀ g' cap' w', w'.ownsRow base 5 1 (.slice (some ⟨g', 0, none⟩) (nl + nm) cap') (nl + nm) (cells (l ++ m)) → Off (fun k => k = g) w w' → (g' = g ∨ w.heap.size ≤ g') → nl + nm ≤ cap' → K (a.put o.dst (.slice (some ⟨g', 0, none⟩) (nl + nm) cap')) w') : if Region.wanted o (yielded ops a.tmps) = true then Oper.wp Try.prog o a w K Q else E := by
  rw [if_pos (by simp [Region.wanted, hgd])]
  obtain ⟨i0, hi, hz0, hz1, hz2⟩ := info_parts Try.info5
  obtain ⟨_, _, hv, hle, _⟩ := own_form hown
  cases hv
  rcases Nat.eq_zero_or_pos nm with hm | hm
  · subst hm
    obtain rfl : m = [] := List.eq_nil_of_length_eq_zero hnm
    have hsrc : Src Try.prog i0.size 23 (.slice src 0 c) 0 [] w := by
      cases src with
      | none => exact Src.ofNil _ Try.underlying23 c
      | some ad => exact Src.ofSlice _ Try.underlying23 ad 0 c [] (by simp) (by simp) (by simp)
    have happ := run_append_room_src w 23 23 o.type 5 i0 Try.underlying23 hi g 0 nl cap (.slice src 0 c) 0 [] hsrc
    have happ := happ (by omega) (by simp) (by simp)
    rw [World.setCells] at happ
    unfold Oper.wp
    simp [execOp, ho, resolve, invoke, builtin, hs, hx, happ, Result.andThen]
    exact h g cap w (by rw [List.append_nil]; exact hown) (Off.refl _ _) (.inl rfl) (by omega)
  · subst hnm
    obtain ⟨b, off, rfl, _⟩ := hr.2.2 hm
    refine wp_append_lies _ s x 23 ho base 5 i0 (.int .u8 0) 1 1 Try.underlying23 hi hz0 hz1 hz2 rfl (by decide) _ nl (cells l) hs hown ⟨b, off, none⟩ m.length c (cells m) hx (by rw [cells_length, Nat.mul_one]) (row_cells hr _ rfl) (one_cell _) hm (by unfold maxLen; omega) (by omega) hbase w.heap.size rfl ?_
    intro g2 cap2 w' h1 h2 h3 _
    obtain ⟨_, _, hv2, hle2, _⟩ := own_form h1
    cases hv2
    refine h g2 cap2 w' (by rw [cells_append]; exact h1) ((Off.refl (fun k => k = g) w).grown h2 (fun k e => by cases e; exact .inr rfl)) ?_ hle2
    rcases h3 with h3 | h3
    · cases h3; exact .inl rfl
    · exact .inr (by omega)
/-- a segment, its lists cut. -/
def shortS (s : Sg) : Sg := { s with dat := s.dat.take 300, cls := s.cls.take 40 }
theorem rowC_take {w : World} {a : Option Addr} {l : List (Int × Int)} (h : RowC w a l) (n : Nat) : RowC w a (l.take n) := by
  refine ⟨by have := h.1; rw [List.length_take]; omega, fun h0 => ?_⟩
  rw [List.length_take] at h0
  obtain ⟨b, o, rfl, hc⟩ := h.2 (by omega)
  refine ⟨b, o, rfl, fun i hi => ?_⟩
  rw [List.length_take] at hi
  have := hc i (by omega)
  rw [List.getElem_take]
  exact this
/-- the world of short: its argument's block, its answer's. -/
structure Sht (w W : World) (s : Sg) (a : Option Addr) (c : Nat) (a2 : Option Addr) (c2 : Nat) : Prop where
  arg : W.heap[w.heap.size]? = some (sc s a c a2 c2)
  res : W.heap[w.heap.size + 1]? = some (sc zeroS none 0 none 0)
  bel : Below w.heap.size w W
  two : w.heap.size + 2 ≤ W.heap.size
theorem sht_first (w : World) (s : Sg) (a : Option Addr) (c : Nat) (a2 : Option Addr) (c2 : Nat) (q : Nat) : Sht w (((w.alloc (sc s a c a2 c2)).alloc (sc zeroS none 0 none 0)).drewN q) s a c a2 c2 :=
  ⟨old_block (below_drewN (Below.refl _ _) q) (old_block ((Below.refl _ _).alloc (Nat.le_refl _) _) (heap_alloc_new w _)), old_block (below_drewN (Below.refl _ _) q) (made_at (by simp)), below_drewN (((Below.refl _ w).alloc (Nat.le_refl _) _).alloc (by simp) _) q, by show _ ≤ ((w.alloc _).alloc _).heap.size; simp⟩
theorem Sht.off {w W W' : World} {s : Sg} {a : Option Addr} {c : Nat} {a2 : Option Addr} {c2 : Nat} {S : Nat → Prop} (h : Sht w W s a c a2 c2) (ho : Off S W W') (hS : ∀ i, S i → w.heap.size + 2 ≤ i) : Sht w W' s a c a2 c2 :=
  ⟨ho.at h.arg (fun e => by have := hS _ e; omega), ho.at h.res (fun e => by have := hS _ e; omega), h.bel.trans (ho.below h.bel.size (fun i e => by have := hS _ e; omega)), Nat.le_trans h.two ho.size⟩
theorem Sht.later {w W W' : World} {s : Sg} {a : Option Addr} {c : Nat} {a2 : Option Addr} {c2 : Nat} (h : Sht w W s a c a2 c2) (hb : Below W.heap.size W W') : Sht w W' s a c a2 c2 := h.off (S := fun _ => False) (Off.of_below hb) (fun _ e => e.elim)
theorem Sht.set {w W : World} {s s2 : Sg} {a b : Option Addr} {c d : Nat} {a2 b2 : Option Addr} {c2 d2 : Nat} (h : Sht w W s a c a2 c2) (j : Nat) (u : Value)
    (e : #[Value.int .i64 s.knd, .int .i64 s.src, .int .u32 (s.ses : Nat), .int .u32 (s.ser : Nat), .int .u32 (s.cks : Nat), .int .i64 s.off, .int .i64 s.tot, .int .i64 s.low, .int .i64 s.upp, .int .i64 s.rea, .bool s.chk, .slice a s.dat.length c, .slice a2 s.cls.length c2].setIfInBounds j u = #[Value.int .i64 s2.knd, .int .i64 s2.src, .int .u32 (s2.ses : Nat), .int .u32 (s2.ser : Nat), .int .u32 (s2.cks : Nat), .int .i64 s2.off, .int .i64 s2.tot, .int .i64 s2.low, .int .i64 s2.upp, .int .i64 s2.rea, .bool s2.chk, .slice b s2.dat.length d, .slice b2 s2.cls.length d2]) :
    Sht w (W.setCell ⟨w.heap.size, j, none⟩ u) s2 b d b2 d2 := by
  have ho : Off (fun k => k = w.heap.size) W (W.setCell ⟨w.heap.size, j, none⟩ u) := (Off.refl (fun k => k = w.heap.size) W).setCell (p := ⟨w.heap.size, j, none⟩) (.inr rfl) u
  refine ⟨?_, ho.at h.res (by show ¬ _ = _; omega), h.bel.trans (ho.below h.bel.size (fun i e => by have : i = w.heap.size := e; omega)), Nat.le_trans h.two ho.size⟩
  rw [heap_setCell_same _ _ _ _ _ _ h.arg]
  show some (Obj.cells _ _ _) = some (Obj.cells _ _ _)
  rw [e]
theorem make_u8 (M : Nat) (hM : M ≤ 1000) : ∃ Z : Array Value, Z.size = (M + 2) * 1 ∧ ∀ W, (Instr.makeSlice 23 (.int .i64 0) (.int .i64 (IntKind.i64.wrap ((M : Int) + 2)))).run Try.prog W = .ok (.slice (some ⟨W.heap.size, 0, none⟩) 0 (M + 2)) (W.alloc (.cells Z 5)) := by
  obtain ⟨i0, hi, hz0, hz1, hz2⟩ := info_parts Try.info5
  have hw : IntKind.i64.wrap ((M : Int) + 2) = ((M + 2 : Nat) : Int) := by rw [IntKind.wrap_i64]; omega
  refine ⟨madeCells (Value.int .u8 0).cells ((M + 2) * 1), by rw [size_madeCells], fun W => ?_⟩
  have := run_make (P := Try.prog) W 23 5 i0 _ Try.underlying23 hi hz0 .i64 .i64 0 ((M + 2 : Nat) : Int) (by omega) (by omega) (by rw [hz2]; omega) (by omega)
  rw [hz1, Int.toNat_natCast] at this
  rw [hw]
  exact this
theorem make_claim (M : Nat) (hM : M ≤ 1000) : ∃ Z : Array Value, Z.size = (M + 2) * 2 ∧ ∀ W, (Instr.makeSlice 24 (.int .i64 0) (.int .i64 (IntKind.i64.wrap ((M : Int) + 2)))).run Try.prog W = .ok (.slice (some ⟨W.heap.size, 0, none⟩) 0 (M + 2)) (W.alloc (.cells Z 38)) := by
  obtain ⟨i0, hi, hz0, hz1, hz2⟩ := info_parts Try.info38
  have hw : IntKind.i64.wrap ((M : Int) + 2) = ((M + 2 : Nat) : Int) := by rw [IntKind.wrap_i64]; omega
  refine ⟨madeCells (Value.agg #[.int .i64 0, .int .i64 0]).cells ((M + 2) * 2), by rw [size_madeCells], fun W => ?_⟩
  have := run_make (P := Try.prog) W 24 38 i0 _ Try.underlying24 hi hz0 .i64 .i64 0 ((M + 2 : Nat) : Int) (by omega) (by omega) (by rw [hz2]; omega) (by omega)
  rw [hz1, Int.toNat_natCast] at this
  rw [hw]
  exact this
theorem own_at {w : World} {e : TypeId} {size : Nat} {Z : Array Value} {cap base h : Nat} (hh : w.heap.size = h) (hb : base ≤ h) (hm : cap ≤ maxLen) (hz : Z.size = cap * size) : (w.alloc (.cells Z e)).ownsRow base e size (.slice (some ⟨h, 0, none⟩) 0 cap) 0 [] := by
  subst hh
  exact World.ownsRow_made w Z cap hb hm hz
theorem own_alloc {w : World} {e : TypeId} {size base n : Nat} {v : Value} {xs : List Value} (h : w.ownsRow base e size v n xs) (X : Obj) : (w.alloc X).ownsRow base e size v n xs :=
  (Off.of_below (S := fun _ => False) ((Below.refl _ w).alloc (Nat.le_refl _) X)).owns h (fun _ _ => id)
theorem row7 {w : World} {h : Nat} (e : w.heap[h]? = some (.cells #[.int .u8 7] 5 (0, 0))) : Row w (some ⟨h, 0, none⟩) [7] := by
  refine ⟨by simp, by simp [maxLen], fun _ => ⟨_, _, rfl, fun i hi => ?_⟩⟩
  obtain rfl : i = 0 := by simpa using hi
  rw [cell_of e]
  rfl
theorem rowC77 {w : World} {h : Nat} (e : w.heap[h]? = some (.cells #[.int .i64 77, .int .i64 0] 38 (0, 0))) : RowC w (some ⟨h, 0, none⟩) [(77, 0)] := by
  refine ⟨by simp [maxLen], fun _ => ⟨_, _, rfl, fun i hi => ?_⟩⟩
  obtain rfl : i = 0 := by simpa using hi
  rw [cell_of e, cell_of e]
  exact ⟨rfl, rfl⟩
end Go.Proofs.Ythmfbhanmncfgaa
