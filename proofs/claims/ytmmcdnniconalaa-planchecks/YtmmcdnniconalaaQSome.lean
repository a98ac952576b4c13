/- The walks of the laws' own some, copied and wakes. -/
import Derived.Test.YtmmcdnniconalaaQVols
namespace Go.Proofs.Ytmmcdnniconalaa
open Go.RowKit
set_option linter.unusedVariables false
/-- the chapter's plan. -/
def sX : List Ct := [⟨1, 2, 0, 10, 100, 2⟩, ⟨2, 3, 20, 30, 50, 0⟩, ⟨1, 3, 25, 26, 10, 0⟩]
theorem rt_one : rtR 3 sX (vols 3 sX) 1 3 0 10 = (0, 21, 0) := by decide +kernel
theorem rt_two : rtR 3 sX (vols 3 sX) 1 3 10 10 = (2, 26, 0) := by decide +kernel
theorem vols_len : (vols 3 sX).length = 3 := by decide +kernel
/-- contacts that a call owns. -/
theorem cown_at {N : Nat → Prop} {w : World} {base n : Nat} {v : Value} {X : List Ct} (h : w.ownsRow base 43 6 v n (ccells X)) (hN : ∀ k, base ≤ k → ¬ N k) : ∃ a cap, v = .slice a n cap ∧ X.length = n ∧ n ≤ cap ∧ cap ≤ maxLen ∧ CtAt N w a X := by
  obtain ⟨hl, h⟩ := h
  rw [ccells_length] at hl
  have hl' : X.length = n := by omega
  rcases h with ⟨rfl, h0⟩ | ⟨g, cap, cur, rfl, hb, hg, hnc, hcm, hcs, ht⟩
  · subst h0
    exact ⟨none, 0, rfl, hl', Nat.le_refl _, by simp, fun h => absurd h (by omega)⟩
  · refine ⟨_, cap, rfl, hl', hnc, hcm, fun h0 => ⟨g, 0, rfl, hN g hb, fun j u hu => ?_⟩⟩
    have hj : j < X.length * 6 := by rw [← ccells_length]; exact (List.getElem?_eq_some_iff.1 hu).1
    have hcur : cur[j]? = some u := by
      have h1 : (cur.toList.take (n * 6))[j]? = cur.toList[j]? := List.getElem?_take_of_lt (by omega)
      rw [ht] at h1
      rw [← Array.getElem?_toList, ← h1]
      exact hu
    rw [Nat.zero_add]
    simp [World.cell?, hg, hcur]
theorem some_any (w : World) : Calls Try.prog 15 #[] w fun e w' => ∃ g, e = .returned (.agg #[.int .i64 3, .slice (some ⟨g, 0, none⟩) 3 3]) ∧ Hid (CtAt (fun _ => False) w' (some ⟨g, 0, none⟩) sX ∧ Below w.heap.size w w') := by
  go_enter Try.func15, Try.ntmps15
  go_wp2
  refine bodyPost_ret (v := .agg #[.int .i64 3, .slice (some ⟨w.heap.size + 1, 0, none⟩) 3 3]) (by simp [results, Try.results15, go_sem]) rfl ⟨_, rfl, ?_, ?_⟩
  · intro _
    refine ⟨_, _, rfl, id, fun j u hu => ?_⟩
    have hn := heap_alloc_new (w.alloc (.cells #[.int .i64 3, .slice (some ⟨w.heap.size + 1, 0, none⟩) 3 3] 24)) (.cells (ccells sX).toArray 43)
    rw [World.size_alloc] at hn
    refine Eq.trans (cell_of hn _) ?_
    rw [Nat.zero_add, List.getElem?_toArray]
    exact hu
  · exact ((Below.refl _ w).alloc (Nat.le_refl _) _).alloc (by simp) _
theorem Try.info43 : (Try.prog.info? 43).map (fun i => (i.zero, i.size, i.bytes)) = some (some (.agg #[.int .i64 0, .int .i64 0, .int .i64 0, .int .i64 0, .int .i64 0, .int .i64 0]), 6, 48) := by kernel_rfl
/-- append of contacts onto none, in memory of its own. -/
theorem wpList_append_ct {ops : Array Oper} {rest : List Oper} {o : Oper} {a : Act} {w : World} {Q : Exit → Act → World → Prop} (hgd : o.guard = none) (s x : Operand)
    (ho : o.op = .call { callee := .builtin .append, args := #[s, x], argTypes := #[22, 22] }) (base g : Nat) (hs : a.eval s = .slice (some ⟨g, 0, none⟩) 0 0) (hown : w.ownsRow base 43 6 (.slice (some ⟨g, 0, none⟩) 0 0) 0 (ccells []))
    (src : Option Addr) (c : Nat) (X : List Ct) (nm : Nat) (hnm : X.length = nm) (hx : a.eval x = .slice src nm c) (hr : CtAt (fun _ => False) w src X) (hz : nm * 48 ≤ 140737488351232) (hbase : base ≤ w.heap.size)
    (h : ∀ g' cap' w', w'.ownsRow base 43 6 (.slice (some ⟨g', 0, none⟩) nm cap') nm (ccells X) → Below base w w' → nm ≤ cap' → cap' ≤ maxLen → wpList Try.prog ops Q rest (a.put o.dst (.slice (some ⟨g', 0, none⟩) nm cap')) w') : wpList Try.prog ops Q (o :: rest) a w := by
  obtain ⟨i0, hi, hz0, hz1, hz2⟩ := info_parts Try.info43
  rcases Nat.eq_zero_or_pos nm with hm | hm
  · subst hm
    obtain rfl : X = [] := List.eq_nil_of_length_eq_zero hnm
    refine wpList_plain hgd fun K hK => ?_
    have hsrc : Src Try.prog i0.size 22 (.slice src 0 c) 0 [] w := by
      cases src with
      | none => exact Src.ofNil _ Try.underlying22 c
      | some ad => exact Src.ofSlice _ Try.underlying22 ad 0 c [] (by simp) (by simp) (by simp)
    have happ := run_append_room_src w 22 22 o.type 43 i0 Try.underlying22 hi g 0 0 0 (.slice src 0 c) 0 [] hsrc
    have happ := happ (by omega) (by simp) (by simp)
    rw [World.setCells] at happ
    unfold Oper.wp
    simp [execOp, ho, resolve, invoke, builtin, hs, hx, happ, Result.andThen]
    exact hK _ _ (h g 0 w hown (Below.refl _ _) (Nat.le_refl _) (Nat.zero_le _))
  · subst hnm
    obtain ⟨b, off, rfl, _, hc⟩ := hr hm
    refine wpList_append_lies _ hgd s x 22 ho base 43 i0 (.agg #[.int .i64 0, .int .i64 0, .int .i64 0, .int .i64 0, .int .i64 0, .int .i64 0]) 6 48 Try.underlying22 hi hz0 hz1 hz2 rfl (by decide) _ 0 (ccells []) hs hown ⟨b, off, none⟩ X.length c (ccells X) hx (by rw [ccells_length]) (fun j u hu => by rw [Go.WideShapes.add_plain]; exact hc j u hu) (ccells_one _) hm (by unfold maxLen; omega) (by omega) hbase w.heap.size rfl ?_
    intro g2 cap2 w' h1 h2 h3 _
    rw [Nat.zero_add] at h1
    obtain ⟨_, _, hv2, hle2, hle3⟩ := own_form h1
    cases hv2
    have := h g2 cap2 w' h1 (((Off.refl (fun k => (Value.slice (some ⟨g, 0, none⟩) 0 0).ownBlock = some k) w).grown h2 (fun _ e => .inr e)).below hbase (own_ge hown)) hle2 hle3
    rw [Nat.zero_add]
    exact this
theorem cmade_none (w : World) : (w.alloc (.cells #[] 43)).ownsRow w.heap.size 43 6 (.slice (some ⟨w.heap.size, 0, none⟩) 0 0) 0 (ccells []) := World.ownsRow_made w #[] 0 (Nat.le_refl _) (Nat.zero_le _) rfl
theorem copied_mid {w w2 : World} {A B C : Obj} (h : Below (w.heap.size + 2) (((w.alloc A).alloc B).alloc C) w2) : w2.heap[w.heap.size]? = some A ∧ w2.heap[w.heap.size + 1]? = some B ∧ Below w.heap.size w w2 := by
  obtain ⟨W3, hW3, z3, zb, d0, d1, d2⟩ := alloc3w w A B C
  rw [← hW3] at h
  exact ⟨(h.block _ (by omega)).trans d0, (h.block _ (by omega)).trans d1, zb.trans (h.mono (by omega))⟩
set_option maxHeartbeats 1000000 in
theorem copied_any (nn : Int) (a : Option Addr) (m k : Nat) (X : List Ct) (w : World) (hm : X.length = m) (h48 : m * 48 ≤ 140737488351232) (hX : CtAt (fun _ => False) w a X) :
    Calls Try.prog 7 #[pv nn a m k] w fun e w' => ∃ g c, e = .returned (pv nn (some ⟨g, 0, none⟩) m c) ∧ Hid (CtAt (fun _ => False) w' (some ⟨g, 0, none⟩) X ∧ m ≤ c ∧ c ≤ maxLen ∧ w.heap.size ≤ g ∧ Below w.heap.size w w') := by
  unfold pv
  obtain ⟨W2, hW2, z2, zb, d0, d1⟩ := alloc2w w (.cells #[.int .i64 nn, .slice a m k] 24) (.cells #[.int .i64 0, .slice none 0 0] 24)
  have hbw : ∀ O : Obj, Below w.heap.size w (W2.alloc O) := fun O => below_of zb ((Below.refl _ _).alloc (Nat.le_refl _) _)
  have HX : Hid (∀ O : Obj, CtAt (fun _ => False) (W2.alloc O) a X) := fun O => hX.later (hbw O)
  rw [hW2] at HX hbw
  clear hX zb d0 d1 hW2 z2
  go_enter Try.func7, Try.ntmps7
  go_wp2_with (at_builtin; (refine wpList_append_ct rfl _ _ rfl (w.heap.size + 2) (w.heap.size + 2) rfl (by have := cmade_none ((w.alloc (.cells #[.int .i64 nn, .slice a m k] 24)).alloc (.cells #[.int .i64 0, .slice none 0 0] 24)); simpa using this) a k X m hm rfl (HX.out _) h48 (by simp) ?_); intro g2 c2 w2 ho2 hb2 hc2 hc3; obtain ⟨e0, e1, e2⟩ := copied_mid hb2; have y0 := cell_of e0 0; have y1 := cell_of e0 1; have y2 := frozen_of e0 0; have y3 := frozen_of e0 1; have x0 := cell_of e1 0; have x1 := cell_of e1 1; have x2 := frozen_of e1 0; have x3 := frozen_of e1 1; simp only [List.getElem?_toArray, List.getElem?_cons_zero, List.getElem?_cons_succ] at y0 y1 x0 x1; have HE : Hid (w2.ownsRow (w.heap.size + 2) 43 6 (.slice (some ⟨g2, 0, none⟩) m c2) m (ccells X) ∧ m ≤ c2 ∧ c2 ≤ maxLen ∧ Below w.heap.size w w2 ∧ w2.heap[w.heap.size + 1]? = some (.cells #[.int .i64 0, .slice none 0 0] 24)) := ⟨ho2, hc2, hc3, e2, e1⟩; have hgne : g2 ≠ w.heap.size ∧ g2 ≠ w.heap.size + 1 := (by have := own_ge ho2 g2 rfl; omega); clear e0 e1 e2 hb2 ho2 hc2 hc3)
  refine bodyPost_ret (v := .agg #[.int .i64 nn, .slice (some ⟨g2, 0, none⟩) m c2]) (by simp [results, Try.results7, go_sem, *]) rfl ⟨g2, c2, rfl, ?_⟩
  obtain ⟨a0, c0, hv, _, _, _, hct⟩ := cown_at (N := fun k => k = w.heap.size ∨ k = w.heap.size + 1) HE.out.1 (fun k hk h => by omega)
  cases hv
  have hoff : Off (fun k => k = w.heap.size ∨ k = w.heap.size + 1) w2 (((w2.setCell ⟨w.heap.size, 1, none⟩ (.slice (some ⟨g2, 0, none⟩) m c2)).setCell ⟨w.heap.size + 1, 0, none⟩ (.int .i64 nn)).setCell ⟨w.heap.size + 1, 1, none⟩ (.slice (some ⟨g2, 0, none⟩) m c2)) := ((((Off.refl _ w2).setCell (p := ⟨w.heap.size, 1, none⟩) (.inr (.inl rfl)) _).setCell (p := ⟨w.heap.size + 1, 0, none⟩) (.inr (.inr rfl)) _).setCell (p := ⟨w.heap.size + 1, 1, none⟩) (.inr (.inr rfl)) _)
  refine ⟨(hct.off hoff (fun _ h => h)).sub (fun _ _ h => h.elim), HE.out.2.1, HE.out.2.2.1, by have := own_ge HE.out.1 g2 rfl; omega, ?_⟩
  exact HE.out.2.2.2.1.trans (hoff.below HE.out.2.2.2.1.size (fun i h => by omega))
set_option maxHeartbeats 2000000 in
theorem wakes_any (w : World) : Calls Try.prog 5 #[] w fun e w' => e = .returned (.bool true) ∧ Hid (Below w.heap.size w w') := by
  have HV : Hid (∀ (W : World) (g : Nat), CtAt (fun _ => False) W (some ⟨g, 0, none⟩) sX → Calls Try.prog 11 #[pv 3 (some ⟨g, 0, none⟩) 3 3] W fun e w' => ∃ a c, e = .returned (.slice a 3 c) ∧ Hid (RowI (fun _ => False) w' a (vols 3 sX) ∧ Below W.heap.size W w')) := fun W g hX => by
    refine (volumes_any 3 (some ⟨g, 0, none⟩) 3 3 sX W rfl (by omega) (by unfold maxLen; omega) hX).mono ?_
    rintro e w' ⟨v, rfl, hv⟩
    obtain ⟨a, c, rfl, _, _, _, hr⟩ := iown_row (N := fun _ => False) hv.out.1 (fun _ _ h => h)
    rw [vols_len]
    exact ⟨a, c, rfl, hr, hv.out.2⟩
  have HR : Hid (∀ (W : World) (g : Nat) (a : Option Addr) (c : Nat) (now : Int), CtAt (fun _ => False) W (some ⟨g, 0, none⟩) sX → RowI (fun _ => False) W a (vols 3 sX) → Calls Try.prog 6 #[pv 3 (some ⟨g, 0, none⟩) 3 3, .slice a 3 c, .int .i64 1, .int .i64 3, .int .i64 now, .int .i64 10] W fun e w' => e = .returned (.tuple #[.int .i64 (rtR 3 sX (vols 3 sX) 1 3 now 10).1, .int .i64 (rtR 3 sX (vols 3 sX) 1 3 now 10).2.1, .int .i64 (rtR 3 sX (vols 3 sX) 1 3 now 10).2.2]) ∧ Hid (Below W.heap.size W w')) := fun W g a c now hX hL => route_any 3 1 3 now 10 (some ⟨g, 0, none⟩) a 3 3 3 c sX (vols 3 sX) W rfl (by omega) (by unfold maxLen; omega) vols_len (by unfold maxLen; omega) hX hL
  unfold pv at HV HR
  go_enter Try.func5, Try.ntmps5
  go_wp2_with fail
  go_at_call 15
  refine (some_any _).mono ?_
  rintro e w1 ⟨g1, rfl, H1⟩
  go_wp2_with fail
  go_at_call 15
  refine (some_any _).mono ?_
  rintro e w2 ⟨g2, rfl, H2⟩
  go_wp2_with fail
  go_at_call 11
  refine (HV.out _ _ H2.out.1).mono ?_
  rintro e w3 ⟨a3, c3, rfl, H3⟩
  go_wp2_with fail
  go_at_call 6
  refine (HR.out _ _ _ _ _ ((H1.out.1.later H2.out.2).later H3.out.2) H3.out.1).mono ?_
  rintro e w4 ⟨rfl, H4⟩
  rw [rt_one]
  go_wp2_with fail
  go_at_call 15
  refine (some_any _).mono ?_
  rintro e w5 ⟨g5, rfl, H5⟩
  go_wp2_with fail
  go_at_call 15
  refine (some_any _).mono ?_
  rintro e w6 ⟨g6, rfl, H6⟩
  go_wp2_with fail
  go_at_call 11
  refine (HV.out _ _ H6.out.1).mono ?_
  rintro e w7 ⟨a7, c7, rfl, H7⟩
  go_wp2_with fail
  go_at_call 6
  refine (HR.out _ _ _ _ _ ((H5.out.1.later H6.out.2).later H7.out.2) H7.out.1).mono ?_
  rintro e w8 ⟨rfl, H8⟩
  rw [rt_two]
  go_wp2
  go_ret
  exact ⟨rfl, below_of H1.out.2 (below_of H2.out.2 (below_of H3.out.2 (below_of H4.out (below_of H5.out.2 (below_of H6.out.2 (below_of H7.out.2 H8.out))))))⟩
end Go.Proofs.Ytmmcdnniconalaa
