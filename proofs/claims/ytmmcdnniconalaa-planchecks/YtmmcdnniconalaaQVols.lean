/- Numbers that a call owns; the walk of Volumes. -/
import Derived.Test.YtmmcdnniconalaaQRoute
namespace Go.Proofs.Ytmmcdnniconalaa
open Go.RowKit
set_option linter.unusedVariables false
def icells (l : List Int) : List Value := l.map fun x => Value.int .i64 x
theorem icells_length (l : List Int) : (icells l).length = l.length := by simp [icells]
theorem icells_append (l m : List Int) : icells (l ++ m) = icells l ++ icells m := by simp [icells]
theorem iown_row {N : Nat → Prop} {w : World} {base n : Nat} {v : Value} {l : List Int} (h : w.ownsRow base 3 1 v n (icells l)) (hN : ∀ k, base ≤ k → ¬ N k) : ∃ a cap, v = .slice a l.length cap ∧ l.length = n ∧ l.length ≤ cap ∧ cap ≤ maxLen ∧ RowI N w a l := by
  obtain ⟨hl, h⟩ := h
  rw [icells_length, Nat.mul_one] at hl
  subst hl
  rcases h with ⟨rfl, h0⟩ | ⟨g, cap, cur, rfl, hb, hg, hnc, hcm, hcs, ht⟩
  · rw [h0]
    exact ⟨none, 0, rfl, rfl, Nat.le_refl _, by simp, fun h => absurd h (by omega)⟩
  · refine ⟨_, cap, rfl, rfl, hnc, hcm, fun h0 => ⟨g, 0, rfl, hN g hb, fun i hi => ?_⟩⟩
    have hcur : cur[i]? = some (Value.int .i64 (l.getD i 0)) := by
      have h1 : (cur.toList.take (l.length * 1))[i]? = cur.toList[i]? := List.getElem?_take_of_lt (by omega)
      rw [ht] at h1
      rw [← Array.getElem?_toList, ← h1]
      unfold icells
      rw [List.getElem?_map, List.getD_eq_getElem?_getD, List.getElem?_eq_getElem hi]
      rfl
    rw [Nat.zero_add]
    simp [World.cell?, hg, hcur]
theorem inone (w : World) (base : Nat) : w.ownsRow base 3 1 (.slice none 0 0) 0 (icells []) := ⟨rfl, .inl ⟨rfl, rfl⟩⟩
theorem Try.info3 : (Try.prog.info? 3).map (fun i => (i.zero, i.size, i.bytes)) = some (some (.int .i64 0), 1, 8) := by kernel_rfl
/-- append of one number onto numbers that the call owns. -/
theorem wpList_append_i {ops : Array Oper} {rest : List Oper} {o : Oper} {a : Act} {w : World} {Q : Exit → Act → World → Prop} (hgd : o.guard = none) (s x : Operand)
    (ho : o.op = .call { callee := .builtin .append, args := #[s, x], argTypes := #[25, 25] }) (base : Nat) (v : Value) (l : List Int) (n : Nat) (hs : a.eval s = v) (hown : w.ownsRow base 3 1 v n (icells l))
    (g c : Nat) (y : Int) (hx : a.eval x = .slice (some ⟨g, 0, none⟩) 1 c) (hg : w.heap[g]? = some (.cells #[.int .i64 y] 3 (0, 0))) (hz : n ≤ 1000000000) (hbase : base ≤ w.heap.size)
    (h : ∀ q cap w', w'.ownsRow base 3 1 (.slice (some ⟨q, 0, none⟩) (n + 1) cap) (n + 1) (icells (l ++ [y])) → Below base w w' → n + 1 ≤ cap → wpList Try.prog ops Q rest (a.put o.dst (.slice (some ⟨q, 0, none⟩) (n + 1) cap)) w') : wpList Try.prog ops Q (o :: rest) a w := by
  obtain ⟨i0, hi, hz0, hz1, hz2⟩ := info_parts Try.info3
  refine wpList_append_lies _ hgd s x 25 ho base 3 i0 (.int .i64 0) 1 8 Try.underlying25 hi hz0 hz1 hz2 rfl (by decide) v n (icells l) hs hown ⟨g, 0, none⟩ 1 c (icells [y]) hx (by simp [icells]) (fun j u hu => ?_) (by intro u hu; simp [icells] at hu; subst hu; rfl) (by omega) (by unfold maxLen; omega) (by omega) hbase w.heap.size rfl ?_
  · have hj : j = 0 := by have := (List.getElem?_eq_some_iff.1 hu).1; simp [icells] at this; exact this
    subst hj
    simp [icells] at hu
    subst hu
    rw [Go.WideShapes.add_plain, cell_of hg]
    rfl
  · intro q cap w' h1 h2 h3 _
    have hcap : n + 1 ≤ cap := by
      obtain ⟨a', c', e, hle, _⟩ := own_form h1
      cases e
      exact hle
    refine h q cap w' (by rw [icells_append]; exact h1) ?_ hcap
    exact ((Off.refl (fun k => v.ownBlock = some k) w).grown h2 (fun _ e => .inr e)).below hbase (own_ge hown)
def vols (nn : Int) (X : List Ct) : List Int := if okP nn X = true then X.map vol else []
theorem map_take {X : List Ct} {k : Nat} {c : Ct} (h : X[k]? = some c) : (X.take (k + 1)).map vol = (X.take k).map vol ++ [vol c] := by
  obtain ⟨hl, rfl⟩ := List.getElem?_eq_some_iff.1 h
  rw [List.take_succ_eq_append_getElem hl, List.map_append]
  rfl
set_option maxHeartbeats 2000000 in
theorem volumes_any (nn : Int) (a : Option Addr) (m k : Nat) (X : List Ct) (w : World) (hm : X.length = m) (hmk : m ≤ k) (hk : k ≤ maxLen) (hX : CtAt (fun _ => False) w a X) :
    Calls Try.prog 11 #[pv nn a m k] w fun e w' => ∃ v, e = .returned v ∧ Hid (w'.ownsRow w.heap.size 3 1 v (vols nn X).length (icells (vols nn X)) ∧ Below w.heap.size w w') := by
  have hbw : ∀ X : Obj, Below w.heap.size w (w.alloc X) := fun X => (Below.refl _ w).alloc (Nat.le_refl _) _
  have HC : Hid (∀ Y : Obj, Calls Try.prog 12 #[pv nn a m k] (w.alloc Y) fun e w' => e = .returned (.int .i64 (chk nn X)) ∧ Below (w.alloc Y).heap.size (w.alloc Y) w') := fun Y => check_any nn a m k X (w.alloc Y) hm hmk hk (hX.later (hbw Y))
  unfold pv at HC ⊢
  by_cases h1 : okP nn X = true
  · have hchk : chk nn X = 0 := by unfold chk; rw [if_pos h1]
    have h24 := (okP_of h1).len
    rw [hchk] at HC
    have HV : Hid (vols nn X = X.map vol) := by show vols nn X = _; unfold vols; rw [if_pos h1]
    clear h1 hchk
    go_enter Try.func11, Try.ntmps11
    go_wp2_with (go_at_call 12; refine (HC.out _).mono ?_; rintro e w1 ⟨rfl, hb1⟩; have HB1 : Hid (Below w.heap.size w w1) := below_of (hbw _) hb1; have q0 := old_block hb1 (heap_alloc_new w _); have q1 := cell_of q0 0; have q2 := cell_of q0 1; simp only [List.getElem?_toArray, List.getElem?_cons_zero, List.getElem?_cons_succ] at q1 q2; clear q0 hb1)
    go_loopw [3, 12] (fun out i wr => ∃ (j : Nat) (b : Option Addr) (c : Nat), j ≤ m ∧ i = .int .i64 j ∧ out = .slice b j c ∧ Hid (wr.ownsRow w.heap.size 3 1 (.slice b j c) j (icells ((X.take j).map vol)) ∧ Below w.heap.size w wr)) (fun _ i _ => m - (intOf i).toNat)
    case atStart => exact ⟨0, none, 0, Nat.zero_le _, rfl, rfl, inone _ _, HB1.out⟩
    case round =>
      obtain ⟨j, b, c, hj, rfl, rfl, HO⟩ := hrel
      by_cases hlt : j < m
      · obtain ⟨d, hd⟩ : ∃ d, X[j]? = some d := ⟨_, List.getElem?_eq_getElem (by omega)⟩
        obtain ⟨b', o, rfl, c0, c1, c2, c3, c4, c5⟩ := (hX.later HO.out.2).cells6 hd
        have HM : Hid (icells ((X.take (j + 1)).map vol) = icells ((X.take j).map vol ++ [vol d])) := by show icells _ = _; rw [map_take hd]
        have hBB : Below wr.heap.size wr (wr.alloc (.cells (cc d) 43)) := (Below.refl _ wr).alloc (Nat.le_refl _) _
        have HW : Hid (Calls Try.prog 14 #[cv d] (wr.alloc (.cells (cc d) 43)) fun e w' => e = .returned (.int .i64 (vol d)) ∧ Below (wr.alloc (.cells (cc d) 43)).heap.size (wr.alloc (.cells (cc d) 43)) w') := volume_any d _
        have HBB : Hid (Below wr.heap.size wr (wr.alloc (.cells (cc d) 43))) := hBB
        unfold cv cc at HW
        unfold cc at HBB
        clear hd hBB q1 q2 hX
        go_wp2_with (first | (go_at_call 14; refine HW.out.mono ?_; rintro e w2 ⟨rfl, hb2⟩; have HB2 : Hid (Below wr.heap.size wr w2) := below_of HBB.out hb2; clear hb2) | (have gd := HB2; at_builtin; (refine wpList_append_i rfl _ _ rfl w.heap.size (.slice b j c) ((X.take j).map vol) j rfl ((Off.of_below (S := fun _ => False) (below_of HB2.out ((Below.refl _ w2).alloc (Nat.le_refl _) _))).owns HO.out.1 (fun _ _ => id)) _ _ (vol d) rfl (heap_alloc_new w2 _) (by omega) (by have := HO.out.2.size; have := HB2.out.size; simp; omega) ?_); intro g2 c2 w3 ho3 hb3 hc3))
        go_roundw
        case rel => exact ⟨j + 1, _, _, by omega, by go_num, rfl, by rw [HM.out]; exact ho3, (below_of HO.out.2 (below_of HB2.out ((Below.refl _ w2).alloc (Nat.le_refl _) _))).trans hb3⟩
        case measure => simp [intOf]; omega
      · obtain rfl : j = m := by omega
        go_wp2
        go_ret
        refine ⟨_, rfl, ?_, HO.out.2⟩
        have := HO.out.1
        rw [List.take_of_length_le (by omega)] at this
        rw [HV.out, List.length_map, hm]
        exact this
  · have hchk : chk nn X = 230 := by unfold chk; rw [if_neg h1]
    rw [hchk] at HC
    have HV : Hid (vols nn X = []) := by show vols nn X = _; unfold vols; rw [if_neg h1]
    clear h1 hchk hX
    go_enter Try.func11, Try.ntmps11
    go_wp2_with (go_at_call 12; refine (HC.out _).mono ?_; rintro e w1 ⟨rfl, hb1⟩)
    go_ret
    exact ⟨_, rfl, by rw [HV.out]; exact inone _ _, below_of (hbw _) hb1⟩
end Go.Proofs.Ytmmcdnniconalaa
