/- What the operations of the law do to a list of flights; Deliver and kind. -/
import Derived.Test.YtopfpdkknfjgoaaLAll
import Derived.Test.YtopfpdkknfjgoaaLFew
namespace Go.Proofs.Ytopfpdkknfjgoaa
open Go.RowKit Go.Shelf
set_option linter.unusedVariables false

theorem arrK_congr {X Y : List FX} (h : X.map FX.x = Y.map FX.x) (now : Int) : ∀ k, arrK X now k = arrK Y now k
  | 0 => rfl
  | k + 1 => by
    have e : (X[k]?).map FX.x = (Y[k]?).map FX.x := by rw [← List.getElem?_map, ← List.getElem?_map, h]
    rw [arrK, arrK, arrK_congr h now k]
    cases hx : X[k]? with
    | none =>
      cases hy : Y[k]? with
      | none => rfl
      | some y => rw [hx, hy] at e; simp at e
    | some x =>
      cases hy : Y[k]? with
      | none => rw [hx, hy] at e; simp at e
      | some y =>
        rw [hx, hy] at e
        simp only [Option.map_some, Option.some.injEq] at e
        simp only [e]
/-- which of a pair's flights Deliver takes. -/
def delI (F : List Fl) (now k : Int) : Option Nat := if 0 ≤ k then (arrK (F.map (fun x => (⟨x, none, 0⟩ : FX))) now F.length)[k.toNat]? else none
def delL (L : List Fl) (a b now k : Int) : List Fl := match delI (L.filter (pf a b)) now k with
  | some i => dropF (pf a b) i L
  | none => L
theorem del_arr {X : List FX} {F : List Fl} (h : X.map FX.x = F) (now : Int) : arrK X now X.length = arrK (F.map (fun x => (⟨x, none, 0⟩ : FX))) now F.length := by
  have hl : X.length = F.length := by rw [← h, List.length_map]
  rw [hl]
  refine arrK_congr ?_ now _
  rw [h, List.map_map]
  exact (List.map_id' F).symm
theorem deliver_l (w : World) (N : Nat → Prop) (lb mb n : Nat) (L : List Fl) (h : Lk N w lb mb n L) (hn : n < 1000000000) (hN : ∀ k, N k → k < w.heap.size) (a b now k : Int) (ha : In64 a) (hb : In64 b) :
    Calls Try.prog 20 #[.pointer (some ⟨lb, 0, none⟩), .int .i64 a, .int .i64 b, .int .i64 now, .int .i64 k] w fun e w' => ∃ v, e = .returned v ∧ Hid (Lk N w' lb mb (n + 1) (delL L a b now k) ∧ Off (fun k => k = mb) w w') := by
  refine (deliver_raw w N lb mb n L h hn hN a b now k ha hb).mono ?_
  rintro e w' ⟨X, hX, (⟨i, x, a', c', h0, h1, h2, rfl, H⟩ | ⟨h0, rfl, H⟩)⟩
  · refine ⟨_, rfl, ?_, H.out.2.2.2⟩
    have : delI (L.filter (pf a b)) now k = some i := by unfold delI; rw [if_pos h0, ← del_arr hX]; exact h1
    unfold delL
    rw [this]
    exact H.out.2.2.1
  · refine ⟨_, rfl, ?_, Off.of_below H.out.2⟩
    have : delI (L.filter (pf a b)) now k = none := by
      unfold delI
      by_cases hk : 0 ≤ k
      · rw [if_pos hk, ← del_arr hX]
        exact List.getElem?_eq_none (by omega)
      · rw [if_neg hk]
    unfold delL
    rw [this]
    exact H.out.1.mono (Nat.le_succ n)

/-- what an operation of kind K leaves of a list. -/
def opL (L : List Fl) (K : Nat) (o : OX) : List Fl := match K with
  | 0 => sendL L o.f.x
  | 1 => delL L o.f.x.frm o.f.x.to o.now o.n
  | 2 => loseL L o.f.x.frm o.f.x.to o.n
  | 3 => doubL L o.f.x.frm o.f.x.to o.n
  | _ => corL L o.f.x.frm o.f.x.to o.n o.bit
theorem opL_len (L : List Fl) (K : Nat) (o : OX) : (opL L K o).length ≤ L.length + 1 := by
  unfold opL
  split
  · unfold sendL; split <;> simp
  · unfold delL
    split
    · exact Nat.le_succ_of_le (dropF_len _ _ _)
    · exact Nat.le_succ _
  · unfold loseL
    split
    · exact Nat.le_succ_of_le (dropF_len _ _ _)
    · exact Nat.le_succ _
  · unfold doubL
    split
    · rw [List.length_append]
      cases (L.filter (pf o.f.x.frm o.f.x.to))[o.n.toNat]? <;> simp
    · exact Nat.le_succ _
  · unfold corL
    split
    · rw [turnF_len]; exact Nat.le_succ _
    · exact Nat.le_succ _
theorem opL_other (L : List Fl) (K : Nat) (o : OX) {p q : Int} (h : ¬ (p = o.f.x.frm ∧ q = o.f.x.to)) : (opL L K o).filter (pf p q) = L.filter (pf p q) := by
  have hap : ∀ x, pf o.f.x.frm o.f.x.to x = true → pf p q x = false := fun x hx => pf_apart h x hx
  unfold opL
  split
  · unfold sendL
    split
    · rw [List.filter_append]
      have : pf p q o.f.x = false := hap _ (by simp [pf])
      simp [this]
    · rfl
  · unfold delL
    split
    · exact dropF_other _ _ hap _ _
    · rfl
  · unfold loseL
    split
    · exact dropF_other _ _ hap _ _
    · rfl
  · unfold doubL
    split
    · rw [List.filter_append]
      cases hx : (L.filter (pf o.f.x.frm o.f.x.to))[o.n.toNat]? with
      | none => simp
      | some x =>
        have := hap x (List.mem_filter.1 (List.mem_of_getElem? hx)).2
        simp [this]
    · rfl
  · unfold corL
    split
    · exact turnF_other _ _ _ _ _ h _ _
    · rfl
theorem opL_same {L M : List Fl} (K : Nat) (o : OX) (h : L.filter (pf o.f.x.frm o.f.x.to) = M.filter (pf o.f.x.frm o.f.x.to)) (hL : L.length < 512) (hM : M.length < 512) : (opL L K o).filter (pf o.f.x.frm o.f.x.to) = (opL M K o).filter (pf o.f.x.frm o.f.x.to) := by
  have hh : ∀ k, hasE L o.f.x.frm o.f.x.to k = hasE M o.f.x.frm o.f.x.to k := fun k => by unfold hasE; rw [h]
  unfold opL
  split
  · have e : sendE L o.f.x = sendE M o.f.x := by unfold sendE; rw [if_pos hL, if_pos hM]
    unfold sendL
    rw [e]
    split
    · rw [List.filter_append, List.filter_append, h]
    · exact h
  · unfold delL
    rw [h]
    split
    · rw [dropF_filter, dropF_filter, h]
    · exact h
  · unfold loseL
    rw [hh]
    split
    · rw [dropF_filter, dropF_filter, h]
    · exact h
  · have e : doubE L o.f.x.frm o.f.x.to o.n = doubE M o.f.x.frm o.f.x.to o.n := by unfold doubE; rw [hh, if_pos hL, if_pos hM]
    unfold doubL
    rw [e]
    split
    · rw [List.filter_append, List.filter_append, h]
    · exact h
  · have e : corE L o.f.x.frm o.f.x.to o.n o.bit = corE M o.f.x.frm o.f.x.to o.n o.bit := by unfold corE lenAt; rw [hh, h]
    unfold corL
    rw [e]
    split
    · rename_i hc
      obtain ⟨x, hx⟩ : ∃ x, (M.filter (pf o.f.x.frm o.f.x.to))[o.n.toNat]? = some x := by
        have h0 : hasE M o.f.x.frm o.f.x.to o.n = 0 := by
          unfold corE at hc
          split at hc
          · assumption
          · cases hc
        unfold hasE at h0
        split at h0
        · exact ⟨_, List.getElem?_eq_getElem (by omega)⟩
        · cases h0
      rw [turnF_filter _ _ _ _ _ x (by rw [h]; exact hx), turnF_filter _ _ _ _ _ x hx, h]
    · exact h
theorem opL_all {M : List Fl} (K : Nat) (o : OX) (h : ∀ x ∈ M, pf o.f.x.frm o.f.x.to x = true) : ∀ x ∈ opL M K o, pf o.f.x.frm o.f.x.to x = true := by
  intro x
  unfold opL
  split
  · unfold sendL
    split
    · rw [List.mem_append]
      rintro (hx | hx)
      · exact h x hx
      · simp at hx; subst hx; simp [pf]
    · exact h x
  · unfold delL
    split
    · exact fun hx => h x (dropF_mem _ _ _ _ hx)
    · exact h x
  · unfold loseL
    split
    · exact fun hx => h x (dropF_mem _ _ _ _ hx)
    · exact h x
  · unfold doubL
    split
    · rw [List.mem_append]
      rintro (hx | hx)
      · exact h x hx
      · cases hy : (M.filter (pf o.f.x.frm o.f.x.to))[o.n.toNat]? with
        | none => rw [hy] at hx; simp at hx
        | some y =>
          rw [hy] at hx
          simp at hx
          subst hx
          exact (List.mem_filter.1 (List.mem_of_getElem? hy)).2
    · exact h x
  · unfold corL
    split
    · intro hx
      obtain ⟨y, hy, (rfl | rfl)⟩ := turnF_mem _ _ _ _ _ hx
      · exact h _ hy
      · rw [pf_turn]; exact h _ hy
    · exact h x
/-- the kind of an operation. -/
def kndN (k : Int) : Nat := [0, 0, 0, 1, 2, 3, 4].getD ((IntKind.u64.wrap k).tmod 7).toNat 0
theorem knd_le (k : Int) : kndN k = 0 ∨ kndN k = 1 ∨ kndN k = 2 ∨ kndN k = 3 ∨ kndN k = 4 := by
  unfold kndN
  match ((IntKind.u64.wrap k).tmod 7).toNat with
  | 0 => simp
  | 1 => simp
  | 2 => simp
  | 3 => simp
  | 4 => simp
  | 5 => simp
  | 6 => simp
  | n + 7 => simp
theorem knd_mod (k : Int) : ∃ j : Nat, (IntKind.u64.wrap k).tmod 7 = j ∧ j < 7 := by
  have h0 : 0 ≤ IntKind.u64.wrap k := by unfold IntKind.wrap; simp [IntKind.bits, IntKind.signed]; omega
  refine ⟨((IntKind.u64.wrap k).tmod 7).toNat, ?_, ?_⟩
  · have := Int.tmod_nonneg 7 h0; omega
  · have := Int.tmod_lt_of_pos (IntKind.u64.wrap k) (b := 7) (by decide); omega
theorem k7_0 (W : World) : (Instr.index 88 (.agg #[.int .i64 0, .int .i64 0, .int .i64 0, .int .i64 1, .int .i64 2, .int .i64 3, .int .i64 4]) (.int .u64 0)).run Try.prog W = .ok (.int .i64 0) W := by kernel_rfl
theorem k7_1 (W : World) : (Instr.index 88 (.agg #[.int .i64 0, .int .i64 0, .int .i64 0, .int .i64 1, .int .i64 2, .int .i64 3, .int .i64 4]) (.int .u64 1)).run Try.prog W = .ok (.int .i64 0) W := by kernel_rfl
theorem k7_2 (W : World) : (Instr.index 88 (.agg #[.int .i64 0, .int .i64 0, .int .i64 0, .int .i64 1, .int .i64 2, .int .i64 3, .int .i64 4]) (.int .u64 2)).run Try.prog W = .ok (.int .i64 0) W := by kernel_rfl
theorem k7_3 (W : World) : (Instr.index 88 (.agg #[.int .i64 0, .int .i64 0, .int .i64 0, .int .i64 1, .int .i64 2, .int .i64 3, .int .i64 4]) (.int .u64 3)).run Try.prog W = .ok (.int .i64 1) W := by kernel_rfl
theorem k7_4 (W : World) : (Instr.index 88 (.agg #[.int .i64 0, .int .i64 0, .int .i64 0, .int .i64 1, .int .i64 2, .int .i64 3, .int .i64 4]) (.int .u64 4)).run Try.prog W = .ok (.int .i64 2) W := by kernel_rfl
theorem k7_5 (W : World) : (Instr.index 88 (.agg #[.int .i64 0, .int .i64 0, .int .i64 0, .int .i64 1, .int .i64 2, .int .i64 3, .int .i64 4]) (.int .u64 5)).run Try.prog W = .ok (.int .i64 3) W := by kernel_rfl
theorem k7_6 (W : World) : (Instr.index 88 (.agg #[.int .i64 0, .int .i64 0, .int .i64 0, .int .i64 1, .int .i64 2, .int .i64 3, .int .i64 4]) (.int .u64 6)).run Try.prog W = .ok (.int .i64 4) W := by kernel_rfl
theorem kind_at (w : World) (o : OX) (j : Nat) (hj : (IntKind.u64.wrap o.knd).tmod 7 = j) (h7 : j = 0 ∨ j = 1 ∨ j = 2 ∨ j = 3 ∨ j = 4 ∨ j = 5 ∨ j = 6) : Calls Try.prog 24 #[.agg #[.int .i64 o.knd, .int .i64 o.f.x.frm, .int .i64 o.f.x.to, .int .i64 o.f.x.at_, .slice o.f.a o.f.x.bytes.length o.f.c, .int .i64 o.n, .int .i64 o.bit, .int .i64 o.now]] w fun e w' => e = .returned (.int .i64 ([0, 0, 0, 1, 2, 3, 4].getD j 0 : Nat)) ∧ Hid (Below w.heap.size w w') := by
  rcases h7 with rfl | rfl | rfl | rfl | rfl | rfl | rfl
  · replace hj : (IntKind.u64.wrap o.knd).tmod 7 = 0 := hj
    have hx := k7_0
    go_enter Try.func24, Try.ntmps24
    go_wp2
    go_ret
    exact ⟨rfl, (Below.refl _ w).alloc (Nat.le_refl _) _⟩
  · replace hj : (IntKind.u64.wrap o.knd).tmod 7 = 1 := hj
    have hx := k7_1
    go_enter Try.func24, Try.ntmps24
    go_wp2
    go_ret
    exact ⟨rfl, (Below.refl _ w).alloc (Nat.le_refl _) _⟩
  · replace hj : (IntKind.u64.wrap o.knd).tmod 7 = 2 := hj
    have hx := k7_2
    go_enter Try.func24, Try.ntmps24
    go_wp2
    go_ret
    exact ⟨rfl, (Below.refl _ w).alloc (Nat.le_refl _) _⟩
  · replace hj : (IntKind.u64.wrap o.knd).tmod 7 = 3 := hj
    have hx := k7_3
    go_enter Try.func24, Try.ntmps24
    go_wp2
    go_ret
    exact ⟨rfl, (Below.refl _ w).alloc (Nat.le_refl _) _⟩
  · replace hj : (IntKind.u64.wrap o.knd).tmod 7 = 4 := hj
    have hx := k7_4
    go_enter Try.func24, Try.ntmps24
    go_wp2
    go_ret
    exact ⟨rfl, (Below.refl _ w).alloc (Nat.le_refl _) _⟩
  · replace hj : (IntKind.u64.wrap o.knd).tmod 7 = 5 := hj
    have hx := k7_5
    go_enter Try.func24, Try.ntmps24
    go_wp2
    go_ret
    exact ⟨rfl, (Below.refl _ w).alloc (Nat.le_refl _) _⟩
  · replace hj : (IntKind.u64.wrap o.knd).tmod 7 = 6 := hj
    have hx := k7_6
    go_enter Try.func24, Try.ntmps24
    go_wp2
    go_ret
    exact ⟨rfl, (Below.refl _ w).alloc (Nat.le_refl _) _⟩
theorem kind_any (w : World) (o : OX) : Calls Try.prog 24 #[.agg #[.int .i64 o.knd, .int .i64 o.f.x.frm, .int .i64 o.f.x.to, .int .i64 o.f.x.at_, .slice o.f.a o.f.x.bytes.length o.f.c, .int .i64 o.n, .int .i64 o.bit, .int .i64 o.now]] w fun e w' => e = .returned (.int .i64 (kndN o.knd : Nat)) ∧ Hid (Below w.heap.size w w') := by
  obtain ⟨j, hj, h7⟩ := knd_mod o.knd
  have := kind_at w o j hj (by omega)
  unfold kndN
  rw [hj]
  exact this
end Go.Proofs.Ytopfpdkknfjgoaa
