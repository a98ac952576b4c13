/- receiver.whole, rightState, Check. -/
import Derived.Test.YthmolodkaboakaaVMem
namespace Go.Proofs.Ythmolodkaboakaa
open Go.RowKit
set_option linter.unusedVariables false
theorem wpList_load_want {P : Program} {ops : Array Oper} {rest : List Oper} {op : Oper} {a : Act} {w : World} {Q : Exit → Act → World → Prop} (hw : Region.wanted op (yielded ops a.tmps) = true) (ty : TypeId) (x : Operand) (ho : op.op = .load ty x)
    (b o : Nat) (hx : a.eval x = .pointer (some ⟨b, o, none⟩)) (cs : List Value) (d : TypeDesc) (hc : w.rangeAt b o cs)
    (hu : P.underlying ty = some d) (hd : d.isRow = true) (hi : (P.info? ty).map (·.size) = some cs.length)
    (h : wpList P ops Q rest (a.put op.dst (.agg cs.toArray)) w) : wpList P ops Q (op :: rest) a w :=
  BigFrame.wpList_want hw fun _ hK => wp_load_mid ty x ho b o hx cs d hc hu hd hi (hK _ _ h)
theorem veqlC (w : World) (x1 x2 y1 y2 : Int) : (binOp .eql 60 (.agg #[.int .i64 x1, .int .i64 x2]) (.agg #[.int .i64 y1, .int .i64 y2])).run Try.prog w = .ok (.bool (decide (x1 = y1) && decide (x2 = y2))) w := by
  rw [run_eql_struct, claim_eq]; rfl
theorem wholeK_no {s : Tk} (h : s.got.length ≠ 1) : wholeK s = false := by
  unfold wholeK
  rw [decide_eq_false]
  intro e
  exact h (by rw [e]; rfl)
set_option maxRecDepth 20000 in
set_option maxHeartbeats 1000000 in
theorem vwhole_any (s : Tk) (a : Option Addr) (c : Nat) (g : Option Addr) (d : Nat) (w : World) (hr : RowC w g s.got) : Calls Try.prog 43 #[kv s a c g d] w fun e w' => e = .returned (.bool (wholeK s)) ∧ Hid (Below w.heap.size w w') := by
  have HB : Hid (∀ X Y, Below w.heap.size w ((w.alloc X).alloc Y) ∧ Below w.heap.size w (w.alloc X)) := fun X Y => ⟨((Below.refl _ w).alloc (Nat.le_refl _) _).alloc (by simp) _, (Below.refl _ w).alloc (Nat.le_refl _) _⟩
  by_cases h1 : s.got.length = 1
  · obtain ⟨x, y, hg⟩ : ∃ x y, s.got = [(x, y)] := by
      match hs : s.got, h1 with
      | [(x, y)], _ => exact ⟨x, y, rfl⟩
    have HE : Hid (wholeK s = (decide (x = 0) && decide (y = s.tot))) := by show _ = _; unfold wholeK; rw [hg]; simp
    rw [hg] at hr
    obtain ⟨b, off, rfl, hc⟩ := hr.2 (by simp)
    obtain ⟨hc1, hc2⟩ := hc 0 (by simp)
    have ha1 : ∀ X, (w.alloc X).cell? ⟨b, off, none⟩ = some (.int .i64 x) := fun X => cell_later ((HB.out X X).2) (by simpa using hc1)
    have ha2 : ∀ X, (w.alloc X).cell? ⟨b, off + 1, none⟩ = some (.int .i64 y) := fun X => cell_later ((HB.out X X).2) (by simpa using hc2)
    have he := fun W => veqlC W x y 0 s.tot
    rw [← HE.out] at he
    clear hc hc1 hc2 hr
    obtain ⟨src, ses, tot, byt, got, ser, sta, lif, due⟩ := s
    simp only at hg HE h1
    subst hg
    generalize wholeK _ = R at he HE ⊢
    clear HE h1
    go_enter Try.func43, Try.ntmps43
    go_wp2
    go_quiet (fail)
    go_wp2
    go_ret
    exact ⟨rfl, below_drewN (HB.out _ (kc ⟨src, ses, tot, byt, [], ser, sta, lif, due⟩ a c none d)).2 _⟩
  · rw [wholeK_no h1]
    have hb : ((s.got.length : Int) == 1) = false := by simp; omega
    go_enter Try.func43, Try.ntmps43
    go_wp2
    go_quiet (fail)
    go_wp2
    go_ret
    exact ⟨rfl, below_drewN (HB.out _ (kc s a c g d)).2 _⟩
set_option maxRecDepth 20000 in
set_option maxHeartbeats 1000000 in
theorem vstate_any (s : Tk) (a : Option Addr) (c : Nat) (g : Option Addr) (d : Nat) (w : World) (hr : RowC w g s.got) : Calls Try.prog 47 #[kv s a c g d] w fun e w' => e = .returned (.bool (stateK s)) ∧ Hid (Below w.heap.size w w') := by
  have HB : Hid (∀ X, Below w.heap.size w (w.alloc X)) := fun X => (Below.refl _ w).alloc (Nat.le_refl _) _
  have HC : Hid (∀ X, Calls Try.prog 43 #[kv s a c g d] (w.alloc X) fun e w' => e = .returned (.bool (wholeK s)) ∧ Hid (Below (w.alloc X).heap.size (w.alloc X) w')) := fun X => vwhole_any s a c g d _ (hr.later (HB.out X))
  clear hr
  by_cases h1 : s.sta = 1
  · have HE : stateK s = !wholeK s := by unfold stateK; rw [if_pos h1]
    have hb : (s.sta == 1) = true := by simpa using h1
    rw [HE]
    clear h1 HE
    go_enter Try.func47, Try.ntmps47
    go_wp2_with (go_at_call 43; refine (HC.out _).mono ?_; rintro e w' ⟨rfl, hb1⟩)
    go_ret
    exact ⟨rfl, below_of (HB.out _) hb1.out⟩
  · have hb : (s.sta == 1) = false := by simpa using h1
    by_cases h2 : s.sta = 2
    · have HE : stateK s = wholeK s := by unfold stateK; rw [if_neg h1, if_pos h2]
      have hb2 : (s.sta == 2) = true := by simpa using h2
      rw [HE]
      clear h1 h2 HE
      go_enter Try.func47, Try.ntmps47
      go_wp2_with (go_at_call 43; refine (HC.out _).mono ?_; rintro e w' ⟨rfl, hb1⟩)
      go_ret
      exact ⟨rfl, below_of (HB.out _) hb1.out⟩
    · have hb2 : (s.sta == 2) = false := by simpa using h2
      have HE : stateK s = decide (s.sta = 4) := by unfold stateK; rw [if_neg h1, if_neg h2]
      rw [HE]
      clear h1 h2 HE
      go_enter Try.func47, Try.ntmps47
      go_wp2
      all_goals
        go_ret
        refine ⟨ret_bool ?_, HB.out _⟩
        simp_all
set_option maxRecDepth 20000 in
set_option maxHeartbeats 1000000 in
theorem vcheck_any (s : Tk) (a : Option Addr) (c : Nat) (g : Option Addr) (d : Nat) (w : World) (hc : CameK w s a c g d) : Calls Try.prog 25 #[kv s a c g d] w fun e w' => e = .returned (.int .i64 (chkK s)) ∧ Hid (Below w.heap.size w w') := by
  have HB : Hid (Below w.heap.size w (w.alloc (kc s a c g d))) := (Below.refl _ w).alloc (Nat.le_refl _) _
  have HP : Hid ((w.alloc (kc s a c g d)).heap[w.heap.size]? = some (kc s a c g d)) := heap_alloc_new w _
  obtain ⟨cs, hcs⟩ : ∃ cs, Hid (cs = kcells s a c g d) := ⟨_, rfl⟩
  have hsz : Hid ((Try.prog.info? 26).map (·.size) = some cs.length) := by show _ = _; rw [show cs.length = 9 by rw [hcs.out]; rfl]; kernel_rfl
  have HA1 : Hid (∀ W, Below w.heap.size w W → Calls Try.prog 45 #[.agg cs.toArray] W fun e w' => e = .returned (.bool (numsK s)) ∧ Hid (Below W.heap.size W w')) := fun W hb => by rw [hcs.out]; exact vnumbers_any s a c g d W
  have HA2 : Hid (numsK s = true → ∀ W, Below w.heap.size w W → Calls Try.prog 46 #[.agg cs.toArray] W fun e w' => e = .returned (.bool (clsOk s.tot 0 s.got)) ∧ Hid (Below W.heap.size W w')) := fun hn W hb => by
    simp only [numsK, Bool.and_eq_true] at hn
    have := inB_of hn.2.2.1
    rw [hcs.out]; exact vrows_any s a c g d W hc.zg this.1 this.2 (hc.got.later hb) hc.gin
  have HA3 : Hid (∀ W, Below w.heap.size w W → Calls Try.prog 47 #[.agg cs.toArray] W fun e w' => e = .returned (.bool (stateK s)) ∧ Hid (Below W.heap.size W w')) := fun W hb => by rw [hcs.out]; exact vstate_any s a c g d W (hc.got.later hb)
  clear hc
  have HE : Hid (chkK s = if (numsK s && (clsOk s.tot 0 s.got && stateK s)) = true then 0 else 250) := rfl
  have HR0 : Hid ((w.alloc (kc s a c g d)).rangeAt w.heap.size 0 cs) := by rw [hcs.out]; exact k_range HP.out
  generalize chkK s = R at HE ⊢
  generalize stateK s = B3 at HA3 HE
  generalize clsOk s.tot 0 s.got = B2 at HA2 HE
  cases h1 : numsK s with
  | false =>
    rw [h1] at HA1 HE
    obtain rfl : R = 250 := by rw [HE.out]; rfl
    clear HE h1 HA2 HA3
    go_enter Try.func25, Try.ntmps25
    go_wp2_with (first | (go_at_call 45; refine (HA1.out _ HB.out).mono ?_; rintro e w1 ⟨rfl, hb1⟩; have hW1 : Hid (Below w.heap.size w w1) := below_of HB.out hb1.out) | (refine wpList_load_mid rfl 26 _ rfl w.heap.size 0 (by rfl) cs _ HR0.out Try.underlying26 rfl hsz.out ?_))
    go_ret
    exact ⟨rfl, hW1.out⟩
  | true =>
    have HA2 : Hid (∀ W, Below w.heap.size w W → Calls Try.prog 46 #[.agg cs.toArray] W fun e w' => e = .returned (.bool B2) ∧ Hid (Below W.heap.size W w')) := HA2.out h1
    rw [h1] at HA1 HE
    clear h1
    cases B2 with
    | false =>
      obtain rfl : R = 250 := by rw [HE.out]; rfl
      clear HE HA3
      go_enter Try.func25, Try.ntmps25
      go_wp2_with (first | (go_at_call 45; refine (HA1.out _ HB.out).mono ?_; rintro e w1 ⟨rfl, hb1⟩; have hW1 : Hid (Below w.heap.size w w1) := below_of HB.out hb1.out; have hP1 : Hid (w1.heap[w.heap.size]? = some (kc s a c g d)) := (show _ = _ from old_block hb1.out HP.out); have hR1 : Hid (w1.rangeAt w.heap.size 0 cs) := by (rw [hcs.out]; exact k_range hP1.out)) | (go_at_call 46; refine (HA2.out _ hW1.out).mono ?_; rintro e w2 ⟨rfl, hb2⟩; have hW2 : Hid (Below w.heap.size w w2) := below_of hW1.out hb2.out; have hP2 : Hid (w2.heap[w.heap.size]? = some (kc s a c g d)) := (show _ = _ from old_block hb2.out hP1.out); have hR2 : Hid (w2.rangeAt w.heap.size 0 cs) := by (rw [hcs.out]; exact k_range hP2.out)) | (refine wpList_load_want (by rfl) 26 _ rfl w.heap.size 0 (by rfl) cs _ (by first | exact hR2.out | exact hR1.out | exact HR0.out) Try.underlying26 rfl hsz.out ?_))
      go_ret
      exact ⟨rfl, hW2.out⟩
    | true =>
      cases B3 with
      | false =>
        obtain rfl : R = 250 := by rw [HE.out]; rfl
        clear HE
        go_enter Try.func25, Try.ntmps25
        go_wp2_with (first | (go_at_call 45; refine (HA1.out _ HB.out).mono ?_; rintro e w1 ⟨rfl, hb1⟩; have hW1 : Hid (Below w.heap.size w w1) := below_of HB.out hb1.out; have hP1 : Hid (w1.heap[w.heap.size]? = some (kc s a c g d)) := (show _ = _ from old_block hb1.out HP.out); have hR1 : Hid (w1.rangeAt w.heap.size 0 cs) := by (rw [hcs.out]; exact k_range hP1.out)) | (go_at_call 46; refine (HA2.out _ hW1.out).mono ?_; rintro e w2 ⟨rfl, hb2⟩; have hW2 : Hid (Below w.heap.size w w2) := below_of hW1.out hb2.out; have hP2 : Hid (w2.heap[w.heap.size]? = some (kc s a c g d)) := (show _ = _ from old_block hb2.out hP1.out); have hR2 : Hid (w2.rangeAt w.heap.size 0 cs) := by (rw [hcs.out]; exact k_range hP2.out)) | (go_at_call 47; refine (HA3.out _ hW2.out).mono ?_; rintro e w3 ⟨rfl, hb3⟩; have hW3 : Hid (Below w.heap.size w w3) := below_of hW2.out hb3.out) | (refine wpList_load_want (by rfl) 26 _ rfl w.heap.size 0 (by rfl) cs _ (by first | exact hR2.out | exact hR1.out | exact HR0.out) Try.underlying26 rfl hsz.out ?_))
        go_ret
        exact ⟨rfl, hW3.out⟩
      | true =>
        obtain rfl : R = 0 := by rw [HE.out]; rfl
        clear HE
        go_enter Try.func25, Try.ntmps25
        go_wp2_with (first | (go_at_call 45; refine (HA1.out _ HB.out).mono ?_; rintro e w1 ⟨rfl, hb1⟩; have hW1 : Hid (Below w.heap.size w w1) := below_of HB.out hb1.out; have hP1 : Hid (w1.heap[w.heap.size]? = some (kc s a c g d)) := (show _ = _ from old_block hb1.out HP.out); have hR1 : Hid (w1.rangeAt w.heap.size 0 cs) := by (rw [hcs.out]; exact k_range hP1.out)) | (go_at_call 46; refine (HA2.out _ hW1.out).mono ?_; rintro e w2 ⟨rfl, hb2⟩; have hW2 : Hid (Below w.heap.size w w2) := below_of hW1.out hb2.out; have hP2 : Hid (w2.heap[w.heap.size]? = some (kc s a c g d)) := (show _ = _ from old_block hb2.out hP1.out); have hR2 : Hid (w2.rangeAt w.heap.size 0 cs) := by (rw [hcs.out]; exact k_range hP2.out)) | (go_at_call 47; refine (HA3.out _ hW2.out).mono ?_; rintro e w3 ⟨rfl, hb3⟩; have hW3 : Hid (Below w.heap.size w w3) := below_of hW2.out hb3.out) | (refine wpList_load_want (by rfl) 26 _ rfl w.heap.size 0 (by rfl) cs _ (by first | exact hR2.out | exact hR1.out | exact HR0.out) Try.underlying26 rfl hsz.out ?_))
        go_ret
        exact ⟨rfl, hW3.out⟩
end Go.Proofs.Ythmolodkaboakaa
