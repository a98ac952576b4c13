/- segment.Check. -/
import Derived.Test.YtnjcaolkcmpdcaaTSame
import Derived.Test.YtnjcaolkcmpdcaaTFields
import Derived.Deep.RegionWith
namespace Go.Proofs.Ytnjcaolkcmpdcaa
open Go.RowKit
set_option linter.unusedVariables false
/-- what came in: a segment, how it lies. -/
structure Came (w : World) (s : Sg) (a : Option Addr) (c : Nat) (a2 : Option Addr) (c2 : Nat) : Prop where
  fit : Sz s
  row : Row w a s.dat
  rowc : RowC w a2 s.cls
  le : s.dat.length ≤ c
  cap : c ≤ maxLen
  lec : s.cls.length ≤ c2
  capc : c2 ≤ maxLen
theorem Came.later {w w' : World} {s : Sg} {a : Option Addr} {c : Nat} {a2 : Option Addr} {c2 : Nat} (h : Came w s a c a2 c2) (hb : Below w.heap.size w w') : Came w' s a c a2 c2 := ⟨h.fit, h.row.later hb, h.rowc.later hb, h.le, h.cap, h.lec, h.capc⟩
theorem cnt_cls (s : Sg) : (cntS s).cls = s.cls ∨ (cntS s).cls = [] := by
  unfold cntS
  split
  · exact .inr rfl
  · split
    · exact .inl rfl
    · split
      · exact .inr rfl
      · split
        · exact .inr rfl
        · exact .inr rfl
/-- what Check answers. -/
def chkS (s : Sg) : Int := if okS s = true then 0 else 200
theorem chk_ok {s : Sg} (h : okS s = true) : chkS s = 0 := if_pos h
theorem chk_no {s : Sg} (h : okS s = false) : chkS s = 200 := if_neg (by rw [h]; simp)
set_option maxRecDepth 20000 in
set_option maxHeartbeats 4000000 in
theorem check_any (s : Sg) (a : Option Addr) (c : Nat) (a2 : Option Addr) (c2 : Nat) (w : World) (hc : Came w s a c a2 c2) : Calls Try.prog 46 #[sv s a c a2 c2] w fun e w' => e = .returned (.int .i64 (chkS s)) ∧ Hid (Below w.heap.size w w') := by
  have HE : Hid (chkS s = if (sessS s && (fieldsS s && sameS s (cntS s))) = true then 0 else 200) := rfl
  have HB : Hid (∀ X : Obj, Below w.heap.size w (w.alloc X)) := fun X => (Below.refl _ w).alloc (Nat.le_refl _) X
  have HF : Hid (∀ W, Below w.heap.size w W → Calls Try.prog 72 #[sv s a c a2 c2] W fun e w' => e = .returned (.bool (fieldsS s)) ∧ Hid (Below W.heap.size W w')) := fun W hb => fields_any s a c a2 c2 W hc.fit.dat hc.fit.cls (hc.rowc.later hb) hc.fit.clm
  have HK : Hid (∀ W, Below w.heap.size w W → Calls Try.prog 73 #[sv s a c a2 c2] W fun e w' => ∃ b d b2 d2, e = .returned (sv (cntS s) b d b2 d2) ∧ Hid (Below W.heap.size W w' ∧ Row W b (cntS s).dat ∧ RowC W b2 (cntS s).cls)) := fun W hb => counted_any s a c a2 c2 W (hc.row.later hb) (hc.rowc.later hb)
  have HS : Hid (∀ W b d b2 d2, Below w.heap.size w W → Row W b (cntS s).dat → RowC W b2 (cntS s).cls → Calls Try.prog 62 #[sv s a c a2 c2, sv (cntS s) b d b2 d2] W fun e w' => e = .returned (.bool (sameS s (cntS s))) ∧ Hid (Below W.heap.size W w')) := fun W b d b2 d2 hb h1 h2 => Go.Proofs.Ytnjcaolkcmpdcaa.same_any s (cntS s) a c a2 c2 b d b2 d2 W (hc.row.later hb) (hc.rowc.later hb) h1 h2 hc.fit.cls (by rcases cnt_cls s with e | e <;> rw [e]; exact hc.fit.cls; simp)
  have HA : Hid (∀ W, Calls Try.prog 71 #[sv s a c a2 c2] W fun e w' => e = .returned (.bool (sessS s)) ∧ Hid (Below W.heap.size W w')) := fun W => sess_any s a c a2 c2 W
  generalize chkS s = R at HE ⊢
  generalize cntS s = t at HE HK HS
  clear hc
  have HP : Hid ((w.alloc (sc s a c a2 c2)).heap[w.heap.size]? = some (sc s a c a2 c2)) := heap_alloc_new w _
  cases h1 : sessS s with
  | false =>
    rw [h1] at HA HE
    go_enter Try.func46, Try.ntmps46
    go_wp2_with fail
    first
    | go_region_with (first
        | (go_at_call 71; refine (HA.out _).mono ?_; rintro e w1 ⟨rfl, hb1⟩; have hW1 : Below w.heap.size w w1 := below_of ((HB.out _).drew) hb1.out))
    | fail
    all_goals
      go_wp2
      go_ret
      exact ⟨ret_int (by rw [HE.out]; rfl), hW1⟩
  | true =>
    rw [h1] at HA HE
    cases h2 : fieldsS s with
    | false =>
      rw [h2] at HF HE
      go_enter Try.func46, Try.ntmps46
      go_wp2_with fail
      first
      | go_region_with (first
          | (go_at_call 71; refine (HA.out _).mono ?_; rintro e w1 ⟨rfl, hb1⟩; have hW1 : Below w.heap.size w w1 := below_of ((HB.out _).drew) hb1.out; have hP1 : w1.heap[w.heap.size]? = some (sc s a c a2 c2) := old_block (below_of ((Below.refl _ _).drew) hb1.out) HP.out; obtain ⟨e0, e1, e2, e3, e4, e5, e6, e7, e8, e9, e10, e11, e12⟩ := scells hP1)
          | (go_at_call 72; refine (HF.out _ hW1).mono ?_; rintro e w2 ⟨rfl, hb2⟩; have hW2 : Below w.heap.size w w2 := below_of hW1 hb2.out; have hP2 : w2.heap[w.heap.size]? = some (sc s a c a2 c2) := old_block hb2.out hP1; obtain ⟨f0, f1, f2, f3, f4, f5, f6, f7, f8, f9, f10, f11, f12⟩ := scells hP2))
      | fail
      all_goals
        go_wp2
        go_ret
        exact ⟨ret_int (by rw [HE.out]; rfl), hW2⟩
    | true =>
      rw [h2] at HF HE
      go_enter Try.func46, Try.ntmps46
      go_wp2_with fail
      go_region_with (first
          | (go_at_call 71; refine (HA.out _).mono ?_; rintro e w1 ⟨rfl, hb1⟩; have hW1 : Below w.heap.size w w1 := below_of ((HB.out _).drew) hb1.out; have hP1 : w1.heap[w.heap.size]? = some (sc s a c a2 c2) := old_block (below_of ((Below.refl _ _).drew) hb1.out) HP.out; obtain ⟨e0, e1, e2, e3, e4, e5, e6, e7, e8, e9, e10, e11, e12⟩ := scells hP1)
          | (go_at_call 72; refine (HF.out _ hW1).mono ?_; rintro e w2 ⟨rfl, hb2⟩; have hW2 : Below w.heap.size w w2 := below_of hW1 hb2.out; have hP2 : w2.heap[w.heap.size]? = some (sc s a c a2 c2) := old_block hb2.out hP1; obtain ⟨f0, f1, f2, f3, f4, f5, f6, f7, f8, f9, f10, f11, f12⟩ := scells hP2)
          | (go_at_call 73; refine (HK.out _ hW2).mono ?_; rintro e w3 ⟨b, d, b2, d2, rfl, hq3⟩; have hW3 : Below w.heap.size w w3 := below_of hW2 hq3.out.1; have hP3 : w3.heap[w.heap.size]? = some (sc s a c a2 c2) := old_block hq3.out.1 hP2; obtain ⟨g0, g1, g2, g3, g4, g5, g6, g7, g8, g9, g10, g11, g12⟩ := scells hP3)
          | (go_at_call 62; refine (HS.out w3 b d b2 d2 hW3 (hq3.out.2.1.later hq3.out.1) (hq3.out.2.2.later hq3.out.1)).mono ?_; rintro e w4 ⟨rfl, hb4⟩; have hW4 : Below w.heap.size w w4 := below_of hW3 hb4.out))
      all_goals
        cases h3 : sameS s t with
        | true =>
          rw [h3] at HE
          go_wp2
          go_ret
          exact ⟨ret_int (by rw [HE.out]; rfl), hW4⟩
        | false =>
          rw [h3] at HE
          go_wp2
          go_ret
          exact ⟨ret_int (by rw [HE.out]; rfl), hW4⟩
end Go.Proofs.Ytnjcaolkcmpdcaa
