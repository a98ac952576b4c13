/- slices.Equal of claims; segment.Same. -/
import Derived.Test.YthmfbhanmncfgaaZClaims
import Derived.Test.YthmfbhanmncfgaaGMem
namespace Go.Proofs.Ythmfbhanmncfgaa
open Go.RowKit
set_option linter.unusedVariables false
theorem Try.heldC : Try.prog.stoodInHeld 38 = false := by kernel_rfl
theorem eq_step (w : World) (xs ys : Array Value) (f : Field) (fs : List Field) (k k' : IntKind) (a b : Int) (hn : f.name ≠ "_") (hu : Try.prog.underlying f.type = some (.int k')) (hx : (Go.part f.type xs f.offset).run Try.prog w = .ok (.int k a) w) (hy : (Go.part f.type ys f.offset).run Try.prog w = .ok (.int k b) w) :
    (Op.eqFields 9999 xs ys (f :: fs)).run Try.prog w = if a = b then (Op.eqFields 9999 xs ys fs).run Try.prog w else .ok false w := by
  simp only [Op.eqFields, Sem.run_ite, Sem.run_bind, hx, hy, Result.andThen_ok, run_equalIn_int w 9998 f.type k k' a b hu]
  rw [if_pos hn]
  by_cases h : a = b
  · rw [if_pos h, if_neg (by simp [h])]
  · rw [if_neg h, if_pos (by simp [h])]
    rfl
theorem part_int (w : World) (xs : Array Value) (o : Nat) (v : Value) (h : xs[o]? = some v) : (Go.part 3 xs o).run Try.prog w = .ok v w := by
  simp [Go.part, go_sem, h]
theorem ite_ok {p : Prop} [Decidable p] (b : Bool) (w : World) : (if p then (Result.ok b w) else .ok false w) = .ok (decide p && b) w := by
  by_cases h : p <;> simp [h]
set_option maxRecDepth 20000 in
set_option maxHeartbeats 2000000 in
theorem claim_eq (w : World) (x1 x2 y1 y2 : Int) : (Op.equalIn 10000 38 (.agg #[.int .i64 x1, .int .i64 x2]) (.agg #[.int .i64 y1, .int .i64 y2])).run Try.prog w = .ok (decide (x1 = y1) && decide (x2 = y2)) w := by
  have hu := Try.underlying38
  rw [show (10000 : Nat) = 9999 + 1 from rfl, run_equalIn_struct w 9999 38 _ _ (by rw [Program.fieldsOf, hu]) Try.heldC, Program.fieldsOf, hu]
  simp only
  rw [eq_step w _ _ _ _ .i64 .i64 x1 y1 (by decide) Try.underlying3 (part_int w _ _ _ rfl) (part_int w _ _ _ rfl),
    eq_step w _ _ _ _ .i64 .i64 x2 y2 (by decide) Try.underlying3 (part_int w _ _ _ rfl) (part_int w _ _ _ rfl)]
  simp only [Op.eqFields, Sem.run_pure, ite_ok, Bool.and_true]
theorem neqC (w : World) (x1 x2 y1 y2 : Int) : (binOp .neq 38 (.agg #[.int .i64 x1, .int .i64 x2]) (.agg #[.int .i64 y1, .int .i64 y2])).run Try.prog w = .ok (.bool (!(decide (x1 = y1) && decide (x2 = y2)))) w := by
  rw [run_neq_struct, claim_eq]; rfl
theorem drop_eq {α : Type} {l m : List α} {k : Nat} (h1 : k < l.length) (h2 : k < m.length) : l.drop k = m.drop k ↔ l[k] = m[k] ∧ l.drop (k + 1) = m.drop (k + 1) := by
  rw [List.drop_eq_getElem_cons h1, List.drop_eq_getElem_cons h2, List.cons.injEq]
set_option maxRecDepth 20000 in
set_option maxHeartbeats 1000000 in
theorem claimsEq_any (a b : Option Addr) (c d : Nat) (l m : List (Int × Int)) (w : World) (hr : RowC w a l) (hs : RowC w b m) (hz : l.length ≤ 140737488351232) (hz2 : m.length ≤ 140737488351232) :
    Calls Try.prog 14 #[.slice a l.length c, .slice b m.length d] w fun e w' => e = .returned (.bool (decide (l = m))) ∧ ∃ n, w' = w.drewN n := by
  have HR : Hid (RowC w a l) := hr
  have HS : Hid (RowC w b m) := hs
  clear hr hs
  by_cases hlen : l.length = m.length
  · have HL : Hid (l.length = m.length) := hlen
    have hb1 : ((l.length : Int) != (m.length : Int)) = false := by simp [hlen]
    have hm2 : (l.length : Int) ≤ (m.length : Int) := by omega
    clear hlen
    go_enter Try.func14, Try.ntmps14
    go_wp2
    go_loopw [13] (fun i wr => ∃ k q : Nat, k ≤ l.length ∧ i = .int .i64 k ∧ wr = w.drewN q ∧ Hid (decide (l = m) = decide (l.drop k = m.drop k))) (fun i _ => l.length - (intOf i).toNat)
    case atStart => exact ⟨0, 0, by omega, rfl, rfl, rfl⟩
    case round =>
      obtain ⟨k, q, hk, rfl, rfl, HD⟩ := hrel
      by_cases hlt : k < l.length
      · have hlt2 : k < m.length := by omega
        obtain ⟨b1, o1, rfl, hc1⟩ := HR.out.2 (by omega)
        obtain ⟨b2, o2, rfl, hc2⟩ := HS.out.2 (by omega)
        obtain ⟨p1, p2⟩ := hc1 k hlt
        obtain ⟨p3, p4⟩ := hc2 k hlt2
        have HN : Hid (decide (l.drop k = m.drop k) = (decide (l[k] = m[k]) && decide (l.drop (k + 1) = m.drop (k + 1)))) := by
          show _ = _
          rw [Bool.eq_iff_iff]
          simp only [decide_eq_true_eq, Bool.and_eq_true]
          exact drop_eq hlt hlt2
        have HP : Hid (decide (l[k] = m[k]) = (decide (l[k].1 = m[k].1) && decide (l[k].2 = m[k].2))) := by
          show _ = _
          rw [Bool.eq_iff_iff]
          simp only [decide_eq_true_eq, Bool.and_eq_true]
          exact ⟨fun e => by rw [e]; exact ⟨rfl, rfl⟩, fun e => Prod.ext e.1 e.2⟩
        clear hc1 hc2
        generalize l[k].1 = x1 at p1 HP
        generalize l[k].2 = x2 at p2 HP
        generalize m[k].1 = y1 at p3 HP
        generalize m[k].2 = y2 at p4 HP
        have hi1 : (k : Int) < (l.length : Int) := by omega
        have hi2 : (k : Int) < (m.length : Int) := by omega
        have he := fun W => neqC W x1 x2 y1 y2
        rw [← HP.out] at he
        generalize decide (l[k] = m[k]) = B at he HN
        go_wp2
        go_quiet (fail)
        cases B with
        | false =>
          go_wp2
          go_ret
          refine ⟨ret_bool ?_, q + nq, ?_⟩
          · rw [HD.out, HN.out]; rfl
          · rw [World.drewN_drewN]
        | true =>
          go_wp2
          go_roundw
          case rel => exact ⟨k + 1, q + nq, by omega, by go_num, rfl, by show _ = _; rw [HD.out, HN.out]; rfl⟩
          case measure => simp [intOf]; omega
      · obtain rfl : k = l.length := by omega
        have HE : Hid (decide (l = m) = true) := by
          show _ = _
          rw [HD.out, List.drop_of_length_le (Nat.le_refl _), List.drop_of_length_le (by rw [HL.out]; exact Nat.le_refl _)]
          rfl
        go_wp2
        go_ret
        exact ⟨ret_bool HE.out.symm, q, rfl⟩
  · have HE : Hid (decide (l = m) = false) := decide_eq_false (fun e => hlen (by rw [e]))
    go_enter Try.func14, Try.ntmps14
    go_wp2
    go_ret
    exact ⟨ret_bool HE.out.symm, 0, rfl⟩
end Go.Proofs.Ythmfbhanmncfgaa
