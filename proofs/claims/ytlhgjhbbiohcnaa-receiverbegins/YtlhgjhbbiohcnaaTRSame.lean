/- heliographref10.Same. -/
import Derived.Test.YtlhgjhbbiohcnaaTSeg
namespace Go.Proofs.Ytlhgjhbbiohcnaa
open Go.RowKit
set_option linter.unusedVariables false
/-- a segment's block, the claims' number by itself. -/
abbrev sc0 (s : Sg) (a : Option Addr) (c : Nat) (a2 : Option Addr) (n c2 : Nat) : Obj := .cells #[.int .i64 s.knd, .int .i64 s.src, .int .u32 (s.ses : Nat), .int .u32 (s.ser : Nat), .int .u32 (s.cks : Nat), .int .i64 s.off, .int .i64 s.tot, .int .i64 s.low, .int .i64 s.upp, .int .i64 s.rea, .bool s.chk, .slice a s.dat.length c, .slice a2 n c2] 28
theorem scells0 {W : World} {p : Nat} {s : Sg} {a : Option Addr} {c : Nat} {a2 : Option Addr} {n c2 : Nat} (h : W.heap[p]? = some (sc0 s a c a2 n c2)) : W.cell? ⟨p, 0, none⟩ = some (.int .i64 s.knd) ∧ W.cell? ⟨p, 1, none⟩ = some (.int .i64 s.src) ∧ W.cell? ⟨p, 2, none⟩ = some (.int .u32 (s.ses : Nat)) ∧ W.cell? ⟨p, 3, none⟩ = some (.int .u32 (s.ser : Nat)) ∧ W.cell? ⟨p, 4, none⟩ = some (.int .u32 (s.cks : Nat)) ∧ W.cell? ⟨p, 5, none⟩ = some (.int .i64 s.off) ∧ W.cell? ⟨p, 6, none⟩ = some (.int .i64 s.tot) ∧ W.cell? ⟨p, 7, none⟩ = some (.int .i64 s.low) ∧ W.cell? ⟨p, 8, none⟩ = some (.int .i64 s.upp) ∧ W.cell? ⟨p, 9, none⟩ = some (.int .i64 s.rea) ∧ W.cell? ⟨p, 10, none⟩ = some (.bool s.chk) ∧ W.cell? ⟨p, 11, none⟩ = some (.slice a s.dat.length c) ∧ W.cell? ⟨p, 12, none⟩ = some (.slice a2 n c2) := by
  refine ⟨?_, ?_, ?_, ?_, ?_, ?_, ?_, ?_, ?_, ?_, ?_, ?_, ?_⟩
  all_goals (rw [cell_of h]; rfl)
set_option maxRecDepth 20000 in
set_option maxHeartbeats 8000000 in
theorem rsameS_any (s t : Sg) (a : Option Addr) (c : Nat) (a2 : Option Addr) (c2 : Nat) (b : Option Addr) (d : Nat) (b2 : Option Addr) (d2 : Nat) (w : World) (h1 : Row w a s.dat) (h2 : RowC w a2 s.cls) (h3 : Row w b t.dat) (h4 : RowC w b2 t.cls) (z1 : s.cls.length ≤ 140737488351232) (z2 : t.cls.length ≤ 140737488351232) :
    Calls Try.prog 35 #[sv s a c a2 c2, sv t b d b2 d2] w fun e w' => e = .returned (.bool (sameS s t)) ∧ Hid (Below w.heap.size w w') := by
  obtain ⟨l, hl⟩ : ∃ l, s.cls = l := ⟨_, rfl⟩
  obtain ⟨m, hm⟩ : ∃ m, t.cls = m := ⟨_, rfl⟩
  have HB : Hid (∀ X Y : Obj, Below w.heap.size w ((w.alloc X).alloc Y)) := fun X Y => ((Below.refl _ w).alloc (Nat.le_refl _) X).alloc (by simp) Y
  have HR : Hid (RowC w a2 l) := by rw [← hl]; exact h2
  have HS : Hid (RowC w b2 m) := by rw [← hm]; exact h4
  have HD : Hid (Row w a s.dat ∧ Row w b t.dat) := ⟨h1, h3⟩
  have HE : Hid (sameS s t = (decide (l = m) && (decide (s.knd = t.knd) && (decide (s.src = t.src) && (decide ((s.ses : Int) = (t.ses : Int)) && (decide ((s.ser : Int) = (t.ser : Int)) && (decide ((s.cks : Int) = (t.cks : Int)) && (decide (s.off = t.off) && (decide (s.tot = t.tot) && (decide (s.low = t.low) && (decide (s.upp = t.upp) && (decide (s.rea = t.rea) && (decide (s.chk = t.chk) && decide (s.dat = t.dat)))))))))))))) := by
    show _ = _
    unfold sameS
    have e : ∀ x y : Nat, decide (x = y) = decide ((x : Int) = (y : Int)) := fun x y => decide_eq_decide.2 (by omega)
    rw [e s.ses, e s.ser, e s.cks, hl, hm]
    cases decide (l = m) <;> simp
  rw [hl] at z1
  rw [hm] at z2
  unfold sv
  rw [hl, hm]
  generalize sameS s t = R at HE ⊢
  clear h1 h2 h3 h4
  by_cases hlen : l.length = m.length
  · have hb1 : ((l.length : Int) != (m.length : Int)) = false := by simp [hlen]
    have HL : Hid (l.length = m.length) := hlen
    clear hlen
    go_enter Try.func35, Try.ntmps35
    go_wp2
    have HX : Hid (RowC ((w.alloc (sc0 s a c a2 l.length c2)).alloc (sc0 t b d b2 m.length d2)) a2 l ∧ RowC ((w.alloc (sc0 s a c a2 l.length c2)).alloc (sc0 t b d b2 m.length d2)) b2 m) := ⟨HR.out.later (HB.out _ _), HS.out.later (HB.out _ _)⟩
    have HV : Hid ((∀ q, (convert 23 9 (.slice a s.dat.length c)).run Try.prog (((w.alloc (sc0 s a c a2 l.length c2)).alloc (sc0 t b d b2 m.length d2)).drewN q) = .ok (.string (strOf s.dat)) (((w.alloc (sc0 s a c a2 l.length c2)).alloc (sc0 t b d b2 m.length d2)).drewN q)) ∧ (∀ q, (convert 23 9 (.slice b t.dat.length d)).run Try.prog (((w.alloc (sc0 s a c a2 l.length c2)).alloc (sc0 t b d b2 m.length d2)).drewN q) = .ok (.string (strOf t.dat)) (((w.alloc (sc0 s a c a2 l.length c2)).alloc (sc0 t b d b2 m.length d2)).drewN q)) ∧ ((strOf s.dat).toList == (strOf t.dat).toList) = decide (s.dat = t.dat)) :=
      ⟨fun q => row_convert (HD.out.1.later (below_drewN (HB.out _ _) q)) c, fun q => row_convert (HD.out.2.later (below_drewN (HB.out _ _) q)) d, str_eq HD.out.1.1 HD.out.2.1⟩
    have HY : Hid (Below w.heap.size w ((w.alloc (sc0 s a c a2 l.length c2)).alloc (sc0 t b d b2 m.length d2))) := HB.out _ _
    have HK : Hid (((w.alloc (sc0 s a c a2 l.length c2)).alloc (sc0 t b d b2 m.length d2)).heap[w.heap.size]? = some (sc0 s a c a2 l.length c2) ∧ ((w.alloc (sc0 s a c a2 l.length c2)).alloc (sc0 t b d b2 m.length d2)).heap[w.heap.size + 1]? = some (sc0 t b d b2 m.length d2)) := by
      refine ⟨?_, ?_⟩
      · exact old_block ((Below.refl _ (w.alloc (sc0 s a c a2 l.length c2))).alloc (Nat.le_refl _) _) (heap_alloc_new w _)
      · have := heap_alloc_new (w.alloc (sc0 s a c a2 l.length c2)) (sc0 t b d b2 m.length d2)
        rw [show (w.alloc (sc0 s a c a2 l.length c2)).heap.size = w.heap.size + 1 by simp] at this
        exact this
    unfold sc0 at HX HY HK HV
    generalize (w.alloc (.cells #[.int .i64 s.knd, .int .i64 s.src, .int .u32 (s.ses : Nat), .int .u32 (s.ser : Nat), .int .u32 (s.cks : Nat), .int .i64 s.off, .int .i64 s.tot, .int .i64 s.low, .int .i64 s.upp, .int .i64 s.rea, .bool s.chk, .slice a s.dat.length c, .slice a2 l.length c2] 28)).alloc (.cells #[.int .i64 t.knd, .int .i64 t.src, .int .u32 (t.ses : Nat), .int .u32 (t.ser : Nat), .int .u32 (t.cks : Nat), .int .i64 t.off, .int .i64 t.tot, .int .i64 t.low, .int .i64 t.upp, .int .i64 t.rea, .bool t.chk, .slice b t.dat.length d, .slice b2 m.length d2] 28) = W0 at HX HY HK HV ⊢
    go_loopw [16] (fun i wr => ∃ k q : Nat, k ≤ l.length ∧ i = .int .i64 k ∧ wr = W0.drewN q ∧ Hid (decide (l = m) = decide (l.drop k = m.drop k))) (fun i _ => l.length - (intOf i).toNat)
    case atStart => exact ⟨0, 0, by omega, rfl, rfl, rfl⟩
    case round =>
      obtain ⟨k, q, hk, rfl, rfl, HQ⟩ := hrel
      by_cases hlt : k < l.length
      · have hlt2 : k < m.length := by have := HL.out; omega
        obtain ⟨b1, o1, rfl, hc1⟩ := HX.out.1.2 (by omega)
        obtain ⟨b3, o3, rfl, hc2⟩ := HX.out.2.2 (by omega)
        obtain ⟨p1, p2⟩ := hc1 k hlt
        obtain ⟨p3, p4⟩ := hc2 k hlt2
        have HN : Hid (decide (l.drop k = m.drop k) = (decide (l[k] = m[k]) && decide (l.drop (k + 1) = m.drop (k + 1)))) := by
          show _ = _
          rw [Bool.eq_iff_iff]
          simp only [decide_eq_true_eq, Bool.and_eq_true]
          exact drop_eq hlt hlt2
        have HP : Hid (decide (l[k] = m[k]) = (decide (l[k].1 = m[k].1) && decide (l[k].2 = m[k].2))) := by
          show _ = _
          rw [Bool.eq_iff_iff]
          simp only [decide_eq_true_eq, Bool.and_eq_true]
          exact ⟨fun e => by rw [e]; exact ⟨rfl, rfl⟩, fun e => Prod.ext e.1 e.2⟩
        clear hc1 hc2
        generalize l[k].1 = x1 at p1 HP
        generalize l[k].2 = x2 at p2 HP
        generalize m[k].1 = y1 at p3 HP
        generalize m[k].2 = y2 at p4 HP
        have hi1 : (k : Int) < (l.length : Int) := by omega
        have hi2 : (k : Int) < (m.length : Int) := by omega
        have he := fun W => neqC W x1 x2 y1 y2
        rw [← HP.out] at he
        have k1 : W0.cell? ⟨w.heap.size, 12, none⟩ = some (.slice (some ⟨b1, o1, none⟩) l.length c2) := cell_of HK.out.1 12
        have k2 : W0.cell? ⟨w.heap.size + 1, 12, none⟩ = some (.slice (some ⟨b3, o3, none⟩) m.length d2) := cell_of HK.out.2 12
        generalize decide (l[k] = m[k]) = B at he HN
        go_wp2
        go_quiet (fail)
        cases B with
        | false =>
          go_wp2
          go_ret
          refine ⟨ret_bool ?_, below_drewN (below_drewN HY.out _) _⟩
          rw [HE.out, HQ.out, HN.out]; rfl
        | true =>
          go_wp2
          go_roundw
          case rel => exact ⟨k + 1, q + nq, by omega, by go_num, rfl, by show _ = _; rw [HQ.out, HN.out]; rfl⟩
          case measure => simp [intOf]; omega
      · obtain rfl : k = l.length := by omega
        have HF : Hid (decide (l = m) = true) := by
          show _ = _
          rw [HQ.out, List.drop_of_length_le (Nat.le_refl _), List.drop_of_length_le (by rw [HL.out]; exact Nat.le_refl _)]
          rfl
        obtain ⟨e0, e1, e2, e3, e4, e5, e6, e7, e8, e9, e10, e11, e12⟩ := scells0 HK.out.1
        obtain ⟨f0, f1, f2, f3, f4, f5, f6, f7, f8, f9, f10, f11, f12⟩ := scells0 HK.out.2
        obtain ⟨v1, v2, v3⟩ := HV.out
        have v1 := v1 q
        have v2 := v2 q
        have HV3 : Hid _ := v3
        clear HV HK HX HR HS HD v3 HQ hlt hk HB
        go_wp2
        all_goals
          go_ret
          refine ⟨ret_bool ?_, below_drewN HY.out _⟩
          rw [HE.out, HF.out]
          have hv3 := HV3.out
          clear HE HF HV3 HY e0 e1 e2 e3 e4 e5 e6 e7 e8 e9 e10 e11 e12 f0 f1 f2 f3 f4 f5 f6 f7 f8 f9 f10 f11 f12 v1 v2
          simp_all
  · have HF : Hid (decide (l = m) = false) := decide_eq_false (fun e => hlen (by rw [e]))
    go_enter Try.func35, Try.ntmps35
    go_wp2
    go_ret
    exact ⟨ret_bool (by rw [HE.out, HF.out]; rfl), HB.out _ _⟩
end Go.Proofs.Ytlhgjhbbiohcnaa
