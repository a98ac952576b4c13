/- What a session is at first, and while nobody answers: pure. -/
import Derived.Test.YtnjcaolkcmpdcaaUFin
namespace Go.Proofs.Ytnjcaolkcmpdcaa
open Go.RowKit
set_option linter.unusedVariables false
theorem inB_mk {x a b : Int} (h1 : a ≤ x) (h2 : x ≤ b) : inB x a b = true := by
  unfold inB
  rw [decide_eq_true h1, decide_eq_true h2]
  rfl
theorem last_pc {x : Bg} (h0 : 1 ≤ x.blk.length) {M : List SD} {X : SD} (hm : (M ++ [X]).map SD.s = (pcsOf (gpF [] x.blk.length)).map (segOf (firstU x))) : ∃ k n : Nat, X.s = segOf (firstU x) (k, n) ∧ 1 ≤ n ∧ n ≤ 100 ∧ k + n = x.blk.length := by
  rw [gp_none h0] at hm
  have e : pcsOf [(0, x.blk.length)] = pcF 0 x.blk.length := by unfold pcsOf; simp
  rw [e] at hm
  unfold pcF at hm
  rw [List.map_append, List.map_append] at hm
  have h := List.append_inj_right' hm (by simp)
  simp only [List.map_cons, List.map_nil, List.cons.injEq, and_true] at h
  exact ⟨_, _, h, by omega, by omega, by omega⟩
theorem first_ok {x : Bg} {now : Int} {s1 : Sn} (hok : okB x = true) (hn : 0 ≤ now ∧ now ≤ 1048576) {M : List SD} {X : SD} (hm : (M ++ [X]).map SD.s = (pcsOf (gpF [] x.blk.length)).map (segOf (firstU x))) (hs : s1 = { firstU x with lst := { X.s with chk := true, ser := 1 }, due := now + x.wai, ask := 0 }) : okU s1 = true := by
  have hk := hok
  unfold okB at hk
  simp only [Bool.and_eq_true, decide_eq_true_eq] at hk
  obtain ⟨h1, h2, h3, h4, h5⟩ := hk
  have k1 := inB_of h1
  have k3 := inB_of h3
  have k4 := inB_of h4
  have k5 := inB_of h5
  obtain ⟨k, n, hX, n1, n2, n3⟩ := last_pc (by omega) hm
  have hl : ((x.blk.drop k).take n).length = n := by simp; omega
  subst hs
  rw [hX]
  have e1 : numsU { firstU x with lst := { segOf (firstU x) (k, n) with chk := true, ser := 1 }, due := now + x.wai, ask := 0 } = true := by
    show (inB 1 1 4 && (inB (now + x.wai) 0 1114112 && (inB 0 0 x.tri && inB 0 0 255))) = true
    rw [inB_mk (by omega) (by omega), inB_mk (by omega) (by omega), inB_mk (by omega) (by omega), inB_mk (by omega) (by omega)]
    rfl
  have e2 : okS { segOf (firstU x) (k, n) with chk := true, ser := 1 } = true := by
    have a1 : sessS { segOf (firstU x) (k, n) with chk := true, ser := 1 } = true := by
      show (inB x.src 1 6 && decide (0 < x.ses)) = true
      rw [h1, decide_eq_true h2]
      rfl
    have a2 : fieldsS { segOf (firstU x) (k, n) with chk := true, ser := 1 } = true := by
      show dataS { segOf (firstU x) (k, n) with chk := true, ser := 1 } = true
      show (inB (x.blk.length : Int) 1 512 && (inB (((x.blk.drop k).take n).length : Int) 1 100 && (inB (k : Int) 0 ((x.blk.length : Int) - (((x.blk.drop k).take n).length : Int)) && (true == decide (0 < 1))))) = true
      rw [hl, inB_mk (by omega) (by omega), inB_mk (by omega) (by omega), inB_mk (by omega) (by omega)]
      rfl
    have a3 : sameS { segOf (firstU x) (k, n) with chk := true, ser := 1 } (cntS { segOf (firstU x) (k, n) with chk := true, ser := 1 }) = true := same_self _
    unfold okS
    rw [a1, a2, a3]
    rfl
  have e3 : lastU { firstU x with lst := { segOf (firstU x) (k, n) with chk := true, ser := 1 }, due := now + x.wai, ask := 0 } = true := by
    unfold lastU
    simp only
    rw [e2]
    simp [segOf, firstU, hl]
  unfold okU
  simp only
  rw [e1, e3]
  show (okB x && (true && (true && (true && true)))) = true
  rw [hok]
  rfl
theorem okU_set {s : Sn} (h : okU s = true) {sta due ask rea : Int} (h1 : 1 ≤ sta ∧ sta ≤ 4) (h2 : 0 ≤ due ∧ due ≤ 1114112) (h3 : 0 ≤ ask ∧ ask ≤ s.bgn.tri) (h4 : 0 ≤ rea ∧ rea ≤ 255) : okU { s with sta := sta, due := due, ask := ask, rea := rea } = true := by
  unfold okU at h ⊢
  simp only [Bool.and_eq_true] at h ⊢
  refine ⟨h.1, ?_, h.2.2⟩
  show (inB sta 1 4 && (inB due 0 1114112 && (inB ask 0 s.bgn.tri && inB rea 0 255))) = true
  rw [inB_mk h1.1 h1.2, inB_mk h2.1 h2.2, inB_mk h3.1 h3.2, inB_mk h4.1 h4.2]
  rfl
/-- a session behind so many ticks, when nobody answers. -/
def endS (s : Sn) (T W L : Int) (i : Nat) : Sn := if (i : Int) ≤ T then { s with ask := i, due := if i = 0 then W else ((i : Int) + 1) * W + L } else { s with sta := 3, rea := 1, ask := (i : Int) - T - 1, due := ((i : Int) + 1) * W + L }
end Go.Proofs.Ytnjcaolkcmpdcaa
