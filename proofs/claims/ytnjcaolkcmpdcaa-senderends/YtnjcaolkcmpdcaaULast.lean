/- sender.rightLast. -/
import Derived.Test.YtnjcaolkcmpdcaaUCheck
namespace Go.Proofs.Ytnjcaolkcmpdcaa
open Go.RowKit
set_option linter.unusedVariables false
attribute [local go_sem] jump_ret jump_normal jump_exit jump_panic jump_goto
/-- is Last a checkpoint of this block? -/
def lastU (s : Sn) : Bool := okS s.lst && (decide (s.lst.knd = 1) && (s.lst.chk && (decide (s.lst.src = s.bgn.src) && (decide ((s.lst.ses : Int) = (s.bgn.ses : Int)) && (decide (s.lst.tot = (s.bgn.blk.length : Int)) && decide (s.lst.dat = (s.bgn.blk.drop s.lst.off.toNat).take s.lst.dat.length))))))
theorem row_at' {w : World} {a : Option Addr} {l : List Nat} (h : Row w a l) (k : Nat) (hk : k < l.length) : ∃ b off, a = some ⟨b, off, none⟩ ∧ w.cell? ⟨b, off + k, none⟩ = some (.int .u8 (l[k] : Nat)) ∧ l[k] < 256 := by
  obtain ⟨b, off, rfl, hc⟩ := h.2.2 (by omega)
  refine ⟨b, off, rfl, ?_, h.1 _ (List.getElem_mem hk)⟩
  rw [hc k hk, List.getD_eq_getElem?_getD, List.getElem?_eq_getElem hk]
  rfl
theorem take_of {D B : List Nat} {O : Nat} (h : ∀ j, j < D.length → D[j]? = B[O + j]?) : D = (B.drop O).take D.length := by
  apply List.ext_getElem?
  intro j
  rw [List.getElem?_take, List.getElem?_drop]
  by_cases hj : j < D.length
  · rw [if_pos hj, h j hj]
  · rw [if_neg hj, List.getElem?_eq_none (by omega)]
theorem take_not {D B : List Nat} {O k : Nat} (hk : k < D.length) (hne : D[k]? ≠ B[O + k]?) : ¬ D = (B.drop O).take D.length := by
  intro e
  apply hne
  have := congrArg (fun l => l[k]?) e
  simp only [List.getElem?_take, List.getElem?_drop, if_pos hk] at this
  exact this
set_option maxRecDepth 20000 in
set_option maxHeartbeats 4000000 in
theorem last_any (s : Sn) (p : Pt) (w : World) (hc : CameS w s p) : Calls Try.prog 43 #[snv s p] w fun e w' => e = .returned (.bool (lastU s)) ∧ Hid (Below w.heap.size w w') := by
  have HE : Hid (lastU s = (okS s.lst && (decide (s.lst.knd = 1) && (s.lst.chk && (decide (s.lst.src = s.bgn.src) && (decide ((s.lst.ses : Int) = (s.bgn.ses : Int)) && (decide (s.lst.tot = (s.bgn.blk.length : Int)) && decide (s.lst.dat = (s.bgn.blk.drop s.lst.off.toNat).take s.lst.dat.length)))))))) := rfl
  have HB : Hid (Below w.heap.size w ((w.alloc (snc s p)).alloc (sc s.lst p.ad p.cd p.ac p.cc))) := ((Below.refl _ w).alloc (Nat.le_refl _) _).alloc (by simp) _
  have HC : Hid (Calls Try.prog 46 #[sv s.lst p.ad p.cd p.ac p.cc] ((w.alloc (snc s p)).alloc (sc s.lst p.ad p.cd p.ac p.cc)) fun e w' => e = .returned (.int .i64 (chkS s.lst)) ∧ Hid (Below ((w.alloc (snc s p)).alloc (sc s.lst p.ad p.cd p.ac p.cc)).heap.size ((w.alloc (snc s p)).alloc (sc s.lst p.ad p.cd p.ac p.cc)) w')) := check_any s.lst p.ad p.cd p.ac p.cc _ (hc.lst.later HB.out)
  have HK : Hid (((w.alloc (snc s p)).alloc (sc s.lst p.ad p.cd p.ac p.cc)).heap[w.heap.size]? = some (snc s p) ∧ ((w.alloc (snc s p)).alloc (sc s.lst p.ad p.cd p.ac p.cc)).heap[w.heap.size + 1]? = some (sc s.lst p.ad p.cd p.ac p.cc)) := by
    refine ⟨?_, ?_⟩
    · exact old_block ((Below.refl _ (w.alloc (snc s p))).alloc (Nat.le_refl _) _) (heap_alloc_new w _)
    · have := heap_alloc_new (w.alloc (snc s p)) (sc s.lst p.ad p.cd p.ac p.cc)
      rw [show (w.alloc (snc s p)).heap.size = w.heap.size + 1 by simp] at this
      exact this
  have HN : Hid (CameS w s p) := hc
  generalize lastU s = R at HE ⊢
  clear hc
  cases hok : okS s.lst with
  | false =>
    rw [hok] at HE
    rw [chk_no hok] at HC
    go_enter Try.func43, Try.ntmps43
    go_wp2
    refine wp_scope_once 0 rfl ?_
    go_wp2_with (go_at_call 46; refine HC.out.mono ?_; rintro e w1 ⟨rfl, hb1⟩)
    go_step3
    show _ ∧ Code.wp _ _ _ _ _
    refine ⟨rfl, ?_⟩
    go_wp2
    rw [jump_ret]
    go_ret
    exact ⟨ret_bool (by rw [HE.out]; rfl), below_of HB.out hb1.out⟩
  | true =>
    rw [hok] at HE
    rw [chk_ok hok] at HC
    have HOK : Hid (okS s.lst = true) := hok
    clear hok
    go_enter Try.func43, Try.ntmps43
    go_wp2
    refine wp_scope_once 0 rfl ?_
    go_wp2_with (go_at_call 46; refine HC.out.mono ?_; rintro e w1 ⟨rfl, hb1⟩; obtain ⟨e0, e1, e2, e3, e4, e5, e6, e7, e8, e9, e10, e11, e12⟩ := scells (old_block hb1.out HK.out.2); obtain ⟨f0, f1, f2, f3, f4, f5, f6, f7, f8, f9, f10, f11, f12, f13, f14, f15, f16, f17, f18, f19, f20, f21, f22, f23⟩ := ncells (old_block hb1.out HK.out.1))
    all_goals first
      | (go_step3
         show _ ∧ Code.wp _ _ _ _ _
         refine ⟨rfl, ?_⟩
         go_wp2
         rw [jump_ret]
         go_ret
         refine ⟨ret_bool ?_, below_of HB.out hb1.out⟩
         rw [HE.out]
         clear e0 e1 e2 e3 e4 e5 e6 e7 e8 e9 e10 e11 e12 f0 f1 f2 f3 f4 f5 f6 f7 f8 f9 f10 f11 f12 f13 f14 f15 f16 f17 f18 f19 f20 f21 f22 f23 HE HB HC HK HN hb1
         simp_all)
      | skip
    rename_i g1 g2 g3 g4 g5 K hK
    have HT : Hid (s.lst.tot = (s.bgn.blk.length : Int)) := by show _ = _; simpa using g5
    obtain ⟨O, hO, hOb⟩ : ∃ O : Nat, s.lst.off = (O : Int) ∧ O + s.lst.dat.length ≤ s.bgn.blk.length := by
      obtain ⟨_, _, hf, _⟩ := okS_parts HOK.out
      rcases kinds hf with ⟨_, hd⟩ | ⟨h, _⟩ | ⟨h, _⟩ | ⟨h, _⟩ | h
      · obtain ⟨_, _, h3, _⟩ := dataS_of hd
        have := HT.out
        exact ⟨s.lst.off.toNat, by omega, by omega⟩
      all_goals omega
    have HRD : Hid (Row w1 p.ad s.lst.dat) := (HN.out.lst.later (below_of HB.out hb1.out)).row
    have HRB : Hid (Row w1 p.ab s.bgn.blk) := HN.out.blk.later (below_of HB.out hb1.out)
    have HW1 : Hid (Below w.heap.size w w1) := below_of HB.out hb1.out
    have HE2 : Hid (R = decide (s.lst.dat = (s.bgn.blk.drop O).take s.lst.dat.length)) := by
      show _ = _
      rw [HE.out, decide_eq_true g1, g2, decide_eq_true g3, decide_eq_true g4, decide_eq_true HT.out, hO]
      simp
    have hzb : s.bgn.blk.length ≤ 140737488351232 := HN.out.zb
    rw [hO] at e5
    clear HE HB HC HK HN hb1 HOK f3 f4 f5 f6 f7 f8 f9 f10 f11 f12 f13 f14 f15 f16 f17 f18 f19 f20 f21 f22 f23
    generalize s.lst.dat = D at *
    generalize s.bgn.blk = B at *
    generalize p.ad = ad at *
    generalize p.ab = ab at *
    go_loopw [49] (fun i wr => ∃ (k : Nat), k ≤ D.length ∧ i = .int .i64 k ∧ wr = w1 ∧ Hid (∀ j, j < k → D[j]? = B[O + j]?)) (fun i _ => D.length - (intOf i).toNat)
    case atStart => exact ⟨0, by omega, rfl, rfl, fun j hj => absurd hj (by omega)⟩
    case round =>
      obtain ⟨k, hk, rfl, rfl, HC⟩ := hrel
      by_cases hlt : k < D.length
      · obtain ⟨b, off, rfl, hc, hx⟩ := row_at' HRD.out k hlt
        obtain ⟨b', off', rfl, hc', hx'⟩ := row_at' HRB.out (O + k) (by omega)
        have HD1 : Hid (D[k]? = some D[k]) := List.getElem?_eq_getElem hlt
        have HD2 : Hid (B[O + k]? = some B[O + k]) := List.getElem?_eq_getElem (by omega)
        generalize D[k] = x at hc hx HD1
        generalize B[O + k] = y at hc' hx' HD2
        by_cases hxy : x = y
        · subst hxy
          go_wp2
          go_roundw
          case rel => exact ⟨k + 1, by omega, by go_num, by trivial, fun j hj => by
            rcases Nat.lt_or_eq_of_le (Nat.lt_succ_iff.1 hj) with h | rfl
            · exact HC.out j h
            · rw [HD1.out, HD2.out]⟩
          case measure => simp [intOf]; omega
        · have hn : ((y : Int) != (x : Int)) = true := by simp; omega
          go_wp2
          go_step3
          show _ ∧ Code.wp _ _ _ _ _
          refine ⟨rfl, ?_⟩
          go_wp2
          rw [jump_ret]
          go_ret
          exact ⟨ret_bool (by rw [HE2.out, decide_eq_false (take_not hlt (by rw [HD1.out, HD2.out]; simpa using hxy))]), HW1.out⟩
      · obtain rfl : k = D.length := by omega
        go_wp2
        rw [jump_ret]
        go_ret
        exact ⟨ret_bool (by rw [HE2.out, decide_eq_true (take_of HC.out)]), HW1.out⟩
end Go.Proofs.Ytnjcaolkcmpdcaa
