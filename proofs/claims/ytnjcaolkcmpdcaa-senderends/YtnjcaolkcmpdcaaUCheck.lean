/- sender.rightRows, rightSeen, rightLast, Check. -/
import Derived.Test.YtnjcaolkcmpdcaaUMem
import Derived.Test.YtnjcaolkcmpdcaaH32
import Derived.ScopeJumps
namespace Go.Proofs.Ytnjcaolkcmpdcaa
open Go.RowKit
set_option linter.unusedVariables false
/-- what came in: a session, how it lies. -/
structure CameS (w : World) (s : Sn) (p : Pt) : Prop where
  blk : Row w p.ab s.bgn.blk
  got : RowC w p.ag s.got
  lst : Came w s.lst p.ad p.cd p.ac p.cc
  sen : Row32 w p.an s.sen
  lb : s.bgn.blk.length ≤ p.cb ∧ p.cb ≤ maxLen
  lg : s.got.length ≤ p.cg ∧ p.cg ≤ maxLen
  ln : s.sen.length ≤ p.cn ∧ p.cn ≤ maxLen
  zb : s.bgn.blk.length ≤ 140737488351232
  zg : s.got.length ≤ 140737488351232
  zn : s.sen.length ≤ 140737488351232
  gin : ∀ c ∈ s.got, in64 c.1 ∧ in64 c.2
  src : in64 s.bgn.src
  ses : s.bgn.ses < 4294967296
  wai : in64 s.bgn.wai
  tri : in64 s.bgn.tri
  sta : in64 s.sta
  due : in64 s.due
  ask : in64 s.ask
  rea : in64 s.rea
theorem CameS.later {w w' : World} {s : Sn} {p : Pt} (h : CameS w s p) (hb : Below w.heap.size w w') : CameS w' s p :=
  { h with blk := h.blk.later hb, got := h.got.later hb, lst := h.lst.later hb, sen := h.sen.later hb }
theorem ncells {W : World} {b : Nat} {s : Sn} {p : Pt} (h : W.heap[b]? = some (snc s p)) :
    W.cell? ⟨b, 0, none⟩ = some (.int .i64 s.bgn.src) ∧ W.cell? ⟨b, 1, none⟩ = some (.int .u32 (s.bgn.ses : Nat)) ∧ W.cell? ⟨b, 2, none⟩ = some (.slice p.ab s.bgn.blk.length p.cb) ∧ W.cell? ⟨b, 3, none⟩ = some (.int .i64 s.bgn.wai) ∧ W.cell? ⟨b, 4, none⟩ = some (.int .i64 s.bgn.tri) ∧ W.cell? ⟨b, 5, none⟩ = some (.int .i64 s.sta) ∧ W.cell? ⟨b, 6, none⟩ = some (.slice p.ag s.got.length p.cg) ∧
    W.cell? ⟨b, 7, none⟩ = some (.int .i64 s.lst.knd) ∧ W.cell? ⟨b, 8, none⟩ = some (.int .i64 s.lst.src) ∧ W.cell? ⟨b, 9, none⟩ = some (.int .u32 (s.lst.ses : Nat)) ∧ W.cell? ⟨b, 10, none⟩ = some (.int .u32 (s.lst.ser : Nat)) ∧ W.cell? ⟨b, 11, none⟩ = some (.int .u32 (s.lst.cks : Nat)) ∧ W.cell? ⟨b, 12, none⟩ = some (.int .i64 s.lst.off) ∧ W.cell? ⟨b, 13, none⟩ = some (.int .i64 s.lst.tot) ∧ W.cell? ⟨b, 14, none⟩ = some (.int .i64 s.lst.low) ∧ W.cell? ⟨b, 15, none⟩ = some (.int .i64 s.lst.upp) ∧ W.cell? ⟨b, 16, none⟩ = some (.int .i64 s.lst.rea) ∧ W.cell? ⟨b, 17, none⟩ = some (.bool s.lst.chk) ∧ W.cell? ⟨b, 18, none⟩ = some (.slice p.ad s.lst.dat.length p.cd) ∧ W.cell? ⟨b, 19, none⟩ = some (.slice p.ac s.lst.cls.length p.cc) ∧
    W.cell? ⟨b, 20, none⟩ = some (.int .i64 s.due) ∧ W.cell? ⟨b, 21, none⟩ = some (.int .i64 s.ask) ∧ W.cell? ⟨b, 22, none⟩ = some (.slice p.an s.sen.length p.cn) ∧ W.cell? ⟨b, 23, none⟩ = some (.int .i64 s.rea) := by
  refine ⟨?_, ?_, ?_, ?_, ?_, ?_, ?_, ?_, ?_, ?_, ?_, ?_, ?_, ?_, ?_, ?_, ?_, ?_, ?_, ?_, ?_, ?_, ?_, ?_⟩
  all_goals (rw [cell_of h]; rfl)
set_option maxRecDepth 20000 in
set_option maxHeartbeats 1000000 in
theorem rows_any (s : Sn) (p : Pt) (w : World) (hz : s.got.length ≤ 140737488351232) (hzb : s.bgn.blk.length ≤ 140737488351232) (hr : RowC w p.ag s.got) (hm : ∀ c ∈ s.got, in64 c.1 ∧ in64 c.2) : Calls Try.prog 42 #[snv s p] w fun e w' => e = .returned (.bool (clsOk s.bgn.blk.length 0 s.got)) ∧ Hid (Below w.heap.size w w') := by
  have HR : Hid (RowC w p.ag s.got) := hr
  have HM : Hid (∀ c ∈ s.got, in64 c.1 ∧ in64 c.2) := hm
  clear hr hm
  go_enter Try.func42, Try.ntmps42
  have HX : Hid (Below (w.heap.size + 1) (w.alloc (snc s p)) (w.alloc (snc s p))) := Below.refl _ _
  have HP : Hid ((w.alloc (snc s p)).heap[w.heap.size]? = some (snc s p)) := heap_alloc_new w _
  have HB : Hid (Below w.heap.size w (w.alloc (snc s p))) := (Below.refl _ w).alloc (Nat.le_refl _) _
  go_wp2
  have HZ0 : Hid ((w.alloc (snc s p)).heap.size = w.heap.size + 1) := by show _ = _; simp
  generalize w.alloc (snc s p) = W0 at HX HP HB HZ0 ⊢
  generalize p.ag = ag at HR ⊢
  go_loopw [3, 9] (fun u i wr => ∃ (k : Nat) (least : Int), k ≤ s.got.length ∧ i = .int .i64 k ∧ u = .int .i64 least ∧ 0 ≤ least ∧ least ≤ 140737488351233 ∧ Hid (clsOk s.bgn.blk.length 0 s.got = clsOk s.bgn.blk.length least (s.got.drop k)) ∧ Hid (Below (w.heap.size + 1) W0 wr)) (fun _ i _ => s.got.length - (intOf i).toNat)
  case atStart => exact ⟨0, 0, by omega, rfl, rfl, by omega, by omega, rfl, HX.out⟩
  case round =>
    obtain ⟨k, least, hk, rfl, rfl, hl0, hl1, HC, HW⟩ := hrel
    have HWB : Hid (Below w.heap.size w wr) := below_of HB.out (HW.out.mono (by rw [HZ0.out]; exact Nat.le_refl _))
    by_cases hlt : k < s.got.length
    · obtain ⟨b, off, rfl, hc⟩ := (HR.out.later HWB.out).2 (by omega)
      obtain ⟨hc1, hc2⟩ := hc k hlt
      obtain ⟨i1, i2⟩ := HM.out s.got[k] (List.getElem_mem hlt)
      have HD : Hid (clsOk s.bgn.blk.length least (s.got.drop k) = (!decide (s.got[k].1 < least) && (inB s.got[k].2 1 (s.bgn.blk.length - s.got[k].1) && clsOk s.bgn.blk.length (s.got[k].1 + s.got[k].2 + 1) (s.got.drop (k + 1))))) := by
        show _ = _
        rw [List.drop_eq_getElem_cons hlt, clsOk]
      have HU : ∀ A, (wr.alloc A).cell? ⟨w.heap.size, 2, none⟩ = some (.slice p.ab s.bgn.blk.length p.cb) := fun A => (ncells (W := wr.alloc A) (b := w.heap.size) (old_block ((Below.refl _ wr).alloc (Nat.le_refl _) A) (by rw [HW.out.block _ (by omega)]; exact HP.out))).2.2.1
      clear hc
      generalize s.got[k].1 = x at hc1 i1 HD
      generalize s.got[k].2 = y at hc2 i2 HD
      obtain ⟨i3, i4⟩ := i1
      obtain ⟨i5, i6⟩ := i2
      have HBW : Hid (∀ A, Below w.heap.size w (wr.alloc A)) := fun A => below_of HWB.out ((Below.refl _ wr).alloc (Nat.le_refl _) A)
      by_cases hx : x < least
      · go_wp2
        go_ret
        refine ⟨ret_bool ?_, HBW.out _⟩
        rw [HC.out, HD.out, decide_eq_true hx]
        rfl
      · have hx2 : least ≤ x := by omega
        cases hin : inB y 1 (s.bgn.blk.length - x) with
        | false =>
          go_wp2_with (go_at_call 35; refine (uwithin_any _ _ _ _).mono ?_; rintro e w' ⟨rfl, rfl⟩)
          go_ret
          refine ⟨ret_bool ?_, HBW.out _⟩
          rw [HC.out, HD.out, hin]
          simp
        | true =>
          obtain ⟨j1, j2⟩ := inB_of hin
          go_wp2_with (go_at_call 35; refine (uwithin_any _ _ _ _).mono ?_; rintro e w' ⟨rfl, rfl⟩)
          have hn1 : (x + y + 1) ≤ 140737488351233 := by omega
          have HFI : Hid (clsOk s.bgn.blk.length 0 s.got = clsOk s.bgn.blk.length (x + y + 1) (s.got.drop (k + 1))) := by show _ = _; rw [HC.out, HD.out, hin, decide_eq_false (show ¬ x < least by omega)]; simp
          have HFB : Hid (∀ A, Below (w.heap.size + 1) W0 (wr.alloc A)) := fun A => (HW.out).trans (((Below.refl _ wr).alloc (Nat.le_refl _) A).mono (by have := HW.out.size; have := HZ0.out; omega))
          go_roundw
          case rel => exact ⟨k + 1, x + y + 1, by omega, by go_num, by go_num, by omega, by omega, HFI.out, HFB.out _⟩
          case measure => simp [intOf]; omega
    · obtain rfl : k = s.got.length := by omega
      go_wp2
      go_ret
      refine ⟨ret_bool ?_, HWB.out⟩
      rw [HC.out, List.drop_of_length_le (Nat.le_refl _), clsOk]
/-- at most 32 numbers, none of them 0. -/
def seenU (s : Sn) : Bool := decide (s.sen.length ≤ 32) && s.sen.all fun x => decide (x ≠ 0)
set_option maxRecDepth 20000 in
set_option maxHeartbeats 1000000 in
theorem seen_any (s : Sn) (p : Pt) (w : World) (hz : s.sen.length ≤ 140737488351232) (hr : Row32 w p.an s.sen) : Calls Try.prog 44 #[snv s p] w fun e w' => e = .returned (.bool (seenU s)) ∧ Hid (Below w.heap.size w w') := by
  have HR : Hid (Row32 w p.an s.sen) := hr
  have HE : Hid (seenU s = (decide (s.sen.length ≤ 32) && s.sen.all fun x => decide (x ≠ 0))) := rfl
  generalize seenU s = R at HE ⊢
  clear hr
  have HB : Hid (Below w.heap.size w (w.alloc (snc s p))) := (Below.refl _ w).alloc (Nat.le_refl _) _
  by_cases h32 : 32 < s.sen.length
  · go_enter Try.func44, Try.ntmps44
    go_wp2
    go_ret
    exact ⟨ret_bool (by rw [HE.out, decide_eq_false (by omega)]; rfl), HB.out⟩
  · go_enter Try.func44, Try.ntmps44
    go_wp2
    have HRR : Hid (Row32 (w.alloc (snc s p)) p.an s.sen) := HR.out.later HB.out
    generalize w.alloc (snc s p) = W0 at HB HRR ⊢
    clear HR
    generalize p.an = an at HRR ⊢
    go_loopw [12] (fun i wr => ∃ (k : Nat), k ≤ s.sen.length ∧ i = .int .i64 k ∧ wr = W0 ∧ Hid ((s.sen.all fun x => decide (x ≠ 0)) = (s.sen.drop k).all fun x => decide (x ≠ 0))) (fun i _ => s.sen.length - (intOf i).toNat)
    case atStart => exact ⟨0, by omega, rfl, rfl, rfl⟩
    case round =>
      obtain ⟨k, hk, rfl, rfl, HC⟩ := hrel
      by_cases hlt : k < s.sen.length
      · obtain ⟨b, off, rfl, hc, hx⟩ := row32_at HRR.out k hlt
        have HD : Hid (((s.sen.drop k).all fun x => decide (x ≠ 0)) = (decide (s.sen[k] ≠ 0) && (s.sen.drop (k + 1)).all fun x => decide (x ≠ 0))) := by
          show _ = _
          rw [List.drop_eq_getElem_cons hlt, List.all_cons]
        generalize s.sen[k] = x at hc hx HD
        by_cases h0 : x = 0
        · subst h0
          go_wp2
          go_ret
          exact ⟨ret_bool (by rw [HE.out, HC.out, HD.out]; simp), HB.out⟩
        · have hn : ((x : Int) == 0) = false := by simp; omega
          go_wp2
          go_roundw
          case rel => exact ⟨k + 1, by omega, by go_num, by trivial, by show _ = _; rw [HC.out, HD.out]; simp [h0]⟩
          case measure => simp [intOf]; omega
      · obtain rfl : k = s.sen.length := by omega
        go_wp2
        go_ret
        refine ⟨ret_bool ?_, HB.out⟩
        rw [HE.out, HC.out, List.drop_of_length_le (Nat.le_refl _), decide_eq_true (by omega)]
        rfl
end Go.Proofs.Ytnjcaolkcmpdcaa
