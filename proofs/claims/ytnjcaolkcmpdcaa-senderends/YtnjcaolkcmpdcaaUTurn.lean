/- A turn of the sender, as data; asks, wait, next. -/
import Derived.Test.YtnjcaolkcmpdcaaUChk
namespace Go.Proofs.Ytnjcaolkcmpdcaa
open Go.RowKit
set_option linter.unusedVariables false
/-- a turn: a session and what is sent. -/
abbrev tcells (s : Sn) (p : Pt) (v : Value) : List Value := [.int .i64 s.bgn.src, .int .u32 (s.bgn.ses : Nat), .slice p.ab s.bgn.blk.length p.cb, .int .i64 s.bgn.wai, .int .i64 s.bgn.tri, .int .i64 s.sta, .slice p.ag s.got.length p.cg, .int .i64 s.lst.knd, .int .i64 s.lst.src, .int .u32 (s.lst.ses : Nat), .int .u32 (s.lst.ser : Nat), .int .u32 (s.lst.cks : Nat), .int .i64 s.lst.off, .int .i64 s.lst.tot, .int .i64 s.lst.low, .int .i64 s.lst.upp, .int .i64 s.lst.rea, .bool s.lst.chk, .slice p.ad s.lst.dat.length p.cd, .slice p.ac s.lst.cls.length p.cc, .int .i64 s.due, .int .i64 s.ask, .slice p.an s.sen.length p.cn, .int .i64 s.rea, v]
abbrev tnc (s : Sn) (p : Pt) (v : Value) : Obj := .cells #[.int .i64 s.bgn.src, .int .u32 (s.bgn.ses : Nat), .slice p.ab s.bgn.blk.length p.cb, .int .i64 s.bgn.wai, .int .i64 s.bgn.tri, .int .i64 s.sta, .slice p.ag s.got.length p.cg, .int .i64 s.lst.knd, .int .i64 s.lst.src, .int .u32 (s.lst.ses : Nat), .int .u32 (s.lst.ser : Nat), .int .u32 (s.lst.cks : Nat), .int .i64 s.lst.off, .int .i64 s.lst.tot, .int .i64 s.lst.low, .int .i64 s.lst.upp, .int .i64 s.lst.rea, .bool s.lst.chk, .slice p.ad s.lst.dat.length p.cd, .slice p.ac s.lst.cls.length p.cc, .int .i64 s.due, .int .i64 s.ask, .slice p.an s.sen.length p.cn, .int .i64 s.rea, v] 75
theorem tcells_get {W : World} {b : Nat} {s : Sn} {p : Pt} {v : Value} (h : W.heap[b]? = some (tnc s p v)) :
    W.cell? ⟨b, 0, none⟩ = some (.int .i64 s.bgn.src) ∧ W.cell? ⟨b, 1, none⟩ = some (.int .u32 (s.bgn.ses : Nat)) ∧ W.cell? ⟨b, 2, none⟩ = some (.slice p.ab s.bgn.blk.length p.cb) ∧ W.cell? ⟨b, 3, none⟩ = some (.int .i64 s.bgn.wai) ∧ W.cell? ⟨b, 4, none⟩ = some (.int .i64 s.bgn.tri) ∧ W.cell? ⟨b, 5, none⟩ = some (.int .i64 s.sta) ∧ W.cell? ⟨b, 6, none⟩ = some (.slice p.ag s.got.length p.cg) ∧ W.cell? ⟨b, 7, none⟩ = some (.int .i64 s.lst.knd) ∧ W.cell? ⟨b, 8, none⟩ = some (.int .i64 s.lst.src) ∧ W.cell? ⟨b, 9, none⟩ = some (.int .u32 (s.lst.ses : Nat)) ∧ W.cell? ⟨b, 10, none⟩ = some (.int .u32 (s.lst.ser : Nat)) ∧ W.cell? ⟨b, 11, none⟩ = some (.int .u32 (s.lst.cks : Nat)) ∧ W.cell? ⟨b, 12, none⟩ = some (.int .i64 s.lst.off) ∧ W.cell? ⟨b, 13, none⟩ = some (.int .i64 s.lst.tot) ∧ W.cell? ⟨b, 14, none⟩ = some (.int .i64 s.lst.low) ∧ W.cell? ⟨b, 15, none⟩ = some (.int .i64 s.lst.upp) ∧ W.cell? ⟨b, 16, none⟩ = some (.int .i64 s.lst.rea) ∧ W.cell? ⟨b, 17, none⟩ = some (.bool s.lst.chk) ∧ W.cell? ⟨b, 18, none⟩ = some (.slice p.ad s.lst.dat.length p.cd) ∧ W.cell? ⟨b, 19, none⟩ = some (.slice p.ac s.lst.cls.length p.cc) ∧ W.cell? ⟨b, 20, none⟩ = some (.int .i64 s.due) ∧ W.cell? ⟨b, 21, none⟩ = some (.int .i64 s.ask) ∧ W.cell? ⟨b, 22, none⟩ = some (.slice p.an s.sen.length p.cn) ∧ W.cell? ⟨b, 23, none⟩ = some (.int .i64 s.rea) ∧ W.cell? ⟨b, 24, none⟩ = some v := by
  refine ⟨?_, ?_, ?_, ?_, ?_, ?_, ?_, ?_, ?_, ?_, ?_, ?_, ?_, ?_, ?_, ?_, ?_, ?_, ?_, ?_, ?_, ?_, ?_, ?_, ?_⟩
  all_goals (rw [cell_of h]; rfl)
/-- does it wait for an answer? -/
def asksU (s : Sn) : Bool := decide (s.sta = 1) || decide (s.sta = 3)
theorem asks_any (s : Sn) (p : Pt) (v : Value) (b : Nat) (w : World) (h : w.heap[b]? = some (tnc s p v)) : Calls Try.prog 50 #[.pointer (some ⟨b, 0, none⟩)] w fun e w' => e = .returned (.bool (asksU s)) ∧ w = w' := by
  have e5 := (tcells_get h).2.2.2.2.2.1
  have HE : Hid (asksU s = (decide (s.sta = 1) || decide (s.sta = 3))) := rfl
  generalize asksU s = R at HE ⊢
  clear h
  go_enter Try.func50, Try.ntmps50
  by_cases h1 : s.sta = 1
  · rw [h1] at e5
    go_wp2
    go_ret
    exact ⟨ret_bool (by rw [HE.out, decide_eq_true h1]; rfl), rfl⟩
  · have hb : (s.sta == 1) = false := by simpa using h1
    go_wp2
    all_goals
      go_ret
      refine ⟨ret_bool ?_, rfl⟩
      rw [HE.out]
      simp_all
      try exact Bool.beq_eq_decide_eq _ _
theorem next_any (n : Nat) (hn : n < 4294967296) (w : World) : Calls Try.prog 77 #[.int .u32 (n : Nat)] w fun e w' => e = .returned (.int .u32 ((if n = 4294967295 then 1 else n + 1 : Nat) : Nat)) ∧ w = w' := by
  by_cases h : n = 4294967295
  · subst h
    go_enter Try.func77, Try.ntmps77
    go_wp2
    go_ret
    exact ⟨rfl, rfl⟩
  · have hb : ((n : Int) == 4294967295) = false := by simp; omega
    rw [if_neg h]
    go_enter Try.func77, Try.ntmps77
    go_wp2
    go_ret
    exact ⟨congrArg (fun x => Ending.returned (.int .u32 x)) (by push_cast; rfl), rfl⟩
theorem wait_any (s : Sn) (p : Pt) (v : Value) (b : Nat) (now : Int) (w : World) (h : w.heap[b]? = some (tnc s p v)) (h1 : 0 ≤ now ∧ now ≤ 1048576) (h2 : 1 ≤ s.bgn.wai ∧ s.bgn.wai ≤ 4096) : Calls Try.prog 69 #[.pointer (some ⟨b, 0, none⟩), .int .i64 now] w fun e w' => e = .returned (.tuple #[]) ∧ w' = (w.setCell ⟨b, 20, none⟩ (.int .i64 (now + s.bgn.wai))).setCell ⟨b, 21, none⟩ (.int .i64 0) := by
  obtain ⟨_, _, _, e3, _, _, _, _, _, _, _, _, _, _, _, _, _, _, _, _, e20, e21, _, _, _⟩ := tcells_get h
  have ff := frozen_of h
  clear h
  go_enter Try.func69, Try.ntmps69
  go_wp2
  go_end0
  exact ⟨rfl, rfl⟩
end Go.Proofs.Ytnjcaolkcmpdcaa
