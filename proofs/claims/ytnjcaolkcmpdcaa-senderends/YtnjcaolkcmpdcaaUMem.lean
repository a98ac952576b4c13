/- A sender's session as data, and how it lies; sender.within, rightStart, rightNumbers. -/
import Derived.Test.YtnjcaolkcmpdcaaTCheck
namespace Go.Proofs.Ytnjcaolkcmpdcaa
open Go.RowKit
set_option linter.unusedVariables false
/-- What a session begins with. -/
structure Bg where
  src : Int
  ses : Nat
  blk : List Nat
  wai : Int
  tri : Int
/-- A session. -/
structure Sn where
  bgn : Bg
  sta : Int
  got : List (Int × Int)
  lst : Sg
  due : Int
  ask : Int
  sen : List Nat
  rea : Int
/-- where its rows lie, and their room. -/
structure Pt where
  ab : Option Addr
  cb : Nat
  ag : Option Addr
  cg : Nat
  ad : Option Addr
  cd : Nat
  ac : Option Addr
  cc : Nat
  an : Option Addr
  cn : Nat
abbrev bgv (x : Bg) (ab : Option Addr) (cb : Nat) : Value := .agg #[.int .i64 x.src, .int .u32 (x.ses : Nat), .slice ab x.blk.length cb, .int .i64 x.wai, .int .i64 x.tri]
abbrev bgc (x : Bg) (ab : Option Addr) (cb : Nat) : Obj := .cells #[.int .i64 x.src, .int .u32 (x.ses : Nat), .slice ab x.blk.length cb, .int .i64 x.wai, .int .i64 x.tri] 25
abbrev snv (s : Sn) (p : Pt) : Value := .agg #[.int .i64 s.bgn.src, .int .u32 (s.bgn.ses : Nat), .slice p.ab s.bgn.blk.length p.cb, .int .i64 s.bgn.wai, .int .i64 s.bgn.tri, .int .i64 s.sta, .slice p.ag s.got.length p.cg, .int .i64 s.lst.knd, .int .i64 s.lst.src, .int .u32 (s.lst.ses : Nat), .int .u32 (s.lst.ser : Nat), .int .u32 (s.lst.cks : Nat), .int .i64 s.lst.off, .int .i64 s.lst.tot, .int .i64 s.lst.low, .int .i64 s.lst.upp, .int .i64 s.lst.rea, .bool s.lst.chk, .slice p.ad s.lst.dat.length p.cd, .slice p.ac s.lst.cls.length p.cc, .int .i64 s.due, .int .i64 s.ask, .slice p.an s.sen.length p.cn, .int .i64 s.rea]
abbrev snc (s : Sn) (p : Pt) : Obj := .cells #[.int .i64 s.bgn.src, .int .u32 (s.bgn.ses : Nat), .slice p.ab s.bgn.blk.length p.cb, .int .i64 s.bgn.wai, .int .i64 s.bgn.tri, .int .i64 s.sta, .slice p.ag s.got.length p.cg, .int .i64 s.lst.knd, .int .i64 s.lst.src, .int .u32 (s.lst.ses : Nat), .int .u32 (s.lst.ser : Nat), .int .u32 (s.lst.cks : Nat), .int .i64 s.lst.off, .int .i64 s.lst.tot, .int .i64 s.lst.low, .int .i64 s.lst.upp, .int .i64 s.lst.rea, .bool s.lst.chk, .slice p.ad s.lst.dat.length p.cd, .slice p.ac s.lst.cls.length p.cc, .int .i64 s.due, .int .i64 s.ask, .slice p.an s.sen.length p.cn, .int .i64 s.rea] 32
/-- may it be? -/
def okB (x : Bg) : Bool := inB x.src 1 6 && (decide (0 < x.ses) && (inB x.blk.length 1 512 && (inB x.wai 1 4096 && inB x.tri 1 16)))
def numsU (s : Sn) : Bool := inB s.sta 1 4 && (inB s.due 0 1114112 && (inB s.ask 0 s.bgn.tri && inB s.rea 0 255))
theorem uwithin_any (x a b : Int) (w : World) : Calls Try.prog 35 #[.int .i64 x, .int .i64 a, .int .i64 b] w fun e w' => e = .returned (.bool (inB x a b)) ∧ w = w' := by
  have HE : Hid (inB x a b = (decide (a ≤ x) && decide (x ≤ b))) := rfl
  generalize inB x a b = R at HE ⊢
  go_enter Try.func35, Try.ntmps35
  go_wp2
  all_goals
    go_ret
    refine ⟨ret_bool ?_, rfl⟩
    rw [HE.out]
    simp_all
    try omega
set_option maxRecDepth 20000 in
set_option maxHeartbeats 1000000 in
theorem start_any (x : Bg) (ab : Option Addr) (cb : Nat) (w : World) : Calls Try.prog 34 #[bgv x ab cb] w fun e w' => e = .returned (.bool (okB x)) ∧ Hid (Below w.heap.size w w') := by
  have HE : Hid (okB x = (inB x.src 1 6 && (decide (0 < x.ses) && (inB x.blk.length 1 512 && (inB x.wai 1 4096 && inB x.tri 1 16))))) := rfl
  generalize okB x = R at HE ⊢
  go_enter Try.func34, Try.ntmps34
  go_wp2_with (go_at_call 35; refine (uwithin_any _ _ _ _).mono ?_; rintro e w' ⟨rfl, rfl⟩)
  all_goals
    go_ret
    refine ⟨ret_bool ?_, (Below.refl _ w).alloc (Nat.le_refl _) _⟩
    rw [HE.out]
    simp_all
set_option maxRecDepth 20000 in
set_option maxHeartbeats 1000000 in
theorem numbers_any (s : Sn) (p : Pt) (w : World) : Calls Try.prog 41 #[snv s p] w fun e w' => e = .returned (.bool (numsU s)) ∧ Hid (Below w.heap.size w w') := by
  have HE : Hid (numsU s = (inB s.sta 1 4 && (inB s.due 0 1114112 && (inB s.ask 0 s.bgn.tri && inB s.rea 0 255)))) := rfl
  generalize numsU s = R at HE ⊢
  go_enter Try.func41, Try.ntmps41
  go_wp2_with (go_at_call 35; refine (uwithin_any _ _ _ _).mono ?_; rintro e w' ⟨rfl, rfl⟩)
  all_goals
    go_ret
    refine ⟨ret_bool ?_, (Below.refl _ w).alloc (Nat.le_refl _) _⟩
    rw [HE.out]
    simp_all
end Go.Proofs.Ytnjcaolkcmpdcaa
