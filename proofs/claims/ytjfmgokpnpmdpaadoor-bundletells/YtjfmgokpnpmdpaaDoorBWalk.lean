/- bundle.within, rightWay, rightTime, rightPayload, Check. -/
import Derived.Test.YtjfmgokpnpmdpaaDoorBPure
namespace Go.Proofs.YtjfmgokpnpmdpaaDoor
open Go.RowKit
set_option linter.unusedVariables false

/-- a bundle by value, and in a block of its own. -/
abbrev bv (b : Bn) (a : Option Addr) (c : Nat) : Value := .agg #[.int .i64 b.src, .int .i64 b.dst, .int .u32 (b.seq : Nat), .int .i64 b.cre, .int .i64 b.lif, .int .i64 b.lim, .int .i64 b.hop, .int .i64 b.pri, .int .i64 b.off, .int .i64 b.tot, .slice a b.pay.length c]
abbrev bc (b : Bn) (a : Option Addr) (c : Nat) : Obj := .cells #[.int .i64 b.src, .int .i64 b.dst, .int .u32 (b.seq : Nat), .int .i64 b.cre, .int .i64 b.lif, .int .i64 b.lim, .int .i64 b.hop, .int .i64 b.pri, .int .i64 b.off, .int .i64 b.tot, .slice a b.pay.length c] 25
def in64 (x : Int) : Prop := -9223372036854775808 ≤ x ∧ x ≤ 9223372036854775807
/-- its numbers are of their kinds. -/
structure Bz (b : Bn) : Prop where
  src : in64 b.src
  dst : in64 b.dst
  seq : b.seq < 4294967296
  cre : in64 b.cre
  lif : in64 b.lif
  lim : in64 b.lim
  hop : in64 b.hop
  pri : in64 b.pri
  off : in64 b.off
  tot : in64 b.tot
  pay : b.pay.length ≤ 140737488351232

theorem inB_of {x a b : Int} (h : inB x a b = true) : a ≤ x ∧ x ≤ b := by simpa [inB] using h
theorem within_any (x a b : Int) (w : World) : Calls Tryd.prog 54 #[.int .i64 x, .int .i64 a, .int .i64 b] w fun e w' => e = .returned (.bool (inB x a b)) ∧ w = w' := by
  have HE : Hid (inB x a b = (decide (a ≤ x) && decide (x ≤ b))) := rfl
  generalize inB x a b = R at HE ⊢
  go_enter Tryd.func54, Tryd.ntmps54
  go_wp2
  all_goals
    go_ret
    refine ⟨ret_bool ?_, rfl⟩
    rw [HE.out]
    simp_all
    try omega
set_option maxRecDepth 20000 in
set_option maxHeartbeats 1000000 in
theorem way_any (b : Bn) (a : Option Addr) (c : Nat) (w : World) : Calls Tryd.prog 33 #[bv b a c] w fun e w' => e = .returned (.bool (wayB b)) ∧ Hid (Below w.heap.size w w') := by
  have HE : Hid (wayB b = (inB b.src 1 6 && (inB b.dst 1 6 && (decide (0 < b.seq) && (inB b.lim 1 16 && (inB b.hop 0 b.lim && inB b.pri 0 2)))))) := rfl
  generalize wayB b = R at HE ⊢
  go_enter Tryd.func33, Tryd.ntmps33
  go_wp2_with (go_at_call 54; refine (within_any _ _ _ _).mono ?_; rintro e w' ⟨rfl, rfl⟩)
  all_goals
    go_ret
    refine ⟨ret_bool ?_, (Below.refl _ w).alloc (Nat.le_refl _) _⟩
    rw [HE.out]
    simp_all
set_option maxRecDepth 20000 in
set_option maxHeartbeats 1000000 in
theorem time_any (b : Bn) (a : Option Addr) (c : Nat) (w : World) : Calls Tryd.prog 34 #[bv b a c] w fun e w' => e = .returned (.bool (timeB b)) ∧ Hid (Below w.heap.size w w') := by
  have HE : Hid (timeB b = (inB b.cre 0 1048576 && inB b.lif 1 1048576)) := rfl
  generalize timeB b = R at HE ⊢
  go_enter Tryd.func34, Tryd.ntmps34
  go_wp2_with (go_at_call 54; refine (within_any _ _ _ _).mono ?_; rintro e w' ⟨rfl, rfl⟩)
  all_goals
    go_ret
    refine ⟨ret_bool ?_, (Below.refl _ w).alloc (Nat.le_refl _) _⟩
    rw [HE.out]
    simp_all
set_option maxRecDepth 20000 in
set_option maxHeartbeats 1000000 in
theorem payl_any (b : Bn) (a : Option Addr) (c : Nat) (w : World) (hz : b.pay.length ≤ 140737488351232) : Calls Tryd.prog 35 #[bv b a c] w fun e w' => e = .returned (.bool (payB b)) ∧ Hid (Below w.heap.size w w') := by
  have HE : Hid (payB b = (inB b.tot 1 400 && (decide (0 < b.pay.length) && inB b.off 0 (b.tot - (b.pay.length : Int))))) := rfl
  generalize payB b = R at HE ⊢
  by_cases ht : inB b.tot 1 400 = true
  · obtain ⟨h1, h2⟩ := inB_of ht
    go_enter Tryd.func35, Tryd.ntmps35
    go_wp2_with (go_at_call 54; refine (within_any _ _ _ _).mono ?_; rintro e w' ⟨rfl, rfl⟩)
    all_goals
      go_ret
      refine ⟨ret_bool ?_, (Below.refl _ w).alloc (Nat.le_refl _) _⟩
      rw [HE.out]
      simp_all
  · have ht' : inB b.tot 1 400 = false := by simpa using ht
    clear ht
    go_enter Tryd.func35, Tryd.ntmps35
    go_wp2_with (go_at_call 54; refine (within_any _ _ _ _).mono ?_; rintro e w' ⟨rfl, rfl⟩)
    all_goals
      go_ret
      refine ⟨ret_bool ?_, (Below.refl _ w).alloc (Nat.le_refl _) _⟩
      rw [HE.out]
      simp_all
theorem bcells {W : World} {p : Nat} {b : Bn} {a : Option Addr} {c : Nat} (h : W.heap[p]? = some (bc b a c)) : W.cell? ⟨p, 0, none⟩ = some (.int .i64 b.src) ∧ W.cell? ⟨p, 1, none⟩ = some (.int .i64 b.dst) ∧ W.cell? ⟨p, 2, none⟩ = some (.int .u32 (b.seq : Nat)) ∧ W.cell? ⟨p, 3, none⟩ = some (.int .i64 b.cre) ∧ W.cell? ⟨p, 4, none⟩ = some (.int .i64 b.lif) ∧ W.cell? ⟨p, 5, none⟩ = some (.int .i64 b.lim) ∧ W.cell? ⟨p, 6, none⟩ = some (.int .i64 b.hop) ∧ W.cell? ⟨p, 7, none⟩ = some (.int .i64 b.pri) ∧ W.cell? ⟨p, 8, none⟩ = some (.int .i64 b.off) ∧ W.cell? ⟨p, 9, none⟩ = some (.int .i64 b.tot) ∧ W.cell? ⟨p, 10, none⟩ = some (.slice a b.pay.length c) := by
  refine ⟨?_, ?_, ?_, ?_, ?_, ?_, ?_, ?_, ?_, ?_, ?_⟩
  all_goals (rw [cell_of h]; rfl)
/-- what Check answers. -/
def chkI (b : Bn) : Int := if okB b = true then 0 else 190
set_option maxRecDepth 20000 in
set_option maxHeartbeats 1000000 in
theorem check9_any (b : Bn) (a : Option Addr) (c : Nat) (w : World) (hz : b.pay.length ≤ 140737488351232) : Calls Tryd.prog 13 #[bv b a c] w fun e w' => e = .returned (.int .i64 (chkI b)) ∧ Hid (Below w.heap.size w w') := by
  have HE : Hid (chkI b = if wayB b && (timeB b && payB b) then 0 else 190) := rfl
  have HB : Hid (∀ X : Obj, Below w.heap.size w (w.alloc X)) := fun X => (Below.refl _ w).alloc (Nat.le_refl _) X
  generalize chkI b = R at HE ⊢
  go_enter Tryd.func13, Tryd.ntmps13
  go_wp2_with (first
    | (go_at_call 33; refine (way_any b a c _).mono ?_; rintro e w1 ⟨rfl, hb1⟩; obtain ⟨e0, e1, e2, e3, e4, e5, e6, e7, e8, e9, e10⟩ := bcells (old_block hb1.out (heap_alloc_new w _)))
    | (go_at_call 34; refine (time_any b a c _).mono ?_; rintro e w2 ⟨rfl, hb2⟩; obtain ⟨f0, f1, f2, f3, f4, f5, f6, f7, f8, f9, f10⟩ := bcells (old_block (below_of hb1.out hb2.out) (heap_alloc_new w _)))
    | (go_at_call 35; refine (payl_any b a c _ hz).mono ?_; rintro e w3 ⟨rfl, hb3⟩))
  all_goals
    go_ret
    refine ⟨ret_int ?_, ?_⟩
    · rw [HE.out]
      simp_all
  all_goals first | exact below_of (below_of (below_of (HB.out _) hb1.out) hb2.out) hb3.out | exact below_of (below_of (HB.out _) hb1.out) hb2.out | exact below_of (HB.out _) hb1.out
theorem chk_ok {b : Bn} (h : okB b = true) : chkI b = 0 := if_pos h
theorem chk_no {b : Bn} (h : okB b = false) : chkI b = 190 := if_neg (by rw [h]; simp)
/-- has the bundle expired? -/
def expB (b : Bn) (now : Int) : Bool := okB b && decide (b.cre + b.lif ≤ now)
set_option maxRecDepth 20000 in
set_option maxHeartbeats 1000000 in
theorem expired_any (b : Bn) (a : Option Addr) (c : Nat) (now : Int) (w : World) (hz : b.pay.length ≤ 140737488351232) : Calls Tryd.prog 23 #[bv b a c, .int .i64 now] w fun e w' => e = .returned (.bool (expB b now)) ∧ Hid (Below w.heap.size w w') := by
  have HB : Hid (∀ X : Obj, Below w.heap.size w (w.alloc X)) := fun X => (Below.refl _ w).alloc (Nat.le_refl _) X
  have HC : Hid (∀ W, Calls Tryd.prog 13 #[bv b a c] W fun e w' => e = .returned (.int .i64 (chkI b)) ∧ Hid (Below W.heap.size W w')) := fun W => check9_any b a c W hz
  have HE : Hid (expB b now = (okB b && decide (b.cre + b.lif ≤ now))) := rfl
  generalize expB b now = R at HE ⊢
  cases ho : okB b with
  | true =>
    have hk := okB_of ho
    have h1 : 0 ≤ b.cre := hk.2.2.2.2.2.2.1.1
    have h2 : b.cre ≤ 1048576 := hk.2.2.2.2.2.2.1.2
    have h3 : 1 ≤ b.lif := hk.2.2.2.2.2.2.2.1.1
    have h4 : b.lif ≤ 1048576 := hk.2.2.2.2.2.2.2.1.2
    rw [chk_ok ho] at HC
    rw [ho] at HE
    clear hk ho
    go_enter Tryd.func23, Tryd.ntmps23
    go_wp2_with (go_at_call 13; refine (HC.out _).mono ?_; rintro e w1 ⟨rfl, hb1⟩; obtain ⟨e0, e1, e2, e3, e4, e5, e6, e7, e8, e9, e10⟩ := bcells (old_block hb1.out (heap_alloc_new w _)))
    all_goals
      go_ret
      exact ⟨ret_bool (by rw [HE.out]; simp), below_of (HB.out _) hb1.out⟩
  | false =>
    rw [chk_no ho] at HC
    rw [ho] at HE
    clear ho
    go_enter Tryd.func23, Tryd.ntmps23
    go_wp2_with (go_at_call 13; refine (HC.out _).mono ?_; rintro e w1 ⟨rfl, hb1⟩)
    all_goals
      go_ret
      exact ⟨ret_bool (by rw [HE.out]; simp), below_of (HB.out _) hb1.out⟩
end Go.Proofs.YtjfmgokpnpmdpaaDoor
