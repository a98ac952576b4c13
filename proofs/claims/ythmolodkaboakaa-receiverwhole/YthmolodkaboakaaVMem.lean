/- A receiver's session as data, and how it lies; receiver.within, rightNumbers, rightRows, whole, rightState, Check. -/
import Derived.Test.YthmolodkaboakaaTCheck
import Derived.Deep.MidRow
namespace Go.Proofs.Ythmolodkaboakaa
open Go.RowKit
set_option linter.unusedVariables false
/-- A session that takes in. -/
structure Tk where
  src : Int
  ses : Nat
  tot : Int
  byt : List Nat
  got : List (Int × Int)
  ser : Nat
  sta : Int
  lif : Int
  due : Int
def zeroK : Tk := ⟨0, 0, 0, [], [], 0, 0, 0, 0⟩
abbrev kcells (s : Tk) (a : Option Addr) (c : Nat) (g : Option Addr) (d : Nat) : List Value := [.int .i64 s.src, .int .u32 (s.ses : Nat), .int .i64 s.tot, .slice a s.byt.length c, .slice g s.got.length d, .int .u32 (s.ser : Nat), .int .i64 s.sta, .int .i64 s.lif, .int .i64 s.due]
abbrev kv (s : Tk) (a : Option Addr) (c : Nat) (g : Option Addr) (d : Nat) : Value := .agg #[.int .i64 s.src, .int .u32 (s.ses : Nat), .int .i64 s.tot, .slice a s.byt.length c, .slice g s.got.length d, .int .u32 (s.ser : Nat), .int .i64 s.sta, .int .i64 s.lif, .int .i64 s.due]
abbrev kc (s : Tk) (a : Option Addr) (c : Nat) (g : Option Addr) (d : Nat) : Obj := .cells #[.int .i64 s.src, .int .u32 (s.ses : Nat), .int .i64 s.tot, .slice a s.byt.length c, .slice g s.got.length d, .int .u32 (s.ser : Nat), .int .i64 s.sta, .int .i64 s.lif, .int .i64 s.due] 26
theorem kcells_get {W : World} {b : Nat} {s : Tk} {a : Option Addr} {c : Nat} {g : Option Addr} {d : Nat} (h : W.heap[b]? = some (kc s a c g d)) :
    W.cell? ⟨b, 0, none⟩ = some (.int .i64 s.src) ∧ W.cell? ⟨b, 1, none⟩ = some (.int .u32 (s.ses : Nat)) ∧ W.cell? ⟨b, 2, none⟩ = some (.int .i64 s.tot) ∧ W.cell? ⟨b, 3, none⟩ = some (.slice a s.byt.length c) ∧ W.cell? ⟨b, 4, none⟩ = some (.slice g s.got.length d) ∧ W.cell? ⟨b, 5, none⟩ = some (.int .u32 (s.ser : Nat)) ∧ W.cell? ⟨b, 6, none⟩ = some (.int .i64 s.sta) ∧ W.cell? ⟨b, 7, none⟩ = some (.int .i64 s.lif) ∧ W.cell? ⟨b, 8, none⟩ = some (.int .i64 s.due) := by
  refine ⟨?_, ?_, ?_, ?_, ?_, ?_, ?_, ?_, ?_⟩
  all_goals (rw [cell_of h]; rfl)
theorem k_range {W : World} {b : Nat} {s : Tk} {a : Option Addr} {c : Nat} {g : Option Addr} {d : Nat} (h : W.heap[b]? = some (kc s a c g d)) : W.rangeAt b 0 (kcells s a c g d) := by
  intro j v hv
  rw [Nat.zero_add, cell_of h]
  rw [← List.getElem?_toArray] at hv
  exact hv
/-- what came in: a session, how it lies. -/
structure CameK (w : World) (s : Tk) (a : Option Addr) (c : Nat) (g : Option Addr) (d : Nat) : Prop where
  byt : Row w a s.byt
  got : RowC w g s.got
  lb : s.byt.length ≤ c ∧ c ≤ maxLen
  lg : s.got.length ≤ d ∧ d ≤ maxLen
  zb : s.byt.length ≤ 140737488351232
  zg : s.got.length ≤ 140737488351232
  gin : ∀ c ∈ s.got, in64 c.1 ∧ in64 c.2
  src : in64 s.src
  ses : s.ses < 4294967296
  tot : in64 s.tot
  ser : s.ser < 4294967296
  sta : in64 s.sta
  lif : in64 s.lif
  due : in64 s.due
theorem CameK.later {w w' : World} {s : Tk} {a : Option Addr} {c : Nat} {g : Option Addr} {d : Nat} (h : CameK w s a c g d) (hb : Below w.heap.size w w') : CameK w' s a c g d :=
  { h with byt := h.byt.later hb, got := h.got.later hb }
def numsK (s : Tk) : Bool := inB s.src 1 6 && (decide (0 < s.ses) && (inB s.tot 1 512 && (decide ((s.byt.length : Int) = s.tot) && (inB s.lif 1 65536 && inB s.due 0 1114112))))
def wholeK (s : Tk) : Bool := decide (s.got = [(0, s.tot)])
def stateK (s : Tk) : Bool := if s.sta = 1 then !wholeK s else if s.sta = 2 then wholeK s else decide (s.sta = 4)
/-- may the session be? -/
def okK (s : Tk) : Bool := numsK s && (clsOk s.tot 0 s.got && stateK s)
/-- what Check answers. -/
def chkK (s : Tk) : Int := if okK s = true then 0 else 250
theorem chkK_ok {s : Tk} (h : okK s = true) : chkK s = 0 := if_pos h
theorem chkK_no {s : Tk} (h : okK s = false) : chkK s = 250 := if_neg (by rw [h]; simp)
theorem vwithin_any (x a b : Int) (w : World) : Calls Try.prog 39 #[.int .i64 x, .int .i64 a, .int .i64 b] w fun e w' => e = .returned (.bool (inB x a b)) ∧ w = w' := by
  have HE : Hid (inB x a b = (decide (a ≤ x) && decide (x ≤ b))) := rfl
  generalize inB x a b = R at HE ⊢
  go_enter Try.func39, Try.ntmps39
  go_wp2
  all_goals
    go_ret
    refine ⟨ret_bool ?_, rfl⟩
    rw [HE.out]
    simp_all
    try omega
set_option maxRecDepth 20000 in
set_option maxHeartbeats 1000000 in
theorem vnumbers_any (s : Tk) (a : Option Addr) (c : Nat) (g : Option Addr) (d : Nat) (w : World) : Calls Try.prog 45 #[kv s a c g d] w fun e w' => e = .returned (.bool (numsK s)) ∧ Hid (Below w.heap.size w w') := by
  have HE : Hid (numsK s = (inB s.src 1 6 && (decide (0 < s.ses) && (inB s.tot 1 512 && (decide ((s.byt.length : Int) = s.tot) && (inB s.lif 1 65536 && inB s.due 0 1114112)))))) := rfl
  generalize numsK s = R at HE ⊢
  go_enter Try.func45, Try.ntmps45
  go_wp2_with (go_at_call 39; refine (vwithin_any _ _ _ _).mono ?_; rintro e w' ⟨rfl, rfl⟩)
  all_goals
    go_ret
    refine ⟨ret_bool ?_, (Below.refl _ w).alloc (Nat.le_refl _) _⟩
    rw [HE.out]
    simp_all
set_option maxRecDepth 20000 in
set_option maxHeartbeats 1000000 in
theorem vrows_any (s : Tk) (a : Option Addr) (c : Nat) (g : Option Addr) (d : Nat) (w : World) (hz : s.got.length ≤ 140737488351232) (ht1 : 1 ≤ s.tot) (ht2 : s.tot ≤ 512) (hr : RowC w g s.got) (hm : ∀ c ∈ s.got, in64 c.1 ∧ in64 c.2) : Calls Try.prog 46 #[kv s a c g d] w fun e w' => e = .returned (.bool (clsOk s.tot 0 s.got)) ∧ Hid (Below w.heap.size w w') := by
  have HR : Hid (RowC w g s.got) := hr
  have HM : Hid (∀ c ∈ s.got, in64 c.1 ∧ in64 c.2) := hm
  clear hr hm
  go_enter Try.func46, Try.ntmps46
  have HX : Hid (Below (w.heap.size + 1) (w.alloc (kc s a c g d)) (w.alloc (kc s a c g d))) := Below.refl _ _
  have HP : Hid ((w.alloc (kc s a c g d)).heap[w.heap.size]? = some (kc s a c g d)) := heap_alloc_new w _
  have HB : Hid (Below w.heap.size w (w.alloc (kc s a c g d))) := (Below.refl _ w).alloc (Nat.le_refl _) _
  go_wp2
  have HZ0 : Hid ((w.alloc (kc s a c g d)).heap.size = w.heap.size + 1) := by show _ = _; simp
  generalize w.alloc (kc s a c g d) = W0 at HX HP HB HZ0 ⊢
  go_loopw [3, 9] (fun u i wr => ∃ (k : Nat) (least : Int), k ≤ s.got.length ∧ i = .int .i64 k ∧ u = .int .i64 least ∧ 0 ≤ least ∧ least ≤ 1000 ∧ Hid (clsOk s.tot 0 s.got = clsOk s.tot least (s.got.drop k)) ∧ Hid (Below (w.heap.size + 1) W0 wr)) (fun _ i _ => s.got.length - (intOf i).toNat)
  case atStart => exact ⟨0, 0, by omega, rfl, rfl, by omega, by omega, rfl, HX.out⟩
  case round =>
    obtain ⟨k, least, hk, rfl, rfl, hl0, hl1, HC, HW⟩ := hrel
    have HWB : Hid (Below w.heap.size w wr) := below_of HB.out (HW.out.mono (by rw [HZ0.out]; exact Nat.le_refl _))
    by_cases hlt : k < s.got.length
    · obtain ⟨b, off, rfl, hc⟩ := (HR.out.later HWB.out).2 (by omega)
      obtain ⟨hc1, hc2⟩ := hc k hlt
      obtain ⟨i1, i2⟩ := HM.out s.got[k] (List.getElem_mem hlt)
      have HD : Hid (clsOk s.tot least (s.got.drop k) = (!decide (s.got[k].1 < least) && (inB s.got[k].2 1 (s.tot - s.got[k].1) && clsOk s.tot (s.got[k].1 + s.got[k].2 + 1) (s.got.drop (k + 1))))) := by
        show _ = _
        rw [List.drop_eq_getElem_cons hlt, clsOk]
      have HU : ∀ A, (wr.alloc A).cell? ⟨w.heap.size, 2, none⟩ = some (.int .i64 s.tot) := fun A => (kcells_get (W := wr.alloc A) (b := w.heap.size) (old_block ((Below.refl _ wr).alloc (Nat.le_refl _) A) (by rw [HW.out.block _ (by omega)]; exact HP.out))).2.2.1
      clear hc
      generalize s.got[k].1 = x at hc1 i1 HD
      generalize s.got[k].2 = y at hc2 i2 HD
      obtain ⟨i3, i4⟩ := i1
      obtain ⟨i5, i6⟩ := i2
      have HBW : Hid (∀ A, Below w.heap.size w (wr.alloc A)) := fun A => below_of HWB.out ((Below.refl _ wr).alloc (Nat.le_refl _) A)
      by_cases hx : x < least
      · go_wp2
        go_ret
        refine ⟨ret_bool ?_, HBW.out _⟩
        rw [HC.out, HD.out, decide_eq_true hx]
        rfl
      · have hx2 : least ≤ x := by omega
        cases hin : inB y 1 (s.tot - x) with
        | false =>
          go_wp2_with (go_at_call 39; refine (vwithin_any _ _ _ _).mono ?_; rintro e w' ⟨rfl, rfl⟩)
          go_ret
          refine ⟨ret_bool ?_, HBW.out _⟩
          rw [HC.out, HD.out, hin]
          simp
        | true =>
          obtain ⟨j1, j2⟩ := inB_of hin
          go_wp2_with (go_at_call 39; refine (vwithin_any _ _ _ _).mono ?_; rintro e w' ⟨rfl, rfl⟩)
          have hn1 : (x + y + 1) ≤ 1000 := by omega
          have HFI : Hid (clsOk s.tot 0 s.got = clsOk s.tot (x + y + 1) (s.got.drop (k + 1))) := by show _ = _; rw [HC.out, HD.out, hin, decide_eq_false (show ¬ x < least by omega)]; simp
          have HFB : Hid (∀ A, Below (w.heap.size + 1) W0 (wr.alloc A)) := fun A => (HW.out).trans (((Below.refl _ wr).alloc (Nat.le_refl _) A).mono (by have := HW.out.size; have := HZ0.out; omega))
          go_roundw
          case rel => exact ⟨k + 1, x + y + 1, by omega, by go_num, by go_num, by omega, by omega, HFI.out, HFB.out _⟩
          case measure => simp [intOf]; omega
    · obtain rfl : k = s.got.length := by omega
      go_wp2
      go_ret
      refine ⟨ret_bool ?_, HWB.out⟩
      rw [HC.out, List.drop_of_length_le (Nat.le_refl _), clsOk]
end Go.Proofs.Ythmolodkaboakaa
