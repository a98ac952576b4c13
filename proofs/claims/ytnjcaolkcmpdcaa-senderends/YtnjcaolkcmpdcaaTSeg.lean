/- segment.within, rightSession, rightData, rightClaims, rightReport; slices.Equal of claims. -/
import Derived.Test.YtnjcaolkcmpdcaaTPure
namespace Go.Proofs.Ytnjcaolkcmpdcaa
open Go.RowKit
set_option linter.unusedVariables false

/-- a segment by value, and in a block of its own. -/
abbrev sv (s : Sg) (a : Option Addr) (c : Nat) (a2 : Option Addr) (c2 : Nat) : Value := .agg #[.int .i64 s.knd, .int .i64 s.src, .int .u32 (s.ses : Nat), .int .u32 (s.ser : Nat), .int .u32 (s.cks : Nat), .int .i64 s.off, .int .i64 s.tot, .int .i64 s.low, .int .i64 s.upp, .int .i64 s.rea, .bool s.chk, .slice a s.dat.length c, .slice a2 s.cls.length c2]
abbrev sc (s : Sg) (a : Option Addr) (c : Nat) (a2 : Option Addr) (c2 : Nat) : Obj := .cells #[.int .i64 s.knd, .int .i64 s.src, .int .u32 (s.ses : Nat), .int .u32 (s.ser : Nat), .int .u32 (s.cks : Nat), .int .i64 s.off, .int .i64 s.tot, .int .i64 s.low, .int .i64 s.upp, .int .i64 s.rea, .bool s.chk, .slice a s.dat.length c, .slice a2 s.cls.length c2] 29
def in64 (x : Int) : Prop := -9223372036854775808 ≤ x ∧ x ≤ 9223372036854775807
/-- its numbers are of their kinds. -/
structure Sz (s : Sg) : Prop where
  knd : in64 s.knd
  src : in64 s.src
  ses : s.ses < 4294967296
  ser : s.ser < 4294967296
  cks : s.cks < 4294967296
  off : in64 s.off
  tot : in64 s.tot
  low : in64 s.low
  upp : in64 s.upp
  rea : in64 s.rea
  dat : s.dat.length ≤ 140737488351232
  cls : s.cls.length ≤ 140737488351232
  clm : ∀ c ∈ s.cls, in64 c.1 ∧ in64 c.2
theorem within_any (x a b : Int) (w : World) : Calls Try.prog 85 #[.int .i64 x, .int .i64 a, .int .i64 b] w fun e w' => e = .returned (.bool (inB x a b)) ∧ w = w' := by
  have HE : Hid (inB x a b = (decide (a ≤ x) && decide (x ≤ b))) := rfl
  generalize inB x a b = R at HE ⊢
  go_enter Try.func85, Try.ntmps85
  go_wp2
  all_goals
    go_ret
    refine ⟨ret_bool ?_, rfl⟩
    rw [HE.out]
    simp_all
    try omega
set_option maxRecDepth 20000 in
set_option maxHeartbeats 1000000 in
theorem sess_any (s : Sg) (a : Option Addr) (c : Nat) (a2 : Option Addr) (c2 : Nat) (w : World) : Calls Try.prog 71 #[sv s a c a2 c2] w fun e w' => e = .returned (.bool (sessS s)) ∧ Hid (Below w.heap.size w w') := by
  have HE : Hid (sessS s = (inB s.src 1 6 && decide (0 < s.ses))) := rfl
  generalize sessS s = R at HE ⊢
  go_enter Try.func71, Try.ntmps71
  go_wp2_with (go_at_call 85; refine (within_any _ _ _ _).mono ?_; rintro e w' ⟨rfl, rfl⟩)
  all_goals
    go_ret
    refine ⟨ret_bool ?_, (Below.refl _ w).alloc (Nat.le_refl _) _⟩
    rw [HE.out]
    simp_all
set_option maxRecDepth 20000 in
set_option maxHeartbeats 1000000 in
theorem data_any (s : Sg) (a : Option Addr) (c : Nat) (a2 : Option Addr) (c2 : Nat) (w : World) (hz : s.dat.length ≤ 140737488351232) : Calls Try.prog 86 #[sv s a c a2 c2] w fun e w' => e = .returned (.bool (dataS s)) ∧ Hid (Below w.heap.size w w') := by
  have HE : Hid (dataS s = (inB s.tot 1 512 && (inB s.dat.length 1 100 && (inB s.off 0 (s.tot - (s.dat.length : Int)) && (s.chk == decide (0 < s.ser)))))) := rfl
  generalize dataS s = R at HE ⊢
  by_cases ht : inB s.tot 1 512 = true
  · obtain ⟨h1, h2⟩ := inB_of ht
    go_enter Try.func86, Try.ntmps86
    go_wp2_with (go_at_call 85; refine (within_any _ _ _ _).mono ?_; rintro e w' ⟨rfl, rfl⟩)
    all_goals
      go_ret
      refine ⟨ret_bool ?_, (Below.refl _ w).alloc (Nat.le_refl _) _⟩
      rw [HE.out]
      simp_all
  · have ht' : inB s.tot 1 512 = false := by simpa using ht
    clear ht
    go_enter Try.func86, Try.ntmps86
    go_wp2_with (go_at_call 85; refine (within_any _ _ _ _).mono ?_; rintro e w' ⟨rfl, rfl⟩)
    all_goals
      go_ret
      refine ⟨ret_bool ?_, (Below.refl _ w).alloc (Nat.le_refl _) _⟩
      rw [HE.out]
      simp_all
theorem scells {W : World} {p : Nat} {s : Sg} {a : Option Addr} {c : Nat} {a2 : Option Addr} {c2 : Nat} (h : W.heap[p]? = some (sc s a c a2 c2)) : W.cell? ⟨p, 0, none⟩ = some (.int .i64 s.knd) ∧ W.cell? ⟨p, 1, none⟩ = some (.int .i64 s.src) ∧ W.cell? ⟨p, 2, none⟩ = some (.int .u32 (s.ses : Nat)) ∧ W.cell? ⟨p, 3, none⟩ = some (.int .u32 (s.ser : Nat)) ∧ W.cell? ⟨p, 4, none⟩ = some (.int .u32 (s.cks : Nat)) ∧ W.cell? ⟨p, 5, none⟩ = some (.int .i64 s.off) ∧ W.cell? ⟨p, 6, none⟩ = some (.int .i64 s.tot) ∧ W.cell? ⟨p, 7, none⟩ = some (.int .i64 s.low) ∧ W.cell? ⟨p, 8, none⟩ = some (.int .i64 s.upp) ∧ W.cell? ⟨p, 9, none⟩ = some (.int .i64 s.rea) ∧ W.cell? ⟨p, 10, none⟩ = some (.bool s.chk) ∧ W.cell? ⟨p, 11, none⟩ = some (.slice a s.dat.length c) ∧ W.cell? ⟨p, 12, none⟩ = some (.slice a2 s.cls.length c2) := by
  refine ⟨?_, ?_, ?_, ?_, ?_, ?_, ?_, ?_, ?_, ?_, ?_, ?_, ?_⟩
  all_goals (rw [cell_of h]; rfl)
/-- The claims l lie in memory from a on. -/
def RowC (w : World) (a : Option Addr) (l : List (Int × Int)) : Prop :=
  l.length ≤ maxLen ∧ (0 < l.length → ∃ b off, a = some ⟨b, off, none⟩ ∧ ∀ i (h : i < l.length), w.cell? ⟨b, off + i * 2, none⟩ = some (.int .i64 l[i].1) ∧ w.cell? ⟨b, off + i * 2 + 1, none⟩ = some (.int .i64 l[i].2))
theorem RowC.later {w w' : World} {a : Option Addr} {l : List (Int × Int)} (h : RowC w a l) (hb : Below w.heap.size w w') : RowC w' a l := by
  obtain ⟨h2, h3⟩ := h
  refine ⟨h2, fun h0 => ?_⟩
  obtain ⟨b, off, rfl, hc⟩ := h3 h0
  exact ⟨b, off, rfl, fun i hi => ⟨cell_later hb (hc i hi).1, cell_later hb (hc i hi).2⟩⟩
set_option maxRecDepth 20000 in
set_option maxHeartbeats 1000000 in
theorem claims_any (s : Sg) (a : Option Addr) (c : Nat) (a2 : Option Addr) (c2 : Nat) (w : World) (hz : s.cls.length ≤ 140737488351232) (h0 : 0 ≤ s.low) (hlu : s.low < s.upp) (hu : s.upp ≤ 512) (hr : RowC w a2 s.cls) (hm : ∀ c ∈ s.cls, in64 c.1 ∧ in64 c.2) : Calls Try.prog 89 #[sv s a c a2 c2] w fun e w' => e = .returned (.bool (clsOk s.upp s.low s.cls)) ∧ Hid (Below w.heap.size w w') := by
  have HR : Hid (RowC w a2 s.cls) := hr
  have HM : Hid (∀ c ∈ s.cls, in64 c.1 ∧ in64 c.2) := hm
  clear hr hm
  go_enter Try.func89, Try.ntmps89
  have HX : Hid (Below (w.heap.size + 1) (w.alloc (sc s a c a2 c2)) (w.alloc (sc s a c a2 c2))) := Below.refl _ _
  have HP : Hid ((w.alloc (sc s a c a2 c2)).heap[w.heap.size]? = some (sc s a c a2 c2)) := heap_alloc_new w _
  have HB : Hid (Below w.heap.size w (w.alloc (sc s a c a2 c2))) := (Below.refl _ w).alloc (Nat.le_refl _) _
  go_wp2
  go_loopw [3, 11] (fun u i wr => ∃ (k : Nat) (least : Int), k ≤ s.cls.length ∧ i = .int .i64 k ∧ u = .int .i64 least ∧ 0 ≤ least ∧ least ≤ 1000 ∧ Hid (clsOk s.upp s.low s.cls = clsOk s.upp least (s.cls.drop k)) ∧ Hid (Below (w.heap.size + 1) (w.alloc (sc s a c a2 c2)) wr)) (fun _ i _ => s.cls.length - (intOf i).toNat)
  case atStart => exact ⟨0, s.low, by omega, rfl, rfl, h0, by omega, rfl, HX.out⟩
  case round =>
    obtain ⟨k, least, hk, rfl, rfl, hl0, hl1, HC, HW⟩ := hrel
    by_cases hlt : k < s.cls.length
    · obtain ⟨b, off, rfl, hc⟩ := (HR.out.later (below_of HB.out (HW.out.mono (by simp)))).2 (by omega)
      obtain ⟨hc1, hc2⟩ := hc k hlt
      obtain ⟨i1, i2⟩ := HM.out s.cls[k] (List.getElem_mem hlt)
      have HD : Hid (clsOk s.upp least (s.cls.drop k) = (!decide (s.cls[k].1 < least) && (inB s.cls[k].2 1 (s.upp - s.cls[k].1) && clsOk s.upp (s.cls[k].1 + s.cls[k].2 + 1) (s.cls.drop (k + 1))))) := by
        show _ = _
        rw [List.drop_eq_getElem_cons hlt, clsOk]
      have HU : ∀ A, (wr.alloc A).cell? ⟨w.heap.size, 8, none⟩ = some (.int .i64 s.upp) := fun A => (scells (W := wr.alloc A) (p := w.heap.size) (old_block ((Below.refl _ wr).alloc (Nat.le_refl _) A) (by rw [HW.out.block _ (by omega)]; exact HP.out))).2.2.2.2.2.2.2.2.1
      clear hc
      generalize s.cls[k].1 = x at hc1 i1 HD
      generalize s.cls[k].2 = y at hc2 i2 HD
      obtain ⟨i3, i4⟩ := i1
      obtain ⟨i5, i6⟩ := i2
      have HBW : Hid (∀ A, Below w.heap.size w (wr.alloc A)) := fun A => below_of (below_of HB.out (HW.out.mono (by simp))) ((Below.refl _ wr).alloc (Nat.le_refl _) A)
      by_cases hx : x < least
      · go_wp2
        go_ret
        refine ⟨ret_bool ?_, HBW.out _⟩
        rw [HC.out, HD.out, decide_eq_true hx]
        rfl
      · have hx2 : least ≤ x := by omega
        cases hin : inB y 1 (s.upp - x) with
        | false =>
          go_wp2_with (go_at_call 85; refine (within_any _ _ _ _).mono ?_; rintro e w' ⟨rfl, rfl⟩)
          go_ret
          refine ⟨ret_bool ?_, HBW.out _⟩
          rw [HC.out, HD.out, hin]
          simp
        | true =>
          obtain ⟨j1, j2⟩ := inB_of hin
          go_wp2_with (go_at_call 85; refine (within_any _ _ _ _).mono ?_; rintro e w' ⟨rfl, rfl⟩)
          go_roundw
          case rel => exact ⟨k + 1, x + y + 1, by omega, by go_num, by go_num, by omega, by omega, by show _ = _; rw [HC.out, HD.out, hin, decide_eq_false (show ¬ x < least by omega)]; simp, (HW.out).trans (((Below.refl _ wr).alloc (Nat.le_refl _) _).mono (by have := HW.out.size; simpa using this))⟩
          case measure => simp [intOf]; omega
    · obtain rfl : k = s.cls.length := by omega
      go_wp2
      go_ret
      refine ⟨ret_bool ?_, below_of HB.out (HW.out.mono (by simp))⟩
      rw [HC.out, List.drop_of_length_le (Nat.le_refl _), clsOk]
set_option maxRecDepth 20000 in
set_option maxHeartbeats 1000000 in
theorem report_any (s : Sg) (a : Option Addr) (c : Nat) (a2 : Option Addr) (c2 : Nat) (w : World) (hz : s.cls.length ≤ 140737488351232) (hr : RowC w a2 s.cls) (hm : ∀ c ∈ s.cls, in64 c.1 ∧ in64 c.2) : Calls Try.prog 87 #[sv s a c a2 c2] w fun e w' => e = .returned (.bool (repS s)) ∧ Hid (Below w.heap.size w w') := by
  have HE : Hid (repS s = (decide (0 < s.ser) && (decide (0 < s.cks) && (decide (0 ≤ s.low) && (decide (s.low < s.upp) && (decide (s.upp ≤ 512) && (decide ((s.cls.length : Int) ≤ 20) && clsOk s.upp s.low s.cls))))))) := rfl
  have HB : Hid (∀ X : Obj, Below w.heap.size w (w.alloc X)) := fun X => (Below.refl _ w).alloc (Nat.le_refl _) X
  have HC : Hid (0 ≤ s.low → s.low < s.upp → s.upp ≤ 512 → ∀ X, Calls Try.prog 89 #[sv s a c a2 c2] (w.alloc X) fun e w' => e = .returned (.bool (clsOk s.upp s.low s.cls)) ∧ Hid (Below (w.alloc X).heap.size (w.alloc X) w')) := fun h0 h1 h2 X => claims_any s a c a2 c2 _ hz h0 h1 h2 (hr.later (HB.out X)) hm
  generalize repS s = R at HE ⊢
  clear hr hm
  go_enter Try.func87, Try.ntmps87
  go_wp2_with (go_at_call 89; refine (HC.out (by omega) (by omega) (by omega) _).mono ?_; rintro e w1 ⟨rfl, hb1⟩)
  all_goals
    go_ret
    refine ⟨ret_bool ?_, ?_⟩
    · rw [HE.out]
      simp_all
      try (intros; exfalso; omega)
  all_goals first | exact below_of (HB.out _) hb1.out | exact HB.out _
set_option maxHeartbeats 400000 in
theorem equal_any (a b : Option Addr) (c d : Nat) (l m : List Nat) (w : World) (hr : Row w a l) (hs : Row w b m) :
    Calls Try.prog 83 #[.slice a l.length c, .slice b m.length d] w fun e w' => e = .returned (.bool (decide (l = m))) ∧ w = w' := by
  have HR : Hid (Row w a l) := hr
  have HS : Hid (Row w b m) := hs
  clear hr hs
  go_enter Try.func83, Try.ntmps83
  go_wp2_with fail
  refine (bytesEqual_any _ _ _ _ _ _ _ HR.out HS.out).mono ?_
  rintro e w' ⟨rfl, rfl⟩
  go_wp2
  go_ret
  exact ⟨rfl, rfl⟩
theorem Try.heldC : Try.prog.stoodInHeld 56 = false := by kernel_rfl
theorem eq_step (w : World) (xs ys : Array Value) (f : Field) (fs : List Field) (k k' : IntKind) (a b : Int) (hn : f.name ≠ "_") (hu : Try.prog.underlying f.type = some (.int k')) (hx : (Go.part f.type xs f.offset).run Try.prog w = .ok (.int k a) w) (hy : (Go.part f.type ys f.offset).run Try.prog w = .ok (.int k b) w) :
    (Op.eqFields 9999 xs ys (f :: fs)).run Try.prog w = if a = b then (Op.eqFields 9999 xs ys fs).run Try.prog w else .ok false w := by
  simp only [Op.eqFields, Sem.run_ite, Sem.run_bind, hx, hy, Result.andThen_ok, run_equalIn_int w 9998 f.type k k' a b hu]
  rw [if_pos hn]
  by_cases h : a = b
  · rw [if_pos h, if_neg (by simp [h])]
  · rw [if_neg h, if_pos (by simp [h])]
    rfl
theorem part_int (w : World) (xs : Array Value) (o : Nat) (v : Value) (h : xs[o]? = some v) : (Go.part 3 xs o).run Try.prog w = .ok v w := by
  simp [Go.part, go_sem, h]
theorem ite_ok {p : Prop} [Decidable p] (b : Bool) (w : World) : (if p then (Result.ok b w) else .ok false w) = .ok (decide p && b) w := by
  by_cases h : p <;> simp [h]
set_option maxRecDepth 20000 in
set_option maxHeartbeats 2000000 in
theorem claim_eq (w : World) (x1 x2 y1 y2 : Int) : (Op.equalIn 10000 56 (.agg #[.int .i64 x1, .int .i64 x2]) (.agg #[.int .i64 y1, .int .i64 y2])).run Try.prog w = .ok (decide (x1 = y1) && decide (x2 = y2)) w := by
  have hu := Try.underlying56
  rw [show (10000 : Nat) = 9999 + 1 from rfl, run_equalIn_struct w 9999 56 _ _ (by rw [Program.fieldsOf, hu]) Try.heldC, Program.fieldsOf, hu]
  simp only
  rw [eq_step w _ _ _ _ .i64 .i64 x1 y1 (by decide) Try.underlying3 (part_int w _ _ _ rfl) (part_int w _ _ _ rfl),
    eq_step w _ _ _ _ .i64 .i64 x2 y2 (by decide) Try.underlying3 (part_int w _ _ _ rfl) (part_int w _ _ _ rfl)]
  simp only [Op.eqFields, Sem.run_pure, ite_ok, Bool.and_true]
theorem neqC (w : World) (x1 x2 y1 y2 : Int) : (binOp .neq 56 (.agg #[.int .i64 x1, .int .i64 x2]) (.agg #[.int .i64 y1, .int .i64 y2])).run Try.prog w = .ok (.bool (!(decide (x1 = y1) && decide (x2 = y2)))) w := by
  rw [run_neq_struct, claim_eq]; rfl
theorem drop_eq {α : Type} {l m : List α} {k : Nat} (h1 : k < l.length) (h2 : k < m.length) : l.drop k = m.drop k ↔ l[k] = m[k] ∧ l.drop (k + 1) = m.drop (k + 1) := by
  rw [List.drop_eq_getElem_cons h1, List.drop_eq_getElem_cons h2, List.cons.injEq]
set_option maxRecDepth 20000 in
set_option maxHeartbeats 1000000 in
theorem claimsEq_any (a b : Option Addr) (c d : Nat) (l m : List (Int × Int)) (w : World) (hr : RowC w a l) (hs : RowC w b m) (hz : l.length ≤ 140737488351232) (hz2 : m.length ≤ 140737488351232) :
    Calls Try.prog 61 #[.slice a l.length c, .slice b m.length d] w fun e w' => e = .returned (.bool (decide (l = m))) ∧ ∃ n, w' = w.drewN n := by
  have HR : Hid (RowC w a l) := hr
  have HS : Hid (RowC w b m) := hs
  clear hr hs
  by_cases hlen : l.length = m.length
  · have HL : Hid (l.length = m.length) := hlen
    have hb1 : ((l.length : Int) != (m.length : Int)) = false := by simp [hlen]
    have hm2 : (l.length : Int) ≤ (m.length : Int) := by omega
    clear hlen
    go_enter Try.func61, Try.ntmps61
    go_wp2
    go_loopw [13] (fun i wr => ∃ k q : Nat, k ≤ l.length ∧ i = .int .i64 k ∧ wr = w.drewN q ∧ Hid (decide (l = m) = decide (l.drop k = m.drop k))) (fun i _ => l.length - (intOf i).toNat)
    case atStart => exact ⟨0, 0, by omega, rfl, rfl, rfl⟩
    case round =>
      obtain ⟨k, q, hk, rfl, rfl, HD⟩ := hrel
      by_cases hlt : k < l.length
      · have hlt2 : k < m.length := by omega
        obtain ⟨b1, o1, rfl, hc1⟩ := HR.out.2 (by omega)
        obtain ⟨b2, o2, rfl, hc2⟩ := HS.out.2 (by omega)
        obtain ⟨p1, p2⟩ := hc1 k hlt
        obtain ⟨p3, p4⟩ := hc2 k hlt2
        have HN : Hid (decide (l.drop k = m.drop k) = (decide (l[k] = m[k]) && decide (l.drop (k + 1) = m.drop (k + 1)))) := by
          show _ = _
          rw [Bool.eq_iff_iff]
          simp only [decide_eq_true_eq, Bool.and_eq_true]
          exact drop_eq hlt hlt2
        have HP : Hid (decide (l[k] = m[k]) = (decide (l[k].1 = m[k].1) && decide (l[k].2 = m[k].2))) := by
          show _ = _
          rw [Bool.eq_iff_iff]
          simp only [decide_eq_true_eq, Bool.and_eq_true]
          exact ⟨fun e => by rw [e]; exact ⟨rfl, rfl⟩, fun e => Prod.ext e.1 e.2⟩
        clear hc1 hc2
        generalize l[k].1 = x1 at p1 HP
        generalize l[k].2 = x2 at p2 HP
        generalize m[k].1 = y1 at p3 HP
        generalize m[k].2 = y2 at p4 HP
        have hi1 : (k : Int) < (l.length : Int) := by omega
        have hi2 : (k : Int) < (m.length : Int) := by omega
        have he := fun W => neqC W x1 x2 y1 y2
        rw [← HP.out] at he
        generalize decide (l[k] = m[k]) = B at he HN
        go_wp2
        go_quiet (fail)
        cases B with
        | false =>
          go_wp2
          go_ret
          refine ⟨ret_bool ?_, q + nq, ?_⟩
          · rw [HD.out, HN.out]; rfl
          · rw [World.drewN_drewN]
        | true =>
          go_wp2
          go_roundw
          case rel => exact ⟨k + 1, q + nq, by omega, by go_num, rfl, by show _ = _; rw [HD.out, HN.out]; rfl⟩
          case measure => simp [intOf]; omega
      · obtain rfl : k = l.length := by omega
        have HE : Hid (decide (l = m) = true) := by
          show _ = _
          rw [HD.out, List.drop_of_length_le (Nat.le_refl _), List.drop_of_length_le (by rw [HL.out]; exact Nat.le_refl _)]
          rfl
        go_wp2
        go_ret
        exact ⟨ret_bool HE.out.symm, q, rfl⟩
  · have HE : Hid (decide (l = m) = false) := decide_eq_false (fun e => hlen (by rw [e]))
    go_enter Try.func61, Try.ntmps61
    go_wp2
    go_ret
    exact ⟨ret_bool HE.out.symm, 0, rfl⟩
end Go.Proofs.Ytnjcaolkcmpdcaa
