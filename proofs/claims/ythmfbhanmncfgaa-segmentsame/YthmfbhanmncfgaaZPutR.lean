/- (*segment.writer).report. -/
import Derived.Test.YthmfbhanmncfgaaZPut
namespace Go.Proofs.Ythmfbhanmncfgaa
open Go.RowKit
set_option linter.unusedVariables false
theorem clsL_le (l : List (Int × Int)) (h : ∀ c ∈ l, (0 ≤ c.1 ∧ c.1 ≤ 512) ∧ (0 ≤ c.2 ∧ c.2 ≤ 512)) : (clsL l).length ≤ 4 * l.length := by
  induction l with
  | nil => simp [clsL]
  | cons c r ih =>
    have h1 := h c List.mem_cons_self
    have h2 := ih (fun x hx => h x (List.mem_cons_of_mem _ hx))
    have h3 : sz c.1.toNat ≤ 2 := Nat.le_trans (sz_mono c.1.toNat 512 (by omega)) (by decide)
    have h4 : sz c.2.toNat ≤ 2 := Nat.le_trans (sz_mono c.2.toNat 512 (by omega)) (by decide)
    unfold sz at h3 h4
    simp only [clsL, rowL, List.length_append, List.length_cons, List.length_nil]
    omega
set_option maxRecDepth 20000 in
set_option maxHeartbeats 4000000 in
theorem wreport_any (w : World) (base p : Nat) (v : Value) (l : List Nat) (h : Wr w base p v l) (hbase : base ≤ w.heap.size) (hl : l.length ≤ 1000) (s : Sg) (a : Option Addr) (c : Nat) (a2 : Option Addr) (c2 : Nat) (hr : RowC w a2 s.cls) (hpb : base ≤ p) (hab : 0 < s.cls.length → ∀ b, a2 = some b → b.block < base) (h1 : s.ser < 4294967296) (h2 : s.cks < 4294967296) (o t : Nat) (ho : s.low = (o : Nat)) (ht : s.upp = (t : Nat)) (ho5 : o ≤ 512) (ht5 : t ≤ 512) (hd : s.cls.length ≤ 20) (hcl : ∀ c ∈ s.cls, (0 ≤ c.1 ∧ c.1 ≤ 512) ∧ (0 ≤ c.2 ∧ c.2 ≤ 512)) :
    Calls Try.prog 17 #[.pointer (some ⟨p, 0, none⟩), sv s a c a2 c2] w fun e w' => e = .returned (.tuple #[]) ∧ ∃ v', Hid (Wrote w base p v (l ++ (rowL [s.ser, s.cks, o, t, s.cls.length] ++ clsL s.cls)) w' v') := by
  have HW : Hid (Wr w base p v l) := h
  have HR : Hid (RowC w a2 s.cls) := hr
  have HCL : Hid (∀ c ∈ s.cls, (0 ≤ c.1 ∧ c.1 ≤ 512) ∧ (0 ≤ c.2 ∧ c.2 ≤ 512)) := hcl
  have HB : Hid (∀ (w : World) (X : Obj), Below w.heap.size w (w.alloc X)) := fun w X => (Below.refl _ w).alloc (Nat.le_refl _) X
  have hp : p < w.heap.size := (Array.getElem?_eq_some_iff.1 h.here).1
  have HVB : Hid (v.ownBlock ≠ some w.heap.size) := fun e => by have := own_lt h.own _ e; omega
  have HRL : Hid ((rowL [s.ser, s.cks, o, t, s.cls.length]).length ≤ 50) := by
    have := rowL_len [s.ser, s.cks, o, t, s.cls.length] (by intro x hx; simp at hx; omega)
    show _ ≤ _; simpa using this
  clear h hr hcl
  go_enter Try.func17, Try.ntmps17
  go_wp2_with fail
  refine (put_at _ base p v l (w.heap.size + 1) 5 5 _ [s.ser, s.cks, o, t, s.cls.length] rfl (made_at (by simp)) (HW.out.later (below_of (HB.out _ _) (HB.out _ _))) (by simp; omega) (by intro x hx; simp at hx; omega) (by omega) (by omega) (by omega)).mono ?_
  rintro e w1 ⟨rfl, v1, hq1⟩
  obtain ⟨hP1, hV1⟩ := hq1.out.kept (q := w.heap.size) (o := sc s a c a2 c2) (old_block (HB.out _ _) (by rw [sc, ho, ht]; exact heap_alloc_new w _)) (by omega) HVB.out
  have hT : Hid (Wrote w base p v (l ++ rowL [s.ser, s.cks, o, t, s.cls.length]) w1 v1) := Wrote.ahead (below_of (HB.out _ _) (HB.out _ _)) hq1.out
  have e12 : w1.cell? ⟨w.heap.size, 12, none⟩ = some (.slice a2 s.cls.length c2) := (scells hP1).2.2.2.2.2.2.2.2.2.2.2.2
  clear hP1 hV1 hq1
  go_wp2_with fail
  have HLN : Hid (∀ k, (clsL (s.cls.take k)).length ≤ 100) := fun k => by
    show _ ≤ _
    have := clsL_le (s.cls.take k) (fun c hc => HCL.out c (List.mem_of_mem_take hc))
    rw [List.length_take] at this
    omega
  go_loopw [28] (fun i wr => ∃ (k : Nat) (v' : Value), k ≤ s.cls.length ∧ i = .int .i64 k ∧ Hid (Wrote w base p v ((l ++ rowL [s.ser, s.cks, o, t, s.cls.length]) ++ clsL (s.cls.take k)) wr v')) (fun i _ => s.cls.length - (intOf i).toNat)
  case atStart => exact ⟨0, v1, by omega, rfl, by show Wrote _ _ _ _ _ _ _; simp only [List.take_zero, clsL, List.append_nil]; exact hT.out⟩
  case round =>
    obtain ⟨k, vk, hk, rfl, HK⟩ := hrel
    have hsz := HK.out.2.1.size
    by_cases hlt : k < s.cls.length
    · obtain ⟨b, off, rfl, hc⟩ := (HK.out.rowc (own_ge HW.out.own) hpb HR.out hab).2 (by omega)
      obtain ⟨hc1, hc2⟩ := hc k hlt
      obtain ⟨⟨i1, i2⟩, i3, i4⟩ := HCL.out s.cls[k] (List.getElem_mem hlt)
      have HN : Hid (clsL (s.cls.take (k + 1)) = clsL (s.cls.take k) ++ rowL [s.cls[k].1.toNat, s.cls[k].2.toNat]) := by
        show _ = _
        rw [List.take_succ_eq_append_getElem hlt, clsL_append]
        simp [clsL]
      clear hc
      generalize s.cls[k].1 = x at hc1 i1 i2 HN
      generalize s.cls[k].2 = y at hc2 i3 i4 HN
      obtain ⟨x, rfl⟩ : ∃ n : Nat, x = (n : Nat) := ⟨x.toNat, by omega⟩
      obtain ⟨y, rfl⟩ : ∃ n : Nat, y = (n : Nat) := ⟨y.toNat, by omega⟩
      rw [Int.toNat_natCast, Int.toNat_natCast] at HN
      have HM : Hid (((l ++ rowL [s.ser, s.cks, o, t, s.cls.length]) ++ clsL (s.cls.take k)).length ≤ 2000) := by
        show _ ≤ _
        have := HLN.out k
        have := HRL.out
        simp only [List.length_append] at *
        omega
      go_wp2_with fail
      refine (put_at _ base p vk _ (wr.heap.size + 1) 2 2 _ [x, y] rfl (made_at (by simp)) (HK.out.1.later (below_of (HB.out _ _) (HB.out _ _))) (by simp; omega) (by intro x hx; simp at hx; omega) (by omega) (by omega) (by have := HM.out; omega)).mono ?_
      rintro e w2 ⟨rfl, v2, hq2⟩
      go_wp2
      go_roundw
      case rel =>
        refine ⟨k + 1, v2, by omega, by go_num, ?_⟩
        have h3 := HK.out.trans (below_of (HB.out _ _) (HB.out _ _)) hq2.out
        rw [List.append_assoc, ← HN.out] at h3
        exact h3
      case measure => simp [intOf]; omega
    · obtain rfl : k = s.cls.length := by omega
      go_wp2
      go_end0
      refine ⟨rfl, vk, ?_⟩
      have := HK.out
      rw [List.take_length, List.append_assoc] at this
      exact this
end Go.Proofs.Ythmfbhanmncfgaa
