/- The walk of files.Same. -/
import Derived.Test.YtfocejmfmnijpaaFLaw
namespace Go.Proofs.Ytfocejmfmnijpaa
open Go.RowKit

theorem name_eq (s t : ByteArray) : (s.toList == t.toList) = decide (s = t) := by
  by_cases h : s = t
  · subst h; simp
  · rw [decide_eq_false h]
    exact beq_eq_false_iff_ne.2 (fun e => h (toList_inj e))

def sameFB (x y : Fil) : Bool := decide (x.name = y.name) && decide (x.bytes = y.bytes)
theorem sameFB_eq (s t : ByteArray) (l m : List Nat) : sameFB ⟨s, l⟩ ⟨t, m⟩ = (decide (s = t) && decide (l = m)) := rfl
theorem sameFB_iff (x y : Fil) : sameFB x y = true ↔ x = y := by
  obtain ⟨s, l⟩ := x
  obtain ⟨t, m⟩ := y
  simp [sameFB]

set_option maxHeartbeats 1000000 in
theorem same1_any (w : World) (a b : Option Addr) (c d : Nat) (x y : Fil) (hr : Row w a x.bytes) (hs : Row w b y.bytes) :
    Calls Try.prog 49 #[.agg #[.string x.name, .slice a x.bytes.length c], .agg #[.string y.name, .slice b y.bytes.length d]] w fun e w' => e = .returned (.bool (sameFB x y)) ∧ Hid (Below w.heap.size w w') := by
  obtain ⟨s, l⟩ := x
  obtain ⟨t, m⟩ := y
  simp only at *
  have HR : Hid (Row w a l) := hr
  have HS : Hid (Row w b m) := hs
  have hne := name_eq s t
  have HE : Hid (sameFB ⟨s, l⟩ ⟨t, m⟩ = (decide (s = t) && decide (l = m))) := sameFB_eq s t l m
  have HB : Hid (∀ A B : Obj, Below w.heap.size w ((w.alloc A).alloc B)) := fun A B => ((Below.refl _ w).alloc (Nat.le_refl _) A).alloc (by simp) B
  clear hr hs
  cases hb : decide (s = t) with
  | true =>
    rw [hb] at HE hne
    go_enter Try.func49, Try.ntmps49
    go_wp2_with (go_at_call 24; refine (equal_any a b c d l m _ (HR.out.later (HB.out _ _)) (HS.out.later (HB.out _ _))).mono ?_; rintro e w' ⟨rfl, rfl⟩)
    go_ret
    exact ⟨ret_bool (by rw [HE.out]; simp), HB.out _ _⟩
  | false =>
    rw [hb] at HE hne
    go_enter Try.func49, Try.ntmps49
    go_wp2
    go_ret
    exact ⟨ret_bool (by rw [HE.out]; simp), HB.out _ _⟩

def sameB : List Fil → List Fil → Bool
  | [], [] => true
  | x :: a, y :: b => sameFB x y && sameB a b
  | [], _ :: _ => false
  | _ :: _, [] => false
theorem sameB_iff : ∀ (L M : List Fil), sameB L M = true ↔ L = M
  | [], [] => by simp [sameB]
  | x :: a, y :: b => by rw [sameB, Bool.and_eq_true, sameFB_iff, sameB_iff a b, List.cons.injEq]
  | [], _ :: _ => by simp [sameB]
  | _ :: _, [] => by simp [sameB]
theorem sameB_false {L M : List Fil} (h : ¬ L = M) : sameB L M = false := by
  cases k : sameB L M with
  | false => rfl
  | true => exact absurd ((sameB_iff L M).1 k) h
theorem same_len {L M : List Fil} (h : ¬ L.length = M.length) : sameB L M = false := sameB_false (fun e => h (by rw [e]))
theorem same_all {L M : List Fil} (hl : L.length = M.length) (h : ∀ i (h1 : i < L.length) (h2 : i < M.length), i < L.length → sameFB L[i] M[i] = true) : sameB L M = true :=
  (sameB_iff L M).2 (List.ext_getElem hl fun i h1 h2 => (sameFB_iff _ _).1 (h i h1 h2 h1))
theorem same_not {L M : List Fil} (i : Nat) (h1 : i < L.length) (h2 : i < M.length) (h : sameFB L[i] M[i] = false) : sameB L M = false :=
  sameB_false (fun e => by subst e; rw [(sameFB_iff _ _).2 rfl] at h; cases h)

set_option maxHeartbeats 2000000 in
theorem equalFunc_any (w : World) (a b : Option Addr) (c d : Nat) (L M : List Fil) (h1 : ListAt w a L) (h2 : ListAt w b M) :
    Calls Try.prog 48 #[.slice a L.length c, .slice b M.length d, .func (.func 49) #[] #[]] w fun e w' => e = .returned (.bool (sameB L M)) ∧ Hid (Below w.heap.size w w') := by
  have hm := h1.2.1
  have hm2 := h2.2.1
  have HL : Hid (ListAt w a L) := h1
  have HM : Hid (ListAt w b M) := h2
  clear h1 h2
  by_cases hlen : L.length = M.length
  · have hb : ((L.length : Int) != (M.length : Int)) = false := by simp [hlen]
    have HN : Hid (L.length = M.length) := hlen
    clear hlen
    go_enter Try.func48, Try.ntmps48
    go_wp2
    go_loopw [17] (fun i wr => ∃ k : Nat, k ≤ L.length ∧ i = .int .i64 k ∧ Hid (∀ i (h1 : i < L.length) (h2 : i < M.length), i < k → sameFB L[i] M[i] = true) ∧ Below w.heap.size w wr) (fun i _ => L.length - (intOf i).toNat)
    case atStart => exact ⟨0, Nat.zero_le _, rfl, fun i _ _ h => by omega, Below.refl _ _⟩
    case round =>
      obtain ⟨k, hk, rfl, hall, hbw⟩ := hrel
      by_cases hkl : k < L.length
      · have hkm : k < M.length := by rw [← HN.out]; exact hkl
        obtain ⟨b1, o1, rfl, hc1⟩ := HL.out.2.2 (by omega)
        obtain ⟨b2, o2, rfl, hc2⟩ := HM.out.2.2 (by omega)
        obtain ⟨f1, a2, c2, f2, _, _, f5⟩ := (hc1 k hkl).later hbw
        obtain ⟨g1, a3, c3, g2, _, _, g5⟩ := (hc2 k hkm).later hbw
        have HB : Hid (Below w.heap.size w wr) := hbw
        have HB2 : Hid (∀ A B : Obj, Below wr.heap.size wr ((wr.alloc A).alloc B)) := fun A B => ((Below.refl _ wr).alloc (Nat.le_refl _) A).alloc (by simp) B
        have HR : Hid (Row wr a2 L[k].bytes) := f5
        have HS : Hid (Row wr a3 M[k].bytes) := g5
        have hz1 := hbw.size
        have h2' : ∀ A : Obj, (wr.alloc A).cell? ⟨b2, o2 + k * 2, none⟩ = some (.string M[k].name) := fun A => cell_later ((Below.refl _ wr).alloc (Nat.le_refl _) A) g1
        have h3' : ∀ A : Obj, (wr.alloc A).cell? ⟨b2, o2 + k * 2 + 1, none⟩ = some (.slice a3 M[k].bytes.length c3) := fun A => cell_later ((Below.refl _ wr).alloc (Nat.le_refl _) A) g2
        clear hc1 hc2 f5 g5 hbw g1 g2
        cases hs : sameFB L[k] M[k] with
        | true =>
          have HA2 : Hid (∀ i (h1 : i < L.length) (h2 : i < M.length), i < k + 1 → sameFB L[i] M[i] = true) := fun i h1 h2 hi => (Nat.lt_or_ge i k).elim (fun h => hall.out i h1 h2 h) (fun h => (Nat.le_antisymm (Nat.lt_succ_iff.1 hi) h) ▸ hs)
          clear hall
          generalize L[k] = x at f1 f2 hs HR
          generalize M[k] = y at h2' h3' hs HS
          go_wp2_with (go_at_call 49; refine (same1_any _ a2 a3 c2 c3 x y (HR.out.later (HB2.out _ _)) (HS.out.later (HB2.out _ _))).mono ?_; rw [hs]; rintro e w2 ⟨rfl, hb2⟩)
          go_roundw
          case rel =>
            have hb3 := HB2.out (.cells #[.string x.name, .slice a2 x.bytes.length c2] 53) (.cells #[.string y.name, .slice a3 y.bytes.length c3] 53)
            exact ⟨k + 1, by omega, by go_num, HA2, below_of (below_of HB.out hb3) hb2.out⟩
          case measure => simp [intOf]; omega
        | false =>
          have HF : Hid (sameB L M = false) := same_not k hkl hkm hs
          clear hall
          generalize L[k] = x at f1 f2 hs HR
          generalize M[k] = y at h2' h3' hs HS
          go_wp2_with (go_at_call 49; refine (same1_any _ a2 a3 c2 c3 x y (HR.out.later (HB2.out _ _)) (HS.out.later (HB2.out _ _))).mono ?_; rw [hs]; rintro e w2 ⟨rfl, hb2⟩)
          go_ret
          have hb3 := HB2.out (.cells #[.string x.name, .slice a2 x.bytes.length c2] 53) (.cells #[.string y.name, .slice a3 y.bytes.length c3] 53)
          exact ⟨ret_bool HF.out.symm, below_of (below_of HB.out hb3) hb2.out⟩
      · have HF : Hid (sameB L M = true) := same_all HN.out fun i h1 h2 h => hall.out i h1 h2 (by omega)
        have HB : Hid (Below w.heap.size w wr) := hbw
        clear hbw
        go_wp2
        go_ret
        exact ⟨ret_bool HF.out.symm, HB.out⟩
  · have hb : ((L.length : Int) != (M.length : Int)) = true := by simp; omega
    have HF : Hid (sameB L M = false) := same_len hlen
    clear hlen
    go_enter Try.func48, Try.ntmps48
    go_wp2
    go_ret
    exact ⟨ret_bool HF.out.symm, Below.refl _ _⟩

set_option maxHeartbeats 1000000 in
theorem same_any (w : World) (a b : Option Addr) (c d : Nat) (L M : List Fil) (h1 : ListAt w a L) (h2 : ListAt w b M) :
    Calls Try.prog 23 #[.agg #[.slice a L.length c], .agg #[.slice b M.length d]] w fun e w' => e = .returned (.bool (sameB L M)) ∧ Hid (Below w.heap.size w w') := by
  have HL : Hid (ListAt w a L) := h1
  have HM : Hid (ListAt w b M) := h2
  have HB : Hid (∀ A B : Obj, Below w.heap.size w ((w.alloc A).alloc B)) := fun A B => ((Below.refl _ w).alloc (Nat.le_refl _) A).alloc (by simp) B
  clear h1 h2
  go_enter Try.func23, Try.ntmps23
  go_wp2_with (go_at_call 48; refine (equalFunc_any _ a b c d L M (HL.out.later (HB.out _ _)) (HM.out.later (HB.out _ _))).mono ?_; rintro e w' ⟨rfl, hq⟩)
  go_ret
  exact ⟨rfl, below_of (HB.out _ _) hq.out⟩

end Go.Proofs.Ytfocejmfmnijpaa
