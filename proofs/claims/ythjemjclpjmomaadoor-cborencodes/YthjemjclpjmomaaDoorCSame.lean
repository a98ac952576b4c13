/- The walks of cbor.Same and slices.EqualFunc over items. -/
import Derived.Test.YthjemjclpjmomaaDoorCMem
namespace Go.Proofs.YthjemjclpjmomaaDoor
open Go.RowKit
set_option linter.unusedVariables false

theorem all2_len {f : T → T → Bool} : ∀ {L M : List T}, ¬ L.length = M.length → all2 f L M = false
  | [], [], h => by simp at h
  | x :: a, y :: b, h => by rw [all2, all2_len (L := a) (M := b) (by simpa using h), Bool.and_false]
  | [], _ :: _, _ => rfl
  | _ :: _, [], _ => rfl
theorem all2_all {f : T → T → Bool} : ∀ {L M : List T}, L.length = M.length → (∀ i (h1 : i < L.length) (h2 : i < M.length), f L[i] M[i] = true) → all2 f L M = true
  | [], [], _, _ => rfl
  | x :: a, y :: b, hl, h => by
    have h0 := h 0 (by simp) (by simp)
    simp only [List.getElem_cons_zero] at h0
    rw [all2, h0, Bool.true_and]
    exact all2_all (by simpa using hl) (fun i h1 h2 => h (i + 1) (Nat.succ_lt_succ h1) (Nat.succ_lt_succ h2))
  | [], _ :: _, hl, _ => by simp at hl
  | _ :: _, [], hl, _ => by simp at hl
theorem all2_not {f : T → T → Bool} : ∀ {L M : List T} (i : Nat) (h1 : i < L.length) (h2 : i < M.length), f L[i] M[i] = false → all2 f L M = false
  | [], _, _, h1, _, _ => by simp at h1
  | _ :: _, [], _, _, h2, _ => by simp at h2
  | x :: a, y :: b, 0, _, _, h => by rw [all2]; simp only [List.getElem_cons_zero] at h; rw [h, Bool.false_and]
  | x :: a, y :: b, i + 1, h1, h2, h => by
    rw [all2, all2_not (L := a) (M := b) i (by simpa using h1) (by simpa using h2) (by simpa using h), Bool.and_false]

/-- what Same answers of items that are at most n deep. -/
def SameOk (n : Nat) : Prop := ∀ (A B : Nat → Prop) (w : World) (x y : T) (a1 a2 b1 b2 : Option Addr) (c1 c2 d1 d2 : Nat), Lie A w n a1 x a2 → Lie B w n b1 y b2 →
  Calls Tryd.prog 10 #[iv x a1 c1 a2 c2, iv y b1 d1 b2 d2] w fun e w' => e = .returned (.bool (sameT n x y)) ∧ Hid (Below w.heap.size w w')

set_option maxHeartbeats 2000000 in
theorem equalFunc_any (n : Nat) (hs : SameOk n) (A B : Nat → Prop) (w : World) (a b : Option Addr) (c d : Nat) (L M : List T) (h1 : LieL A w n a L) (h2 : LieL B w n b M) :
    Calls Tryd.prog 22 #[.slice a L.length c, .slice b M.length d, .func (.func 10) #[] #[]] w fun e w' => e = .returned (.bool (all2 (sameT n) L M)) ∧ Hid (Below w.heap.size w w') := by
  have HSO : Hid (SameOk n) := hs
  clear hs
  have hm := h1.1
  have hm2 := h2.1
  have HL : Hid (LieL A w n a L) := h1
  have HM : Hid (LieL B w n b M) := h2
  clear h1 h2
  by_cases hlen : L.length = M.length
  · have hb : ((L.length : Int) != (M.length : Int)) = false := by simp [hlen]
    have HN : Hid (L.length = M.length) := hlen
    clear hlen
    go_enter Tryd.func22, Tryd.ntmps22
    go_wp2
    go_loopw [17] (fun i wr => ∃ k : Nat, k ≤ L.length ∧ i = .int .i64 k ∧ Hid (∀ i (h1 : i < L.length) (h2 : i < M.length), i < k → sameT n L[i] M[i] = true) ∧ Below w.heap.size w wr) (fun i _ => L.length - (intOf i).toNat)
    case atStart => exact ⟨0, Nat.zero_le _, rfl, fun i _ _ h => by omega, Below.refl _ _⟩
    case round =>
      obtain ⟨k, hk, rfl, hall, hbw⟩ := hrel
      by_cases hkl : k < L.length
      · have hkm : k < M.length := by rw [← HN.out]; exact hkl
        obtain ⟨bb, o1, rfl, _, hc1⟩ := (HL.out.later hbw).2 (by omega)
        obtain ⟨bc, o2, rfl, _, hc2⟩ := (HM.out.later hbw).2 (by omega)
        obtain ⟨a1, c1, a2, c2, ⟨f0, f1, f2, f3⟩, f4, _⟩ := hc1 k hkl
        obtain ⟨b1, d1, b2, d2, ⟨g0, g1, g2, g3⟩, g4, _⟩ := hc2 k hkm
        have HB : Hid (Below w.heap.size w wr) := hbw
        have HB2 : Hid (∀ A B : Obj, Below wr.heap.size wr ((wr.alloc A).alloc B)) := fun A B => ((Below.refl _ wr).alloc (Nat.le_refl _) A).alloc (by simp) B
        have HR : Hid (Lie A wr n a1 L[k] a2) := f4
        have HS : Hid (Lie B wr n b1 M[k] b2) := g4
        have hz1 := hbw.size
        have e0 : ∀ X : Obj, (wr.alloc X).cell? ⟨bc, o2 + k * 4, none⟩ = some (.int .i64 (kd M[k])) := fun X => cell_later ((Below.refl _ wr).alloc (Nat.le_refl _) X) g0
        have e1 : ∀ X : Obj, (wr.alloc X).cell? ⟨bc, o2 + k * 4 + 1, none⟩ = some (.int .u64 (nm M[k])) := fun X => cell_later ((Below.refl _ wr).alloc (Nat.le_refl _) X) g1
        have e2 : ∀ X : Obj, (wr.alloc X).cell? ⟨bc, o2 + k * 4 + 2, none⟩ = some (.slice b1 (bs M[k]).length d1) := fun X => cell_later ((Below.refl _ wr).alloc (Nat.le_refl _) X) g2
        have e3 : ∀ X : Obj, (wr.alloc X).cell? ⟨bc, o2 + k * 4 + 3, none⟩ = some (.slice b2 (its M[k]).length d2) := fun X => cell_later ((Below.refl _ wr).alloc (Nat.le_refl _) X) g3
        clear hc1 hc2 f4 g4 hbw g0 g1 g2 g3
        cases hs : sameT n L[k] M[k] with
        | true =>
          have HA2 : Hid (∀ i (h1 : i < L.length) (h2 : i < M.length), i < k + 1 → sameT n L[i] M[i] = true) := fun i h1 h2 hi => (Nat.lt_or_ge i k).elim (fun h => hall.out i h1 h2 h) (fun h => (Nat.le_antisymm (Nat.lt_succ_iff.1 hi) h) ▸ hs)
          clear hall
          generalize L[k] = x at f0 f1 f2 f3 hs HR
          generalize M[k] = y at e0 e1 e2 e3 hs HS
          go_wp2_with (go_at_call 10; refine (HSO.out A B _ x y a1 a2 b1 b2 c1 c2 d1 d2 (HR.out.later (HB2.out _ _)) (HS.out.later (HB2.out _ _))).mono ?_; rw [hs]; rintro e w2 ⟨rfl, hb2⟩)
          go_roundw
          case rel =>
            have hb3 := HB2.out (ic x a1 c1 a2 c2) (ic y b1 d1 b2 d2)
            exact ⟨k + 1, by omega, by go_num, HA2, below_of (below_of HB.out hb3) hb2.out⟩
          case measure => simp [intOf]; omega
        | false =>
          have HF : Hid (all2 (sameT n) L M = false) := all2_not k hkl hkm hs
          clear hall
          generalize L[k] = x at f0 f1 f2 f3 hs HR
          generalize M[k] = y at e0 e1 e2 e3 hs HS
          go_wp2_with (go_at_call 10; refine (HSO.out A B _ x y a1 a2 b1 b2 c1 c2 d1 d2 (HR.out.later (HB2.out _ _)) (HS.out.later (HB2.out _ _))).mono ?_; rw [hs]; rintro e w2 ⟨rfl, hb2⟩)
          go_ret
          have hb3 := HB2.out (ic x a1 c1 a2 c2) (ic y b1 d1 b2 d2)
          exact ⟨ret_bool HF.out.symm, below_of (below_of HB.out hb3) hb2.out⟩
      · have HF : Hid (all2 (sameT n) L M = true) := all2_all HN.out fun i h1 h2 => hall.out i h1 h2 (by omega)
        have HB : Hid (Below w.heap.size w wr) := hbw
        clear hbw
        go_wp2
        go_ret
        exact ⟨ret_bool HF.out.symm, HB.out⟩
  · have hb : ((L.length : Int) != (M.length : Int)) = true := by simp; omega
    have HF : Hid (all2 (sameT n) L M = false) := all2_len hlen
    clear hlen
    go_enter Tryd.func22, Tryd.ntmps22
    go_wp2
    go_ret
    exact ⟨ret_bool HF.out.symm, Below.refl _ _⟩

set_option maxHeartbeats 2000000 in
theorem same_step (n : Nat) (hs : SameOk n) : SameOk (n + 1) := by
  intro A B w x y a1 a2 b1 b2 c1 c2 d1 d2 hx hy
  have HX : Hid (Lie A w (n + 1) a1 x a2) := hx
  have HY : Hid (Lie B w (n + 1) b1 y b2) := hy
  have HB : Hid (∀ X Y : Obj, Below w.heap.size w ((w.alloc X).alloc Y)) := fun X Y => ((Below.refl _ w).alloc (Nat.le_refl _) X).alloc (by simp) Y
  have HSO : Hid (SameOk n) := hs
  have HE : Hid (sameT (n + 1) x y = (decide (kd x = kd y) && (decide (nm x = nm y) && (decide (bs x = bs y) && all2 (sameT n) (its x) (its y))))) := rfl
  have hxk := hx.1
  have hyk := hy.1
  clear hx hy hs
  generalize hR : sameT (n + 1) x y = R at HE ⊢
  clear hR
  generalize hQ : all2 (sameT n) (its x) (its y) = Q at HE
  have HQ : Hid (all2 (sameT n) (its x) (its y) = Q) := hQ
  clear hQ
  by_cases h1 : kd x = kd y
  · have h1b : (kd x == kd y) = true := by simpa using h1
    by_cases h2 : nm x = nm y
    · have h2b : ((nm x : Int) == (nm y : Int)) = true := by rw [beq_iff_eq]; omega
      have HEQ : Hid (∀ X Y : Obj, Calls Tryd.prog 20 #[.slice a1 (bs x).length c1, .slice b1 (bs y).length d1] ((w.alloc X).alloc Y) fun e w' => e = .returned (.bool (decide (bs x = bs y))) ∧ (w.alloc X).alloc Y = w') := fun X Y => equal_any a1 b1 c1 d1 (bs x) (bs y) _ (HX.out.2.1.later (HB.out X Y)) (HY.out.2.1.later (HB.out X Y))
      have HEF : Hid (∀ X Y : Obj, Calls Tryd.prog 22 #[.slice a2 (its x).length c2, .slice b2 (its y).length d2, .func (.func 10) #[] #[]] ((w.alloc X).alloc Y) fun e w' => e = .returned (.bool (all2 (sameT n) (its x) (its y))) ∧ Hid (Below ((w.alloc X).alloc Y).heap.size ((w.alloc X).alloc Y) w')) := fun X Y => equalFunc_any n HSO.out A B _ a2 b2 c2 d2 (its x) (its y) (LieL.later HX.out.2.2.2 (HB.out X Y)) (LieL.later HY.out.2.2.2 (HB.out X Y))
      rw [h1, h2, decide_eq_true rfl, decide_eq_true rfl, Bool.true_and, Bool.true_and] at HE
      cases h3 : decide (bs x = bs y) with
      | true =>
        rw [h3] at HE HEQ
        rw [HQ.out] at HEF
        clear h1 h2
        go_enter Tryd.func10, Tryd.ntmps10
        go_wp2_with (first | (go_at_call 20; refine (HEQ.out _ _).mono ?_; rintro e w' ⟨rfl, rfl⟩) | (go_at_call 22; refine (HEF.out _ _).mono ?_; rintro e w' ⟨rfl, hq⟩))
        go_ret
        exact ⟨ret_bool (by rw [HE.out]; simp), below_of (HB.out _ _) hq.out⟩
      | false =>
        rw [h3] at HE HEQ
        clear h1 h2
        go_enter Tryd.func10, Tryd.ntmps10
        go_wp2_with (go_at_call 20; refine (HEQ.out _ _).mono ?_; rintro e w' ⟨rfl, rfl⟩)
        go_ret
        exact ⟨ret_bool (by rw [HE.out]; simp), HB.out _ _⟩
    · have h2b : ((nm x : Int) == (nm y : Int)) = false := beq_eq_false_iff_ne.2 (by omega)
      rw [decide_eq_false h2, Bool.false_and, Bool.and_false] at HE
      clear h1 h2
      go_enter Tryd.func10, Tryd.ntmps10
      go_wp2
      go_ret
      exact ⟨ret_bool (by rw [HE.out]), HB.out _ _⟩
  · have h1b : (kd x == kd y) = false := by simpa using h1
    rw [decide_eq_false h1, Bool.false_and] at HE
    clear h1
    go_enter Tryd.func10, Tryd.ntmps10
    go_wp2
    go_ret
    exact ⟨ret_bool (by rw [HE.out]), HB.out _ _⟩

theorem same_any : ∀ n, SameOk n
  | 0 => fun _ _ _ _ _ _ _ _ _ _ _ _ _ h => h.elim
  | n + 1 => same_step n (same_any n)
end Go.Proofs.YthjemjclpjmomaaDoor
