/- The walks of cbor.mayBe, allMayBe and Check. -/
import Derived.Test.YtjfmgokpnpmdpaaDoorCMem
namespace Go.Proofs.YtjfmgokpnpmdpaaDoor
open Go.RowKit
set_option linter.unusedVariables false

/-- what utf8.Valid answers, wherever TB holds of memory. -/
structure Txt (V : List Nat → Bool) (TB : World → Prop) : Prop where
  valid : ∀ (w : World) (a : Option Addr) (c : Nat) (l : List Nat), TB w → Row w a l → l.length ≤ 140737488351232 → l.length ≤ c → Calls Tryd.prog 61 #[.slice a l.length c] w fun e w' => e = .returned (.bool (V l)) ∧ Hid (Below w.heap.size w w')
  later : ∀ (w w' : World), TB w → Below w.heap.size w w' → TB w'
  off : ∀ (S : Nat → Prop) (w w' : World), TB w → Off S w w' → ¬ S 0 → ¬ S 1 → TB w'

def MayOk (V : List Nat → Bool) (TB : World → Prop) (m : Nat) : Prop := ∀ (A : Nat → Prop) (w : World) (n : Nat) (x : T) (a1 a2 : Option Addr) (c1 c2 : Nat), TB w → Lie A w n a1 x a2 → (bs x).length ≤ c1 →
  Calls Tryd.prog 62 #[iv x a1 c1 a2 c2, .int .i64 m] w fun e w' => e = .returned (.bool (okT V m x)) ∧ Hid (Below w.heap.size w w')

theorem all_pre {p : T → Bool} {L : List T} (h : ∀ i (h : i < L.length), p L[i] = true) : L.all p = true := by
  rw [List.all_eq_true]
  intro y hy
  obtain ⟨i, hi, rfl⟩ := List.getElem_of_mem hy
  exact h i hi
theorem all_not {p : T → Bool} {L : List T} (i : Nat) (h : i < L.length) (hp : p L[i] = false) : L.all p = false := by
  rw [List.all_eq_false]
  exact ⟨L[i], List.getElem_mem h, by simp [hp]⟩

set_option maxHeartbeats 2000000 in
theorem allMay_any (V : List Nat → Bool) (TB : World → Prop) (hT : Txt V TB) (m : Nat) (hm0 : m ≤ 4) (hs : MayOk V TB m) (A : Nat → Prop) (w : World) (n : Nat) (a : Option Addr) (c : Nat) (L : List T) (hw : TB w) (h1 : LieL A w n a L) :
    Calls Tryd.prog 73 #[.slice a L.length c, .int .i64 m] w fun e w' => e = .returned (.bool (L.all (okT V m))) ∧ Hid (Below w.heap.size w w') := by
  have HSO : Hid (MayOk V TB m) := hs
  have HTX : Hid (Txt V TB) := hT
  have HW : Hid (TB w) := hw
  have hm := h1.1
  have HL : Hid (LieL A w n a L) := h1
  clear h1 hs hT hw
  go_enter Tryd.func73, Tryd.ntmps73
  go_wp2
  go_loopw [9] (fun i wr => ∃ k : Nat, k ≤ L.length ∧ i = .int .i64 k ∧ Hid (∀ i (h1 : i < L.length), i < k → okT V m L[i] = true) ∧ Below w.heap.size w wr) (fun i _ => L.length - (intOf i).toNat)
  case atStart => exact ⟨0, Nat.zero_le _, rfl, fun i _ h => by omega, Below.refl _ _⟩
  case round =>
    obtain ⟨k, hk, rfl, hall, hbw⟩ := hrel
    by_cases hkl : k < L.length
    · obtain ⟨bb, o1, rfl, _, hc1⟩ := (HL.out.later hbw).2 (by omega)
      obtain ⟨a1, c1, a2, c2, ⟨f0, f1, f2, f3⟩, f4, fc⟩ := hc1 k hkl
      have HB : Hid (Below w.heap.size w wr) := hbw
      have HB2 : Hid (∀ A : Obj, Below wr.heap.size wr (wr.alloc A)) := fun A => (Below.refl _ wr).alloc (Nat.le_refl _) A
      have HR : Hid (Lie A wr n a1 L[k] a2) := f4
      have HFC : Hid ((bs L[k]).length ≤ c1) := fc
      have HWR : Hid (∀ A : Obj, TB (wr.alloc A)) := fun A => HTX.out.later _ _ (HTX.out.later _ _ HW.out HB.out) (HB2.out A)
      have hz1 := hbw.size
      clear hc1 f4 hbw fc
      cases hs : okT V m L[k] with
      | true =>
        have HA2 : Hid (∀ i (h1 : i < L.length), i < k + 1 → okT V m L[i] = true) := fun i h1 hi => (Nat.lt_or_ge i k).elim (fun h => hall.out i h1 h) (fun h => (Nat.le_antisymm (Nat.lt_succ_iff.1 hi) h) ▸ hs)
        clear hall
        generalize L[k] = x at f0 f1 f2 f3 hs HR HFC
        go_wp2_with (go_at_call 62; refine (HSO.out A _ n x a1 a2 c1 c2 (HWR.out _) (HR.out.later (HB2.out _)) HFC.out).mono ?_; rw [hs]; rintro e w2 ⟨rfl, hb2⟩)
        go_roundw
        case rel => exact ⟨k + 1, by omega, by go_num, HA2, below_of (below_of HB.out (HB2.out (ic x a1 c1 a2 c2))) hb2.out⟩
        case measure => simp [intOf]; omega
      | false =>
        have HF : Hid (L.all (okT V m) = false) := all_not k hkl hs
        clear hall
        generalize L[k] = x at f0 f1 f2 f3 hs HR HFC
        go_wp2_with (go_at_call 62; refine (HSO.out A _ n x a1 a2 c1 c2 (HWR.out _) (HR.out.later (HB2.out _)) HFC.out).mono ?_; rw [hs]; rintro e w2 ⟨rfl, hb2⟩)
        go_ret
        exact ⟨ret_bool HF.out.symm, below_of (below_of HB.out (HB2.out (ic x a1 c1 a2 c2))) hb2.out⟩
    · have HF : Hid (L.all (okT V m) = true) := all_pre fun i h1 => hall.out i h1 (by omega)
      have HB : Hid (Below w.heap.size w wr) := hbw
      clear hbw
      go_wp2
      go_ret
      exact ⟨ret_bool HF.out.symm, HB.out⟩

theorem may_zero (V : List Nat → Bool) (TB : World → Prop) : MayOk V TB 0 := by
  intro A w n x a1 a2 c1 c2 hw hx hcp
  have HF : Hid (okT V 0 x = false) := rfl
  clear hx
  generalize okT V 0 x = R at HF ⊢
  go_enter Tryd.func62, Tryd.ntmps62
  go_wp2
  go_ret
  exact ⟨ret_bool HF.out.symm, (Below.refl _ w).alloc (Nat.le_refl _) _⟩

set_option maxRecDepth 20000 in
set_option maxHeartbeats 2000000 in
theorem may_step (V : List Nat → Bool) (TB : World → Prop) (hT : Txt V TB) (m : Nat) (hm0 : m ≤ 4) (hs : MayOk V TB m) : MayOk V TB (m + 1) := by
  intro A w n x a1 a2 c1 c2 hw hx hcp
  obtain ⟨n, rfl⟩ : ∃ j, n = j + 1 := by cases n with
    | zero => exact hx.elim
    | succ j => exact ⟨j, rfl⟩
  have HX : Hid (Lie A w (n + 1) a1 x a2) := hx
  have HB : Hid (∀ X : Obj, Below w.heap.size w (w.alloc X)) := fun X => (Below.refl _ w).alloc (Nat.le_refl _) X
  have HW : Hid (∀ A : Obj, TB (w.alloc A)) := fun A => hT.later _ _ hw (HB.out A)
  have HV : Hid (∀ X : Obj, Calls Tryd.prog 61 #[.slice a1 (bs x).length c1] (w.alloc X) fun e w' => e = .returned (.bool (V (bs x))) ∧ Hid (Below (w.alloc X).heap.size (w.alloc X) w')) := fun X => hT.valid _ a1 c1 (bs x) (HW.out X) (HX.out.2.1.later (HB.out X)) hx.1.2.2.2 hcp
  have HM : Hid (∀ X : Obj, Calls Tryd.prog 73 #[.slice a2 (its x).length c2, .int .i64 (((m + 1 : Nat) : Int) - 1)] (w.alloc X) fun e w' => e = .returned (.bool ((its x).all (okT V m))) ∧ Hid (Below (w.alloc X).heap.size (w.alloc X) w')) := fun X => by
    rw [show (((m + 1 : Nat) : Int) - 1) = (m : Int) by omega]
    exact allMay_any V TB hT m hm0 hs A _ n a2 c2 (its x) (HW.out X) (LieL.later HX.out.2.2.2 (HB.out X))
  obtain ⟨hk1, _, _, hk4⟩ := hx.1
  have hmm : (((m + 1 : Nat) : Int) == 0) = false := beq_eq_false_iff_ne.2 (by omega)
  have hm1 : (0 : Int) < ((m + 1 : Nat) : Int) := by omega
  have hm2 : ((m + 1 : Nat) : Int) ≤ 5 := by omega
  have hk5 := hx.2.2.2.1
  have HE : Hid (okT V (m + 1) x = if kd x = 1 then decide ((bs x).length = 0) && decide ((its x).length = 0)
    else if kd x = 2 then decide (nm x = 0) && (decide ((its x).length = 0) && decide ((bs x).length ≤ 512))
    else if kd x = 3 then decide (nm x = 0) && (decide ((its x).length = 0) && (decide ((bs x).length ≤ 512) && V (bs x)))
    else if kd x = 4 then decide (nm x = 0) && (decide ((bs x).length = 0) && (decide ((its x).length ≤ 64) && (its x).all (okT V m)))
    else false) := rfl
  generalize okT V (m + 1) x = R at HE ⊢
  generalize (its x).all (okT V m) = Q at HE HM
  generalize V (bs x) = U at HE HV
  clear hs hx hw hT HX hm0 hcp
  generalize ((m + 1 : Nat) : Int) = M at *
  unfold iv
  generalize kd x = K at *
  generalize nm x = N at *
  generalize (bs x).length = LB at *
  generalize (its x).length = LI at *
  have b0 : ∀ k : Nat, ((k : Int) == 0) = decide (k = 0) := fun k => by rw [Bool.eq_iff_iff, beq_iff_eq, decide_eq_true_eq]; omega
  have b1 : ∀ k : Nat, decide ((k : Int) ≤ 512) = decide (k ≤ 512) := fun k => decide_eq_decide.2 (by omega)
  have b2 : ∀ k : Nat, decide ((k : Int) ≤ 64) = decide (k ≤ 64) := fun k => decide_eq_decide.2 (by omega)
  obtain ⟨dN, hdN⟩ : ∃ d, decide (N = 0) = d := ⟨_, rfl⟩
  obtain ⟨dB, hdB⟩ : ∃ d, decide (LB = 0) = d := ⟨_, rfl⟩
  obtain ⟨dI, hdI⟩ : ∃ d, decide (LI = 0) = d := ⟨_, rfl⟩
  obtain ⟨eB, heB⟩ : ∃ d, decide (LB ≤ 512) = d := ⟨_, rfl⟩
  obtain ⟨eI, heI⟩ : ∃ d, decide (LI ≤ 64) = d := ⟨_, rfl⟩
  rw [hdN, hdB, hdI, heB, heI] at HE
  have qN := (b0 N).trans hdN
  have qB := (b0 LB).trans hdB
  have qI := (b0 LI).trans hdI
  have rB := (b1 LB).trans heB
  have rI := (b2 LI).trans heI
  clear b0 b1 b2 hdN hdB hdI heB heI
  by_cases h1 : K = 1
  · subst h1
    rw [if_pos rfl] at HE
    cases dB with
    | true =>
      go_enter Tryd.func62, Tryd.ntmps62
      go_wp2
      go_ret
      exact ⟨ret_bool (by rw [HE.out]; simp), HB.out _⟩
    | false =>
      go_enter Tryd.func62, Tryd.ntmps62
      go_wp2
      go_ret
      exact ⟨ret_bool (by rw [HE.out]; simp), HB.out _⟩
  rw [if_neg h1] at HE
  by_cases h2 : K = 2
  · subst h2
    rw [if_pos rfl] at HE
    cases dN with
    | true =>
      cases dI with
      | true =>
        go_enter Tryd.func62, Tryd.ntmps62
        go_wp2
        go_ret
        exact ⟨ret_bool (by rw [HE.out]; simp), HB.out _⟩
      | false =>
        go_enter Tryd.func62, Tryd.ntmps62
        go_wp2
        go_ret
        exact ⟨ret_bool (by rw [HE.out]; simp), HB.out _⟩
    | false =>
      go_enter Tryd.func62, Tryd.ntmps62
      go_wp2
      go_ret
      exact ⟨ret_bool (by rw [HE.out]; simp), HB.out _⟩
  rw [if_neg h2] at HE
  by_cases h3 : K = 3
  · subst h3
    rw [if_pos rfl] at HE
    cases dN with
    | true =>
      cases dI with
      | true =>
        cases eB with
        | true =>
          go_enter Tryd.func62, Tryd.ntmps62
          go_wp2_with (go_at_call 61; refine (HV.out _).mono ?_; rintro e w2 ⟨rfl, hb2⟩)
          go_ret
          exact ⟨ret_bool (by rw [HE.out]; simp), below_of (HB.out _) hb2.out⟩
        | false =>
          go_enter Tryd.func62, Tryd.ntmps62
          go_wp2
          go_ret
          exact ⟨ret_bool (by rw [HE.out]; simp), HB.out _⟩
      | false =>
        go_enter Tryd.func62, Tryd.ntmps62
        go_wp2
        go_ret
        exact ⟨ret_bool (by rw [HE.out]; simp), HB.out _⟩
    | false =>
      go_enter Tryd.func62, Tryd.ntmps62
      go_wp2
      go_ret
      exact ⟨ret_bool (by rw [HE.out]; simp), HB.out _⟩
  rw [if_neg h3] at HE
  by_cases h4 : K = 4
  · subst h4
    rw [if_pos rfl] at HE
    cases dN with
    | true =>
      cases dB with
      | true =>
        cases eI with
        | true =>
          go_enter Tryd.func62, Tryd.ntmps62
          go_wp2_with (go_at_call 73; refine (HM.out _).mono ?_; rintro e w2 ⟨rfl, hb2⟩)
          go_ret
          exact ⟨ret_bool (by rw [HE.out]; simp), below_of (HB.out _) hb2.out⟩
        | false =>
          go_enter Tryd.func62, Tryd.ntmps62
          go_wp2
          go_ret
          exact ⟨ret_bool (by rw [HE.out]; simp), HB.out _⟩
      | false =>
        go_enter Tryd.func62, Tryd.ntmps62
        go_wp2
        go_ret
        exact ⟨ret_bool (by rw [HE.out]; simp), HB.out _⟩
    | false =>
      go_enter Tryd.func62, Tryd.ntmps62
      go_wp2
      go_ret
      exact ⟨ret_bool (by rw [HE.out]; simp), HB.out _⟩
  rw [if_neg h4] at HE
  have n1 : (K == 1) = false := beq_eq_false_iff_ne.2 h1
  have n2 : (K == 2) = false := beq_eq_false_iff_ne.2 h2
  have n3 : (K == 3) = false := beq_eq_false_iff_ne.2 h3
  have n4 : (K == 4) = false := beq_eq_false_iff_ne.2 h4
  clear h1 h2 h3 h4
  go_enter Tryd.func62, Tryd.ntmps62
  go_wp2
  go_ret
  exact ⟨ret_bool (by rw [HE.out]), HB.out _⟩

theorem may_any (V : List Nat → Bool) (TB : World → Prop) (hT : Txt V TB) : ∀ m, m ≤ 4 → MayOk V TB m
  | 0, _ => may_zero V TB
  | m + 1, h => may_step V TB hT m (by omega) (may_any V TB hT m (by omega))

set_option maxHeartbeats 1000000 in
theorem check_any (V : List Nat → Bool) (TB : World → Prop) (hT : Txt V TB) (A : Nat → Prop) (w : World) (n : Nat) (x : T) (a1 a2 : Option Addr) (c1 c2 : Nat) (hw : TB w) (hx : Lie A w n a1 x a2) (hcp : (bs x).length ≤ c1) :
    Calls Tryd.prog 47 #[iv x a1 c1 a2 c2] w fun e w' => e = .returned (.int .i64 (if okT V 4 x = true then 0 else 170)) ∧ Hid (Below w.heap.size w w') := by
  have HB : Hid (∀ X : Obj, Below w.heap.size w (w.alloc X)) := fun X => (Below.refl _ w).alloc (Nat.le_refl _) X
  have HM : Hid (∀ X : Obj, Calls Tryd.prog 62 #[iv x a1 c1 a2 c2, .int .i64 4] (w.alloc X) fun e w' => e = .returned (.bool (okT V 4 x)) ∧ Hid (Below (w.alloc X).heap.size (w.alloc X) w')) := fun X => may_any V TB hT 4 (by omega) A _ n x a1 a2 c1 c2 (hT.later _ _ hw (HB.out X)) (hx.later (HB.out X)) hcp
  clear hx hw hT hcp
  cases hq : okT V 4 x with
  | true =>
    rw [hq] at HM
    rw [if_pos rfl]
    go_enter Tryd.func47, Tryd.ntmps47
    go_wp2_with (go_at_call 62; refine (HM.out _).mono ?_; rintro e w2 ⟨rfl, hb2⟩)
    go_ret
    exact ⟨rfl, below_of (HB.out _) hb2.out⟩
  | false =>
    rw [hq] at HM
    rw [if_neg (by simp)]
    go_enter Tryd.func47, Tryd.ntmps47
    go_wp2_with (go_at_call 62; refine (HM.out _).mono ?_; rintro e w2 ⟨rfl, hb2⟩)
    go_ret
    exact ⟨rfl, below_of (HB.out _) hb2.out⟩
end Go.Proofs.YtjfmgokpnpmdpaaDoor
