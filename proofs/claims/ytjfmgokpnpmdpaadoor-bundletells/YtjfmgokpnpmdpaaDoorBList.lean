/- bundle.listOf. -/
import Derived.Test.YtjfmgokpnpmdpaaDoorBEnc
import Derived.Test.YtjfmgokpnpmdpaaDoorCDecode
namespace Go.Proofs.YtjfmgokpnpmdpaaDoor
open Go.RowKit
set_option linter.unusedVariables false

/-- numbers of kind int lie in memory. -/
def Ints (w : World) (a : Option Addr) (K : List Int) : Prop := ∃ g o, a = some ⟨g, o, none⟩ ∧ ∀ i (h : i < K.length), w.cell? ⟨g, o + i, none⟩ = some (.int .i64 K[i])
theorem Ints.later {w w' : World} {a : Option Addr} {K : List Int} (h : Ints w a K) (hb : Below w.heap.size w w') : Ints w' a K := by
  obtain ⟨g, o, rfl, hc⟩ := h
  exact ⟨g, o, rfl, fun i hi => cell_later hb (hc i hi)⟩
theorem parts_some {V : List Nat → Bool} {l : List Nat} {K : List Int} (h1 : (dec V 4 l).1 = 0) (h2 : (dec V 4 l).2.2.length = 0) (h3 : kd (dec V 4 l).2.1 = 4) (h4 : (its (dec V 4 l).2.1).map kd = K) : partsOf V l K = some (its (dec V 4 l).2.1) := if_pos ⟨h1, h2, h3, h4⟩
theorem parts_none {V : List Nat → Bool} {l : List Nat} {K : List Int} (h : ¬ ((dec V 4 l).1 = 0 ∧ (dec V 4 l).2.2.length = 0 ∧ kd (dec V 4 l).2.1 = 4 ∧ (its (dec V 4 l).2.1).map kd = K)) : partsOf V l K = none := if_neg h
theorem map_eq_of {L : List T} {K : List Int} (h : L.length = K.length) (h2 : ∀ i (h1 : i < L.length) (h2 : i < K.length), kd L[i] = K[i]) : L.map kd = K := by
  apply List.ext_getElem
  · simpa using h
  · intro i h3 h4
    rw [List.getElem_map]
    exact h2 i (by simpa using h3) h4
/-- what listOf answers. -/
def Lst (V : List Nat → Bool) (l : List Nat) (K : List Int) (w : World) (e : Ending) (w' : World) : Prop :=
  (∃ L a2 c2, partsOf V l K = some L ∧ e = .returned (.tuple #[.slice a2 K.length c2, .bool true]) ∧ Hid (L.length = K.length ∧ LieL (fun k => k < w.heap.size) w' 3 a2 L ∧ Below w.heap.size w w')) ∨
  (partsOf V l K = none ∧ e = .returned (.tuple #[.slice none 0 0, .bool false]) ∧ Hid (Below w.heap.size w w'))
theorem lst_yes {V : List Nat → Bool} {l : List Nat} {K : List Int} {w w' : World} {L : List T} {a2 : Option Addr} {c2 : Nat} (h : partsOf V l K = some L) (h1 : L.length = K.length) (h2 : LieL (fun k => k < w.heap.size) w' 3 a2 L) (h3 : Below w.heap.size w w') : Lst V l K w (.returned (.tuple #[.slice a2 K.length c2, .bool true])) w' := .inl ⟨L, a2, c2, h, rfl, h1, h2, h3⟩
theorem lst_no {V : List Nat → Bool} {l : List Nat} {K : List Int} {w w' : World} (h : partsOf V l K = none) (h3 : Below w.heap.size w w') : Lst V l K w (.returned (.tuple #[.slice none 0 0, .bool false])) w' := .inr ⟨h, rfl, h3⟩
set_option maxRecDepth 20000 in
set_option maxHeartbeats 4000000 in
theorem list_any (V : List Nat → Bool) (TB : World → Prop) (hT : Txt V TB) (w : World) (a : Option Addr) (c : Nat) (l : List Nat) (ak : Option Addr) (ck : Nat) (K : List Int) (hw : TB w) (hr : Row w a l) (hz : l.length ≤ 140737488000000) (h1 : 1 < w.heap.size) (hK : Ints w ak K) (hKl : K.length ≤ 64) :
    Calls Tryd.prog 39 #[.slice a l.length c, .slice ak K.length ck] w fun e w' => Lst V l K w e w' := by
  have HB : Hid (∀ (w : World) (X : Obj), Below w.heap.size w (w.alloc X)) := fun w X => (Below.refl _ w).alloc (Nat.le_refl _) X
  have HD : Hid (Calls Tryd.prog 57 #[.slice a l.length c] w fun e w' => Decs l (dec V 4 l) w e w') := decode_any V TB hT _ a c l hw hr hz h1
  have HK : Hid (Ints w ak K) := hK
  have HPS : Hid ((dec V 4 l).1 = 0 → (dec V 4 l).2.2.length = 0 → kd (dec V 4 l).2.1 = 4 → (its (dec V 4 l).2.1).map kd = K → partsOf V l K = some (its (dec V 4 l).2.1)) := parts_some
  have HPN : Hid (¬ ((dec V 4 l).1 = 0 ∧ (dec V 4 l).2.2.length = 0 ∧ kd (dec V 4 l).2.1 = 4 ∧ (its (dec V 4 l).2.1).map kd = K) → partsOf V l K = none) := parts_none
  have hl0 : (dec V 4 l).1 = 0 → (dec V 4 l).2.2.length ≤ l.length ∧ 0 < l.length := by
    intro h
    obtain ⟨E, hE⟩ : ∃ E, dec V 4 l = E := ⟨_, rfl⟩
    obtain ⟨E1, x, s⟩ := E
    rw [hE] at h ⊢
    simp only at h
    subst h
    have := dec_of V 4 l x s hr.1 hE
    refine ⟨by rw [this.1, List.length_append]; simp, ?_⟩
    rcases Nat.eq_zero_or_pos l.length with h0 | h0
    · rw [List.eq_nil_of_length_eq_zero h0] at hE
      simp [dec] at hE
    · exact h0
  generalize dec V 4 l = C at HD HPS HPN hl0
  obtain ⟨R, HR⟩ : ∃ R, Hid (partsOf V l K = R) := ⟨_, rfl⟩
  rw [HR.out] at HPS HPN
  clear hr hw hT hK
  obtain ⟨E, x, rest⟩ := C
  simp only at HD HPS HPN hl0
  have hi0 : (K.length : Int) ≤ 64 := by omega
  by_cases h0 : E = 0
  rotate_left
  · have hne : (E != 0) = true := by simpa using h0
    have HN : Hid (R = none) := HPN.out (fun h => h0 h.1)
    go_enter Tryd.func39, Tryd.ntmps39
    go_wp2_with fail
    refine HD.out.mono ?_
    rintro e w1 (⟨h1, _⟩ | ⟨_, rfl, hq⟩)
    · exact absurd h1 h0
    clear h0
    simp only
    go_wp2
    go_ret2
    exact lst_no (HR.out.trans HN.out) (below_of hq.out (HB.out w1 _))
  · obtain ⟨hr1, hr2⟩ := hl0 h0
    obtain ⟨N, hN⟩ : ∃ N, l.length - rest.length = N := ⟨_, rfl⟩
    have HD2 : Hid (Calls Tryd.prog 57 #[.slice a l.length c] w fun e w' => ∃ a1 c1 a2 c2, e = .returned (.tuple #[iv x a1 c1 a2 c2, .int .i64 (N : Int), .int .i64 0]) ∧ Hid (LieL (fun k => k < w.heap.size) w' 3 a2 (its x) ∧ Below w.heap.size w w')) := by
      refine HD.out.mono ?_
      rintro e w1 (⟨_, a1, c1, a2, c2, rfl, hq⟩ | ⟨h1, _⟩)
      · exact ⟨a1, c1, a2, c2, by rw [← hN], hq.out.1.2.2.2, hq.out.2.2⟩
      · exact absurd h0 h1
    clear HD
    have hNl : N ≤ l.length := by omega
    by_cases hn : N = l.length
    rotate_left
    · have hb : ((N : Int) != (l.length : Int)) = true := by rw [bne_iff_ne]; omega
      have HN : Hid (R = none) := HPN.out (fun h => hn (by have := h.2.1; omega))
      clear hn hN
      go_enter Tryd.func39, Tryd.ntmps39
      go_wp2_with (go_at_call 57; refine HD2.out.mono ?_; rintro e w1 ⟨a1, c1, a2, c2, rfl, hq⟩)
      go_ret2
      exact lst_no (HR.out.trans HN.out) (below_of hq.out.2 (HB.out w1 _))
    have hrl : rest.length = 0 := by omega
    clear hN hNl
    subst hn
    have hb : ((l.length : Int) != (l.length : Int)) = false := by simp
    by_cases hk : kd x = 4
    rotate_left
    · have hb4 : (kd x != 4) = true := by rw [bne_iff_ne]; exact hk
      have HN : Hid (R = none) := HPN.out (fun h => hk h.2.2.1)
      clear hk
      go_enter Tryd.func39, Tryd.ntmps39
      go_wp2_with (go_at_call 57; refine HD2.out.mono ?_; rintro e w1 ⟨a1, c1, a2, c2, rfl, hq⟩)
      go_ret2
      exact lst_no (HR.out.trans HN.out) (below_of hq.out.2 (HB.out w1 _))
    have hb4 : (kd x != 4) = false := by rw [hk]; rfl
    have HPS2 : Hid ((its x).map kd = K → R = some (its x)) := HPS.out h0 hrl hk
    have HPN2 : Hid (¬ (its x).map kd = K → R = none) := fun h => HPN.out (fun h2 => h h2.2.2.2)
    clear HPS HPN h0 hrl hk
    unfold iv at HD2
    generalize kd x = kx at hb4 HD2
    generalize nm x = nx at HD2
    generalize bs x = bx at HD2
    generalize its x = L at HD2 HPS2 HPN2
    by_cases hlen : L.length = K.length
    rotate_left
    · have hb5 : ((L.length : Int) != (K.length : Int)) = true := by rw [bne_iff_ne]; omega
      have HN : Hid (R = none) := HPN2.out (fun h => hlen (by rw [← h]; simp))
      clear hlen
      go_enter Tryd.func39, Tryd.ntmps39
      go_wp2_with (go_at_call 57; refine HD2.out.mono ?_; rintro e w1 ⟨a1, c1, a2, c2, rfl, hq⟩)
      go_ret2
      exact lst_no (HR.out.trans HN.out) (below_of hq.out.2 (HB.out w1 _))
    have HLN : Hid (L.length = K.length) := hlen
    rw [hlen] at HD2
    clear hlen
    have hb5 : ((K.length : Int) != (K.length : Int)) = false := by simp
    go_enter Tryd.func39, Tryd.ntmps39
    go_wp2_with (go_at_call 57; refine HD2.out.mono ?_; rintro e w1 ⟨a1, c1, a2, c2, rfl, hq⟩)
    go_loop [40] (fun i => ∃ k : Nat, k ≤ K.length ∧ i = .int .i64 k ∧ Hid (∀ i (h1 : i < L.length) (h2 : i < K.length), i < k → kd L[i] = K[i])) (fun i => K.length - (intOf i).toNat)
    case atStart => exact ⟨0, Nat.zero_le _, rfl, fun i _ _ h => by omega⟩
    case round =>
      obtain ⟨k, hk, rfl, hall⟩ := hrel
      by_cases hkl : k < K.length
      · have hkL : k < L.length := by rw [HLN.out]; exact hkl
        obtain ⟨g, o, rfl, hc⟩ := HK.out
        have hc1 := cell_later (below_of hq.out.2 (HB.out w1 (.cells #[.int .i64 kx, .int .u64 (nx : Nat), .slice a1 bx.length c1, .slice a2 K.length c2] 52))) (hc k hkl)
        obtain ⟨bb, o1, rfl, _, hc2⟩ := hq.out.1.2 (by omega)
        obtain ⟨q1, d1, q2, d2, ⟨f0, _⟩, _⟩ := hc2 k hkL
        have hc3 := cell_later (HB.out w1 (.cells #[.int .i64 kx, .int .u64 (nx : Nat), .slice a1 bx.length c1, .slice (some ⟨bb, o1, none⟩) K.length c2] 52)) f0
        clear hc hc2 f0
        by_cases hs : kd L[k] = K[k]
        · have HA2 : Hid (∀ i (h1 : i < L.length) (h2 : i < K.length), i < k + 1 → kd L[i] = K[i]) := fun i h1 h2 hi => (Nat.lt_or_ge i k).elim (fun h => hall.out i h1 h2 h) (fun h => (Nat.le_antisymm (Nat.lt_succ_iff.1 hi) h) ▸ hs)
          rw [hs] at hc3
          clear hall hs
          generalize K[k] = y at hc1 hc3
          have hyy : (y != y) = false := by simp
          go_wp2
          go_round
          case rel => exact ⟨k + 1, by omega, by go_num, HA2⟩
          case measure => simp [intOf]; omega
        · have HN : Hid (R = none) := HPN2.out (fun h => hs (by
            have h3 : (L.map kd)[k]'(by simpa using hkL) = K[k] := by simp only [h]
            rw [List.getElem_map] at h3
            exact h3))
          have hyy : (kd L[k] != K[k]) = true := by rw [bne_iff_ne]; exact hs
          clear hall hs
          generalize K[k] = y at hc1 hyy
          generalize kd L[k] = z at hc3 hyy
          go_wp2
          go_ret2
          exact lst_no (HR.out.trans HN.out) (below_of hq.out.2 (HB.out w1 _))
      · have HS : Hid (R = some L) := HPS2.out (map_eq_of HLN.out fun i h1 h2 => hall.out i h1 h2 (by omega))
        clear hall
        go_wp2
        go_ret2
        exact lst_yes (HR.out.trans HS.out) HLN.out (LieL.later hq.out.1 (HB.out w1 _)) (below_of hq.out.2 (HB.out w1 _))
end Go.Proofs.YtjfmgokpnpmdpaaDoor
