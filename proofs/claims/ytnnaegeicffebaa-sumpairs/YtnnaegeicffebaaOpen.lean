/- The walks of sum.open, Open16 and Open32: what they answer of whatever bytes. -/
import Derived.Test.YtnnaegeicffebaaEqual
import Derived.Test.YtnnaegeicffebaaSeal
namespace Go.Proofs.Ytnnaegeicffebaa
open Go.RowKit

theorem Row.take {w : World} {a : Option Addr} {l : List Nat} (h : Row w a l) (n : Nat) : Row w a (l.take n) := by
  obtain ⟨h1, h2, h3⟩ := h
  refine ⟨fun x hx => h1 x (List.mem_of_mem_take hx), Nat.le_trans (List.length_take_le' _ _) h2, fun h0 => ?_⟩
  have hlen : (l.take n).length ≤ l.length := List.length_take_le' _ _
  obtain ⟨b, off, rfl, hc⟩ := h3 (by omega)
  refine ⟨b, off, rfl, fun i hi => ?_⟩
  rw [hc i (by omega), List.getD_eq_getElem?_getD, List.getD_eq_getElem?_getD, List.getElem?_take_of_lt (by rw [List.length_take] at hi; omega)]

theorem take_len (l : List Nat) (k : Nat) : (l.take (l.length - k)).length = l.length - k := by rw [List.length_take]; omega

theorem equal_at (a b : Option Addr) (c d n k : Nat) (l m : List Nat) (hn : l.length = n) (hk : m.length = k) (r : Bool) (he : decide (l = m) = r) (w : World) (hr : Row w a l) (hs : Row w b m) :
    Calls Try.prog 21 #[.slice a n c, .slice b k d] w fun e w' => e = .returned (.bool r) ∧ w' = w := by
  subst hn hk he
  exact equal_any a b c d l m w hr hs

/-- what an opening call answers of bytes l: k: the bytes of a sum; f: how the document seals. -/
def Opened (w : World) (k : Nat) (f : List Nat → List Nat) (l : List Nat) (e : Ending) (w' : World) : Prop :=
  Below w.heap.size w w' ∧
  ((l.length < k ∧ e = .returned (.tuple #[.slice none 0 0, .int .i64 7])) ∨
   (k ≤ l.length ∧ f (l.take (l.length - k)) ≠ l ∧ e = .returned (.tuple #[.slice none 0 0, .int .i64 130])) ∨
   (k ≤ l.length ∧ f (l.take (l.length - k)) = l ∧ ∃ a, e = .returned (.tuple #[.slice a (l.length - k) (l.length - k), .int .i64 0]) ∧ Row w' a (l.take (l.length - k))))

theorem seal16_at (a : Option Addr) (n cap : Nat) (l : List Nat) (hn : l.length = n) (w : World) (hr : Row w a l) (hc : n ≤ cap) (hcm : cap ≤ maxLen) (hz : n ≤ 140737488351232) :
    Calls Try.prog 15 #[.slice a n cap] w (Sealed w (seal16 l)) := by
  subst hn
  exact seal16_any a cap l w hr hc hcm hz

theorem head16 {l : List Nat} (hk : 2 ≤ l.length) : (seal16 (l.take (l.length - 2))).length = l.length := by
  rw [seal16_length, take_len]; omega

set_option maxHeartbeats 1000000 in
theorem openWith16_any (a : Option Addr) (cap : Nat) (l : List Nat) (w : World) (hr : Row w a l) (hc : l.length ≤ cap) (_hcm : cap ≤ maxLen) (hz : l.length ≤ 140737488351234) :
    Calls Try.prog 26 #[.slice a l.length cap, .int .i64 2, .func (.func 15) #[] #[]] w (Opened w 2 seal16 l) := by
  have HR : Hid (Row w a l) := hr
  have hm := hr.2.1
  unfold maxLen at _hcm hm
  clear hr
  by_cases hl : l.length < 2
  · go_enter Try.func26, Try.ntmps26
    go_wp2
    go_ret2
    exact ⟨Below.refl _ _, .inl ⟨hl, rfl⟩⟩
  · have hkl : 2 ≤ l.length := by omega
    clear hl
    go_enter Try.func26, Try.ntmps26
    go_wp2_with fail
    refine (seal16_at _ _ _ (l.take (l.length - 2)) (take_len l 2) _ (HR.out.take _) (Nat.le_refl _) (le_maxLen (by omega)) (by omega)).mono ?_
    rintro e w1 ⟨a1, c1, rfl, h1, h2, r1, hb1⟩
    rw [head16 hkl] at h1 ⊢
    have R1 : Hid (Row w1 a l) := HR.out.later hb1
    have S1 : Hid (Row w1 a1 (seal16 (l.take (l.length - 2)))) := r1
    have B1 : Hid (Below w.heap.size w w1) := hb1
    have C1 : Hid (l.length ≤ c1) := h1
    unfold maxLen at h2
    clear r1 hb1
    by_cases hs : seal16 (l.take (l.length - 2)) = l
    · have HS : Hid (seal16 (l.take (l.length - 2)) = l) := hs
      have HE : Hid (decide (seal16 (l.take (l.length - 2)) = l) = true) := decide_eq_true hs
      clear hs
      go_wp2_with fail
      refine (equal_at _ _ _ _ _ _ (seal16 (l.take (l.length - 2))) l (head16 hkl) rfl true HE.out _ S1.out R1.out).mono ?_
      rintro e w2 ⟨rfl, rfl⟩
      go_wp2
      go_ret2
      refine ⟨B1.out, .inr (.inr ⟨hkl, HS.out, a1, rfl, ?_⟩)⟩
      have h3 : Row w2 a1 l := by rw [← HS.out]; exact S1.out
      exact h3.take _
    · have HS : Hid (seal16 (l.take (l.length - 2)) ≠ l) := hs
      have HE : Hid (decide (seal16 (l.take (l.length - 2)) = l) = false) := decide_eq_false hs
      clear hs
      go_wp2_with fail
      refine (equal_at _ _ _ _ _ _ (seal16 (l.take (l.length - 2))) l (head16 hkl) rfl false HE.out _ S1.out R1.out).mono ?_
      rintro e w2 ⟨rfl, rfl⟩
      go_wp2
      go_ret2
      exact ⟨B1.out, .inr (.inl ⟨hkl, HS.out, rfl⟩)⟩

set_option maxHeartbeats 400000 in
theorem open16_any (a : Option Addr) (cap : Nat) (l : List Nat) (w : World) (hr : Row w a l) (hc : l.length ≤ cap) (hcm : cap ≤ maxLen) (hz : l.length ≤ 140737488351234) :
    Calls Try.prog 18 #[.slice a l.length cap] w (Opened w 2 seal16 l) := by
  have HR : Hid (Row w a l) := hr
  have HM : Hid (cap ≤ maxLen) := hcm
  clear hr hcm
  go_enter Try.func18, Try.ntmps18
  go_wp2_with fail
  refine (openWith16_any _ _ _ _ HR.out hc HM.out hz).mono ?_
  rintro e w1 ⟨hb, ⟨h1, rfl⟩ | ⟨h1, h2, rfl⟩ | ⟨h1, h2, a1, rfl, r1⟩⟩
  · go_wp2
    go_ret2
    exact ⟨hb, .inl ⟨h1, rfl⟩⟩
  · have H2 : Hid (seal16 (l.take (l.length - 2)) ≠ l) := h2
    clear h2
    go_wp2
    go_ret2
    exact ⟨hb, .inr (.inl ⟨h1, H2.out, rfl⟩)⟩
  · have H2 : Hid (seal16 (l.take (l.length - 2)) = l) := h2
    have R1 : Hid (Row w1 a1 (l.take (l.length - 2))) := r1
    clear h2 r1
    go_wp2
    go_ret2
    exact ⟨hb, .inr (.inr ⟨h1, H2.out, a1, rfl, R1.out⟩)⟩

theorem seal32_at (a : Option Addr) (n cap : Nat) (l : List Nat) (hn : l.length = n) (w : World) (hr : Row w a l) (hc : n ≤ cap) (hcm : cap ≤ maxLen) (hz : n ≤ 140737488351232) :
    Calls Try.prog 17 #[.slice a n cap] w (Sealed w (seal32 l)) := by
  subst hn
  exact seal32_any a cap l w hr hc hcm hz

theorem head32 {l : List Nat} (hk : 4 ≤ l.length) : (seal32 (l.take (l.length - 4))).length = l.length := by
  rw [seal32_length, take_len]; omega

set_option maxHeartbeats 1000000 in
theorem openWith32_any (a : Option Addr) (cap : Nat) (l : List Nat) (w : World) (hr : Row w a l) (hc : l.length ≤ cap) (_hcm : cap ≤ maxLen) (hz : l.length ≤ 140737488351236) :
    Calls Try.prog 26 #[.slice a l.length cap, .int .i64 4, .func (.func 17) #[] #[]] w (Opened w 4 seal32 l) := by
  have HR : Hid (Row w a l) := hr
  have hm := hr.2.1
  unfold maxLen at _hcm hm
  clear hr
  by_cases hl : l.length < 4
  · go_enter Try.func26, Try.ntmps26
    go_wp2
    go_ret2
    exact ⟨Below.refl _ _, .inl ⟨hl, rfl⟩⟩
  · have hkl : 4 ≤ l.length := by omega
    clear hl
    go_enter Try.func26, Try.ntmps26
    go_wp2_with fail
    refine (seal32_at _ _ _ (l.take (l.length - 4)) (take_len l 4) _ (HR.out.take _) (Nat.le_refl _) (le_maxLen (by omega)) (by omega)).mono ?_
    rintro e w1 ⟨a1, c1, rfl, h1, h2, r1, hb1⟩
    rw [head32 hkl] at h1 ⊢
    have R1 : Hid (Row w1 a l) := HR.out.later hb1
    have S1 : Hid (Row w1 a1 (seal32 (l.take (l.length - 4)))) := r1
    have B1 : Hid (Below w.heap.size w w1) := hb1
    have C1 : Hid (l.length ≤ c1) := h1
    unfold maxLen at h2
    clear r1 hb1
    by_cases hs : seal32 (l.take (l.length - 4)) = l
    · have HS : Hid (seal32 (l.take (l.length - 4)) = l) := hs
      have HE : Hid (decide (seal32 (l.take (l.length - 4)) = l) = true) := decide_eq_true hs
      clear hs
      go_wp2_with fail
      refine (equal_at _ _ _ _ _ _ (seal32 (l.take (l.length - 4))) l (head32 hkl) rfl true HE.out _ S1.out R1.out).mono ?_
      rintro e w2 ⟨rfl, rfl⟩
      go_wp2
      go_ret2
      refine ⟨B1.out, .inr (.inr ⟨hkl, HS.out, a1, rfl, ?_⟩)⟩
      have h3 : Row w2 a1 l := by rw [← HS.out]; exact S1.out
      exact h3.take _
    · have HS : Hid (seal32 (l.take (l.length - 4)) ≠ l) := hs
      have HE : Hid (decide (seal32 (l.take (l.length - 4)) = l) = false) := decide_eq_false hs
      clear hs
      go_wp2_with fail
      refine (equal_at _ _ _ _ _ _ (seal32 (l.take (l.length - 4))) l (head32 hkl) rfl false HE.out _ S1.out R1.out).mono ?_
      rintro e w2 ⟨rfl, rfl⟩
      go_wp2
      go_ret2
      exact ⟨B1.out, .inr (.inl ⟨hkl, HS.out, rfl⟩)⟩

set_option maxHeartbeats 400000 in
theorem open32_any (a : Option Addr) (cap : Nat) (l : List Nat) (w : World) (hr : Row w a l) (hc : l.length ≤ cap) (hcm : cap ≤ maxLen) (hz : l.length ≤ 140737488351236) :
    Calls Try.prog 19 #[.slice a l.length cap] w (Opened w 4 seal32 l) := by
  have HR : Hid (Row w a l) := hr
  have HM : Hid (cap ≤ maxLen) := hcm
  clear hr hcm
  go_enter Try.func19, Try.ntmps19
  go_wp2_with fail
  refine (openWith32_any _ _ _ _ HR.out hc HM.out hz).mono ?_
  rintro e w1 ⟨hb, ⟨h1, rfl⟩ | ⟨h1, h2, rfl⟩ | ⟨h1, h2, a1, rfl, r1⟩⟩
  · go_wp2
    go_ret2
    exact ⟨hb, .inl ⟨h1, rfl⟩⟩
  · have H2 : Hid (seal32 (l.take (l.length - 4)) ≠ l) := h2
    clear h2
    go_wp2
    go_ret2
    exact ⟨hb, .inr (.inl ⟨h1, H2.out, rfl⟩)⟩
  · have H2 : Hid (seal32 (l.take (l.length - 4)) = l) := h2
    have R1 : Hid (Row w1 a1 (l.take (l.length - 4))) := r1
    clear h2 r1
    go_wp2
    go_ret2
    exact ⟨hb, .inr (.inr ⟨h1, H2.out, a1, rfl, R1.out⟩)⟩
end Go.Proofs.Ytnnaegeicffebaa
