/- pdu.Encode: bytes that become more, step by step. -/
import Derived.Test.YtfkkaihnmnjadaaPCheck
import Derived.Test.YtfkkaihnmnjadaaPPureB
namespace Go.Proofs.Ytfkkaihnmnjadaa
open Go.RowKit
set_option linter.unusedVariables false
/-- bytes that the call owns, in memory from b on. -/
structure Bd (b : Nat) (w : World) (g n cap : Nat) (l : List Nat) : Prop where
  own : w.ownsRow b 5 1 (.slice (some ⟨g, 0, none⟩) n cap) n (cells l)
  len : l.length = n
  byte : ∀ x ∈ l, x < 256
  base : b ≤ w.heap.size
theorem Bd.row {b : Nat} {w : World} {g n cap : Nat} {l : List Nat} (h : Bd b w g n cap l) : Row w (some ⟨g, 0, none⟩) l := by
  obtain ⟨_, _, hv, h1, h2⟩ := own_form h.own
  cases hv
  exact (own_some h.own h.byte (by have := h.len; omega)).1
theorem Bd.alloc {b : Nat} {w : World} {g n cap : Nat} {l : List Nat} (h : Bd b w g n cap l) (X : Obj) : Bd b (w.alloc X) g n cap l := ⟨h.own.alloc X, h.len, h.byte, by have := h.base; simp; omega⟩
theorem own_of_bs {b : Nat} {w : World} {g : Nat} {l : List Nat} (h : Bs w g l) (hb : b ≤ g) (hw : b ≤ w.heap.size) : Bd b w g l.length l.length l := by
  refine ⟨⟨by rw [cells_length, Nat.mul_one], .inr ⟨g, l.length, _, rfl, hb, h.here, Nat.le_refl _, h.len, ?_, ?_⟩⟩, rfl, h.byte, hw⟩
  · simp [cells_length]
  · exact List.take_of_length_le (by simp [cells_length])
theorem Bd.next {b : Nat} {w w1 w2 : World} {g n cap g2 n2 c2 : Nat} {l m : List Nat} (h : Bd b w g n cap l) (hb : Below w.heap.size w w1) (ho : w2.ownsRow b 5 1 (.slice (some ⟨g2, 0, none⟩) n2 c2) n2 (cells (l ++ m))) (hg : Grew w1 w2 (.slice (some ⟨g, 0, none⟩) n cap) (.slice (some ⟨g2, 0, none⟩) n2 c2)) (hm : ∀ x ∈ m, x < 256) (hn : n + m.length = n2) : Bd b w2 g2 n2 c2 (l ++ m) ∧ Below b w w2 := by
  have hown : w1.ownsRow b 5 1 (.slice (some ⟨g, 0, none⟩) n cap) n (cells l) := (Off.of_below (S := fun _ => False) hb).owns h.own (fun _ _ => id)
  have h0 := h.base
  have h1 := hb.size
  have hbl := hg.below hown (by omega)
  have h2 := hbl.size
  refine ⟨⟨ho, by rw [List.length_append, h.len, hn], ?_, by omega⟩, (hb.mono h0).trans hbl⟩
  intro x hx
  rcases List.mem_append.1 hx with hx | hx
  · exact h.byte x hx
  · exact hm x hx
theorem Bd.later {b : Nat} {w w1 : World} {g n cap : Nat} {l : List Nat} (h : Bd b w g n cap l) (hb : Below w.heap.size w w1) : Bd b w1 g n cap l := ⟨(Off.of_below (S := fun _ => False) hb).owns h.own (fun _ _ => id), h.len, h.byte, by have := h.base; have := hb.size; omega⟩
theorem put16B (b : Nat) (w : World) (g n cap x : Nat) (l : List Nat) (h : Bd b w g n cap l) (hn : n ≤ 100000) (hx : x < 65536) : Calls Try.prog 23 #[.slice (some ⟨g, 0, none⟩) n cap, .int .u16 x] w fun e w' => ∃ g', e = .returned (.slice (some ⟨g', 0, none⟩) (n + 2) (n + 2)) ∧ Hid (Bd b w' g' (n + 2) (n + 2) (l ++ be x 2) ∧ Below b w w') := by
  obtain rfl := h.len
  refine (put16_any (some ⟨g, 0, none⟩) cap l x w h.row (by omega) hx).mono ?_
  rintro e w' ⟨rfl, hb1, hb2⟩
  have hl : (l ++ be x 2).length = l.length + 2 := by rw [List.length_append, be_length]
  have := own_of_bs hb1 h.base (by have := h.base; have := hb2.size; omega)
  rw [hl] at this
  rw [hl]
  exact ⟨_, rfl, this, hb2.mono h.base⟩
theorem put32B (b : Nat) (w : World) (g n cap x : Nat) (l : List Nat) (h : Bd b w g n cap l) (hn : n ≤ 100000) (hx : x < 4294967296) : Calls Try.prog 21 #[.slice (some ⟨g, 0, none⟩) n cap, .int .u32 x] w fun e w' => ∃ g', e = .returned (.slice (some ⟨g', 0, none⟩) (n + 4) (n + 4)) ∧ Hid (Bd b w' g' (n + 4) (n + 4) (l ++ be x 4) ∧ Below b w w') := by
  obtain rfl := h.len
  refine (put32_any (some ⟨g, 0, none⟩) cap l x w h.row (by omega) hx).mono ?_
  rintro e w' ⟨rfl, hb1, hb2⟩
  have hl : (l ++ be x 4).length = l.length + 4 := by rw [List.length_append, be_length]
  have := own_of_bs hb1 h.base (by have := h.base; have := hb2.size; omega)
  rw [hl] at this
  rw [hl]
  exact ⟨_, rfl, this, hb2.mono h.base⟩
theorem first32 (W : World) (k x : Nat) (hk : k < 256) (hx : x < 4294967296) : Calls Try.prog 21 #[.slice (some ⟨W.heap.size, 0, none⟩) 1 1, .int .u32 x] (W.alloc (.cells #[.int .u8 (k : Nat)] 5)) fun e w' => ∃ g', e = .returned (.slice (some ⟨g', 0, none⟩) 5 5) ∧ Hid (Bd W.heap.size w' g' 5 5 (k :: be x 4) ∧ Below W.heap.size W w') := by
  refine (put32_any (some ⟨W.heap.size, 0, none⟩) 1 [k] x _ (row_one k hk) (by simp) hx).mono ?_
  rintro e w' ⟨rfl, hb1, hb2⟩
  have hl : ([k] ++ be x 4).length = 5 := by rw [List.length_append, be_length]; rfl
  have hA : Below W.heap.size W (W.alloc (.cells #[.int .u8 (k : Nat)] 5)) := (Below.refl _ W).alloc (Nat.le_refl _) _
  have hs := hA.size
  have := own_of_bs (b := W.heap.size) hb1 (by omega) (by have := hb2.size; omega)
  rw [hl] at this
  rw [hl]
  exact ⟨_, rfl, this, hA.trans (hb2.mono (by omega))⟩
/-- what Encode answers. -/
def EncY (m : Ms) (w : World) (e : Ending) (w' : World) : Prop := ∃ g c, e = .returned (.tuple #[.slice (some ⟨g, 0, none⟩) (encM m).length c, .int .i64 0]) ∧ Hid (w'.ownsRow w.heap.size 5 1 (.slice (some ⟨g, 0, none⟩) (encM m).length c) (encM m).length (cells (encM m)) ∧ Below w.heap.size w w')
theorem enc_end {m : Ms} {w w1 wz : World} {g n c : Nat} {l : List Nat} (h1 : Below w.heap.size w w1) (h : Bd w1.heap.size wz g n c l ∧ Below w1.heap.size w1 wz) (hl : l = encM m) : EncY m w (.returned (.tuple #[.slice (some ⟨g, 0, none⟩) n c, .int .i64 0])) wz := by
  subst hl
  obtain rfl := h.1.len
  exact ⟨g, c, rfl, own_base h.1.own h1.size, below_of h1 h.2⟩
set_option maxRecDepth 20000 in
set_option maxHeartbeats 4000000 in
theorem enc_no (m : Ms) (a : Option Addr) (c : Nat) (w : World) (hc : Came w m a c) (hok : okM m = false) : Calls Try.prog 9 #[mv m a c] w fun e w' => e = .returned (.tuple #[.slice none 0 0, .int .i64 210]) ∧ Hid (Below w.heap.size w w') := by
  have HB : Hid (∀ (w : World) (X : Obj), Below w.heap.size w (w.alloc X)) := fun w X => (Below.refl _ w).alloc (Nat.le_refl _) X
  have HCK : Hid (∀ X, Calls Try.prog 12 #[mv m a c] (w.alloc X) fun e w' => e = .returned (.int .i64 210) ∧ Hid (Below (w.alloc X).heap.size (w.alloc X) w')) := fun X => by
    have := check_any m a c (w.alloc X) (hc.later (HB.out w X))
    rw [chk_no hok] at this
    exact this
  clear hc hok
  go_enter Try.func9, Try.ntmps9
  go_wp2_with (go_at_call 12; refine (HCK.out _).mono ?_; rintro e w1 ⟨rfl, hb1⟩)
  go_ret2
  exact ⟨rfl, below_of (HB.out _ _) hb1.out⟩
end Go.Proofs.Ytfkkaihnmnjadaa
