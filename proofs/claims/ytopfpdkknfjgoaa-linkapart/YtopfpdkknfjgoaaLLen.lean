/- The walk of link's Len. -/
import Derived.Test.YtopfpdkknfjgoaaLPut
namespace Go.Proofs.Ytopfpdkknfjgoaa
open Go.RowKit
set_option linter.unusedVariables false

theorem count_start {S : List Fl} {left : Lit → Bool} (h : ∀ x ∈ S, left (kF x) = true) : S.countP (fun x => !left (kF x)) = 0 := by
  rw [List.countP_eq_zero]
  intro x hx
  simp [h x hx]
theorem count_end {S : List Fl} {left : Lit → Bool} (h : ∀ k, left k = false) : S.countP (fun x => !left (kF x)) = S.length := by
  rw [List.countP_eq_length]
  intro x _
  simp [h]
theorem count_step {left : Lit → Bool} {kk : Lit} (hl : left kk = true) : ∀ (S : List Fl), S.countP (fun x => !(left (kF x) && !(kF x).sameKey kk)) = S.countP (fun x => !left (kF x)) + (S.filter (fun x => (kF x).sameKey kk)).length
  | [] => rfl
  | x :: r => by
    have ih := count_step hl r
    rw [List.countP_cons, List.countP_cons, ih]
    cases hs : (kF x).sameKey kk
    · rw [List.filter_cons_of_neg (by simp [hs])]
      simp
      omega
    · have e := WideAt.sameKey_eq hs
      rw [List.filter_cons_of_pos (by simp [hs]), e, hl]
      simp
      omega
theorem count_le (S : List Fl) (p : Fl → Bool) : S.countP p ≤ S.length := List.countP_le_length

set_option maxHeartbeats 2000000 in
theorem len_any (w : World) (N : Nat → Prop) (lb mb n : Nat) (L : List Fl) (h : Lk N w lb mb n L) :
    Calls Try.prog 18 #[.pointer (some ⟨lb, 0, none⟩)] w fun e w' => e = .returned (.int .i64 (L.length : Nat)) ∧ Hid (Below w.heap.size w w') := by
  obtain ⟨D, hD, hDX⟩ := h.map
  have c0 : w.cell? ⟨lb, 0, none⟩ = some (.map (some mb)) := by rw [cell_of h.here]; rfl
  have hlen := h.len
  have hmlt := h.mb_lt
  have HX : Hid (∀ v kk, keyOf Try.prog 74 v = some kk → ∃ ad X, D.atKey kk (.held (.slice none 0 0)) = .held (.slice ad X.length X.length) ∧ Maps.has D kk = decide (0 < X.length) ∧ FxAt N w ad X ∧ X.map FX.x = L.filter (fun x => (kF x).sameKey kk)) := hDX
  have HH : Hid (∀ x ∈ L, Maps.has D (kF x) = true) := fun x hx => by
    obtain ⟨ad, X, q1, q2, q3, q4⟩ := hDX _ _ (keyP (h.ok x hx).in1 (h.ok x hx).in2)
    show Maps.has D (kP x.frm x.to) = true
    rw [q2, decide_eq_true_eq]
    have hm : x ∈ X.map FX.x := by rw [q4]; exact List.mem_filter.2 ⟨hx, WideAt.sameKey_self (kP_key _ _)⟩
    have := List.length_pos_of_mem hm
    simpa using this
  clear h hDX
  go_enter Try.func18, Try.ntmps18
  go_wp2_with (first | (at_range; refine wpList_range_own _ rfl _ _ rfl 74 26 lawP Try.underlying62 slR mb n D rfl hD ?_; intro w0 hrg0 hg0 hs0) | go_in)
  go_frame
  go_loopw [3, 13] (fun s _ wr => ∃ (left : Lit → Bool) (cnt k : Nat), k = L.countP (fun x => !left (kF x)) ∧ s = .int .i64 (k : Nat) ∧ wr.ranges Try.prog 74 slR mb w.heap.size n D left cnt ∧ Below w.heap.size w wr) (fun _ _ wr => wr.rangeLeft mb w.heap.size)
  case atStart => exact ⟨_, _, 0, (count_start HH.out).symm, rfl, hrg0, (Below.refl _ w).grown hg0 (Nat.le_refl _) (fun _ e => by cases e)⟩
  case round =>
    obtain ⟨left, cnt, k, hk, rfl, hrg, hnx⟩ := hrel
    have hkl : k ≤ L.length := by rw [hk]; exact count_le _ _
    have HK : Hid (k = L.countP (fun x => !left (kF x))) := hk
    clear hk
    go_wp2_with (first
      | (at_next; refine wpList_next_ranges (α := Value) (β := Option Addr × Nat × Nat) _ rfl _ rfl 74 lawP slR id (fun z => .slice z.1 z.2.1 z.2.2) (fun key _ _ => ⟨key, rfl⟩) slR_inv mb w.heap.size n D _ _ rfl hrg ?_ ?_)
      | go_in)
    · intro hc0 hl0
      go_wp2
      go_ret
      refine ⟨ret_int ?_, hnx⟩
      rw [HK.out, count_end hl0]
    · intro key za zn zc kl y yp w1 cnt1 hkey hlk hy hat hrg1 hlt hg1 hs1 hen
      obtain ⟨ad, X, q1, q2, q3, q4⟩ := HX.out key kl hkey
      have e1 := hat (.held (.slice none 0 0))
      rw [q1] at e1
      rw [slR_mk] at hy
      simp only [Option.some.injEq, Prod.mk.injEq] at hy
      rw [← hy.1] at e1
      simp only [DataW.held.injEq, Value.slice.injEq] at e1
      obtain ⟨_, e2, _⟩ := e1
      have hst := count_step hlk L
      rw [← q4, List.length_map, e2, ← HK.out] at hst
      have hst2 : k + zn ≤ L.length := by rw [← hst]; exact count_le _ _
      have HST : Hid (L.countP (fun x => !(left (kF x) && !(kF x).sameKey kl)) = k + zn) := hst
      have hbx : Below w.heap.size w w1 := hnx.grown hg1 hnx.size (fun j hj => by cases hj; exact Nat.le_refl _)
      clear hst q1 q2 q3 q4 e2 hy hat
      go_wp2
      go_roundw
      case rel => exact ⟨_, cnt1, k + zn, HST.out.symm, by go_num, hrg1, hbx⟩
      case measure => rw [hrg1.left_eq, hrg.left_eq]; exact hlt
end Go.Proofs.Ytopfpdkknfjgoaa
