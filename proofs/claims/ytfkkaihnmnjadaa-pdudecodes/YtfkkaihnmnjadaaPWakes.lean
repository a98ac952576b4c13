/- the laws' own wakes. -/
import Derived.Test.YtfkkaihnmnjadaaPDec
import Derived.Test.YtfkkaihnmnjadaaPEncAny
namespace Go.Proofs.Ytfkkaihnmnjadaa
open Go.RowKit
set_option linter.unusedVariables false
/-- the message of wakes. -/
def m1 : Ms := ⟨1, 1, ⟨#[97]⟩, 5, 0, 0, 0, []⟩
def l4 : List Nat := [4, 0, 0, 0, 3, 1]
def m4 : Ms := ⟨4, 3, ⟨#[]⟩, 0, 0, 0, 1, []⟩
theorem ok1 : okM m1 = true := by decide
theorem enc1 : encM m1 = [1, 0, 0, 0, 1, 1, 97, 0, 5] := by decide
theorem came1 (w : World) : Came w m1 none 0 := by
  refine ⟨⟨?_, by decide, by decide, ?_, ?_, by decide, ?_, by decide⟩, row_nil _ _, by simp [m1], by simp⟩
  all_goals (unfold in64; decide)
theorem ok4 : okM m4 = true := by decide
theorem enc4 : encM m4 = l4 := by decide
theorem dec4 : decM l4 = (m4, 0) := by rw [← enc4]; exact enc_dec ok4 ⟨by decide, by decide⟩
theorem row_six (W : World) : Row (W.alloc (.cells #[.int .u8 4, .int .u8 0, .int .u8 0, .int .u8 0, .int .u8 3, .int .u8 1] 5)) (some ⟨W.heap.size, 0, none⟩) l4 := by
  refine ⟨by decide, by simp [l4, maxLen], fun _ => ⟨_, _, rfl, fun i hi => ?_⟩⟩
  rw [cell_of (heap_alloc_new W _)]
  have hi : i < 6 := hi
  obtain rfl | rfl | rfl | rfl | rfl | rfl : i = 0 ∨ i = 1 ∨ i = 2 ∨ i = 3 ∨ i = 4 ∨ i = 5 := by omega
  all_goals rfl
set_option maxRecDepth 20000 in
set_option maxHeartbeats 4000000 in
theorem wakes_any (w : World) : Calls Try.prog 8 #[] w fun e w' => e = .returned (.bool true) ∧ Hid (Below w.heap.size w w') := by
  have HB : Hid (∀ (w : World) (X : Obj), Below w.heap.size w (w.alloc X)) := fun w X => (Below.refl _ w).alloc (Nat.le_refl _) X
  have HEN : Hid (∀ W, Calls Try.prog 9 #[mv m1 none 0] W fun e w' => ∃ g c, e = .returned (.tuple #[.slice (some ⟨g, 0, none⟩) 9 c, .int .i64 0]) ∧ Hid (w'.cell? ⟨g, 8, none⟩ = some (.int .u8 5) ∧ Below W.heap.size W w')) := fun W => by
    refine (encode_ok m1 none 0 W (came1 W) ok1).mono ?_
    rintro e w' ⟨g, c, rfl, hq⟩
    rw [enc1] at hq ⊢
    refine ⟨g, c, rfl, ?_, hq.out.2⟩
    obtain ⟨hr, _, _⟩ := own_some hq.out.1 (by decide) (by simp [maxLen])
    obtain ⟨b', o', e, hc⟩ := hr.2.2 (by simp)
    cases e
    exact hc 8 (by simp)
  have HDE : Hid (∀ W : World, Calls Try.prog 15 #[.slice (some ⟨W.heap.size, 0, none⟩) 6 6] (W.alloc (.cells #[.int .u8 4, .int .u8 0, .int .u8 0, .int .u8 0, .int .u8 3, .int .u8 1] 5)) fun e w' => ∃ a c, e = .returned (.tuple #[mv m4 a c, .int .i64 0]) ∧ Hid (Below W.heap.size W w')) := fun W => by
    have := decode_any (W.alloc (.cells #[.int .u8 4, .int .u8 0, .int .u8 0, .int .u8 0, .int .u8 3, .int .u8 1] 5)) (some ⟨W.heap.size, 0, none⟩) 6 l4 (row_six W) (by decide)
    unfold Dec1 at this
    rw [dec4] at this
    exact this.mono (by rintro e w' ⟨a, c, rfl, hq⟩; exact ⟨a, c, rfl, below_of (HB.out W _) hq.out.2.1⟩)
  go_enter Try.func8, Try.ntmps8
  go_wp2_with (first
    | (go_at_call 9; refine (HEN.out _).mono ?_; rintro e w1 ⟨g, c1, rfl, hq1⟩)
    | (go_at_call 15; refine (HDE.out w1).mono ?_; rintro e w2 ⟨a2, c2, rfl, hq2⟩; have kb : ∀ X, (w2.alloc X).cell? ⟨g, 8, none⟩ = some (.int .u8 5) := (fun X => cell_later (below_of hq2.out (HB.out _ _)) hq1.out.1)))
  go_ret
  exact ⟨rfl, below_of (below_of hq1.out.2 hq2.out) (HB.out _ _)⟩
theorem opt_mem {c : Bool} {l : List Nat} {x : Nat} (h : x ∈ opt c l) : x ∈ l := by
  cases c with
  | false => simp [opt] at h
  | true => exact h
theorem enc_byte {m : Ms} (h : okM m = true) (hb : ∀ x ∈ m.bts, x < 256) : ∀ x ∈ encM m, x < 256 := by
  obtain ⟨h1, h2, h3, h4, h5, h6, h7, h8⟩ := okM_is h
  have hk := knd_of h1
  intro x hx
  unfold encM at hx
  rcases List.mem_append.1 hx with hx | hx
  · rcases List.mem_cons.1 hx with rfl | hx
    · omega
    · exact be_byte _ _ x hx
  · rcases List.mem_append.1 hx with hx | hx
    · rcases List.mem_cons.1 (opt_mem hx) with rfl | hx
      · omega
      · exact nbytes_byte _ x hx
    · rcases List.mem_append.1 hx with hx | hx
      · exact be_byte _ _ x (opt_mem hx)
      · rcases List.mem_append.1 hx with hx | hx
        · exact be_byte _ _ x (opt_mem hx)
        · rcases List.mem_append.1 hx with hx | hx
          · exact be_byte _ _ x (opt_mem hx)
          · rcases List.mem_append.1 hx with hx | hx
            · rw [List.mem_singleton.1 (opt_mem hx)]; omega
            · rcases List.mem_append.1 (opt_mem hx) with hx | hx
              · exact be_byte _ _ x hx
              · exact hb x hx
end Go.Proofs.Ytfkkaihnmnjadaa
