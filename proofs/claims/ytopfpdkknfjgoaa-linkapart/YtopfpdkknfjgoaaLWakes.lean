/- The walk of the law's wakes. -/
import Derived.Test.YtopfpdkknfjgoaaLDel
namespace Go.Proofs.Ytopfpdkknfjgoaa
open Go.RowKit
set_option linter.unusedVariables false

def f1 : Fl := ⟨1, 2, 5, [7]⟩
def No : Nat → Prop := fun _ => False
theorem send1 : sendE [] f1 = 0 ∧ sendL [] f1 = [f1] := sendL_yes (by decide) (by decide)
theorem arr4 : arrN [f1] 1 2 4 = 0 := by decide
theorem arr5 : arrN [f1] 1 2 5 = 1 := by decide
theorem drop1 : dropF (pf 1 2) 0 [f1] = [] := rfl
theorem in1 : In64 1 := ⟨by omega, by omega⟩
theorem in2 : In64 2 := ⟨by omega, by omega⟩
theorem x_one {X : List FX} (h : X.map FX.x = [f1].filter (pf 1 2)) : ∃ y, X = [y] ∧ y.x = f1 := by
  have : [f1].filter (pf 1 2) = [f1] := rfl
  rw [this] at h
  match X, h with
  | [], h => cases h
  | [y], h => exact ⟨y, rfl, by simpa using h⟩
  | _ :: _ :: _, h => simp at h
/-- Deliver of the one flight. -/
theorem del1 (w : World) (lb mb n : Nat) (h : Lk No w lb mb n [f1]) (hn : n < 1000000000) :
    Calls Try.prog 20 #[.pointer (some ⟨lb, 0, none⟩), .int .i64 1, .int .i64 2, .int .i64 5, .int .i64 0] w fun e w' => ∃ b o c, e = .returned (.tuple #[.slice (some ⟨b, o, none⟩) 1 c, .int .i64 0]) ∧ w'.cell? ⟨b, o, none⟩ = some (.int .u8 7) ∧ Hid (Lk No w' lb mb (n + 1) [] ∧ Off (fun k => k = mb) w w') := by
  refine (deliver_raw w No lb mb n [f1] h hn (fun _ hf => hf.elim) 1 2 5 0 in1 in2).mono ?_
  rintro e w' ⟨X, hX, hc⟩
  obtain ⟨y, rfl, hy⟩ := x_one hX
  have hk : arrK [y] 5 [y].length = [0] := by
    have hat : y.x.at_ ≤ 5 := by rw [hy]; decide
    show arrK [y] 5 1 = [0]
    rw [arrK_succ (y := y) rfl, if_pos hat]
    rfl
  rw [hk] at hc
  rcases hc with ⟨i, x, a', c', _, h1, h2, rfl, H⟩ | ⟨h1, _⟩
  · cases h1
    have hx : x = f1 := by
      have : ([f1].filter (pf 1 2))[0]? = some f1 := rfl
      rw [this] at h2; exact (Option.some.inj h2).symm
    subst hx
    obtain ⟨b, o, rfl, hcell⟩ := H.out.1.2.2 (by decide)
    refine ⟨b, o, c', rfl, hcell 0 (by decide), ?_⟩
    have := H.out.2.2
    rw [drop1] at this
    exact this
  · exact absurd ⟨by omega, by decide⟩ h1

set_option maxRecDepth 20000 in
set_option maxHeartbeats 4000000 in
theorem wakes_any (w : World) : Calls Try.prog 9 #[] w fun e w' => e = .returned (.bool true) ∧ Hid (Below w.heap.size w w') := by
  have HN : Hid (Calls Try.prog 10 #[] w fun e w' => ∃ lb, e = .returned (.pointer (some ⟨lb, 0, none⟩)) ∧ Hid (Lk No w' lb w.heap.size 0 [] ∧ Below w.heap.size w w')) := (new_any w).mono (by
    rintro e w' ⟨rfl, rfl⟩
    exact ⟨_, rfl, lk_new w No (fun _ hf => hf.elim), ((Below.refl _ w).alloc (Nat.le_refl _) _).alloc (by simp) _⟩)
  have HS : Hid (∀ (w1 : World) (lb mb : Nat), Lk No w1 lb mb 0 [] → Calls Try.prog 16 #[.pointer (some ⟨lb, 0, none⟩), .agg #[.int .i64 1, .int .i64 2, .int .i64 5, .slice (some ⟨w1.heap.size, 0, none⟩) 1 1]] (w1.alloc (.cells #[.int .u8 7] 5)) fun e w' => e = .returned (.int .i64 0) ∧ Hid (Lk No w' lb mb 1 [f1] ∧ Off (fun k => k = mb) w1 w')) := fun w1 lb mb h => by
    have hb : Below w1.heap.size w1 (w1.alloc (.cells #[.int .u8 7] 5)) := (Below.refl _ w1).alloc (Nat.le_refl _) _
    have := send_any (w1.alloc (.cells #[.int .u8 7] 5)) No lb mb 0 [] (h.later hb) (by omega) (fun _ hf => hf.elim) ⟨f1, some ⟨w1.heap.size, 0, none⟩, 1⟩ (row_one 7 (by omega)) (by show [7].length ≤ _; simp)
    rw [send1.1, send1.2] at this
    exact this.mono (by
      rintro e w' ⟨rfl, H⟩
      exact ⟨rfl, H.out.1, (Off.of_below (S := fun k => k = mb) hb).trans H.out.2 (fun _ _ e => e)⟩)
  have HA4 : Hid (∀ (w1 : World) (lb mb n : Nat), Lk No w1 lb mb n [f1] → Calls Try.prog 23 #[.pointer (some ⟨lb, 0, none⟩), .int .i64 1, .int .i64 2, .int .i64 4] w1 fun e w' => e = .returned (.int .i64 0) ∧ Hid (Below w1.heap.size w1 w')) := fun w1 lb mb n h => by
    have := arrived_any w1 No lb mb n [f1] h 1 2 4 in1 in2
    rw [arr4] at this
    exact this
  have HA5 : Hid (∀ (w1 : World) (lb mb n : Nat), Lk No w1 lb mb n [f1] → Calls Try.prog 23 #[.pointer (some ⟨lb, 0, none⟩), .int .i64 1, .int .i64 2, .int .i64 5] w1 fun e w' => e = .returned (.int .i64 1) ∧ Hid (Below w1.heap.size w1 w')) := fun w1 lb mb n h => by
    have := arrived_any w1 No lb mb n [f1] h 1 2 5 in1 in2
    rw [arr5] at this
    exact this
  go_enter Try.func9, Try.ntmps9
  go_wp2_with (first
    | (go_at_call 10; refine HN.out.mono ?_; rintro e w1 ⟨lb, rfl, H1⟩; have t1 : True := trivial)
    | (go_at_call 16; refine (HS.out w1 lb _ H1.out.1).mono ?_; rintro e w2 ⟨rfl, H2⟩)
    | (have _t := t1; go_at_call 23; refine (HA4.out _ lb _ _ H2.out.1).mono ?_; rintro e w3 ⟨rfl, H3⟩; clear t1)
    | (go_at_call 23; refine (HA5.out _ lb _ _ (H2.out.1.later H3.out)).mono ?_; rintro e w4 ⟨rfl, H4⟩)
    | (go_at_call 20; refine (del1 _ lb _ _ ((H2.out.1.later H3.out).later H4.out) (by omega)).mono ?_; rintro e w5 ⟨b5, o5, c5, rfl, hc5, H5⟩)
    | (go_at_call 18; refine (len_any _ No lb _ _ [] H5.out.1).mono ?_; rintro e w6 ⟨rfl, H6⟩))
  go_ret
  refine ⟨rfl, ?_⟩
  have o1 : Off (fun k => k = w.heap.size) w w1 := Off.of_below H1.out.2
  have o5 := (((o1.trans H2.out.2 (fun _ _ e => e)).trans (Off.of_below (S := fun k => k = w.heap.size) (below_of H3.out H4.out)) (fun _ _ e => e)).trans H5.out.2 (fun _ _ e => e)).trans (Off.of_below (S := fun k => k = w.heap.size) H6.out) (fun _ _ e => e)
  exact o5.below (Nat.le_refl _) (fun i e => by omega)
end Go.Proofs.Ytopfpdkknfjgoaa
