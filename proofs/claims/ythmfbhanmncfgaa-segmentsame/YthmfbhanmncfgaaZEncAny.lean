/- segment.Encode, whichever segment; Size. -/
import Derived.Test.YthmfbhanmncfgaaZEncB
import Derived.Test.YthmfbhanmncfgaaZEncC
import Derived.Test.YthmfbhanmncfgaaZEncD
namespace Go.Proofs.Ythmfbhanmncfgaa
open Go.RowKit
set_option linter.unusedVariables false
set_option maxRecDepth 20000 in
set_option maxHeartbeats 4000000 in
theorem enc_no (s : Sg) (a : Option Addr) (c : Nat) (a2 : Option Addr) (c2 : Nat) (w : World) (hc : Came w s a c a2 c2) (hok : okS s = false) : Calls Try.prog 9 #[sv s a c a2 c2] w fun e w' => e = .returned (.tuple #[.slice none 0 0, .int .i64 200]) ∧ Hid (Below w.heap.size w w') := by
  have HB : Hid (∀ (w : World) (X : Obj), Below w.heap.size w (w.alloc X)) := fun w X => (Below.refl _ w).alloc (Nat.le_refl _) X
  have HCK : Hid (∀ X, Calls Try.prog 11 #[sv s a c a2 c2] (w.alloc X) fun e w' => e = .returned (.int .i64 200) ∧ Hid (Below (w.alloc X).heap.size (w.alloc X) w')) := fun X => by
    have := check_any s a c a2 c2 (w.alloc X) (hc.later (HB.out w X))
    rw [chk_no hok] at this
    exact this
  clear hc hok
  go_enter Try.func9, Try.ntmps9
  go_wp2_with (go_at_call 11; refine (HCK.out _).mono ?_; rintro e w1 ⟨rfl, hb1⟩)
  exact bodyPost_ret (v := .tuple #[.slice none 0 0, .int .i64 200]) (by simp [results, Try.results9, go_sem]) rfl ⟨rfl, below_of (HB.out _ _) hb1.out⟩
theorem encode_ok (s : Sg) (a : Option Addr) (c : Nat) (a2 : Option Addr) (c2 : Nat) (w : World) (hc : Came w s a c a2 c2) (hok : okS s = true) : Calls Try.prog 9 #[sv s a c a2 c2] w fun e w' => EncY s w e w' := by
  obtain ⟨knd, src, ses, ser, cks, off, tot, low, upp, rea, chk, dat, cls⟩ := s
  obtain ⟨⟨h1, h2⟩, h3, h4, h5⟩ := okS_parts hok
  simp only at h1 h2
  obtain ⟨sr, rfl⟩ : ∃ n : Nat, src = (n : Nat) := ⟨src.toNat, by omega⟩
  rcases kinds h4 with ⟨k, hd⟩ | ⟨k, hd⟩ | ⟨k, hd⟩ | ⟨k, hd⟩ | k
  · obtain ⟨d1, d2, d3, d4⟩ := dataS_of hd
    simp only at k d1 d2 d3
    subst k
    obtain ⟨o, rfl⟩ : ∃ n : Nat, off = (n : Nat) := ⟨off.toNat, by omega⟩
    obtain ⟨t, rfl⟩ : ∃ n : Nat, tot = (n : Nat) := ⟨tot.toNat, by omega⟩
    cases chk with
    | true => exact enc_1yes sr ses ser cks 0 0 low upp rea false dat cls a c a2 c2 w o t hc hok
    | false => exact enc_1no sr ses ser cks 0 0 low upp rea false dat cls a c a2 c2 w o t hc hok
  · obtain ⟨d0, d1, d2, d3, d4, d5, d6⟩ := repS_of hd
    simp only at k d2 d3 d4
    subst k
    obtain ⟨o, rfl⟩ : ∃ n : Nat, low = (n : Nat) := ⟨low.toNat, by omega⟩
    obtain ⟨t, rfl⟩ : ∃ n : Nat, upp = (n : Nat) := ⟨upp.toNat, by omega⟩
    exact enc_2 sr ses ser cks off tot 0 0 rea chk dat cls a c a2 c2 w o t hc hok
  · simp only at k
    subst k
    exact enc_3 sr ses ser cks off tot low upp rea chk dat cls a c a2 c2 w hc hok
  · simp only at k hd
    obtain ⟨o, rfl⟩ : ∃ n : Nat, rea = (n : Nat) := ⟨rea.toNat, by omega⟩
    rcases k with rfl | rfl
    · exact enc_4 sr ses ser cks off tot low upp 0 chk dat cls a c a2 c2 w o hc hok
    · exact enc_6 sr ses ser cks off tot low upp 0 chk dat cls a c a2 c2 w o hc hok
  · simp only at k
    rcases k with rfl | rfl
    · exact enc_5 sr ses ser cks off tot low upp rea chk dat cls a c a2 c2 w hc hok
    · exact enc_7 sr ses ser cks off tot low upp rea chk dat cls a c a2 c2 w hc hok
/-- what Encode answers. -/
def EncS (s : Sg) (w : World) (e : Ending) (w' : World) : Prop :=
  (okS s = true ∧ EncY s w e w') ∨ (okS s = false ∧ e = .returned (.tuple #[.slice none 0 0, .int .i64 200]) ∧ Hid (Below w.heap.size w w'))
theorem encode_any (s : Sg) (a : Option Addr) (c : Nat) (a2 : Option Addr) (c2 : Nat) (w : World) (hc : Came w s a c a2 c2) : Calls Try.prog 9 #[sv s a c a2 c2] w fun e w' => EncS s w e w' := by
  cases hok : okS s with
  | true => exact (encode_ok s a c a2 c2 w hc hok).mono (fun e w' h => .inl ⟨hok, h⟩)
  | false => exact (enc_no s a c a2 c2 w hc hok).mono (fun e w' h => .inr ⟨hok, h⟩)
/-- how many bytes. -/
def sizeS (s : Sg) : Nat := if okS s = true then (encS s).length else 0
end Go.Proofs.Ythmfbhanmncfgaa
