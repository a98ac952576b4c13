/- bundle.Size. -/
import Derived.Test.YtjfmgokpnpmdpaaDoorBCopy
namespace Go.Proofs.YtjfmgokpnpmdpaaDoor
open Go.RowKit
set_option linter.unusedVariables false
def sizeB (b : Bn) : Nat := if okB b = true then (encB b).length else 0
set_option maxRecDepth 20000 in
set_option maxHeartbeats 2000000 in
theorem size_any (V : List Nat → Bool) (TB : World → Prop) (hT : Txt V TB) (b : Bn) (w : World) (a : Option Addr) (c : Nat) (hw : TB w) (hb : Came w b a c) :
    Calls Tryd.prog 14 #[bv b a c] w fun e w' => e = .returned (.int .i64 (sizeB b : Nat)) ∧ Hid (Below w.heap.size w w') := by
  have HB : Hid (∀ (w : World) (X : Obj), Below w.heap.size w (w.alloc X)) := fun w X => (Below.refl _ w).alloc (Nat.le_refl _) X
  have HE : Hid (∀ X, Calls Tryd.prog 10 #[bv b a c] (w.alloc X) fun e w' => ∃ a2 c2 E, e = .returned (.tuple #[.slice a2 (sizeB b) c2, .int .i64 E]) ∧ Hid (Below (w.alloc X).heap.size (w.alloc X) w')) := fun X => by
    refine (encode9_any V TB hT b _ a c hb.fit (hT.later _ _ hw (HB.out w X)) (hb.row.later (HB.out w X)) hb.le hb.cap).mono ?_
    rintro e w' (⟨hok, a2, c2, rfl, hq⟩ | ⟨hok, rfl, hq⟩)
    · rw [sizeB, if_pos hok]; exact ⟨a2, c2, 0, rfl, hq.out.2.2.2.2⟩
    · rw [sizeB, if_neg (by rw [hok]; simp)]; exact ⟨none, 0, 190, rfl, hq⟩
  have HES : Hid (Calls Tryd.prog 10 #[bv b a c] w fun e w' => ∃ a2 c2 E, e = .returned (.tuple #[.slice a2 (sizeB b) c2, .int .i64 E]) ∧ Hid (Below w.heap.size w w')) := by
    refine (encode9_any V TB hT b _ a c hb.fit hw hb.row hb.le hb.cap).mono ?_
    rintro e w' (⟨hok, a2, c2, rfl, hq⟩ | ⟨hok, rfl, hq⟩)
    · rw [sizeB, if_pos hok]; exact ⟨a2, c2, 0, rfl, hq.out.2.2.2.2⟩
    · rw [sizeB, if_neg (by rw [hok]; simp)]; exact ⟨none, 0, 190, rfl, hq⟩
  clear hT hw hb
  generalize sizeB b = n at HE HES ⊢
  go_enter Tryd.func14, Tryd.ntmps14
  go_wp2_with fail
  first
  | (refine (HE.out _).mono ?_
     rintro e w1 ⟨a2, c2, E, rfl, hq⟩
     go_wp2
     go_ret
     exact ⟨rfl, below_of (HB.out w _) hq.out⟩)
  | (refine HES.out.mono ?_
     rintro e w1 ⟨a2, c2, E, rfl, hq⟩
     go_wp2
     go_ret
     exact ⟨rfl, hq.out⟩)
end Go.Proofs.YtjfmgokpnpmdpaaDoor
