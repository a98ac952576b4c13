/- The law's own wakes: true. -/
import Derived.Test.YtfocejmfmnijpaaFApply
namespace Go.Proofs.Ytfocejmfmnijpaa
open Go.RowKit

def wakeOps : List OpS := [⟨1, ⟨#[97]⟩, ⟨#[]⟩, 0, [1]⟩, ⟨2, ⟨#[97]⟩, ⟨#[]⟩, 1, [3]⟩]
def wakeFiles : List Fil := [⟨⟨#[97]⟩, [1, 3]⟩]
theorem wake_apply : applyE [] wakeOps = .ok wakeFiles := by kernel_rfl
theorem wake_get : getS wakeFiles ⟨#[97]⟩ = ([1, 3], 0) := by kernel_rfl

theorem row_one {w : World} {g : Nat} {t : TypeId} {x : Nat} (h : w.heap[g]? = some (.cells #[.int .u8 (x : Nat)] t (0, 0))) (hx : x < 256) : Row w (some ⟨g, 0, none⟩) [x] := by
  refine ⟨by intro y hy; simp at hy; omega, by simp [maxLen], fun _ => ⟨g, 0, rfl, fun i hi => ?_⟩⟩
  obtain rfl : i = 0 := by simp at hi; omega
  rw [cell_of h]; rfl

theorem wake_ops (w : World) : OpsAt (((w.alloc (.cells #[.int .u8 1] 5)).alloc (.cells #[.int .u8 3] 5)).alloc (.cells #[.int .i64 1, .string ⟨#[97]⟩, .string ⟨#[]⟩, .int .i64 0, .slice (some ⟨w.heap.size, 0, none⟩) 1 1, .int .i64 2, .string ⟨#[97]⟩, .string ⟨#[]⟩, .int .i64 1, .slice (some ⟨w.heap.size + 1, 0, none⟩) 1 1] 44)) (some ⟨w.heap.size + 1 + 1, 0, none⟩) wakeOps := by
  obtain ⟨W, hW⟩ : ∃ W, W = (((w.alloc (.cells #[.int .u8 1] 5)).alloc (.cells #[.int .u8 3] 5)).alloc (.cells #[.int .i64 1, .string ⟨#[97]⟩, .string ⟨#[]⟩, .int .i64 0, .slice (some ⟨w.heap.size, 0, none⟩) 1 1, .int .i64 2, .string ⟨#[97]⟩, .string ⟨#[]⟩, .int .i64 1, .slice (some ⟨w.heap.size + 1, 0, none⟩) 1 1] 44)) := ⟨_, rfl⟩
  rw [← hW]
  have h0 : W.heap[w.heap.size]? = some (.cells #[.int .u8 ((1 : Nat) : Int)] 5 (0, 0)) := by
    rw [hW, Below.heap_alloc _ _ _ (by simp; omega), Below.heap_alloc _ _ _ (by simp)]; exact heap_alloc_new w _
  have h1 : W.heap[w.heap.size + 1]? = some (.cells #[.int .u8 ((3 : Nat) : Int)] 5 (0, 0)) := by
    rw [hW, Below.heap_alloc _ _ _ (by simp)]
    have := heap_alloc_new (w.alloc (.cells #[.int .u8 1] 5)) (.cells #[.int .u8 3] 5)
    simpa using this
  have h2 : W.heap[w.heap.size + 1 + 1]? = some (.cells #[.int .i64 1, .string ⟨#[97]⟩, .string ⟨#[]⟩, .int .i64 0, .slice (some ⟨w.heap.size, 0, none⟩) 1 1, .int .i64 2, .string ⟨#[97]⟩, .string ⟨#[]⟩, .int .i64 1, .slice (some ⟨w.heap.size + 1, 0, none⟩) 1 1] 44 (0, 0)) := by
    rw [hW]
    have := heap_alloc_new ((w.alloc (.cells #[.int .u8 1] 5)).alloc (.cells #[.int .u8 3] 5)) (.cells #[.int .i64 1, .string ⟨#[97]⟩, .string ⟨#[]⟩, .int .i64 0, .slice (some ⟨w.heap.size, 0, none⟩) 1 1, .int .i64 2, .string ⟨#[97]⟩, .string ⟨#[]⟩, .int .i64 1, .slice (some ⟨w.heap.size + 1, 0, none⟩) 1 1] 44)
    simpa using this
  clear hW
  refine ⟨?_, by simp [wakeOps], fun _ => ⟨w.heap.size + 1 + 1, 0, rfl, fun i hi => ?_⟩⟩
  · intro x hx
    simp only [wakeOps, List.mem_cons, List.not_mem_nil, or_false] at hx
    rcases hx with rfl | rfl <;> refine ⟨?_, ?_, ?_⟩ <;> decide
  · have hi2 : i = 0 ∨ i = 1 := by simp [wakeOps] at hi; omega
    rcases hi2 with rfl | rfl
    · refine ⟨by rw [cell_of h2]; rfl, by rw [cell_of h2]; rfl, by rw [cell_of h2]; rfl, by rw [cell_of h2]; rfl, some ⟨w.heap.size, 0, none⟩, 1, by rw [cell_of h2]; rfl, Nat.le_refl 1, by decide, row_one h0 (by decide)⟩
    · refine ⟨by rw [cell_of h2]; rfl, by rw [cell_of h2]; rfl, by rw [cell_of h2]; rfl, by rw [cell_of h2]; rfl, some ⟨w.heap.size + 1, 0, none⟩, 1, by rw [cell_of h2]; rfl, Nat.le_refl 1, by decide, row_one h1 (by decide)⟩

theorem apply_done {w : World} {a a2 : Option Addr} {c c2 : Nat} {L L' : List Fil} {l : List OpS} (h : ListAt w a L) (ho : OpsAt w a2 l) (hb : costS L ≤ 4611686018427387904) (he : applyE L l = .ok L') :
    Calls Try.prog 9 #[.agg #[.slice a L.length c], .slice a2 l.length c2] w fun e w' => ∃ a' c', e = .returned (.tuple #[.agg #[.slice a' L'.length c'], .int .i64 0]) ∧ Hid (ListAt w' a' L' ∧ L'.length ≤ c' ∧ c' ≤ maxLen ∧ rightB L' = true ∧ Below w.heap.size w w') := by
  refine (apply_any w a a2 c c2 L l h ho hb).mono ?_
  rintro e w' (⟨L2, a', c', h1, h2, h3⟩ | ⟨r, h1, _⟩)
  · rw [he] at h1
    cases h1
    exact ⟨a', c', h2, h3⟩
  · rw [he] at h1
    cases h1
theorem apply_fail {w : World} {a a2 : Option Addr} {c c2 : Nat} {L : List Fil} {l : List OpS} {r : Int} (h : ListAt w a L) (ho : OpsAt w a2 l) (hb : costS L ≤ 4611686018427387904) (he : applyE L l = .error r) :
    Calls Try.prog 9 #[.agg #[.slice a L.length c], .slice a2 l.length c2] w fun e w' => e = .returned (.tuple #[.agg #[.slice none 0 0], .int .i64 r]) ∧ Hid (Below w.heap.size w w') := by
  refine (apply_any w a a2 c c2 L l h ho hb).mono ?_
  rintro e w' (⟨L2, a', c', h1, h2, h3⟩ | ⟨r, h1, h2, h3⟩)
  · rw [he] at h1
    cases h1
  · rw [he] at h1
    cases h1
    exact ⟨h2, h3⟩

theorem list_none (w : World) (a : Option Addr) : ListAt w a [] := ⟨by simp, by simp, fun h => absurd h (by simp)⟩

set_option maxHeartbeats 4000000 in
theorem wakes_any (w : World) : Calls Try.prog 7 #[] w fun e w' => e = .returned (.bool true) ∧ Hid (Below w.heap.size w w') := by
  have HA := apply_done (c := 0) (c2 := 2) (list_none _ none) (wake_ops w) (by decide) wake_apply
  have HA2 : Calls Try.prog 9 #[.agg #[.slice none 0 0], .slice (some ⟨w.heap.size + 1 + 1, 0, none⟩) 2 2] _ fun e w' => ∃ a' c', e = .returned (.tuple #[.agg #[.slice a' 1 c'], .int .i64 0]) ∧ Hid (ListAt w' a' wakeFiles ∧ 1 ≤ c' ∧ c' ≤ maxLen ∧ rightB wakeFiles = true ∧ _) := HA
  have HG : Hid (∀ (w : World) (a : Option Addr) (c : Nat), ListAt w a wakeFiles → Calls Try.prog 25 #[.agg #[.slice a 1 c], .string ⟨#[97]⟩] w fun e w' => ∃ a' c', e = .returned (.tuple #[.slice a' 2 c', .int .i64 0]) ∧ Hid (Fresh w w' a' c' [1, 3] ∧ Below w.heap.size w w')) := fun w a c h => by
    have := get_any w a c wakeFiles h (by decide) ⟨#[97]⟩
    rw [wake_get] at this
    exact this
  clear HA
  go_enter Try.func7, Try.ntmps7
  go_wp2_with (first | (go_at_call 9; refine HA2.mono ?_; rintro e w1 ⟨a', c', rfl, hq⟩) | (go_at_call 25; refine (HG.out _ a' c' (hq.out.1.later ((Below.refl _ _).alloc (Nat.le_refl _) _))).mono ?_; rintro e w2 ⟨a3, c3, rfl, hq2⟩; obtain ⟨g, o, rfl, hcell⟩ := hq2.out.1.row.2.2 (by decide); have d1 := hcell 1 (by decide)))
  go_ret
  have hb1 : Below w.heap.size w w1 := ((((Below.refl _ w).alloc (Nat.le_refl _) _).alloc (by simp) _).alloc (by simp; omega) _).trans (hq.out.2.2.2.2.mono (by simp; omega))
  exact ⟨rfl, (hb1.alloc hb1.size _).trans (hq2.out.2.mono (by have := hb1.size; simp; omega))⟩

end Go.Proofs.Ytfocejmfmnijpaa
