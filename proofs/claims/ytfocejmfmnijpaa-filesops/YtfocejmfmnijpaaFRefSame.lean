/- The walk of the reference's own Same of files that are the same. -/
import Derived.Test.YtfocejmfmnijpaaFRight
namespace Go.Proofs.Ytfocejmfmnijpaa
open Go.RowKit

theorem quiet_drew_add {P : Program} {f : FuncId} {args : Array Value} {w : World} {m n : Nat} {v : Value}
    (h : Calls P f args (w.drewN (m + n)) fun e w' => e = .returned v ∧ ∃ k, w' = (w.drewN (m + n)).drewN k) : Calls P f args (w.drewN (m + n)) fun e w'' => e = .returned v ∧ ∃ k, w'' = w.drewN (m + k) :=
  h.mono fun _ _ ⟨he, k, hm⟩ => ⟨he, n + k, by rw [hm, World.drewN_drewN, Nat.add_assoc]⟩

set_option maxHeartbeats 8000000 in
set_option maxRecDepth 100000 in
theorem rfsame_yes (w : World) (a b : Option Addr) (c d : Nat) (L : List Fil) (h : ListAt w a L) (k2 : ListAt w b L) :
    Calls Try.prog 13 #[.agg #[.slice a L.length c], .agg #[.slice b L.length d]] w fun e w' => e = .returned (.bool true) ∧ Hid (Below w.heap.size w w') := by
  have hm := h.2.1
  obtain ⟨W, hW⟩ : ∃ W, W = (w.alloc (.cells #[.slice a L.length c] 24)).alloc (.cells #[.slice b L.length d] 24) := ⟨_, rfl⟩
  have hbW : Below w.heap.size w W := by rw [hW]; exact ((Below.refl _ w).alloc (Nat.le_refl _) _).alloc (by simp) _
  have d0 : W.cell? ⟨w.heap.size, 0, none⟩ = some (.slice a L.length c) := by
    rw [hW, cell_of (C := #[.slice a L.length c]) (t := 24) (by rw [Below.heap_alloc _ _ _ (by simp)]; exact heap_alloc_new w _)]; rfl
  have d1 : W.cell? ⟨w.heap.size + 1, 0, none⟩ = some (.slice b L.length d) := by
    rw [hW, cell_of (C := #[.slice b L.length d]) (t := 24) (by have := heap_alloc_new (w.alloc (.cells #[.slice a L.length c] 24)) (.cells #[.slice b L.length d] 24); simpa using this)]; rfl
  have HB : Hid (∀ m, Below w.heap.size w (W.drewN m)) := fun m => below_drewN hbW m
  have HL : Hid (ListAt W a L) := h.later hbW
  have HM : Hid (ListAt W b L) := k2.later hbW
  have HD0 : Hid _ := d0
  have HD1 : Hid _ := d1
  clear h k2 hbW d0 d1
  go_enter Try.func13, Try.ntmps13
  go_wp2
  go_loopw [5] (fun i wr => ∃ k : Nat, k ≤ L.length ∧ i = .int .i64 k ∧ ∃ m, wr = W.drewN m) (fun i _ => L.length - (intOf i).toNat)
  case atStart => exact ⟨0, Nat.zero_le _, rfl, 0, hW.symm⟩
  case round =>
    obtain ⟨k, hk, rfl, nd, rfl⟩ := hrel
    have d0 := HD0.out
    have d1 := HD1.out
    clear hW
    by_cases hkl : k < L.length
    · obtain ⟨b1, o1, rfl, hc1⟩ := HL.out.2.2 (by omega)
      obtain ⟨b2, o2, rfl, hc2⟩ := HM.out.2.2 (by omega)
      obtain ⟨f1, a3, c3, f2, _, _, f5⟩ := hc1 k hkl
      obtain ⟨g1, a4, c4, g2, _, _, g5⟩ := hc2 k hkl
      have HQ : Hid (∀ n, Calls Try.prog 15 #[.slice a3 L[k].bytes.length c3, .slice a4 L[k].bytes.length c4] (W.drewN n) fun e w' => e = .returned (.bool true) ∧ ∃ k, w' = (W.drewN n).drewN k) := fun n => by
        have := rsame_any a3 a4 c3 c4 L[k].bytes L[k].bytes (W.drewN n) (f5.later (below_drewN (Below.refl _ _) n)) (g5.later (below_drewN (Below.refl _ _) n))
        rw [decide_eq_true rfl] at this
        exact this
      have hi1 : (k : Int) < (L.length : Int) := by omega
      clear hc1 hc2 f5 g5
      generalize L[k] = x at f1 f2 g1 g2 HQ
      go_wp2
      go_quiet ((go_at_call 15; exact quiet_drew_add (HQ.out _)))
      go_wp2
      go_roundw
      case rel => exact ⟨k + 1, by omega, by go_num, nd + nq, rfl⟩
      case measure => simp [intOf]; omega
    · obtain rfl : k = L.length := by omega
      go_wp2
      go_ret
      exact ⟨rfl, HB.out nd⟩
end Go.Proofs.Ytfocejmfmnijpaa
