/- receiver.Block. -/
import Derived.Test.YthmolodkaboakaaVCopy
namespace Go.Proofs.Ythmolodkaboakaa
open Go.RowKit
set_option linter.unusedVariables false
/-- what Block answers. -/
def blockK (s : Tk) : List Nat × Int := if okK s = true then (if wholeK s = true then (s.byt, 0) else ([], 4)) else ([], 250)
set_option maxRecDepth 20000 in
set_option maxHeartbeats 4000000 in
theorem vblock_any (s : Tk) (a : Option Addr) (c : Nat) (g : Option Addr) (d : Nat) (w : World) (hc : CameK w s a c g d) (hl : okK s = true → s.byt.length ≤ 512) :
    Calls Try.prog 23 #[kv s a c g d] w fun e w' => ∃ a' c', e = .returned (.tuple #[.slice a' (blockK s).1.length c', .int .i64 (blockK s).2]) ∧ Hid (Below w.heap.size w w' ∧ w'.ownsRow w.heap.size 5 1 (.slice a' (blockK s).1.length c') (blockK s).1.length (cells (blockK s).1)) := by
  have HB : Hid (Below w.heap.size w (w.alloc (kc s a c g d))) := (Below.refl _ w).alloc (Nat.le_refl _) _
  have HP : Hid ((w.alloc (kc s a c g d)).heap[w.heap.size]? = some (kc s a c g d)) := heap_alloc_new w _
  obtain ⟨cs, hcs⟩ : ∃ cs, Hid (cs = kcells s a c g d) := ⟨_, rfl⟩
  have hsz : Hid ((Try.prog.info? 26).map (·.size) = some cs.length) := by show _ = _; rw [show cs.length = 9 by rw [hcs.out]; rfl]; kernel_rfl
  have HCK : Hid (∀ W, Below w.heap.size w W → Calls Try.prog 25 #[.agg cs.toArray] W fun e w' => e = .returned (.int .i64 (chkK s)) ∧ Hid (Below W.heap.size W w')) := fun W hb => by rw [hcs.out]; exact vcheck_any s a c g d W (hc.later hb)
  have HWH : Hid (∀ W, Below w.heap.size w W → Calls Try.prog 43 #[.agg cs.toArray] W fun e w' => e = .returned (.bool (wholeK s)) ∧ Hid (Below W.heap.size W w')) := fun W hb => by rw [hcs.out]; exact vwhole_any s a c g d W (hc.got.later hb)
  have HR0 : Hid ((w.alloc (kc s a c g d)).rangeAt w.heap.size 0 cs) := by rw [hcs.out]; exact k_range HP.out
  cases hok : okK s with
  | false =>
    have HE : blockK s = ([], 250) := by unfold blockK; rw [if_neg (by simp [hok])]
    rw [HE]
    rw [chkK_no hok] at HCK
    clear hc hok HE hl
    go_enter Try.func23, Try.ntmps23
    go_wp2_with (first | (refine wpList_load_mid rfl 26 _ rfl w.heap.size 0 (by rfl) cs _ HR0.out Try.underlying26 rfl hsz.out ?_) | (go_at_call 25; refine (HCK.out _ HB.out).mono ?_; rintro e w1 ⟨rfl, hb1⟩))
    have HF : Hid (Below w.heap.size w w1 ∧ w1.ownsRow w.heap.size 5 1 (.slice none ([] : List Nat).length 0) ([] : List Nat).length (cells [])) := ⟨below_of HB.out hb1.out, rfl, .inl ⟨rfl, rfl⟩⟩
    go_ret2
    exact ⟨none, 0, rfl, HF⟩
  | true =>
    rw [chkK_ok hok] at HCK
    cases hw : wholeK s with
    | false =>
      have HE : blockK s = ([], 4) := by unfold blockK; rw [if_pos hok, if_neg (by simp [hw])]
      rw [HE]
      rw [hw] at HWH
      clear hc hok hw HE hl
      go_enter Try.func23, Try.ntmps23
      go_wp2_with (first | (refine wpList_load_mid rfl 26 _ rfl w.heap.size 0 (by rfl) cs _ (by first | exact hR1.out | exact HR0.out) Try.underlying26 rfl hsz.out ?_) | (go_at_call 25; refine (HCK.out _ HB.out).mono ?_; rintro e w1 ⟨rfl, hb1⟩; have hR1 : Hid (w1.rangeAt w.heap.size 0 cs) := (by rw [hcs.out]; exact k_range (old_block hb1.out HP.out))) | (go_at_call 43; refine (HWH.out _ (below_of HB.out hb1.out)).mono ?_; rintro e w2 ⟨rfl, hb2⟩))
      have HF : Hid (Below w.heap.size w w2 ∧ w2.ownsRow w.heap.size 5 1 (.slice none ([] : List Nat).length 0) ([] : List Nat).length (cells [])) := ⟨below_of (below_of HB.out hb1.out) hb2.out, rfl, .inl ⟨rfl, rfl⟩⟩
      go_ret2
      exact ⟨none, 0, rfl, HF⟩
    | true =>
      have HE : blockK s = (s.byt, 0) := by unfold blockK; rw [if_pos hok, if_pos hw]
      rw [HE]
      rw [hw] at HWH
      have HCB : Hid (∀ W, Below w.heap.size w W → Calls Try.prog 44 #[.slice a s.byt.length c] W fun e w' => ∃ a' c', e = .returned (.slice a' s.byt.length c') ∧ Hid (Below W.heap.size W w' ∧ w'.ownsRow W.heap.size 5 1 (.slice a' s.byt.length c') s.byt.length (cells s.byt))) := fun W hb => vcopiedB_any W a c s.byt (hc.byt.later hb) (by have := hl hok; omega)
      clear hc hok hw HE hl
      go_enter Try.func23, Try.ntmps23
      go_wp2_with (first | (refine wpList_load_mid rfl 26 _ rfl w.heap.size 0 (by rfl) cs _ (by first | exact hR1.out | exact HR0.out) Try.underlying26 rfl hsz.out ?_) | (go_at_call 25; refine (HCK.out _ HB.out).mono ?_; rintro e w1 ⟨rfl, hb1⟩; have hR1 : Hid (w1.rangeAt w.heap.size 0 cs) := (by rw [hcs.out]; exact k_range (old_block hb1.out HP.out))) | (go_at_call 43; refine (HWH.out _ (below_of HB.out hb1.out)).mono ?_; rintro e w2 ⟨rfl, hb2⟩; have HB2 : Hid (Below w.heap.size w w2) := below_of (below_of HB.out hb1.out) hb2.out; have j3 := (kcells_get (old_block hb2.out (old_block hb1.out HP.out))).2.2.2.1) | (go_at_call 44; refine (HCB.out _ HB2.out).mono ?_; rintro e w3 ⟨a', c', rfl, hq⟩))
      have HF : Hid (Below w.heap.size w w3 ∧ w3.ownsRow w.heap.size 5 1 (.slice a' s.byt.length c') s.byt.length (cells s.byt)) := ⟨below_of HB2.out hq.out.1, own_base hq.out.2 HB2.out.size⟩
      go_ret2
      exact ⟨a', c', rfl, HF⟩
end Go.Proofs.Ythmolodkaboakaa
