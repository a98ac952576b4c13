/- The reference's Right. -/
import Derived.Test.YtlhgjhbbiohcnaaVRef
namespace Go.Proofs.Ytlhgjhbbiohcnaa
open Go.RowKit
set_option linter.unusedVariables false
def leastAt (l : List (Int × Int)) (k : Nat) : Int := if k = 0 then 0 else (l.getD (k - 1) (0, 0)).1 + (l.getD (k - 1) (0, 0)).2 + 1
def numsR (s : Tk) : Bool := !(decide (s.src < 1) || (decide (6 < s.src) || (decide ((s.ses : Int) = 0) || (decide (s.tot < 1) || (decide (512 < s.tot) || (!decide ((s.byt.length : Int) = s.tot) || (decide (s.lif < 1) || (decide (65536 < s.lif) || (decide (s.due < 0) || decide (1114112 < s.due))))))))))
theorem numsR_is (s : Tk) : numsR s = numsK s := by
  unfold numsR numsK inB
  rw [Bool.eq_iff_iff]
  simp only [Bool.not_eq_true', Bool.or_eq_false_iff, decide_eq_false_iff_not, Bool.not_eq_false', Bool.and_eq_true, decide_eq_true_eq]
  omega
set_option maxRecDepth 20000 in
set_option maxHeartbeats 4000000 in
theorem rrightK_no (s : Tk) (a : Option Addr) (c : Nat) (g : Option Addr) (d : Nat) (w : World) (hc : CameK w s a c g d) (hk : numsK s = false) :
    Calls Try.prog 12 #[kv s a c g d] w fun e w' => e = .returned (.bool (okK s)) ∧ Hid (Below w.heap.size w w') := by
  have HC : Hid (CameK w s a c g d) := hc
  have HB : Hid (Below w.heap.size w (w.alloc (kc s a c g d))) := (Below.refl _ w).alloc (Nat.le_refl _) _
  have HP : Hid ((w.alloc (kc s a c g d)).heap[w.heap.size]? = some (kc s a c g d)) := heap_alloc_new w _
  have HN := numsR_is s
  clear hc
  have HF : Hid (okK s = false) := by show _ = _; unfold okK; rw [hk]; rfl
  rw [hk] at HN
  have HNN : Hid (numsR s = false) := HN
  clear HN hk
  cases e1 : ((s.ses : Int) == 0) <;> cases e2 : ((s.byt.length : Int) != s.tot)
  all_goals
    go_enter Try.func12, Try.ntmps12
    go_wp2
    all_goals first
      | (go_ret; exact ⟨ret_bool HF.out.symm, HB.out⟩)
      | (exfalso
         have hn := HNN.out
         clear HNN HF HB HP HC
         unfold numsR at hn
         simp only [Bool.not_eq_false', Bool.or_eq_true, decide_eq_true_eq, Bool.not_eq_true', decide_eq_false_iff_not] at hn
         simp at e1 e2
         omega)
end Go.Proofs.Ytlhgjhbbiohcnaa
