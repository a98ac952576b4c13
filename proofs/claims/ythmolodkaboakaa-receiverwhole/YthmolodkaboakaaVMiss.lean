/- receiver.Missing. -/
import Derived.Test.YthmolodkaboakaaVChk
import Derived.Test.YthmolodkaboakaaVCov
namespace Go.Proofs.Ythmolodkaboakaa
open Go.RowKit
set_option linter.unusedVariables false
/-- what Missing answers. -/
def missK (s : Tk) : Int := if okK s = true then s.tot - sumN s.got else 0
set_option maxRecDepth 20000 in
set_option maxHeartbeats 4000000 in
theorem vmiss_any (s : Tk) (a : Option Addr) (c : Nat) (g : Option Addr) (d : Nat) (w : World) (hc : CameK w s a c g d) (hl : okK s = true → (1 ≤ s.tot ∧ s.tot ≤ 512) ∧ clsOk s.tot 0 s.got = true) :
    Calls Try.prog 24 #[kv s a c g d] w fun e w' => e = .returned (.int .i64 (missK s)) ∧ Hid (Below w.heap.size w w') := by
  have HB : Hid (Below w.heap.size w (w.alloc (kc s a c g d))) := (Below.refl _ w).alloc (Nat.le_refl _) _
  have HP : Hid ((w.alloc (kc s a c g d)).heap[w.heap.size]? = some (kc s a c g d)) := heap_alloc_new w _
  obtain ⟨cs, hcs⟩ : ∃ cs, Hid (cs = kcells s a c g d) := ⟨_, rfl⟩
  have hsz : Hid ((Try.prog.info? 26).map (·.size) = some cs.length) := by show _ = _; rw [show cs.length = 9 by rw [hcs.out]; rfl]; kernel_rfl
  have HCK : Hid (∀ W, Below w.heap.size w W → Calls Try.prog 25 #[.agg cs.toArray] W fun e w' => e = .returned (.int .i64 (chkK s)) ∧ Hid (Below W.heap.size W w')) := fun W hb => by rw [hcs.out]; exact vcheck_any s a c g d W (hc.later hb)
  have HR0 : Hid ((w.alloc (kc s a c g d)).rangeAt w.heap.size 0 cs) := by rw [hcs.out]; exact k_range HP.out
  have HG : Hid (RowC w g s.got) := hc.got
  have hz := hc.zg
  cases hok : okK s with
  | false =>
    have HE : missK s = 0 := by unfold missK; rw [if_neg (by simp [hok])]
    rw [HE]
    rw [chkK_no hok] at HCK
    clear hc hok HE hl hz HG
    go_enter Try.func24, Try.ntmps24
    go_wp2_with (first | (refine wpList_load_mid rfl 26 _ rfl w.heap.size 0 (by rfl) cs _ HR0.out Try.underlying26 rfl hsz.out ?_) | (go_at_call 25; refine (HCK.out _ HB.out).mono ?_; rintro e w1 ⟨rfl, hb1⟩))
    have HF : Hid (Below w.heap.size w w1) := below_of HB.out hb1.out
    go_ret
    exact ⟨rfl, HF⟩
  | true =>
    have HE : Hid (missK s = s.tot - sumN s.got) := by show _ = _; unfold missK; rw [if_pos hok]
    obtain ⟨⟨ht1, ht2⟩, hcl⟩ := hl hok
    have HS : Hid (∀ k, 0 ≤ sumN (s.got.take k) ∧ sumN (s.got.take k) ≤ 512) := fun k => by
      obtain ⟨p, q⟩ := sumN_le (cls_take hcl k)
      refine ⟨p, ?_⟩
      cases hL : s.got.take k with
      | nil => simp [sumN]
      | cons r rs =>
        rw [hL] at q
        rcases q with q | q
        · cases q
        · rw [List.length_cons] at q
          push_cast at q
          omega
    rw [chkK_ok hok] at HCK
    generalize missK s = R at HE ⊢
    clear hc hok hl hcl
    go_enter Try.func24, Try.ntmps24
    go_wp2_with (first | (refine wpList_load_mid rfl 26 _ rfl w.heap.size 0 (by rfl) cs _ HR0.out Try.underlying26 rfl hsz.out ?_) | (go_at_call 25; refine (HCK.out _ HB.out).mono ?_; rintro e w1 ⟨rfl, hb1⟩; have HW1 : Hid (Below w.heap.size w w1) := below_of HB.out hb1.out; have y2 := (kcells_get (old_block hb1.out HP.out)).2.2.1; have y4 := (kcells_get (old_block hb1.out HP.out)).2.2.2.2.1))
    clear y2 y4 HCK HR0 hsz hcs hb1
    go_loopw [3, 14] (fun n i wr => ∃ k : Nat, k ≤ s.got.length ∧ i = .int .i64 k ∧ n = .int .i64 (s.tot - sumN (s.got.take k)) ∧ Hid (Below w.heap.size w wr)) (fun _ i _ => s.got.length - (intOf i).toNat)
    case atStart => exact ⟨0, by omega, rfl, by simp [sumN], HW1.out⟩
    case round =>
      obtain ⟨k, hk, rfl, rfl, HW⟩ := hrel
      by_cases hlt : k < s.got.length
      · obtain ⟨b, off, rfl, hc⟩ := (HG.out.later HW.out).2 (by omega)
        obtain ⟨hc1, hc2⟩ := hc k hlt
        have HT : Hid (sumN (s.got.take (k + 1)) = sumN (s.got.take k) + s.got[k].2) := sumN_take hlt
        have hs1 := HS.out k
        have hs2 := HS.out (k + 1)
        rw [HT.out] at hs2
        clear hc
        generalize s.got[k].1 = x at hc1 HT hs2
        generalize s.got[k].2 = y at hc2 HT hs2
        generalize sumN (s.got.take k) = S at HT hs1 hs2 ⊢
        have HBW : Hid (∀ A, Below w.heap.size w (wr.alloc A)) := fun A => below_of HW.out ((Below.refl _ wr).alloc (Nat.le_refl _) A)
        have hki : (k : Int) < (s.got.length : Int) := by omega
        go_wp2
        go_roundw
        case rel => exact ⟨k + 1, by omega, by go_num, by rw [HT.out]; go_num, HBW.out _⟩
        case measure => simp [intOf]; omega
      · obtain rfl : k = s.got.length := by omega
        have HF : Hid (s.tot - sumN (s.got.take s.got.length) = R) := by show _ = _; rw [HE.out, List.take_length]
        go_wp2
        go_ret
        exact ⟨congrArg (fun x => Ending.returned (.int .i64 x)) HF.out, HW.out⟩
end Go.Proofs.Ythmolodkaboakaa
