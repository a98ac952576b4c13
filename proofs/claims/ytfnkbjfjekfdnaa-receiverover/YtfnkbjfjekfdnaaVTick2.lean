/- receiver.Tick, at the end of a session, and of whatever session. -/
import Derived.Test.YtfnkbjfjekfdnaaVTick
namespace Go.Proofs.Ytfnkbjfjekfdnaa
open Go.RowKit
set_option linter.unusedVariables false
set_option maxRecDepth 20000 in
set_option maxHeartbeats 4000000 in
theorem vtick_o (s : Tk) (a : Option Addr) (c : Nat) (g : Option Addr) (d : Nat) (now : Int) (w : World) (hc : CameK w s a c g d) (hok : okK s = true) (hn : inB now 0 1048576 = true) (hd : s.due ≤ now) (h1 : (s.sta == 1) = false) :
    Calls Try.prog 20 #[kv s a c g d, .int .i64 now] w fun e w' => Ans w w' e ({ s with sta := 4 }, [], 0) := by
  have HBG : Hid (∀ W, Below w.heap.size w W → Calls Try.prog 31 #[kv s a c g d, .int .i64 now] W fun e w' => ∃ a' c' g' d', e = .returned (.tuple #[.agg (tcs s a' c' g' d' (.slice none 0 0)).toArray, .int .i64 0]) ∧ Hid (Below W.heap.size W w' ∧ KN W.heap.size w' s a' c' g' d')) := fun W hb => vbegin_ok s a c g d now W (hc.later hb) hok hn
  have HEN : Hid (EnT w ((w.alloc (kc s a c g d)).alloc (kc zeroK none 0 none 0)) s a c g d) := EnT.start w s a c g d
  have hs9 : (Try.prog.info? 26).map (·.size) = some 9 := by kernel_rfl
  clear hc hok hn
  go_enter Try.func20, Try.ntmps20
  go_wp2_with (go_at_call 31; refine (HBG.out _ HEN.out.bel).mono ?_; rintro e w1 ⟨a', c', g', d', rfl, hq⟩; have HF2 : Hid (FinT w (w1.alloc (tc s a' c' g' d' (.slice none 0 0))) ((w.alloc (kc s a c g d)).alloc (kc zeroK none 0 none 0)).heap.size w1.heap.size s a' c' g' d' (.slice none 0 0) []) := finT_of HEN.out hq.out; obtain ⟨_, _, _, _, _, _, k6, _, k8, _⟩ := tc_get HF2.out.tn.here; have ff := frozen_of HF2.out.tn.here)
  have HFI : Hid (FinT w (w1.alloc (tc { s with sta := 4 } a' c' g' d' (.slice none 0 0))) ((w.alloc (kc s a c g d)).alloc (kc zeroK none 0 none 0)).heap.size w1.heap.size { s with sta := 4 } a' c' g' d' (.slice none 0 0) []) := finT_of (s := { s with sta := 4 }) (a := a) (c := c) (g := g) (d := d) ⟨HEN.out.bel, HEN.out.res⟩ ⟨hq.out.1, ⟨hq.out.2.byt, hq.out.2.got, hq.out.2.bok⟩⟩
  generalize w1.alloc (tc { s with sta := 4 } a' c' g' d' (.slice none 0 0)) = W5 at HFI ⊢
  clear HBG HEN HF2 hq k6 k8 ff
  obtain ⟨cs, hcs⟩ : ∃ cs, Hid (cs = kcells { s with sta := 4 } a' c' g' d') := ⟨_, rfl⟩
  obtain ⟨r1, r2, r3, r4, r5⟩ := HFI.out.stores hcs.out
  obtain ⟨q1, q2⟩ := HFI.out.cell9 cs
  have HR1 : Hid (W5.drew.rangeAt w1.heap.size 0 cs) := r1
  have HR4 : Hid ((W5.drew.setCells (w.heap.size + 1) 0 cs).rangeAt (w.heap.size + 1) 0 cs) := r4
  have HAN : Hid (Ans w (W5.drew.setCells (w.heap.size + 1) 0 cs) (.returned (.tuple #[.agg cs.toArray, (.slice none 0 0), .int .i64 0])) ({ s with sta := 4 }, [], 0)) := r5
  have hl9 : cs.length = 9 := by rw [hcs.out]; rfl
  have hsz1 : (Try.prog.info? 26).map (·.size) = some cs.length := by rw [hl9]; exact hs9
  have hsz2 : (Try.prog.info? 26).map (·.size) = some cs.toArray.size := by rw [show cs.toArray.size = 9 from hl9]; exact hs9
  clear r1 r4 r5
  refine wp_region_any (by kernel_rfl) ?_
  change wpAny _ _ _ _ _ _ _ (World.drew _)
  refine wpAny_ready (rs := [0, 2]) (by kernel_rfl) (by simp) ?_
  refine AllReady.cons rfl (fun K hK => ?_) (AllReady.cons rfl (fun K hK => ?_) AllReady.nil)
  · skip
    go_simp
    refine hK _ _ ?_
    clear hK K
    refine wpAny_ready (rs := [1, 2]) (by kernel_rfl) (by simp) ?_
    refine AllReady.cons rfl (fun K hK => ?_) (AllReady.cons rfl (fun K hK => ?_) AllReady.nil)
    · skip
      refine step_load (by rfl) 26 _ rfl w1.heap.size 0 (by rfl) cs _ HR1.out Try.underlying26 rfl hsz1 ?_
      refine hK _ _ ?_
      clear hK K
      refine wpAny_ready (rs := [2, 4]) (by kernel_rfl) (by simp) ?_
      refine AllReady.cons rfl (fun K hK => ?_) (AllReady.cons rfl (fun K hK => ?_) AllReady.nil)
      · skip
        go_simp
        refine hK _ _ ?_
        clear hK K
        refine wpAny_ready (rs := [3, 4]) (by kernel_rfl) (by simp) ?_
        refine AllReady.cons rfl (fun K hK => ?_) (AllReady.cons rfl (fun K hK => ?_) AllReady.nil)
        · skip
          go_simp
          refine hK _ _ ?_
          clear hK K
          refine wpAny_ready (rs := [4]) (by kernel_rfl) (by simp) ?_
          refine AllReady.cons rfl (fun K hK => ?_) AllReady.nil
          · skip
            refine step_store (by rfl) 26 _ _ rfl (w.heap.size + 1) 0 cs.toArray (by rfl) (by rfl) r2 hsz2 r3 ?_
            refine hK _ _ ?_
            clear hK K
            refine wpAny_ready (rs := [5]) (by kernel_rfl) (by simp) ?_
            refine AllReady.cons rfl (fun K hK => ?_) AllReady.nil
            · skip
              go_simp
              refine hK _ _ ?_
              clear hK K
              refine wpAny_ready (rs := [6]) (by kernel_rfl) (by simp) ?_
              refine AllReady.cons rfl (fun K hK => ?_) AllReady.nil
              · skip
                go_simp
                refine hK _ _ ?_
                clear hK K
                refine wpAny_done (by kernel_rfl) ?_ _
                go_wp2
                exact bodyPost_ret (results_cell3 rfl _ _ (w.heap.size + 1) 0 (by rfl) cs _ HR4.out Try.underlying26 rfl hsz1) rfl (by
                  show Ans w _ (.returned (.tuple #[.agg cs.toArray, (.slice none 0 0), .int .i64 0])) _
                  exact HAN.out)
        · skip
          refine step_store (by rfl) 26 _ _ rfl (w.heap.size + 1) 0 cs.toArray (by rfl) (by rfl) r2 hsz2 r3 ?_
          refine hK _ _ ?_
          clear hK K
          refine wpAny_ready (rs := [3]) (by kernel_rfl) (by simp) ?_
          refine AllReady.cons rfl (fun K hK => ?_) AllReady.nil
          · skip
            go_simp
            refine hK _ _ ?_
            clear hK K
            refine wpAny_ready (rs := [5]) (by kernel_rfl) (by simp) ?_
            refine AllReady.cons rfl (fun K hK => ?_) AllReady.nil
            · skip
              go_simp
              refine hK _ _ ?_
              clear hK K
              refine wpAny_ready (rs := [6]) (by kernel_rfl) (by simp) ?_
              refine AllReady.cons rfl (fun K hK => ?_) AllReady.nil
              · skip
                go_simp
                refine hK _ _ ?_
                clear hK K
                refine wpAny_done (by kernel_rfl) ?_ _
                go_wp2
                exact bodyPost_ret (results_cell3 rfl _ _ (w.heap.size + 1) 0 (by rfl) cs _ HR4.out Try.underlying26 rfl hsz1) rfl (by
                  show Ans w _ (.returned (.tuple #[.agg cs.toArray, (.slice none 0 0), .int .i64 0])) _
                  exact HAN.out)
      · skip
        refine step_store (by rfl) 26 _ _ rfl (w.heap.size + 1) 0 cs.toArray (by rfl) (by rfl) r2 hsz2 r3 ?_
        refine hK _ _ ?_
        clear hK K
        refine wpAny_ready (rs := [2]) (by kernel_rfl) (by simp) ?_
        refine AllReady.cons rfl (fun K hK => ?_) AllReady.nil
        · skip
          go_simp
          refine hK _ _ ?_
          clear hK K
          refine wpAny_ready (rs := [3]) (by kernel_rfl) (by simp) ?_
          refine AllReady.cons rfl (fun K hK => ?_) AllReady.nil
          · skip
            go_simp
            refine hK _ _ ?_
            clear hK K
            refine wpAny_ready (rs := [5]) (by kernel_rfl) (by simp) ?_
            refine AllReady.cons rfl (fun K hK => ?_) AllReady.nil
            · skip
              go_simp
              refine hK _ _ ?_
              clear hK K
              refine wpAny_ready (rs := [6]) (by kernel_rfl) (by simp) ?_
              refine AllReady.cons rfl (fun K hK => ?_) AllReady.nil
              · skip
                go_simp
                refine hK _ _ ?_
                clear hK K
                refine wpAny_done (by kernel_rfl) ?_ _
                go_wp2
                exact bodyPost_ret (results_cell3 rfl _ _ (w.heap.size + 1) 0 (by rfl) cs _ HR4.out Try.underlying26 rfl hsz1) rfl (by
                  show Ans w _ (.returned (.tuple #[.agg cs.toArray, (.slice none 0 0), .int .i64 0])) _
                  exact HAN.out)
    · skip
      go_simp
      refine hK _ _ ?_
      clear hK K
      refine wpAny_ready (rs := [1, 3]) (by kernel_rfl) (by simp) ?_
      refine AllReady.cons rfl (fun K hK => ?_) (AllReady.cons rfl (fun K hK => ?_) AllReady.nil)
      · skip
        refine step_load (by rfl) 26 _ rfl w1.heap.size 0 (by rfl) cs _ HR1.out Try.underlying26 rfl hsz1 ?_
        refine hK _ _ ?_
        clear hK K
        refine wpAny_ready (rs := [3, 4]) (by kernel_rfl) (by simp) ?_
        refine AllReady.cons rfl (fun K hK => ?_) (AllReady.cons rfl (fun K hK => ?_) AllReady.nil)
        · skip
          go_simp
          refine hK _ _ ?_
          clear hK K
          refine wpAny_ready (rs := [4]) (by kernel_rfl) (by simp) ?_
          refine AllReady.cons rfl (fun K hK => ?_) AllReady.nil
          · skip
            refine step_store (by rfl) 26 _ _ rfl (w.heap.size + 1) 0 cs.toArray (by rfl) (by rfl) r2 hsz2 r3 ?_
            refine hK _ _ ?_
            clear hK K
            refine wpAny_ready (rs := [5]) (by kernel_rfl) (by simp) ?_
            refine AllReady.cons rfl (fun K hK => ?_) AllReady.nil
            · skip
              go_simp
              refine hK _ _ ?_
              clear hK K
              refine wpAny_ready (rs := [6]) (by kernel_rfl) (by simp) ?_
              refine AllReady.cons rfl (fun K hK => ?_) AllReady.nil
              · skip
                go_simp
                refine hK _ _ ?_
                clear hK K
                refine wpAny_done (by kernel_rfl) ?_ _
                go_wp2
                exact bodyPost_ret (results_cell3 rfl _ _ (w.heap.size + 1) 0 (by rfl) cs _ HR4.out Try.underlying26 rfl hsz1) rfl (by
                  show Ans w _ (.returned (.tuple #[.agg cs.toArray, (.slice none 0 0), .int .i64 0])) _
                  exact HAN.out)
        · skip
          refine step_store (by rfl) 26 _ _ rfl (w.heap.size + 1) 0 cs.toArray (by rfl) (by rfl) r2 hsz2 r3 ?_
          refine hK _ _ ?_
          clear hK K
          refine wpAny_ready (rs := [3]) (by kernel_rfl) (by simp) ?_
          refine AllReady.cons rfl (fun K hK => ?_) AllReady.nil
          · skip
            go_simp
            refine hK _ _ ?_
            clear hK K
            refine wpAny_ready (rs := [5]) (by kernel_rfl) (by simp) ?_
            refine AllReady.cons rfl (fun K hK => ?_) AllReady.nil
            · skip
              go_simp
              refine hK _ _ ?_
              clear hK K
              refine wpAny_ready (rs := [6]) (by kernel_rfl) (by simp) ?_
              refine AllReady.cons rfl (fun K hK => ?_) AllReady.nil
              · skip
                go_simp
                refine hK _ _ ?_
                clear hK K
                refine wpAny_done (by kernel_rfl) ?_ _
                go_wp2
                exact bodyPost_ret (results_cell3 rfl _ _ (w.heap.size + 1) 0 (by rfl) cs _ HR4.out Try.underlying26 rfl hsz1) rfl (by
                  show Ans w _ (.returned (.tuple #[.agg cs.toArray, (.slice none 0 0), .int .i64 0])) _
                  exact HAN.out)
      · skip
        go_simp
        refine hK _ _ ?_
        clear hK K
        refine wpAny_ready (rs := [1]) (by kernel_rfl) (by simp) ?_
        refine AllReady.cons rfl (fun K hK => ?_) AllReady.nil
        · skip
          refine step_load (by rfl) 26 _ rfl w1.heap.size 0 (by rfl) cs _ HR1.out Try.underlying26 rfl hsz1 ?_
          refine hK _ _ ?_
          clear hK K
          refine wpAny_ready (rs := [4]) (by kernel_rfl) (by simp) ?_
          refine AllReady.cons rfl (fun K hK => ?_) AllReady.nil
          · skip
            refine step_store (by rfl) 26 _ _ rfl (w.heap.size + 1) 0 cs.toArray (by rfl) (by rfl) r2 hsz2 r3 ?_
            refine hK _ _ ?_
            clear hK K
            refine wpAny_ready (rs := [5]) (by kernel_rfl) (by simp) ?_
            refine AllReady.cons rfl (fun K hK => ?_) AllReady.nil
            · skip
              go_simp
              refine hK _ _ ?_
              clear hK K
              refine wpAny_ready (rs := [6]) (by kernel_rfl) (by simp) ?_
              refine AllReady.cons rfl (fun K hK => ?_) AllReady.nil
              · skip
                go_simp
                refine hK _ _ ?_
                clear hK K
                refine wpAny_done (by kernel_rfl) ?_ _
                go_wp2
                exact bodyPost_ret (results_cell3 rfl _ _ (w.heap.size + 1) 0 (by rfl) cs _ HR4.out Try.underlying26 rfl hsz1) rfl (by
                  show Ans w _ (.returned (.tuple #[.agg cs.toArray, (.slice none 0 0), .int .i64 0])) _
                  exact HAN.out)
  · skip
    go_simp
    refine hK _ _ ?_
    clear hK K
    refine wpAny_ready (rs := [0, 3]) (by kernel_rfl) (by simp) ?_
    refine AllReady.cons rfl (fun K hK => ?_) (AllReady.cons rfl (fun K hK => ?_) AllReady.nil)
    · skip
      go_simp
      refine hK _ _ ?_
      clear hK K
      refine wpAny_ready (rs := [1, 3]) (by kernel_rfl) (by simp) ?_
      refine AllReady.cons rfl (fun K hK => ?_) (AllReady.cons rfl (fun K hK => ?_) AllReady.nil)
      · skip
        refine step_load (by rfl) 26 _ rfl w1.heap.size 0 (by rfl) cs _ HR1.out Try.underlying26 rfl hsz1 ?_
        refine hK _ _ ?_
        clear hK K
        refine wpAny_ready (rs := [3, 4]) (by kernel_rfl) (by simp) ?_
        refine AllReady.cons rfl (fun K hK => ?_) (AllReady.cons rfl (fun K hK => ?_) AllReady.nil)
        · skip
          go_simp
          refine hK _ _ ?_
          clear hK K
          refine wpAny_ready (rs := [4]) (by kernel_rfl) (by simp) ?_
          refine AllReady.cons rfl (fun K hK => ?_) AllReady.nil
          · skip
            refine step_store (by rfl) 26 _ _ rfl (w.heap.size + 1) 0 cs.toArray (by rfl) (by rfl) r2 hsz2 r3 ?_
            refine hK _ _ ?_
            clear hK K
            refine wpAny_ready (rs := [5]) (by kernel_rfl) (by simp) ?_
            refine AllReady.cons rfl (fun K hK => ?_) AllReady.nil
            · skip
              go_simp
              refine hK _ _ ?_
              clear hK K
              refine wpAny_ready (rs := [6]) (by kernel_rfl) (by simp) ?_
              refine AllReady.cons rfl (fun K hK => ?_) AllReady.nil
              · skip
                go_simp
                refine hK _ _ ?_
                clear hK K
                refine wpAny_done (by kernel_rfl) ?_ _
                go_wp2
                exact bodyPost_ret (results_cell3 rfl _ _ (w.heap.size + 1) 0 (by rfl) cs _ HR4.out Try.underlying26 rfl hsz1) rfl (by
                  show Ans w _ (.returned (.tuple #[.agg cs.toArray, (.slice none 0 0), .int .i64 0])) _
                  exact HAN.out)
        · skip
          refine step_store (by rfl) 26 _ _ rfl (w.heap.size + 1) 0 cs.toArray (by rfl) (by rfl) r2 hsz2 r3 ?_
          refine hK _ _ ?_
          clear hK K
          refine wpAny_ready (rs := [3]) (by kernel_rfl) (by simp) ?_
          refine AllReady.cons rfl (fun K hK => ?_) AllReady.nil
          · skip
            go_simp
            refine hK _ _ ?_
            clear hK K
            refine wpAny_ready (rs := [5]) (by kernel_rfl) (by simp) ?_
            refine AllReady.cons rfl (fun K hK => ?_) AllReady.nil
            · skip
              go_simp
              refine hK _ _ ?_
              clear hK K
              refine wpAny_ready (rs := [6]) (by kernel_rfl) (by simp) ?_
              refine AllReady.cons rfl (fun K hK => ?_) AllReady.nil
              · skip
                go_simp
                refine hK _ _ ?_
                clear hK K
                refine wpAny_done (by kernel_rfl) ?_ _
                go_wp2
                exact bodyPost_ret (results_cell3 rfl _ _ (w.heap.size + 1) 0 (by rfl) cs _ HR4.out Try.underlying26 rfl hsz1) rfl (by
                  show Ans w _ (.returned (.tuple #[.agg cs.toArray, (.slice none 0 0), .int .i64 0])) _
                  exact HAN.out)
      · skip
        go_simp
        refine hK _ _ ?_
        clear hK K
        refine wpAny_ready (rs := [1]) (by kernel_rfl) (by simp) ?_
        refine AllReady.cons rfl (fun K hK => ?_) AllReady.nil
        · skip
          refine step_load (by rfl) 26 _ rfl w1.heap.size 0 (by rfl) cs _ HR1.out Try.underlying26 rfl hsz1 ?_
          refine hK _ _ ?_
          clear hK K
          refine wpAny_ready (rs := [4]) (by kernel_rfl) (by simp) ?_
          refine AllReady.cons rfl (fun K hK => ?_) AllReady.nil
          · skip
            refine step_store (by rfl) 26 _ _ rfl (w.heap.size + 1) 0 cs.toArray (by rfl) (by rfl) r2 hsz2 r3 ?_
            refine hK _ _ ?_
            clear hK K
            refine wpAny_ready (rs := [5]) (by kernel_rfl) (by simp) ?_
            refine AllReady.cons rfl (fun K hK => ?_) AllReady.nil
            · skip
              go_simp
              refine hK _ _ ?_
              clear hK K
              refine wpAny_ready (rs := [6]) (by kernel_rfl) (by simp) ?_
              refine AllReady.cons rfl (fun K hK => ?_) AllReady.nil
              · skip
                go_simp
                refine hK _ _ ?_
                clear hK K
                refine wpAny_done (by kernel_rfl) ?_ _
                go_wp2
                exact bodyPost_ret (results_cell3 rfl _ _ (w.heap.size + 1) 0 (by rfl) cs _ HR4.out Try.underlying26 rfl hsz1) rfl (by
                  show Ans w _ (.returned (.tuple #[.agg cs.toArray, (.slice none 0 0), .int .i64 0])) _
                  exact HAN.out)
    · skip
      go_simp
      refine hK _ _ ?_
      clear hK K
      refine wpAny_ready (rs := [0]) (by kernel_rfl) (by simp) ?_
      refine AllReady.cons rfl (fun K hK => ?_) AllReady.nil
      · skip
        go_simp
        refine hK _ _ ?_
        clear hK K
        refine wpAny_ready (rs := [1]) (by kernel_rfl) (by simp) ?_
        refine AllReady.cons rfl (fun K hK => ?_) AllReady.nil
        · skip
          refine step_load (by rfl) 26 _ rfl w1.heap.size 0 (by rfl) cs _ HR1.out Try.underlying26 rfl hsz1 ?_
          refine hK _ _ ?_
          clear hK K
          refine wpAny_ready (rs := [4]) (by kernel_rfl) (by simp) ?_
          refine AllReady.cons rfl (fun K hK => ?_) AllReady.nil
          · skip
            refine step_store (by rfl) 26 _ _ rfl (w.heap.size + 1) 0 cs.toArray (by rfl) (by rfl) r2 hsz2 r3 ?_
            refine hK _ _ ?_
            clear hK K
            refine wpAny_ready (rs := [5]) (by kernel_rfl) (by simp) ?_
            refine AllReady.cons rfl (fun K hK => ?_) AllReady.nil
            · skip
              go_simp
              refine hK _ _ ?_
              clear hK K
              refine wpAny_ready (rs := [6]) (by kernel_rfl) (by simp) ?_
              refine AllReady.cons rfl (fun K hK => ?_) AllReady.nil
              · skip
                go_simp
                refine hK _ _ ?_
                clear hK K
                refine wpAny_done (by kernel_rfl) ?_ _
                go_wp2
                exact bodyPost_ret (results_cell3 rfl _ _ (w.heap.size + 1) 0 (by rfl) cs _ HR4.out Try.underlying26 rfl hsz1) rfl (by
                  show Ans w _ (.returned (.tuple #[.agg cs.toArray, (.slice none 0 0), .int .i64 0])) _
                  exact HAN.out)
set_option maxRecDepth 20000 in
set_option maxHeartbeats 4000000 in
theorem vtick_s (s : Tk) (a : Option Addr) (c : Nat) (g : Option Addr) (d : Nat) (now : Int) (w : World) (hc : CameK w s a c g d) (hok : okK s = true) (hn : inB now 0 1048576 = true) (hd : s.due ≤ now) (h1 : (s.sta == 1) = true) :
    Calls Try.prog 20 #[kv s a c g d, .int .i64 now] w fun e w' => Ans w w' e ({ s with sta := 4 }, [⟨6, s.src, s.ses, 0, 0, 0, 0, 0, 0, 4, false, [], []⟩], 0) := by
  have HBG : Hid (∀ W, Below w.heap.size w W → Calls Try.prog 31 #[kv s a c g d, .int .i64 now] W fun e w' => ∃ a' c' g' d', e = .returned (.tuple #[.agg (tcs s a' c' g' d' (.slice none 0 0)).toArray, .int .i64 0]) ∧ Hid (Below W.heap.size W w' ∧ KN W.heap.size w' s a' c' g' d')) := fun W hb => vbegin_ok s a c g d now W (hc.later hb) hok hn
  have HEN : Hid (EnT w ((w.alloc (kc s a c g d)).alloc (kc zeroK none 0 none 0)) s a c g d) := EnT.start w s a c g d
  have hs9 : (Try.prog.info? 26).map (·.size) = some 9 := by kernel_rfl
  clear hc hok hn
  go_enter Try.func20, Try.ntmps20
  go_wp2_with (first | (go_at_call 31; refine (HBG.out _ HEN.out.bel).mono ?_; rintro e w1 ⟨a', c', g', d', rfl, hq⟩; have HF2 : Hid (FinT w (w1.alloc (tc s a' c' g' d' (.slice none 0 0))) ((w.alloc (kc s a c g d)).alloc (kc zeroK none 0 none 0)).heap.size w1.heap.size s a' c' g' d' (.slice none 0 0) []) := finT_of HEN.out hq.out; obtain ⟨_, _, _, _, _, _, k6, _, k8, _⟩ := tc_get HF2.out.tn.here; have ff := frozen_of HF2.out.tn.here) | (go_at_call 40; refine (vstop_any s a' c' g' d' w1.heap.size 4 _ HF2.out.tn.here).mono ?_; rintro e w5 ⟨rfl, hs5⟩; obtain ⟨v5, hv5⟩ := HF2.out.said hs5.out rfl rfl; have HF5 : Hid (FinT w w5 ((w.alloc (kc s a c g d)).alloc (kc zeroK none 0 none 0)).heap.size w1.heap.size s a' c' g' d' v5 [⟨6, s.src, s.ses, 0, 0, 0, 0, 0, 0, 4, false, [], []⟩]) := hv5; clear hv5; have j6 := (tc_get HF5.out.tn.here).2.2.2.2.2.2.1; have f5 := frozen_of HF5.out.tn.here))
  have HFI : Hid (FinT w (w5.setCell ⟨w1.heap.size, 6, none⟩ (.int .i64 4)) ((w.alloc (kc s a c g d)).alloc (kc zeroK none 0 none 0)).heap.size w1.heap.size { s with sta := 4 } a' c' g' d' v5 [⟨6, s.src, s.ses, 0, 0, 0, 0, 0, 0, 4, false, [], []⟩]) := HF5.out.sta (by simp) 4
  generalize w5.setCell ⟨w1.heap.size, 6, none⟩ (.int .i64 4) = W5 at HFI ⊢
  clear HBG HEN HF2 HF5 hs5 hq k6 k8 ff j6 f5
  obtain ⟨cs, hcs⟩ : ∃ cs, Hid (cs = kcells { s with sta := 4 } a' c' g' d') := ⟨_, rfl⟩
  obtain ⟨r1, r2, r3, r4, r5⟩ := HFI.out.stores hcs.out
  obtain ⟨q1, q2⟩ := HFI.out.cell9 cs
  have HR1 : Hid (W5.drew.rangeAt w1.heap.size 0 cs) := r1
  have HR4 : Hid ((W5.drew.setCells (w.heap.size + 1) 0 cs).rangeAt (w.heap.size + 1) 0 cs) := r4
  have HAN : Hid (Ans w (W5.drew.setCells (w.heap.size + 1) 0 cs) (.returned (.tuple #[.agg cs.toArray, v5, .int .i64 0])) ({ s with sta := 4 }, [⟨6, s.src, s.ses, 0, 0, 0, 0, 0, 0, 4, false, [], []⟩], 0)) := r5
  have hl9 : cs.length = 9 := by rw [hcs.out]; rfl
  have hsz1 : (Try.prog.info? 26).map (·.size) = some cs.length := by rw [hl9]; exact hs9
  have hsz2 : (Try.prog.info? 26).map (·.size) = some cs.toArray.size := by rw [show cs.toArray.size = 9 from hl9]; exact hs9
  clear r1 r4 r5
  refine wp_region_any (by kernel_rfl) ?_
  change wpAny _ _ _ _ _ _ _ (World.drew _)
  refine wpAny_ready (rs := [0, 2]) (by kernel_rfl) (by simp) ?_
  refine AllReady.cons rfl (fun K hK => ?_) (AllReady.cons rfl (fun K hK => ?_) AllReady.nil)
  · skip
    go_simp
    refine hK _ _ ?_
    clear hK K
    refine wpAny_ready (rs := [1, 2]) (by kernel_rfl) (by simp) ?_
    refine AllReady.cons rfl (fun K hK => ?_) (AllReady.cons rfl (fun K hK => ?_) AllReady.nil)
    · skip
      refine step_load (by rfl) 26 _ rfl w1.heap.size 0 (by rfl) cs _ HR1.out Try.underlying26 rfl hsz1 ?_
      refine hK _ _ ?_
      clear hK K
      refine wpAny_ready (rs := [2, 4]) (by kernel_rfl) (by simp) ?_
      refine AllReady.cons rfl (fun K hK => ?_) (AllReady.cons rfl (fun K hK => ?_) AllReady.nil)
      · skip
        go_simp
        refine hK _ _ ?_
        clear hK K
        refine wpAny_ready (rs := [3, 4]) (by kernel_rfl) (by simp) ?_
        refine AllReady.cons rfl (fun K hK => ?_) (AllReady.cons rfl (fun K hK => ?_) AllReady.nil)
        · skip
          go_simp
          refine hK _ _ ?_
          clear hK K
          refine wpAny_ready (rs := [4]) (by kernel_rfl) (by simp) ?_
          refine AllReady.cons rfl (fun K hK => ?_) AllReady.nil
          · skip
            refine step_store (by rfl) 26 _ _ rfl (w.heap.size + 1) 0 cs.toArray (by rfl) (by rfl) r2 hsz2 r3 ?_
            refine hK _ _ ?_
            clear hK K
            refine wpAny_ready (rs := [5]) (by kernel_rfl) (by simp) ?_
            refine AllReady.cons rfl (fun K hK => ?_) AllReady.nil
            · skip
              go_simp
              refine hK _ _ ?_
              clear hK K
              refine wpAny_ready (rs := [6]) (by kernel_rfl) (by simp) ?_
              refine AllReady.cons rfl (fun K hK => ?_) AllReady.nil
              · skip
                go_simp
                refine hK _ _ ?_
                clear hK K
                refine wpAny_done (by kernel_rfl) ?_ _
                go_wp2
                exact bodyPost_ret (results_cell3 rfl _ _ (w.heap.size + 1) 0 (by rfl) cs _ HR4.out Try.underlying26 rfl hsz1) rfl (by
                  show Ans w _ (.returned (.tuple #[.agg cs.toArray, v5, .int .i64 0])) _
                  exact HAN.out)
        · skip
          refine step_store (by rfl) 26 _ _ rfl (w.heap.size + 1) 0 cs.toArray (by rfl) (by rfl) r2 hsz2 r3 ?_
          refine hK _ _ ?_
          clear hK K
          refine wpAny_ready (rs := [3]) (by kernel_rfl) (by simp) ?_
          refine AllReady.cons rfl (fun K hK => ?_) AllReady.nil
          · skip
            go_simp
            refine hK _ _ ?_
            clear hK K
            refine wpAny_ready (rs := [5]) (by kernel_rfl) (by simp) ?_
            refine AllReady.cons rfl (fun K hK => ?_) AllReady.nil
            · skip
              go_simp
              refine hK _ _ ?_
              clear hK K
              refine wpAny_ready (rs := [6]) (by kernel_rfl) (by simp) ?_
              refine AllReady.cons rfl (fun K hK => ?_) AllReady.nil
              · skip
                go_simp
                refine hK _ _ ?_
                clear hK K
                refine wpAny_done (by kernel_rfl) ?_ _
                go_wp2
                exact bodyPost_ret (results_cell3 rfl _ _ (w.heap.size + 1) 0 (by rfl) cs _ HR4.out Try.underlying26 rfl hsz1) rfl (by
                  show Ans w _ (.returned (.tuple #[.agg cs.toArray, v5, .int .i64 0])) _
                  exact HAN.out)
      · skip
        refine step_store (by rfl) 26 _ _ rfl (w.heap.size + 1) 0 cs.toArray (by rfl) (by rfl) r2 hsz2 r3 ?_
        refine hK _ _ ?_
        clear hK K
        refine wpAny_ready (rs := [2]) (by kernel_rfl) (by simp) ?_
        refine AllReady.cons rfl (fun K hK => ?_) AllReady.nil
        · skip
          go_simp
          refine hK _ _ ?_
          clear hK K
          refine wpAny_ready (rs := [3]) (by kernel_rfl) (by simp) ?_
          refine AllReady.cons rfl (fun K hK => ?_) AllReady.nil
          · skip
            go_simp
            refine hK _ _ ?_
            clear hK K
            refine wpAny_ready (rs := [5]) (by kernel_rfl) (by simp) ?_
            refine AllReady.cons rfl (fun K hK => ?_) AllReady.nil
            · skip
              go_simp
              refine hK _ _ ?_
              clear hK K
              refine wpAny_ready (rs := [6]) (by kernel_rfl) (by simp) ?_
              refine AllReady.cons rfl (fun K hK => ?_) AllReady.nil
              · skip
                go_simp
                refine hK _ _ ?_
                clear hK K
                refine wpAny_done (by kernel_rfl) ?_ _
                go_wp2
                exact bodyPost_ret (results_cell3 rfl _ _ (w.heap.size + 1) 0 (by rfl) cs _ HR4.out Try.underlying26 rfl hsz1) rfl (by
                  show Ans w _ (.returned (.tuple #[.agg cs.toArray, v5, .int .i64 0])) _
                  exact HAN.out)
    · skip
      go_simp
      refine hK _ _ ?_
      clear hK K
      refine wpAny_ready (rs := [1, 3]) (by kernel_rfl) (by simp) ?_
      refine AllReady.cons rfl (fun K hK => ?_) (AllReady.cons rfl (fun K hK => ?_) AllReady.nil)
      · skip
        refine step_load (by rfl) 26 _ rfl w1.heap.size 0 (by rfl) cs _ HR1.out Try.underlying26 rfl hsz1 ?_
        refine hK _ _ ?_
        clear hK K
        refine wpAny_ready (rs := [3, 4]) (by kernel_rfl) (by simp) ?_
        refine AllReady.cons rfl (fun K hK => ?_) (AllReady.cons rfl (fun K hK => ?_) AllReady.nil)
        · skip
          go_simp
          refine hK _ _ ?_
          clear hK K
          refine wpAny_ready (rs := [4]) (by kernel_rfl) (by simp) ?_
          refine AllReady.cons rfl (fun K hK => ?_) AllReady.nil
          · skip
            refine step_store (by rfl) 26 _ _ rfl (w.heap.size + 1) 0 cs.toArray (by rfl) (by rfl) r2 hsz2 r3 ?_
            refine hK _ _ ?_
            clear hK K
            refine wpAny_ready (rs := [5]) (by kernel_rfl) (by simp) ?_
            refine AllReady.cons rfl (fun K hK => ?_) AllReady.nil
            · skip
              go_simp
              refine hK _ _ ?_
              clear hK K
              refine wpAny_ready (rs := [6]) (by kernel_rfl) (by simp) ?_
              refine AllReady.cons rfl (fun K hK => ?_) AllReady.nil
              · skip
                go_simp
                refine hK _ _ ?_
                clear hK K
                refine wpAny_done (by kernel_rfl) ?_ _
                go_wp2
                exact bodyPost_ret (results_cell3 rfl _ _ (w.heap.size + 1) 0 (by rfl) cs _ HR4.out Try.underlying26 rfl hsz1) rfl (by
                  show Ans w _ (.returned (.tuple #[.agg cs.toArray, v5, .int .i64 0])) _
                  exact HAN.out)
        · skip
          refine step_store (by rfl) 26 _ _ rfl (w.heap.size + 1) 0 cs.toArray (by rfl) (by rfl) r2 hsz2 r3 ?_
          refine hK _ _ ?_
          clear hK K
          refine wpAny_ready (rs := [3]) (by kernel_rfl) (by simp) ?_
          refine AllReady.cons rfl (fun K hK => ?_) AllReady.nil
          · skip
            go_simp
            refine hK _ _ ?_
            clear hK K
            refine wpAny_ready (rs := [5]) (by kernel_rfl) (by simp) ?_
            refine AllReady.cons rfl (fun K hK => ?_) AllReady.nil
            · skip
              go_simp
              refine hK _ _ ?_
              clear hK K
              refine wpAny_ready (rs := [6]) (by kernel_rfl) (by simp) ?_
              refine AllReady.cons rfl (fun K hK => ?_) AllReady.nil
              · skip
                go_simp
                refine hK _ _ ?_
                clear hK K
                refine wpAny_done (by kernel_rfl) ?_ _
                go_wp2
                exact bodyPost_ret (results_cell3 rfl _ _ (w.heap.size + 1) 0 (by rfl) cs _ HR4.out Try.underlying26 rfl hsz1) rfl (by
                  show Ans w _ (.returned (.tuple #[.agg cs.toArray, v5, .int .i64 0])) _
                  exact HAN.out)
      · skip
        go_simp
        refine hK _ _ ?_
        clear hK K
        refine wpAny_ready (rs := [1]) (by kernel_rfl) (by simp) ?_
        refine AllReady.cons rfl (fun K hK => ?_) AllReady.nil
        · skip
          refine step_load (by rfl) 26 _ rfl w1.heap.size 0 (by rfl) cs _ HR1.out Try.underlying26 rfl hsz1 ?_
          refine hK _ _ ?_
          clear hK K
          refine wpAny_ready (rs := [4]) (by kernel_rfl) (by simp) ?_
          refine AllReady.cons rfl (fun K hK => ?_) AllReady.nil
          · skip
            refine step_store (by rfl) 26 _ _ rfl (w.heap.size + 1) 0 cs.toArray (by rfl) (by rfl) r2 hsz2 r3 ?_
            refine hK _ _ ?_
            clear hK K
            refine wpAny_ready (rs := [5]) (by kernel_rfl) (by simp) ?_
            refine AllReady.cons rfl (fun K hK => ?_) AllReady.nil
            · skip
              go_simp
              refine hK _ _ ?_
              clear hK K
              refine wpAny_ready (rs := [6]) (by kernel_rfl) (by simp) ?_
              refine AllReady.cons rfl (fun K hK => ?_) AllReady.nil
              · skip
                go_simp
                refine hK _ _ ?_
                clear hK K
                refine wpAny_done (by kernel_rfl) ?_ _
                go_wp2
                exact bodyPost_ret (results_cell3 rfl _ _ (w.heap.size + 1) 0 (by rfl) cs _ HR4.out Try.underlying26 rfl hsz1) rfl (by
                  show Ans w _ (.returned (.tuple #[.agg cs.toArray, v5, .int .i64 0])) _
                  exact HAN.out)
  · skip
    go_simp
    refine hK _ _ ?_
    clear hK K
    refine wpAny_ready (rs := [0, 3]) (by kernel_rfl) (by simp) ?_
    refine AllReady.cons rfl (fun K hK => ?_) (AllReady.cons rfl (fun K hK => ?_) AllReady.nil)
    · skip
      go_simp
      refine hK _ _ ?_
      clear hK K
      refine wpAny_ready (rs := [1, 3]) (by kernel_rfl) (by simp) ?_
      refine AllReady.cons rfl (fun K hK => ?_) (AllReady.cons rfl (fun K hK => ?_) AllReady.nil)
      · skip
        refine step_load (by rfl) 26 _ rfl w1.heap.size 0 (by rfl) cs _ HR1.out Try.underlying26 rfl hsz1 ?_
        refine hK _ _ ?_
        clear hK K
        refine wpAny_ready (rs := [3, 4]) (by kernel_rfl) (by simp) ?_
        refine AllReady.cons rfl (fun K hK => ?_) (AllReady.cons rfl (fun K hK => ?_) AllReady.nil)
        · skip
          go_simp
          refine hK _ _ ?_
          clear hK K
          refine wpAny_ready (rs := [4]) (by kernel_rfl) (by simp) ?_
          refine AllReady.cons rfl (fun K hK => ?_) AllReady.nil
          · skip
            refine step_store (by rfl) 26 _ _ rfl (w.heap.size + 1) 0 cs.toArray (by rfl) (by rfl) r2 hsz2 r3 ?_
            refine hK _ _ ?_
            clear hK K
            refine wpAny_ready (rs := [5]) (by kernel_rfl) (by simp) ?_
            refine AllReady.cons rfl (fun K hK => ?_) AllReady.nil
            · skip
              go_simp
              refine hK _ _ ?_
              clear hK K
              refine wpAny_ready (rs := [6]) (by kernel_rfl) (by simp) ?_
              refine AllReady.cons rfl (fun K hK => ?_) AllReady.nil
              · skip
                go_simp
                refine hK _ _ ?_
                clear hK K
                refine wpAny_done (by kernel_rfl) ?_ _
                go_wp2
                exact bodyPost_ret (results_cell3 rfl _ _ (w.heap.size + 1) 0 (by rfl) cs _ HR4.out Try.underlying26 rfl hsz1) rfl (by
                  show Ans w _ (.returned (.tuple #[.agg cs.toArray, v5, .int .i64 0])) _
                  exact HAN.out)
        · skip
          refine step_store (by rfl) 26 _ _ rfl (w.heap.size + 1) 0 cs.toArray (by rfl) (by rfl) r2 hsz2 r3 ?_
          refine hK _ _ ?_
          clear hK K
          refine wpAny_ready (rs := [3]) (by kernel_rfl) (by simp) ?_
          refine AllReady.cons rfl (fun K hK => ?_) AllReady.nil
          · skip
            go_simp
            refine hK _ _ ?_
            clear hK K
            refine wpAny_ready (rs := [5]) (by kernel_rfl) (by simp) ?_
            refine AllReady.cons rfl (fun K hK => ?_) AllReady.nil
            · skip
              go_simp
              refine hK _ _ ?_
              clear hK K
              refine wpAny_ready (rs := [6]) (by kernel_rfl) (by simp) ?_
              refine AllReady.cons rfl (fun K hK => ?_) AllReady.nil
              · skip
                go_simp
                refine hK _ _ ?_
                clear hK K
                refine wpAny_done (by kernel_rfl) ?_ _
                go_wp2
                exact bodyPost_ret (results_cell3 rfl _ _ (w.heap.size + 1) 0 (by rfl) cs _ HR4.out Try.underlying26 rfl hsz1) rfl (by
                  show Ans w _ (.returned (.tuple #[.agg cs.toArray, v5, .int .i64 0])) _
                  exact HAN.out)
      · skip
        go_simp
        refine hK _ _ ?_
        clear hK K
        refine wpAny_ready (rs := [1]) (by kernel_rfl) (by simp) ?_
        refine AllReady.cons rfl (fun K hK => ?_) AllReady.nil
        · skip
          refine step_load (by rfl) 26 _ rfl w1.heap.size 0 (by rfl) cs _ HR1.out Try.underlying26 rfl hsz1 ?_
          refine hK _ _ ?_
          clear hK K
          refine wpAny_ready (rs := [4]) (by kernel_rfl) (by simp) ?_
          refine AllReady.cons rfl (fun K hK => ?_) AllReady.nil
          · skip
            refine step_store (by rfl) 26 _ _ rfl (w.heap.size + 1) 0 cs.toArray (by rfl) (by rfl) r2 hsz2 r3 ?_
            refine hK _ _ ?_
            clear hK K
            refine wpAny_ready (rs := [5]) (by kernel_rfl) (by simp) ?_
            refine AllReady.cons rfl (fun K hK => ?_) AllReady.nil
            · skip
              go_simp
              refine hK _ _ ?_
              clear hK K
              refine wpAny_ready (rs := [6]) (by kernel_rfl) (by simp) ?_
              refine AllReady.cons rfl (fun K hK => ?_) AllReady.nil
              · skip
                go_simp
                refine hK _ _ ?_
                clear hK K
                refine wpAny_done (by kernel_rfl) ?_ _
                go_wp2
                exact bodyPost_ret (results_cell3 rfl _ _ (w.heap.size + 1) 0 (by rfl) cs _ HR4.out Try.underlying26 rfl hsz1) rfl (by
                  show Ans w _ (.returned (.tuple #[.agg cs.toArray, v5, .int .i64 0])) _
                  exact HAN.out)
    · skip
      go_simp
      refine hK _ _ ?_
      clear hK K
      refine wpAny_ready (rs := [0]) (by kernel_rfl) (by simp) ?_
      refine AllReady.cons rfl (fun K hK => ?_) AllReady.nil
      · skip
        go_simp
        refine hK _ _ ?_
        clear hK K
        refine wpAny_ready (rs := [1]) (by kernel_rfl) (by simp) ?_
        refine AllReady.cons rfl (fun K hK => ?_) AllReady.nil
        · skip
          refine step_load (by rfl) 26 _ rfl w1.heap.size 0 (by rfl) cs _ HR1.out Try.underlying26 rfl hsz1 ?_
          refine hK _ _ ?_
          clear hK K
          refine wpAny_ready (rs := [4]) (by kernel_rfl) (by simp) ?_
          refine AllReady.cons rfl (fun K hK => ?_) AllReady.nil
          · skip
            refine step_store (by rfl) 26 _ _ rfl (w.heap.size + 1) 0 cs.toArray (by rfl) (by rfl) r2 hsz2 r3 ?_
            refine hK _ _ ?_
            clear hK K
            refine wpAny_ready (rs := [5]) (by kernel_rfl) (by simp) ?_
            refine AllReady.cons rfl (fun K hK => ?_) AllReady.nil
            · skip
              go_simp
              refine hK _ _ ?_
              clear hK K
              refine wpAny_ready (rs := [6]) (by kernel_rfl) (by simp) ?_
              refine AllReady.cons rfl (fun K hK => ?_) AllReady.nil
              · skip
                go_simp
                refine hK _ _ ?_
                clear hK K
                refine wpAny_done (by kernel_rfl) ?_ _
                go_wp2
                exact bodyPost_ret (results_cell3 rfl _ _ (w.heap.size + 1) 0 (by rfl) cs _ HR4.out Try.underlying26 rfl hsz1) rfl (by
                  show Ans w _ (.returned (.tuple #[.agg cs.toArray, v5, .int .i64 0])) _
                  exact HAN.out)
theorem vtick_any (s : Tk) (a : Option Addr) (c : Nat) (g : Option Addr) (d : Nat) (now : Int) (w : World) (hc : CameK w s a c g d) :
    Calls Try.prog 20 #[kv s a c g d, .int .i64 now] w fun e w' => Ans w w' e (tickK s now) := by
  unfold tickK
  cases hok : okK s with
  | false =>
    rw [if_neg (by simp)]
    exact vtick_no s a c g d now w 250 (by decide) (fun W hb => vbegin_no s a c g d now W (hc.later hb) hok)
  | true =>
    rw [if_pos rfl]
    cases hn : inB now 0 1048576 with
    | false =>
      rw [if_neg (by simp)]
      exact vtick_no s a c g d now w 2 (by decide) (fun W hb => vbegin_arg s a c g d now W (hc.later hb) hok hn)
    | true =>
      rw [if_pos rfl]
      unfold tiK
      by_cases hd : s.due ≤ now
      · rw [if_pos hd]
        cases h1 : (s.sta == 1) with
        | true =>
          rw [if_pos (by simpa using h1)]
          exact vtick_s s a c g d now w hc hok hn hd h1
        | false =>
          rw [if_neg (by simpa using h1)]
          exact vtick_o s a c g d now w hc hok hn hd h1
      · rw [if_neg hd]
        exact vtick_w s a c g d now w hc hok hn (by omega)
end Go.Proofs.Ytfnkbjfjekfdnaa
