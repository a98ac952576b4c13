/- sender.Tick. -/
import Derived.Test.YtnjcaolkcmpdcaaUAsk
namespace Go.Proofs.Ytnjcaolkcmpdcaa
open Go.RowKit Go.Shelf
set_option linter.unusedVariables false
/-- what becomes of a session when a moment has come. -/
def TickR (s : Sn) (now : Int) (s' : Sn) (L' : List SD) : Prop :=
  ((asksU s = false ∨ now < s.due) ∧ s' = s ∧ L' = []) ∨ (asksU s = true ∧ s.due ≤ now ∧ AskR s now s' L')
/-- the world behind Tick's entry. -/
structure EnV (w W : World) (s : Sn) (p : Pt) : Prop where
  bel : Below w.heap.size w W
  one : W.heap[w.heap.size]? = some (snc s p)
  res : W.heap[w.heap.size + 1]? = some (snc zeroU zeroP)
  size : w.heap.size + 2 ≤ W.heap.size
theorem EnV.start (w : World) (s : Sn) (p : Pt) : EnV w ((w.alloc (snc s p)).alloc (snc zeroU zeroP)) s p := by
  have hb2 : Below (w.alloc (snc s p)).heap.size (w.alloc (snc s p)) ((w.alloc (snc s p)).alloc (snc zeroU zeroP)) := (Below.refl _ _).alloc (Nat.le_refl _) _
  exact ⟨below_of ((Below.refl _ w).alloc (Nat.le_refl _) _) hb2, old_block hb2 (heap_alloc_new w _), new_two w _ _, by simp⟩
theorem no_each {w : World} : EachD w [] := fun y hy => absurd hy List.not_mem_nil
set_option maxRecDepth 20000 in
set_option maxHeartbeats 16000000 in
theorem tick_no (s : Sn) (p : Pt) (now : Int) (w : World) (hc : CameS w s p) (hok : okU s = true) (hn : inB now 0 1048576 = true) (ha : asksU s = false) :
    Calls Try.prog 25 #[snv s p, .int .i64 now] w fun e w' => AnsT w w' e (TickR s now) := by
  obtain ⟨cs, hcs⟩ : ∃ cs, Hid (cs = sncells s p) := ⟨_, rfl⟩
  have hsz1 : (Try.prog.info? 32).map (·.size) = some cs.length := by rw [show cs.length = 24 by rw [hcs.out]; rfl]; kernel_rfl
  have HBG : Hid (∀ W, Below w.heap.size w W → Calls Try.prog 45 #[.agg cs.toArray, .int .i64 now] W fun e w' => ∃ p' tl, e = .returned (.tuple #[.agg tl.toArray, .int .i64 0]) ∧ Hid (tl = tcells s p' (.slice none 0 0)) ∧ Hid (Below W.heap.size W w' ∧ CameS w' s p' ∧ NewS W.heap.size p' ∧ OwnN w' W.heap.size s p')) := fun W hb => by
    rw [hcs.out]
    exact (begin_own s p now W (hc.later hb) hok hn).mono (by rintro e w' ⟨p', rfl, h⟩; exact ⟨p', _, rfl, rfl, h⟩)
  have HEN : Hid (EnV w ((w.alloc (snc s p)).alloc (snc zeroU zeroP)) s p) := EnV.start w s p
  have HR0 : Hid (((w.alloc (snc s p)).alloc (snc zeroU zeroP)).rangeAt w.heap.size 0 cs) := by rw [hcs.out]; exact sn_range HEN.out.one
  have hnw := inB_of hn
  have HBT : Hid (∀ W0 w1 p' w3, Below W0.heap.size W0 w1 ∧ CameS w1 s p' ∧ NewS W0.heap.size p' ∧ OwnN w1 W0.heap.size s p' → w3.heap[w1.heap.size]? = some (tnc s p' (.slice none 0 0)) → Below w1.heap.size w1 w3 → w1.heap.size + 1 ≤ w3.heap.size → TnO W0 w3 w1.heap.size (w1.heap.size + 1) W0.heap.size (.slice none 0 0) s p' [] ∧ OwnN w3 W0.heap.size s p') := fun W0 w1 p' w3 hq hbx hb hz => tn_begin rfl hq.1 hq.2.1 hq.2.2.1 hq.2.2.2 hok hbx hb hz
  have HOK : Hid (okU s = true) := hok
  have hs25 : (Try.prog.info? 75).map (·.size) = some 25 := by kernel_rfl
  clear hc hok hn
  have HA : Hid (asksU s = false) := ha
  go_enter Try.func25, Try.ntmps25
  go_upto_region 2 with (first | (refine wpList_load_mid rfl 32 _ rfl w.heap.size 0 (by rfl) cs _ HR0.out Try.underlying32 rfl hsz1 ?_) | (go_at_call 45; refine (HBG.out _ HEN.out.bel).mono ?_; rintro e w1 ⟨p', tl, rfl, htl, hq⟩; obtain ⟨W0, HQ0⟩ : ∃ W0, Hid (EnV w W0 s p ∧ Below W0.heap.size W0 w1 ∧ CameS w1 s p' ∧ NewS W0.heap.size p' ∧ OwnN w1 W0.heap.size s p') := ⟨_, HEN.out, hq.out⟩; clear hq; obtain ⟨HT3, HO3, HX2, HB2, HZ2⟩ := t_stored w1 s p' tl htl.out; have hl25 : (Try.prog.info? 75).map (·.size) = some tl.toArray.size := (by rw [show tl.toArray.size = 25 by rw [htl.out]; rfl]; exact hs25)) | (refine wpList_store_mid rfl 75 _ _ rfl w1.heap.size 0 tl.toArray (by rfl) (by rfl) HT3.out hl25 HO3.out ?_))
  obtain ⟨wt, hwt⟩ : ∃ wt, (w1.alloc (tnc zeroU zeroP (.slice none 0 0))).setCells w1.heap.size 0 tl = wt := ⟨_, rfl⟩
  change Code.wp Try.prog _ _ _ ((w1.alloc (tnc zeroU zeroP (.slice none 0 0))).setCells w1.heap.size 0 tl)
  rw [hwt] at HX2 HB2 HZ2 ⊢
  clear hwt HT3 HO3 HR0 HBG htl hcs
  have HTN : Hid (TnO W0 wt w1.heap.size (w1.heap.size + 1) W0.heap.size (.slice none 0 0) s p' [] ∧ OwnN wt W0.heap.size s p') := HBT.out W0 w1 p' wt HQ0.out.2 HX2.out HB2.out HZ2.out
  have HAS : Hid (Calls Try.prog 50 #[.pointer (some ⟨w1.heap.size, 0, none⟩)] wt fun e w' => e = .returned (.bool (asksU s)) ∧ wt = w') := asks_any s p' (.slice none 0 0) w1.heap.size wt HX2.out
  have k20 : wt.cell? ⟨w1.heap.size, 20, none⟩ = some (.int .i64 s.due) := (tn_asks HTN.out.1).2.2.2.1
  rw [HA.out] at HAS
  clear ha
  go_wp2_with (go_at_call 50; refine HAS.out.mono ?_; rintro e w2 ⟨rfl, rfl⟩)
  have H4 : Hid (FinT W0.heap.size W0 wt w1.heap.size (w1.heap.size + 1) (.slice none 0 0) s p' [] ∧ TickR s now s []) := ⟨HTN.out.1.fin no_each, .inl ⟨.inl HA.out, rfl, rfl⟩⟩
  obtain ⟨cs1, hcs1⟩ : ∃ cs, Hid (cs = sncells s p') := ⟨_, rfl⟩
  obtain ⟨r1, r2, r3, r4, q1, q2, HAN⟩ := turn_fin (rb := w.heap.size + 1) (w := w) H4.out.1 (old_block H4.out.1.bel HQ0.out.1.res) (by have := HQ0.out.1.size; omega) HQ0.out.2.1.size (by omega) (below_of HQ0.out.1.bel H4.out.1.bel) hcs1.out H4.out.2
  have HR1 : Hid (wt.drew.rangeAt w1.heap.size 0 cs1) := r1
  have HR4 : Hid ((wt.drew.setCells (w.heap.size + 1) 0 cs1).rangeAt (w.heap.size + 1) 0 cs1) := r4
  have hl24 : cs1.length = 24 := by rw [hcs1.out]; rfl
  have hsz3 : (Try.prog.info? 32).map (·.size) = some cs1.length := by rw [hl24]; kernel_rfl
  have hsz2 : (Try.prog.info? 32).map (·.size) = some cs1.toArray.size := by rw [show cs1.toArray.size = 24 from hl24]; kernel_rfl
  clear r1 r4
  refine wp_region_any (by kernel_rfl) ?_
  change wpAny _ _ _ _ _ _ _ (World.drew _)
  refine wpAny_ready (rs := [0, 2]) (by kernel_rfl) (by simp) ?_
  refine AllReady.cons rfl (fun K hK => ?_) (AllReady.cons rfl (fun K hK => ?_) AllReady.nil)
  · skip
    go_simp
    refine hK _ _ ?_
    clear hK K
    refine wpAny_ready (rs := [1, 2]) (by kernel_rfl) (by simp) ?_
    refine AllReady.cons rfl (fun K hK => ?_) (AllReady.cons rfl (fun K hK => ?_) AllReady.nil)
    · skip
      refine step_load (by rfl) 32 _ rfl w1.heap.size 0 (by rfl) cs1 _ HR1.out Try.underlying32 rfl hsz3 ?_
      refine hK _ _ ?_
      clear hK K
      refine wpAny_ready (rs := [2, 4]) (by kernel_rfl) (by simp) ?_
      refine AllReady.cons rfl (fun K hK => ?_) (AllReady.cons rfl (fun K hK => ?_) AllReady.nil)
      · skip
        go_simp
        refine hK _ _ ?_
        clear hK K
        refine wpAny_ready (rs := [3, 4]) (by kernel_rfl) (by simp) ?_
        refine AllReady.cons rfl (fun K hK => ?_) (AllReady.cons rfl (fun K hK => ?_) AllReady.nil)
        · skip
          go_simp
          refine hK _ _ ?_
          clear hK K
          refine wpAny_ready (rs := [4]) (by kernel_rfl) (by simp) ?_
          refine AllReady.cons rfl (fun K hK => ?_) AllReady.nil
          · skip
            refine step_store (by rfl) 32 _ _ rfl (w.heap.size + 1) 0 cs1.toArray (by rfl) (by rfl) r2 hsz2 r3 ?_
            refine hK _ _ ?_
            clear hK K
            refine wpAny_ready (rs := [5]) (by kernel_rfl) (by simp) ?_
            refine AllReady.cons rfl (fun K hK => ?_) AllReady.nil
            · skip
              go_simp
              refine hK _ _ ?_
              clear hK K
              refine wpAny_ready (rs := [6]) (by kernel_rfl) (by simp) ?_
              refine AllReady.cons rfl (fun K hK => ?_) AllReady.nil
              · skip
                go_simp
                refine hK _ _ ?_
                clear hK K
                refine wpAny_done (by kernel_rfl) ?_ _
                go_wp2
                exact bodyPost_ret (results_cell3 rfl _ _ (w.heap.size + 1) 0 (by rfl) cs1 _ HR4.out Try.underlying32 rfl hsz3) rfl (by
                  show AnsT w _ (.returned (.tuple #[.agg cs1.toArray, .slice none 0 0, .int .i64 0])) (TickR s now)
                  exact HAN.out)
        · skip
          refine step_store (by rfl) 32 _ _ rfl (w.heap.size + 1) 0 cs1.toArray (by rfl) (by rfl) r2 hsz2 r3 ?_
          refine hK _ _ ?_
          clear hK K
          refine wpAny_ready (rs := [3]) (by kernel_rfl) (by simp) ?_
          refine AllReady.cons rfl (fun K hK => ?_) AllReady.nil
          · skip
            go_simp
            refine hK _ _ ?_
            clear hK K
            refine wpAny_ready (rs := [5]) (by kernel_rfl) (by simp) ?_
            refine AllReady.cons rfl (fun K hK => ?_) AllReady.nil
            · skip
              go_simp
              refine hK _ _ ?_
              clear hK K
              refine wpAny_ready (rs := [6]) (by kernel_rfl) (by simp) ?_
              refine AllReady.cons rfl (fun K hK => ?_) AllReady.nil
              · skip
                go_simp
                refine hK _ _ ?_
                clear hK K
                refine wpAny_done (by kernel_rfl) ?_ _
                go_wp2
                exact bodyPost_ret (results_cell3 rfl _ _ (w.heap.size + 1) 0 (by rfl) cs1 _ HR4.out Try.underlying32 rfl hsz3) rfl (by
                  show AnsT w _ (.returned (.tuple #[.agg cs1.toArray, .slice none 0 0, .int .i64 0])) (TickR s now)
                  exact HAN.out)
      · skip
        refine step_store (by rfl) 32 _ _ rfl (w.heap.size + 1) 0 cs1.toArray (by rfl) (by rfl) r2 hsz2 r3 ?_
        refine hK _ _ ?_
        clear hK K
        refine wpAny_ready (rs := [2]) (by kernel_rfl) (by simp) ?_
        refine AllReady.cons rfl (fun K hK => ?_) AllReady.nil
        · skip
          go_simp
          refine hK _ _ ?_
          clear hK K
          refine wpAny_ready (rs := [3]) (by kernel_rfl) (by simp) ?_
          refine AllReady.cons rfl (fun K hK => ?_) AllReady.nil
          · skip
            go_simp
            refine hK _ _ ?_
            clear hK K
            refine wpAny_ready (rs := [5]) (by kernel_rfl) (by simp) ?_
            refine AllReady.cons rfl (fun K hK => ?_) AllReady.nil
            · skip
              go_simp
              refine hK _ _ ?_
              clear hK K
              refine wpAny_ready (rs := [6]) (by kernel_rfl) (by simp) ?_
              refine AllReady.cons rfl (fun K hK => ?_) AllReady.nil
              · skip
                go_simp
                refine hK _ _ ?_
                clear hK K
                refine wpAny_done (by kernel_rfl) ?_ _
                go_wp2
                exact bodyPost_ret (results_cell3 rfl _ _ (w.heap.size + 1) 0 (by rfl) cs1 _ HR4.out Try.underlying32 rfl hsz3) rfl (by
                  show AnsT w _ (.returned (.tuple #[.agg cs1.toArray, .slice none 0 0, .int .i64 0])) (TickR s now)
                  exact HAN.out)
    · skip
      go_simp
      refine hK _ _ ?_
      clear hK K
      refine wpAny_ready (rs := [1, 3]) (by kernel_rfl) (by simp) ?_
      refine AllReady.cons rfl (fun K hK => ?_) (AllReady.cons rfl (fun K hK => ?_) AllReady.nil)
      · skip
        refine step_load (by rfl) 32 _ rfl w1.heap.size 0 (by rfl) cs1 _ HR1.out Try.underlying32 rfl hsz3 ?_
        refine hK _ _ ?_
        clear hK K
        refine wpAny_ready (rs := [3, 4]) (by kernel_rfl) (by simp) ?_
        refine AllReady.cons rfl (fun K hK => ?_) (AllReady.cons rfl (fun K hK => ?_) AllReady.nil)
        · skip
          go_simp
          refine hK _ _ ?_
          clear hK K
          refine wpAny_ready (rs := [4]) (by kernel_rfl) (by simp) ?_
          refine AllReady.cons rfl (fun K hK => ?_) AllReady.nil
          · skip
            refine step_store (by rfl) 32 _ _ rfl (w.heap.size + 1) 0 cs1.toArray (by rfl) (by rfl) r2 hsz2 r3 ?_
            refine hK _ _ ?_
            clear hK K
            refine wpAny_ready (rs := [5]) (by kernel_rfl) (by simp) ?_
            refine AllReady.cons rfl (fun K hK => ?_) AllReady.nil
            · skip
              go_simp
              refine hK _ _ ?_
              clear hK K
              refine wpAny_ready (rs := [6]) (by kernel_rfl) (by simp) ?_
              refine AllReady.cons rfl (fun K hK => ?_) AllReady.nil
              · skip
                go_simp
                refine hK _ _ ?_
                clear hK K
                refine wpAny_done (by kernel_rfl) ?_ _
                go_wp2
                exact bodyPost_ret (results_cell3 rfl _ _ (w.heap.size + 1) 0 (by rfl) cs1 _ HR4.out Try.underlying32 rfl hsz3) rfl (by
                  show AnsT w _ (.returned (.tuple #[.agg cs1.toArray, .slice none 0 0, .int .i64 0])) (TickR s now)
                  exact HAN.out)
        · skip
          refine step_store (by rfl) 32 _ _ rfl (w.heap.size + 1) 0 cs1.toArray (by rfl) (by rfl) r2 hsz2 r3 ?_
          refine hK _ _ ?_
          clear hK K
          refine wpAny_ready (rs := [3]) (by kernel_rfl) (by simp) ?_
          refine AllReady.cons rfl (fun K hK => ?_) AllReady.nil
          · skip
            go_simp
            refine hK _ _ ?_
            clear hK K
            refine wpAny_ready (rs := [5]) (by kernel_rfl) (by simp) ?_
            refine AllReady.cons rfl (fun K hK => ?_) AllReady.nil
            · skip
              go_simp
              refine hK _ _ ?_
              clear hK K
              refine wpAny_ready (rs := [6]) (by kernel_rfl) (by simp) ?_
              refine AllReady.cons rfl (fun K hK => ?_) AllReady.nil
              · skip
                go_simp
                refine hK _ _ ?_
                clear hK K
                refine wpAny_done (by kernel_rfl) ?_ _
                go_wp2
                exact bodyPost_ret (results_cell3 rfl _ _ (w.heap.size + 1) 0 (by rfl) cs1 _ HR4.out Try.underlying32 rfl hsz3) rfl (by
                  show AnsT w _ (.returned (.tuple #[.agg cs1.toArray, .slice none 0 0, .int .i64 0])) (TickR s now)
                  exact HAN.out)
      · skip
        go_simp
        refine hK _ _ ?_
        clear hK K
        refine wpAny_ready (rs := [1]) (by kernel_rfl) (by simp) ?_
        refine AllReady.cons rfl (fun K hK => ?_) AllReady.nil
        · skip
          refine step_load (by rfl) 32 _ rfl w1.heap.size 0 (by rfl) cs1 _ HR1.out Try.underlying32 rfl hsz3 ?_
          refine hK _ _ ?_
          clear hK K
          refine wpAny_ready (rs := [4]) (by kernel_rfl) (by simp) ?_
          refine AllReady.cons rfl (fun K hK => ?_) AllReady.nil
          · skip
            refine step_store (by rfl) 32 _ _ rfl (w.heap.size + 1) 0 cs1.toArray (by rfl) (by rfl) r2 hsz2 r3 ?_
            refine hK _ _ ?_
            clear hK K
            refine wpAny_ready (rs := [5]) (by kernel_rfl) (by simp) ?_
            refine AllReady.cons rfl (fun K hK => ?_) AllReady.nil
            · skip
              go_simp
              refine hK _ _ ?_
              clear hK K
              refine wpAny_ready (rs := [6]) (by kernel_rfl) (by simp) ?_
              refine AllReady.cons rfl (fun K hK => ?_) AllReady.nil
              · skip
                go_simp
                refine hK _ _ ?_
                clear hK K
                refine wpAny_done (by kernel_rfl) ?_ _
                go_wp2
                exact bodyPost_ret (results_cell3 rfl _ _ (w.heap.size + 1) 0 (by rfl) cs1 _ HR4.out Try.underlying32 rfl hsz3) rfl (by
                  show AnsT w _ (.returned (.tuple #[.agg cs1.toArray, .slice none 0 0, .int .i64 0])) (TickR s now)
                  exact HAN.out)
  · skip
    go_simp
    refine hK _ _ ?_
    clear hK K
    refine wpAny_ready (rs := [0, 3]) (by kernel_rfl) (by simp) ?_
    refine AllReady.cons rfl (fun K hK => ?_) (AllReady.cons rfl (fun K hK => ?_) AllReady.nil)
    · skip
      go_simp
      refine hK _ _ ?_
      clear hK K
      refine wpAny_ready (rs := [1, 3]) (by kernel_rfl) (by simp) ?_
      refine AllReady.cons rfl (fun K hK => ?_) (AllReady.cons rfl (fun K hK => ?_) AllReady.nil)
      · skip
        refine step_load (by rfl) 32 _ rfl w1.heap.size 0 (by rfl) cs1 _ HR1.out Try.underlying32 rfl hsz3 ?_
        refine hK _ _ ?_
        clear hK K
        refine wpAny_ready (rs := [3, 4]) (by kernel_rfl) (by simp) ?_
        refine AllReady.cons rfl (fun K hK => ?_) (AllReady.cons rfl (fun K hK => ?_) AllReady.nil)
        · skip
          go_simp
          refine hK _ _ ?_
          clear hK K
          refine wpAny_ready (rs := [4]) (by kernel_rfl) (by simp) ?_
          refine AllReady.cons rfl (fun K hK => ?_) AllReady.nil
          · skip
            refine step_store (by rfl) 32 _ _ rfl (w.heap.size + 1) 0 cs1.toArray (by rfl) (by rfl) r2 hsz2 r3 ?_
            refine hK _ _ ?_
            clear hK K
            refine wpAny_ready (rs := [5]) (by kernel_rfl) (by simp) ?_
            refine AllReady.cons rfl (fun K hK => ?_) AllReady.nil
            · skip
              go_simp
              refine hK _ _ ?_
              clear hK K
              refine wpAny_ready (rs := [6]) (by kernel_rfl) (by simp) ?_
              refine AllReady.cons rfl (fun K hK => ?_) AllReady.nil
              · skip
                go_simp
                refine hK _ _ ?_
                clear hK K
                refine wpAny_done (by kernel_rfl) ?_ _
                go_wp2
                exact bodyPost_ret (results_cell3 rfl _ _ (w.heap.size + 1) 0 (by rfl) cs1 _ HR4.out Try.underlying32 rfl hsz3) rfl (by
                  show AnsT w _ (.returned (.tuple #[.agg cs1.toArray, .slice none 0 0, .int .i64 0])) (TickR s now)
                  exact HAN.out)
        · skip
          refine step_store (by rfl) 32 _ _ rfl (w.heap.size + 1) 0 cs1.toArray (by rfl) (by rfl) r2 hsz2 r3 ?_
          refine hK _ _ ?_
          clear hK K
          refine wpAny_ready (rs := [3]) (by kernel_rfl) (by simp) ?_
          refine AllReady.cons rfl (fun K hK => ?_) AllReady.nil
          · skip
            go_simp
            refine hK _ _ ?_
            clear hK K
            refine wpAny_ready (rs := [5]) (by kernel_rfl) (by simp) ?_
            refine AllReady.cons rfl (fun K hK => ?_) AllReady.nil
            · skip
              go_simp
              refine hK _ _ ?_
              clear hK K
              refine wpAny_ready (rs := [6]) (by kernel_rfl) (by simp) ?_
              refine AllReady.cons rfl (fun K hK => ?_) AllReady.nil
              · skip
                go_simp
                refine hK _ _ ?_
                clear hK K
                refine wpAny_done (by kernel_rfl) ?_ _
                go_wp2
                exact bodyPost_ret (results_cell3 rfl _ _ (w.heap.size + 1) 0 (by rfl) cs1 _ HR4.out Try.underlying32 rfl hsz3) rfl (by
                  show AnsT w _ (.returned (.tuple #[.agg cs1.toArray, .slice none 0 0, .int .i64 0])) (TickR s now)
                  exact HAN.out)
      · skip
        go_simp
        refine hK _ _ ?_
        clear hK K
        refine wpAny_ready (rs := [1]) (by kernel_rfl) (by simp) ?_
        refine AllReady.cons rfl (fun K hK => ?_) AllReady.nil
        · skip
          refine step_load (by rfl) 32 _ rfl w1.heap.size 0 (by rfl) cs1 _ HR1.out Try.underlying32 rfl hsz3 ?_
          refine hK _ _ ?_
          clear hK K
          refine wpAny_ready (rs := [4]) (by kernel_rfl) (by simp) ?_
          refine AllReady.cons rfl (fun K hK => ?_) AllReady.nil
          · skip
            refine step_store (by rfl) 32 _ _ rfl (w.heap.size + 1) 0 cs1.toArray (by rfl) (by rfl) r2 hsz2 r3 ?_
            refine hK _ _ ?_
            clear hK K
            refine wpAny_ready (rs := [5]) (by kernel_rfl) (by simp) ?_
            refine AllReady.cons rfl (fun K hK => ?_) AllReady.nil
            · skip
              go_simp
              refine hK _ _ ?_
              clear hK K
              refine wpAny_ready (rs := [6]) (by kernel_rfl) (by simp) ?_
              refine AllReady.cons rfl (fun K hK => ?_) AllReady.nil
              · skip
                go_simp
                refine hK _ _ ?_
                clear hK K
                refine wpAny_done (by kernel_rfl) ?_ _
                go_wp2
                exact bodyPost_ret (results_cell3 rfl _ _ (w.heap.size + 1) 0 (by rfl) cs1 _ HR4.out Try.underlying32 rfl hsz3) rfl (by
                  show AnsT w _ (.returned (.tuple #[.agg cs1.toArray, .slice none 0 0, .int .i64 0])) (TickR s now)
                  exact HAN.out)
    · skip
      go_simp
      refine hK _ _ ?_
      clear hK K
      refine wpAny_ready (rs := [0]) (by kernel_rfl) (by simp) ?_
      refine AllReady.cons rfl (fun K hK => ?_) AllReady.nil
      · skip
        go_simp
        refine hK _ _ ?_
        clear hK K
        refine wpAny_ready (rs := [1]) (by kernel_rfl) (by simp) ?_
        refine AllReady.cons rfl (fun K hK => ?_) AllReady.nil
        · skip
          refine step_load (by rfl) 32 _ rfl w1.heap.size 0 (by rfl) cs1 _ HR1.out Try.underlying32 rfl hsz3 ?_
          refine hK _ _ ?_
          clear hK K
          refine wpAny_ready (rs := [4]) (by kernel_rfl) (by simp) ?_
          refine AllReady.cons rfl (fun K hK => ?_) AllReady.nil
          · skip
            refine step_store (by rfl) 32 _ _ rfl (w.heap.size + 1) 0 cs1.toArray (by rfl) (by rfl) r2 hsz2 r3 ?_
            refine hK _ _ ?_
            clear hK K
            refine wpAny_ready (rs := [5]) (by kernel_rfl) (by simp) ?_
            refine AllReady.cons rfl (fun K hK => ?_) AllReady.nil
            · skip
              go_simp
              refine hK _ _ ?_
              clear hK K
              refine wpAny_ready (rs := [6]) (by kernel_rfl) (by simp) ?_
              refine AllReady.cons rfl (fun K hK => ?_) AllReady.nil
              · skip
                go_simp
                refine hK _ _ ?_
                clear hK K
                refine wpAny_done (by kernel_rfl) ?_ _
                go_wp2
                exact bodyPost_ret (results_cell3 rfl _ _ (w.heap.size + 1) 0 (by rfl) cs1 _ HR4.out Try.underlying32 rfl hsz3) rfl (by
                  show AnsT w _ (.returned (.tuple #[.agg cs1.toArray, .slice none 0 0, .int .i64 0])) (TickR s now)
                  exact HAN.out)
set_option maxRecDepth 20000 in
set_option maxHeartbeats 16000000 in
theorem tick_wait (s : Sn) (p : Pt) (now : Int) (w : World) (hc : CameS w s p) (hok : okU s = true) (hn : inB now 0 1048576 = true) (ha : asksU s = true) (hd : now < s.due) :
    Calls Try.prog 25 #[snv s p, .int .i64 now] w fun e w' => AnsT w w' e (TickR s now) := by
  obtain ⟨cs, hcs⟩ : ∃ cs, Hid (cs = sncells s p) := ⟨_, rfl⟩
  have hsz1 : (Try.prog.info? 32).map (·.size) = some cs.length := by rw [show cs.length = 24 by rw [hcs.out]; rfl]; kernel_rfl
  have HBG : Hid (∀ W, Below w.heap.size w W → Calls Try.prog 45 #[.agg cs.toArray, .int .i64 now] W fun e w' => ∃ p' tl, e = .returned (.tuple #[.agg tl.toArray, .int .i64 0]) ∧ Hid (tl = tcells s p' (.slice none 0 0)) ∧ Hid (Below W.heap.size W w' ∧ CameS w' s p' ∧ NewS W.heap.size p' ∧ OwnN w' W.heap.size s p')) := fun W hb => by
    rw [hcs.out]
    exact (begin_own s p now W (hc.later hb) hok hn).mono (by rintro e w' ⟨p', rfl, h⟩; exact ⟨p', _, rfl, rfl, h⟩)
  have HEN : Hid (EnV w ((w.alloc (snc s p)).alloc (snc zeroU zeroP)) s p) := EnV.start w s p
  have HR0 : Hid (((w.alloc (snc s p)).alloc (snc zeroU zeroP)).rangeAt w.heap.size 0 cs) := by rw [hcs.out]; exact sn_range HEN.out.one
  have hnw := inB_of hn
  have HBT : Hid (∀ W0 w1 p' w3, Below W0.heap.size W0 w1 ∧ CameS w1 s p' ∧ NewS W0.heap.size p' ∧ OwnN w1 W0.heap.size s p' → w3.heap[w1.heap.size]? = some (tnc s p' (.slice none 0 0)) → Below w1.heap.size w1 w3 → w1.heap.size + 1 ≤ w3.heap.size → TnO W0 w3 w1.heap.size (w1.heap.size + 1) W0.heap.size (.slice none 0 0) s p' [] ∧ OwnN w3 W0.heap.size s p') := fun W0 w1 p' w3 hq hbx hb hz => tn_begin rfl hq.1 hq.2.1 hq.2.2.1 hq.2.2.2 hok hbx hb hz
  have HOK : Hid (okU s = true) := hok
  have hs25 : (Try.prog.info? 75).map (·.size) = some 25 := by kernel_rfl
  clear hc hok hn
  have HA : Hid (asksU s = true) := ha
  go_enter Try.func25, Try.ntmps25
  go_upto_region 2 with (first | (refine wpList_load_mid rfl 32 _ rfl w.heap.size 0 (by rfl) cs _ HR0.out Try.underlying32 rfl hsz1 ?_) | (go_at_call 45; refine (HBG.out _ HEN.out.bel).mono ?_; rintro e w1 ⟨p', tl, rfl, htl, hq⟩; obtain ⟨W0, HQ0⟩ : ∃ W0, Hid (EnV w W0 s p ∧ Below W0.heap.size W0 w1 ∧ CameS w1 s p' ∧ NewS W0.heap.size p' ∧ OwnN w1 W0.heap.size s p') := ⟨_, HEN.out, hq.out⟩; clear hq; obtain ⟨HT3, HO3, HX2, HB2, HZ2⟩ := t_stored w1 s p' tl htl.out; have hl25 : (Try.prog.info? 75).map (·.size) = some tl.toArray.size := (by rw [show tl.toArray.size = 25 by rw [htl.out]; rfl]; exact hs25)) | (refine wpList_store_mid rfl 75 _ _ rfl w1.heap.size 0 tl.toArray (by rfl) (by rfl) HT3.out hl25 HO3.out ?_))
  obtain ⟨wt, hwt⟩ : ∃ wt, (w1.alloc (tnc zeroU zeroP (.slice none 0 0))).setCells w1.heap.size 0 tl = wt := ⟨_, rfl⟩
  change Code.wp Try.prog _ _ _ ((w1.alloc (tnc zeroU zeroP (.slice none 0 0))).setCells w1.heap.size 0 tl)
  rw [hwt] at HX2 HB2 HZ2 ⊢
  clear hwt HT3 HO3 HR0 HBG htl hcs
  have HTN : Hid (TnO W0 wt w1.heap.size (w1.heap.size + 1) W0.heap.size (.slice none 0 0) s p' [] ∧ OwnN wt W0.heap.size s p') := HBT.out W0 w1 p' wt HQ0.out.2 HX2.out HB2.out HZ2.out
  have HAS : Hid (Calls Try.prog 50 #[.pointer (some ⟨w1.heap.size, 0, none⟩)] wt fun e w' => e = .returned (.bool (asksU s)) ∧ wt = w') := asks_any s p' (.slice none 0 0) w1.heap.size wt HX2.out
  have k20 : wt.cell? ⟨w1.heap.size, 20, none⟩ = some (.int .i64 s.due) := (tn_asks HTN.out.1).2.2.2.1
  rw [HA.out] at HAS
  clear ha
  have hd2 : ¬ s.due ≤ now := by omega
  go_wp2_with (go_at_call 50; refine HAS.out.mono ?_; rintro e w2 ⟨rfl, rfl⟩)
  have H4 : Hid (FinT W0.heap.size W0 wt w1.heap.size (w1.heap.size + 1) (.slice none 0 0) s p' [] ∧ TickR s now s []) := ⟨HTN.out.1.fin no_each, .inl ⟨.inr hd, rfl, rfl⟩⟩
  obtain ⟨cs1, hcs1⟩ : ∃ cs, Hid (cs = sncells s p') := ⟨_, rfl⟩
  obtain ⟨r1, r2, r3, r4, q1, q2, HAN⟩ := turn_fin (rb := w.heap.size + 1) (w := w) H4.out.1 (old_block H4.out.1.bel HQ0.out.1.res) (by have := HQ0.out.1.size; omega) HQ0.out.2.1.size (by omega) (below_of HQ0.out.1.bel H4.out.1.bel) hcs1.out H4.out.2
  have HR1 : Hid (wt.drew.rangeAt w1.heap.size 0 cs1) := r1
  have HR4 : Hid ((wt.drew.setCells (w.heap.size + 1) 0 cs1).rangeAt (w.heap.size + 1) 0 cs1) := r4
  have hl24 : cs1.length = 24 := by rw [hcs1.out]; rfl
  have hsz3 : (Try.prog.info? 32).map (·.size) = some cs1.length := by rw [hl24]; kernel_rfl
  have hsz2 : (Try.prog.info? 32).map (·.size) = some cs1.toArray.size := by rw [show cs1.toArray.size = 24 from hl24]; kernel_rfl
  clear r1 r4
  refine wp_region_any (by kernel_rfl) ?_
  change wpAny _ _ _ _ _ _ _ (World.drew _)
  refine wpAny_ready (rs := [0, 2]) (by kernel_rfl) (by simp) ?_
  refine AllReady.cons rfl (fun K hK => ?_) (AllReady.cons rfl (fun K hK => ?_) AllReady.nil)
  · skip
    go_simp
    refine hK _ _ ?_
    clear hK K
    refine wpAny_ready (rs := [1, 2]) (by kernel_rfl) (by simp) ?_
    refine AllReady.cons rfl (fun K hK => ?_) (AllReady.cons rfl (fun K hK => ?_) AllReady.nil)
    · skip
      refine step_load (by rfl) 32 _ rfl w1.heap.size 0 (by rfl) cs1 _ HR1.out Try.underlying32 rfl hsz3 ?_
      refine hK _ _ ?_
      clear hK K
      refine wpAny_ready (rs := [2, 4]) (by kernel_rfl) (by simp) ?_
      refine AllReady.cons rfl (fun K hK => ?_) (AllReady.cons rfl (fun K hK => ?_) AllReady.nil)
      · skip
        go_simp
        refine hK _ _ ?_
        clear hK K
        refine wpAny_ready (rs := [3, 4]) (by kernel_rfl) (by simp) ?_
        refine AllReady.cons rfl (fun K hK => ?_) (AllReady.cons rfl (fun K hK => ?_) AllReady.nil)
        · skip
          go_simp
          refine hK _ _ ?_
          clear hK K
          refine wpAny_ready (rs := [4]) (by kernel_rfl) (by simp) ?_
          refine AllReady.cons rfl (fun K hK => ?_) AllReady.nil
          · skip
            refine step_store (by rfl) 32 _ _ rfl (w.heap.size + 1) 0 cs1.toArray (by rfl) (by rfl) r2 hsz2 r3 ?_
            refine hK _ _ ?_
            clear hK K
            refine wpAny_ready (rs := [5]) (by kernel_rfl) (by simp) ?_
            refine AllReady.cons rfl (fun K hK => ?_) AllReady.nil
            · skip
              go_simp
              refine hK _ _ ?_
              clear hK K
              refine wpAny_ready (rs := [6]) (by kernel_rfl) (by simp) ?_
              refine AllReady.cons rfl (fun K hK => ?_) AllReady.nil
              · skip
                go_simp
                refine hK _ _ ?_
                clear hK K
                refine wpAny_done (by kernel_rfl) ?_ _
                go_wp2
                exact bodyPost_ret (results_cell3 rfl _ _ (w.heap.size + 1) 0 (by rfl) cs1 _ HR4.out Try.underlying32 rfl hsz3) rfl (by
                  show AnsT w _ (.returned (.tuple #[.agg cs1.toArray, .slice none 0 0, .int .i64 0])) (TickR s now)
                  exact HAN.out)
        · skip
          refine step_store (by rfl) 32 _ _ rfl (w.heap.size + 1) 0 cs1.toArray (by rfl) (by rfl) r2 hsz2 r3 ?_
          refine hK _ _ ?_
          clear hK K
          refine wpAny_ready (rs := [3]) (by kernel_rfl) (by simp) ?_
          refine AllReady.cons rfl (fun K hK => ?_) AllReady.nil
          · skip
            go_simp
            refine hK _ _ ?_
            clear hK K
            refine wpAny_ready (rs := [5]) (by kernel_rfl) (by simp) ?_
            refine AllReady.cons rfl (fun K hK => ?_) AllReady.nil
            · skip
              go_simp
              refine hK _ _ ?_
              clear hK K
              refine wpAny_ready (rs := [6]) (by kernel_rfl) (by simp) ?_
              refine AllReady.cons rfl (fun K hK => ?_) AllReady.nil
              · skip
                go_simp
                refine hK _ _ ?_
                clear hK K
                refine wpAny_done (by kernel_rfl) ?_ _
                go_wp2
                exact bodyPost_ret (results_cell3 rfl _ _ (w.heap.size + 1) 0 (by rfl) cs1 _ HR4.out Try.underlying32 rfl hsz3) rfl (by
                  show AnsT w _ (.returned (.tuple #[.agg cs1.toArray, .slice none 0 0, .int .i64 0])) (TickR s now)
                  exact HAN.out)
      · skip
        refine step_store (by rfl) 32 _ _ rfl (w.heap.size + 1) 0 cs1.toArray (by rfl) (by rfl) r2 hsz2 r3 ?_
        refine hK _ _ ?_
        clear hK K
        refine wpAny_ready (rs := [2]) (by kernel_rfl) (by simp) ?_
        refine AllReady.cons rfl (fun K hK => ?_) AllReady.nil
        · skip
          go_simp
          refine hK _ _ ?_
          clear hK K
          refine wpAny_ready (rs := [3]) (by kernel_rfl) (by simp) ?_
          refine AllReady.cons rfl (fun K hK => ?_) AllReady.nil
          · skip
            go_simp
            refine hK _ _ ?_
            clear hK K
            refine wpAny_ready (rs := [5]) (by kernel_rfl) (by simp) ?_
            refine AllReady.cons rfl (fun K hK => ?_) AllReady.nil
            · skip
              go_simp
              refine hK _ _ ?_
              clear hK K
              refine wpAny_ready (rs := [6]) (by kernel_rfl) (by simp) ?_
              refine AllReady.cons rfl (fun K hK => ?_) AllReady.nil
              · skip
                go_simp
                refine hK _ _ ?_
                clear hK K
                refine wpAny_done (by kernel_rfl) ?_ _
                go_wp2
                exact bodyPost_ret (results_cell3 rfl _ _ (w.heap.size + 1) 0 (by rfl) cs1 _ HR4.out Try.underlying32 rfl hsz3) rfl (by
                  show AnsT w _ (.returned (.tuple #[.agg cs1.toArray, .slice none 0 0, .int .i64 0])) (TickR s now)
                  exact HAN.out)
    · skip
      go_simp
      refine hK _ _ ?_
      clear hK K
      refine wpAny_ready (rs := [1, 3]) (by kernel_rfl) (by simp) ?_
      refine AllReady.cons rfl (fun K hK => ?_) (AllReady.cons rfl (fun K hK => ?_) AllReady.nil)
      · skip
        refine step_load (by rfl) 32 _ rfl w1.heap.size 0 (by rfl) cs1 _ HR1.out Try.underlying32 rfl hsz3 ?_
        refine hK _ _ ?_
        clear hK K
        refine wpAny_ready (rs := [3, 4]) (by kernel_rfl) (by simp) ?_
        refine AllReady.cons rfl (fun K hK => ?_) (AllReady.cons rfl (fun K hK => ?_) AllReady.nil)
        · skip
          go_simp
          refine hK _ _ ?_
          clear hK K
          refine wpAny_ready (rs := [4]) (by kernel_rfl) (by simp) ?_
          refine AllReady.cons rfl (fun K hK => ?_) AllReady.nil
          · skip
            refine step_store (by rfl) 32 _ _ rfl (w.heap.size + 1) 0 cs1.toArray (by rfl) (by rfl) r2 hsz2 r3 ?_
            refine hK _ _ ?_
            clear hK K
            refine wpAny_ready (rs := [5]) (by kernel_rfl) (by simp) ?_
            refine AllReady.cons rfl (fun K hK => ?_) AllReady.nil
            · skip
              go_simp
              refine hK _ _ ?_
              clear hK K
              refine wpAny_ready (rs := [6]) (by kernel_rfl) (by simp) ?_
              refine AllReady.cons rfl (fun K hK => ?_) AllReady.nil
              · skip
                go_simp
                refine hK _ _ ?_
                clear hK K
                refine wpAny_done (by kernel_rfl) ?_ _
                go_wp2
                exact bodyPost_ret (results_cell3 rfl _ _ (w.heap.size + 1) 0 (by rfl) cs1 _ HR4.out Try.underlying32 rfl hsz3) rfl (by
                  show AnsT w _ (.returned (.tuple #[.agg cs1.toArray, .slice none 0 0, .int .i64 0])) (TickR s now)
                  exact HAN.out)
        · skip
          refine step_store (by rfl) 32 _ _ rfl (w.heap.size + 1) 0 cs1.toArray (by rfl) (by rfl) r2 hsz2 r3 ?_
          refine hK _ _ ?_
          clear hK K
          refine wpAny_ready (rs := [3]) (by kernel_rfl) (by simp) ?_
          refine AllReady.cons rfl (fun K hK => ?_) AllReady.nil
          · skip
            go_simp
            refine hK _ _ ?_
            clear hK K
            refine wpAny_ready (rs := [5]) (by kernel_rfl) (by simp) ?_
            refine AllReady.cons rfl (fun K hK => ?_) AllReady.nil
            · skip
              go_simp
              refine hK _ _ ?_
              clear hK K
              refine wpAny_ready (rs := [6]) (by kernel_rfl) (by simp) ?_
              refine AllReady.cons rfl (fun K hK => ?_) AllReady.nil
              · skip
                go_simp
                refine hK _ _ ?_
                clear hK K
                refine wpAny_done (by kernel_rfl) ?_ _
                go_wp2
                exact bodyPost_ret (results_cell3 rfl _ _ (w.heap.size + 1) 0 (by rfl) cs1 _ HR4.out Try.underlying32 rfl hsz3) rfl (by
                  show AnsT w _ (.returned (.tuple #[.agg cs1.toArray, .slice none 0 0, .int .i64 0])) (TickR s now)
                  exact HAN.out)
      · skip
        go_simp
        refine hK _ _ ?_
        clear hK K
        refine wpAny_ready (rs := [1]) (by kernel_rfl) (by simp) ?_
        refine AllReady.cons rfl (fun K hK => ?_) AllReady.nil
        · skip
          refine step_load (by rfl) 32 _ rfl w1.heap.size 0 (by rfl) cs1 _ HR1.out Try.underlying32 rfl hsz3 ?_
          refine hK _ _ ?_
          clear hK K
          refine wpAny_ready (rs := [4]) (by kernel_rfl) (by simp) ?_
          refine AllReady.cons rfl (fun K hK => ?_) AllReady.nil
          · skip
            refine step_store (by rfl) 32 _ _ rfl (w.heap.size + 1) 0 cs1.toArray (by rfl) (by rfl) r2 hsz2 r3 ?_
            refine hK _ _ ?_
            clear hK K
            refine wpAny_ready (rs := [5]) (by kernel_rfl) (by simp) ?_
            refine AllReady.cons rfl (fun K hK => ?_) AllReady.nil
            · skip
              go_simp
              refine hK _ _ ?_
              clear hK K
              refine wpAny_ready (rs := [6]) (by kernel_rfl) (by simp) ?_
              refine AllReady.cons rfl (fun K hK => ?_) AllReady.nil
              · skip
                go_simp
                refine hK _ _ ?_
                clear hK K
                refine wpAny_done (by kernel_rfl) ?_ _
                go_wp2
                exact bodyPost_ret (results_cell3 rfl _ _ (w.heap.size + 1) 0 (by rfl) cs1 _ HR4.out Try.underlying32 rfl hsz3) rfl (by
                  show AnsT w _ (.returned (.tuple #[.agg cs1.toArray, .slice none 0 0, .int .i64 0])) (TickR s now)
                  exact HAN.out)
  · skip
    go_simp
    refine hK _ _ ?_
    clear hK K
    refine wpAny_ready (rs := [0, 3]) (by kernel_rfl) (by simp) ?_
    refine AllReady.cons rfl (fun K hK => ?_) (AllReady.cons rfl (fun K hK => ?_) AllReady.nil)
    · skip
      go_simp
      refine hK _ _ ?_
      clear hK K
      refine wpAny_ready (rs := [1, 3]) (by kernel_rfl) (by simp) ?_
      refine AllReady.cons rfl (fun K hK => ?_) (AllReady.cons rfl (fun K hK => ?_) AllReady.nil)
      · skip
        refine step_load (by rfl) 32 _ rfl w1.heap.size 0 (by rfl) cs1 _ HR1.out Try.underlying32 rfl hsz3 ?_
        refine hK _ _ ?_
        clear hK K
        refine wpAny_ready (rs := [3, 4]) (by kernel_rfl) (by simp) ?_
        refine AllReady.cons rfl (fun K hK => ?_) (AllReady.cons rfl (fun K hK => ?_) AllReady.nil)
        · skip
          go_simp
          refine hK _ _ ?_
          clear hK K
          refine wpAny_ready (rs := [4]) (by kernel_rfl) (by simp) ?_
          refine AllReady.cons rfl (fun K hK => ?_) AllReady.nil
          · skip
            refine step_store (by rfl) 32 _ _ rfl (w.heap.size + 1) 0 cs1.toArray (by rfl) (by rfl) r2 hsz2 r3 ?_
            refine hK _ _ ?_
            clear hK K
            refine wpAny_ready (rs := [5]) (by kernel_rfl) (by simp) ?_
            refine AllReady.cons rfl (fun K hK => ?_) AllReady.nil
            · skip
              go_simp
              refine hK _ _ ?_
              clear hK K
              refine wpAny_ready (rs := [6]) (by kernel_rfl) (by simp) ?_
              refine AllReady.cons rfl (fun K hK => ?_) AllReady.nil
              · skip
                go_simp
                refine hK _ _ ?_
                clear hK K
                refine wpAny_done (by kernel_rfl) ?_ _
                go_wp2
                exact bodyPost_ret (results_cell3 rfl _ _ (w.heap.size + 1) 0 (by rfl) cs1 _ HR4.out Try.underlying32 rfl hsz3) rfl (by
                  show AnsT w _ (.returned (.tuple #[.agg cs1.toArray, .slice none 0 0, .int .i64 0])) (TickR s now)
                  exact HAN.out)
        · skip
          refine step_store (by rfl) 32 _ _ rfl (w.heap.size + 1) 0 cs1.toArray (by rfl) (by rfl) r2 hsz2 r3 ?_
          refine hK _ _ ?_
          clear hK K
          refine wpAny_ready (rs := [3]) (by kernel_rfl) (by simp) ?_
          refine AllReady.cons rfl (fun K hK => ?_) AllReady.nil
          · skip
            go_simp
            refine hK _ _ ?_
            clear hK K
            refine wpAny_ready (rs := [5]) (by kernel_rfl) (by simp) ?_
            refine AllReady.cons rfl (fun K hK => ?_) AllReady.nil
            · skip
              go_simp
              refine hK _ _ ?_
              clear hK K
              refine wpAny_ready (rs := [6]) (by kernel_rfl) (by simp) ?_
              refine AllReady.cons rfl (fun K hK => ?_) AllReady.nil
              · skip
                go_simp
                refine hK _ _ ?_
                clear hK K
                refine wpAny_done (by kernel_rfl) ?_ _
                go_wp2
                exact bodyPost_ret (results_cell3 rfl _ _ (w.heap.size + 1) 0 (by rfl) cs1 _ HR4.out Try.underlying32 rfl hsz3) rfl (by
                  show AnsT w _ (.returned (.tuple #[.agg cs1.toArray, .slice none 0 0, .int .i64 0])) (TickR s now)
                  exact HAN.out)
      · skip
        go_simp
        refine hK _ _ ?_
        clear hK K
        refine wpAny_ready (rs := [1]) (by kernel_rfl) (by simp) ?_
        refine AllReady.cons rfl (fun K hK => ?_) AllReady.nil
        · skip
          refine step_load (by rfl) 32 _ rfl w1.heap.size 0 (by rfl) cs1 _ HR1.out Try.underlying32 rfl hsz3 ?_
          refine hK _ _ ?_
          clear hK K
          refine wpAny_ready (rs := [4]) (by kernel_rfl) (by simp) ?_
          refine AllReady.cons rfl (fun K hK => ?_) AllReady.nil
          · skip
            refine step_store (by rfl) 32 _ _ rfl (w.heap.size + 1) 0 cs1.toArray (by rfl) (by rfl) r2 hsz2 r3 ?_
            refine hK _ _ ?_
            clear hK K
            refine wpAny_ready (rs := [5]) (by kernel_rfl) (by simp) ?_
            refine AllReady.cons rfl (fun K hK => ?_) AllReady.nil
            · skip
              go_simp
              refine hK _ _ ?_
              clear hK K
              refine wpAny_ready (rs := [6]) (by kernel_rfl) (by simp) ?_
              refine AllReady.cons rfl (fun K hK => ?_) AllReady.nil
              · skip
                go_simp
                refine hK _ _ ?_
                clear hK K
                refine wpAny_done (by kernel_rfl) ?_ _
                go_wp2
                exact bodyPost_ret (results_cell3 rfl _ _ (w.heap.size + 1) 0 (by rfl) cs1 _ HR4.out Try.underlying32 rfl hsz3) rfl (by
                  show AnsT w _ (.returned (.tuple #[.agg cs1.toArray, .slice none 0 0, .int .i64 0])) (TickR s now)
                  exact HAN.out)
    · skip
      go_simp
      refine hK _ _ ?_
      clear hK K
      refine wpAny_ready (rs := [0]) (by kernel_rfl) (by simp) ?_
      refine AllReady.cons rfl (fun K hK => ?_) AllReady.nil
      · skip
        go_simp
        refine hK _ _ ?_
        clear hK K
        refine wpAny_ready (rs := [1]) (by kernel_rfl) (by simp) ?_
        refine AllReady.cons rfl (fun K hK => ?_) AllReady.nil
        · skip
          refine step_load (by rfl) 32 _ rfl w1.heap.size 0 (by rfl) cs1 _ HR1.out Try.underlying32 rfl hsz3 ?_
          refine hK _ _ ?_
          clear hK K
          refine wpAny_ready (rs := [4]) (by kernel_rfl) (by simp) ?_
          refine AllReady.cons rfl (fun K hK => ?_) AllReady.nil
          · skip
            refine step_store (by rfl) 32 _ _ rfl (w.heap.size + 1) 0 cs1.toArray (by rfl) (by rfl) r2 hsz2 r3 ?_
            refine hK _ _ ?_
            clear hK K
            refine wpAny_ready (rs := [5]) (by kernel_rfl) (by simp) ?_
            refine AllReady.cons rfl (fun K hK => ?_) AllReady.nil
            · skip
              go_simp
              refine hK _ _ ?_
              clear hK K
              refine wpAny_ready (rs := [6]) (by kernel_rfl) (by simp) ?_
              refine AllReady.cons rfl (fun K hK => ?_) AllReady.nil
              · skip
                go_simp
                refine hK _ _ ?_
                clear hK K
                refine wpAny_done (by kernel_rfl) ?_ _
                go_wp2
                exact bodyPost_ret (results_cell3 rfl _ _ (w.heap.size + 1) 0 (by rfl) cs1 _ HR4.out Try.underlying32 rfl hsz3) rfl (by
                  show AnsT w _ (.returned (.tuple #[.agg cs1.toArray, .slice none 0 0, .int .i64 0])) (TickR s now)
                  exact HAN.out)
set_option maxRecDepth 20000 in
set_option maxHeartbeats 16000000 in
theorem tick_ask (s : Sn) (p : Pt) (now : Int) (w : World) (hc : CameS w s p) (hok : okU s = true) (hn : inB now 0 1048576 = true) (ha : asksU s = true) (hd : s.due ≤ now) :
    Calls Try.prog 25 #[snv s p, .int .i64 now] w fun e w' => AnsT w w' e (TickR s now) := by
  obtain ⟨cs, hcs⟩ : ∃ cs, Hid (cs = sncells s p) := ⟨_, rfl⟩
  have hsz1 : (Try.prog.info? 32).map (·.size) = some cs.length := by rw [show cs.length = 24 by rw [hcs.out]; rfl]; kernel_rfl
  have HBG : Hid (∀ W, Below w.heap.size w W → Calls Try.prog 45 #[.agg cs.toArray, .int .i64 now] W fun e w' => ∃ p' tl, e = .returned (.tuple #[.agg tl.toArray, .int .i64 0]) ∧ Hid (tl = tcells s p' (.slice none 0 0)) ∧ Hid (Below W.heap.size W w' ∧ CameS w' s p' ∧ NewS W.heap.size p' ∧ OwnN w' W.heap.size s p')) := fun W hb => by
    rw [hcs.out]
    exact (begin_own s p now W (hc.later hb) hok hn).mono (by rintro e w' ⟨p', rfl, h⟩; exact ⟨p', _, rfl, rfl, h⟩)
  have HEN : Hid (EnV w ((w.alloc (snc s p)).alloc (snc zeroU zeroP)) s p) := EnV.start w s p
  have HR0 : Hid (((w.alloc (snc s p)).alloc (snc zeroU zeroP)).rangeAt w.heap.size 0 cs) := by rw [hcs.out]; exact sn_range HEN.out.one
  have hnw := inB_of hn
  have HBT : Hid (∀ W0 w1 p' w3, Below W0.heap.size W0 w1 ∧ CameS w1 s p' ∧ NewS W0.heap.size p' ∧ OwnN w1 W0.heap.size s p' → w3.heap[w1.heap.size]? = some (tnc s p' (.slice none 0 0)) → Below w1.heap.size w1 w3 → w1.heap.size + 1 ≤ w3.heap.size → TnO W0 w3 w1.heap.size (w1.heap.size + 1) W0.heap.size (.slice none 0 0) s p' [] ∧ OwnN w3 W0.heap.size s p') := fun W0 w1 p' w3 hq hbx hb hz => tn_begin rfl hq.1 hq.2.1 hq.2.2.1 hq.2.2.2 hok hbx hb hz
  have HOK : Hid (okU s = true) := hok
  have hs25 : (Try.prog.info? 75).map (·.size) = some 25 := by kernel_rfl
  clear hc hok hn
  have HA : Hid (asksU s = true) := ha
  go_enter Try.func25, Try.ntmps25
  go_upto_region 2 with (first | (refine wpList_load_mid rfl 32 _ rfl w.heap.size 0 (by rfl) cs _ HR0.out Try.underlying32 rfl hsz1 ?_) | (go_at_call 45; refine (HBG.out _ HEN.out.bel).mono ?_; rintro e w1 ⟨p', tl, rfl, htl, hq⟩; obtain ⟨W0, HQ0⟩ : ∃ W0, Hid (EnV w W0 s p ∧ Below W0.heap.size W0 w1 ∧ CameS w1 s p' ∧ NewS W0.heap.size p' ∧ OwnN w1 W0.heap.size s p') := ⟨_, HEN.out, hq.out⟩; clear hq; obtain ⟨HT3, HO3, HX2, HB2, HZ2⟩ := t_stored w1 s p' tl htl.out; have hl25 : (Try.prog.info? 75).map (·.size) = some tl.toArray.size := (by rw [show tl.toArray.size = 25 by rw [htl.out]; rfl]; exact hs25)) | (refine wpList_store_mid rfl 75 _ _ rfl w1.heap.size 0 tl.toArray (by rfl) (by rfl) HT3.out hl25 HO3.out ?_))
  obtain ⟨wt, hwt⟩ : ∃ wt, (w1.alloc (tnc zeroU zeroP (.slice none 0 0))).setCells w1.heap.size 0 tl = wt := ⟨_, rfl⟩
  change Code.wp Try.prog _ _ _ ((w1.alloc (tnc zeroU zeroP (.slice none 0 0))).setCells w1.heap.size 0 tl)
  rw [hwt] at HX2 HB2 HZ2 ⊢
  clear hwt HT3 HO3 HR0 HBG htl hcs
  have HTN : Hid (TnO W0 wt w1.heap.size (w1.heap.size + 1) W0.heap.size (.slice none 0 0) s p' [] ∧ OwnN wt W0.heap.size s p') := HBT.out W0 w1 p' wt HQ0.out.2 HX2.out HB2.out HZ2.out
  have HAS : Hid (Calls Try.prog 50 #[.pointer (some ⟨w1.heap.size, 0, none⟩)] wt fun e w' => e = .returned (.bool (asksU s)) ∧ wt = w') := asks_any s p' (.slice none 0 0) w1.heap.size wt HX2.out
  have k20 : wt.cell? ⟨w1.heap.size, 20, none⟩ = some (.int .i64 s.due) := (tn_asks HTN.out.1).2.2.2.1
  rw [HA.out] at HAS
  clear ha
  have HAK : Hid (Calls Try.prog 57 #[.pointer (some ⟨w1.heap.size, 0, none⟩), .int .i64 now] wt fun e w' => e = .returned (.tuple #[]) ∧ ∃ v' s' L', Hid (TnO W0 w' w1.heap.size (w1.heap.size + 1) W0.heap.size v' s' p' L' ∧ EachD w' L' ∧ AskR s now s' L')) := ask_any s p' w1.heap.size (w1.heap.size + 1) W0.heap.size now W0 wt HTN.out.1 HTN.out.2 HOK.out hnw
  go_wp2_with (first | (go_at_call 50; refine HAS.out.mono ?_; rintro e w2 ⟨rfl, rfl⟩) | (go_at_call 57; refine HAK.out.mono ?_; rintro e w4 ⟨rfl, v1, s1, L1, H3⟩))
  have H4 : Hid (FinT W0.heap.size W0 w4 w1.heap.size (w1.heap.size + 1) v1 s1 p' L1 ∧ TickR s now s1 L1) := ⟨H3.out.1.fin H3.out.2.1, .inr ⟨HA.out, hd, H3.out.2.2⟩⟩
  obtain ⟨cs1, hcs1⟩ : ∃ cs, Hid (cs = sncells s1 p') := ⟨_, rfl⟩
  obtain ⟨r1, r2, r3, r4, q1, q2, HAN⟩ := turn_fin (rb := w.heap.size + 1) (w := w) H4.out.1 (old_block H4.out.1.bel HQ0.out.1.res) (by have := HQ0.out.1.size; omega) HQ0.out.2.1.size (by omega) (below_of HQ0.out.1.bel H4.out.1.bel) hcs1.out H4.out.2
  have HR1 : Hid (w4.drew.rangeAt w1.heap.size 0 cs1) := r1
  have HR4 : Hid ((w4.drew.setCells (w.heap.size + 1) 0 cs1).rangeAt (w.heap.size + 1) 0 cs1) := r4
  have hl24 : cs1.length = 24 := by rw [hcs1.out]; rfl
  have hsz3 : (Try.prog.info? 32).map (·.size) = some cs1.length := by rw [hl24]; kernel_rfl
  have hsz2 : (Try.prog.info? 32).map (·.size) = some cs1.toArray.size := by rw [show cs1.toArray.size = 24 from hl24]; kernel_rfl
  clear r1 r4
  refine wp_region_any (by kernel_rfl) ?_
  change wpAny _ _ _ _ _ _ _ (World.drew _)
  refine wpAny_ready (rs := [0, 2]) (by kernel_rfl) (by simp) ?_
  refine AllReady.cons rfl (fun K hK => ?_) (AllReady.cons rfl (fun K hK => ?_) AllReady.nil)
  · skip
    go_simp
    refine hK _ _ ?_
    clear hK K
    refine wpAny_ready (rs := [1, 2]) (by kernel_rfl) (by simp) ?_
    refine AllReady.cons rfl (fun K hK => ?_) (AllReady.cons rfl (fun K hK => ?_) AllReady.nil)
    · skip
      refine step_load (by rfl) 32 _ rfl w1.heap.size 0 (by rfl) cs1 _ HR1.out Try.underlying32 rfl hsz3 ?_
      refine hK _ _ ?_
      clear hK K
      refine wpAny_ready (rs := [2, 4]) (by kernel_rfl) (by simp) ?_
      refine AllReady.cons rfl (fun K hK => ?_) (AllReady.cons rfl (fun K hK => ?_) AllReady.nil)
      · skip
        go_simp
        refine hK _ _ ?_
        clear hK K
        refine wpAny_ready (rs := [3, 4]) (by kernel_rfl) (by simp) ?_
        refine AllReady.cons rfl (fun K hK => ?_) (AllReady.cons rfl (fun K hK => ?_) AllReady.nil)
        · skip
          go_simp
          refine hK _ _ ?_
          clear hK K
          refine wpAny_ready (rs := [4]) (by kernel_rfl) (by simp) ?_
          refine AllReady.cons rfl (fun K hK => ?_) AllReady.nil
          · skip
            refine step_store (by rfl) 32 _ _ rfl (w.heap.size + 1) 0 cs1.toArray (by rfl) (by rfl) r2 hsz2 r3 ?_
            refine hK _ _ ?_
            clear hK K
            refine wpAny_ready (rs := [5]) (by kernel_rfl) (by simp) ?_
            refine AllReady.cons rfl (fun K hK => ?_) AllReady.nil
            · skip
              go_simp
              refine hK _ _ ?_
              clear hK K
              refine wpAny_ready (rs := [6]) (by kernel_rfl) (by simp) ?_
              refine AllReady.cons rfl (fun K hK => ?_) AllReady.nil
              · skip
                go_simp
                refine hK _ _ ?_
                clear hK K
                refine wpAny_done (by kernel_rfl) ?_ _
                go_wp2
                exact bodyPost_ret (results_cell3 rfl _ _ (w.heap.size + 1) 0 (by rfl) cs1 _ HR4.out Try.underlying32 rfl hsz3) rfl (by
                  show AnsT w _ (.returned (.tuple #[.agg cs1.toArray, v1, .int .i64 0])) (TickR s now)
                  exact HAN.out)
        · skip
          refine step_store (by rfl) 32 _ _ rfl (w.heap.size + 1) 0 cs1.toArray (by rfl) (by rfl) r2 hsz2 r3 ?_
          refine hK _ _ ?_
          clear hK K
          refine wpAny_ready (rs := [3]) (by kernel_rfl) (by simp) ?_
          refine AllReady.cons rfl (fun K hK => ?_) AllReady.nil
          · skip
            go_simp
            refine hK _ _ ?_
            clear hK K
            refine wpAny_ready (rs := [5]) (by kernel_rfl) (by simp) ?_
            refine AllReady.cons rfl (fun K hK => ?_) AllReady.nil
            · skip
              go_simp
              refine hK _ _ ?_
              clear hK K
              refine wpAny_ready (rs := [6]) (by kernel_rfl) (by simp) ?_
              refine AllReady.cons rfl (fun K hK => ?_) AllReady.nil
              · skip
                go_simp
                refine hK _ _ ?_
                clear hK K
                refine wpAny_done (by kernel_rfl) ?_ _
                go_wp2
                exact bodyPost_ret (results_cell3 rfl _ _ (w.heap.size + 1) 0 (by rfl) cs1 _ HR4.out Try.underlying32 rfl hsz3) rfl (by
                  show AnsT w _ (.returned (.tuple #[.agg cs1.toArray, v1, .int .i64 0])) (TickR s now)
                  exact HAN.out)
      · skip
        refine step_store (by rfl) 32 _ _ rfl (w.heap.size + 1) 0 cs1.toArray (by rfl) (by rfl) r2 hsz2 r3 ?_
        refine hK _ _ ?_
        clear hK K
        refine wpAny_ready (rs := [2]) (by kernel_rfl) (by simp) ?_
        refine AllReady.cons rfl (fun K hK => ?_) AllReady.nil
        · skip
          go_simp
          refine hK _ _ ?_
          clear hK K
          refine wpAny_ready (rs := [3]) (by kernel_rfl) (by simp) ?_
          refine AllReady.cons rfl (fun K hK => ?_) AllReady.nil
          · skip
            go_simp
            refine hK _ _ ?_
            clear hK K
            refine wpAny_ready (rs := [5]) (by kernel_rfl) (by simp) ?_
            refine AllReady.cons rfl (fun K hK => ?_) AllReady.nil
            · skip
              go_simp
              refine hK _ _ ?_
              clear hK K
              refine wpAny_ready (rs := [6]) (by kernel_rfl) (by simp) ?_
              refine AllReady.cons rfl (fun K hK => ?_) AllReady.nil
              · skip
                go_simp
                refine hK _ _ ?_
                clear hK K
                refine wpAny_done (by kernel_rfl) ?_ _
                go_wp2
                exact bodyPost_ret (results_cell3 rfl _ _ (w.heap.size + 1) 0 (by rfl) cs1 _ HR4.out Try.underlying32 rfl hsz3) rfl (by
                  show AnsT w _ (.returned (.tuple #[.agg cs1.toArray, v1, .int .i64 0])) (TickR s now)
                  exact HAN.out)
    · skip
      go_simp
      refine hK _ _ ?_
      clear hK K
      refine wpAny_ready (rs := [1, 3]) (by kernel_rfl) (by simp) ?_
      refine AllReady.cons rfl (fun K hK => ?_) (AllReady.cons rfl (fun K hK => ?_) AllReady.nil)
      · skip
        refine step_load (by rfl) 32 _ rfl w1.heap.size 0 (by rfl) cs1 _ HR1.out Try.underlying32 rfl hsz3 ?_
        refine hK _ _ ?_
        clear hK K
        refine wpAny_ready (rs := [3, 4]) (by kernel_rfl) (by simp) ?_
        refine AllReady.cons rfl (fun K hK => ?_) (AllReady.cons rfl (fun K hK => ?_) AllReady.nil)
        · skip
          go_simp
          refine hK _ _ ?_
          clear hK K
          refine wpAny_ready (rs := [4]) (by kernel_rfl) (by simp) ?_
          refine AllReady.cons rfl (fun K hK => ?_) AllReady.nil
          · skip
            refine step_store (by rfl) 32 _ _ rfl (w.heap.size + 1) 0 cs1.toArray (by rfl) (by rfl) r2 hsz2 r3 ?_
            refine hK _ _ ?_
            clear hK K
            refine wpAny_ready (rs := [5]) (by kernel_rfl) (by simp) ?_
            refine AllReady.cons rfl (fun K hK => ?_) AllReady.nil
            · skip
              go_simp
              refine hK _ _ ?_
              clear hK K
              refine wpAny_ready (rs := [6]) (by kernel_rfl) (by simp) ?_
              refine AllReady.cons rfl (fun K hK => ?_) AllReady.nil
              · skip
                go_simp
                refine hK _ _ ?_
                clear hK K
                refine wpAny_done (by kernel_rfl) ?_ _
                go_wp2
                exact bodyPost_ret (results_cell3 rfl _ _ (w.heap.size + 1) 0 (by rfl) cs1 _ HR4.out Try.underlying32 rfl hsz3) rfl (by
                  show AnsT w _ (.returned (.tuple #[.agg cs1.toArray, v1, .int .i64 0])) (TickR s now)
                  exact HAN.out)
        · skip
          refine step_store (by rfl) 32 _ _ rfl (w.heap.size + 1) 0 cs1.toArray (by rfl) (by rfl) r2 hsz2 r3 ?_
          refine hK _ _ ?_
          clear hK K
          refine wpAny_ready (rs := [3]) (by kernel_rfl) (by simp) ?_
          refine AllReady.cons rfl (fun K hK => ?_) AllReady.nil
          · skip
            go_simp
            refine hK _ _ ?_
            clear hK K
            refine wpAny_ready (rs := [5]) (by kernel_rfl) (by simp) ?_
            refine AllReady.cons rfl (fun K hK => ?_) AllReady.nil
            · skip
              go_simp
              refine hK _ _ ?_
              clear hK K
              refine wpAny_ready (rs := [6]) (by kernel_rfl) (by simp) ?_
              refine AllReady.cons rfl (fun K hK => ?_) AllReady.nil
              · skip
                go_simp
                refine hK _ _ ?_
                clear hK K
                refine wpAny_done (by kernel_rfl) ?_ _
                go_wp2
                exact bodyPost_ret (results_cell3 rfl _ _ (w.heap.size + 1) 0 (by rfl) cs1 _ HR4.out Try.underlying32 rfl hsz3) rfl (by
                  show AnsT w _ (.returned (.tuple #[.agg cs1.toArray, v1, .int .i64 0])) (TickR s now)
                  exact HAN.out)
      · skip
        go_simp
        refine hK _ _ ?_
        clear hK K
        refine wpAny_ready (rs := [1]) (by kernel_rfl) (by simp) ?_
        refine AllReady.cons rfl (fun K hK => ?_) AllReady.nil
        · skip
          refine step_load (by rfl) 32 _ rfl w1.heap.size 0 (by rfl) cs1 _ HR1.out Try.underlying32 rfl hsz3 ?_
          refine hK _ _ ?_
          clear hK K
          refine wpAny_ready (rs := [4]) (by kernel_rfl) (by simp) ?_
          refine AllReady.cons rfl (fun K hK => ?_) AllReady.nil
          · skip
            refine step_store (by rfl) 32 _ _ rfl (w.heap.size + 1) 0 cs1.toArray (by rfl) (by rfl) r2 hsz2 r3 ?_
            refine hK _ _ ?_
            clear hK K
            refine wpAny_ready (rs := [5]) (by kernel_rfl) (by simp) ?_
            refine AllReady.cons rfl (fun K hK => ?_) AllReady.nil
            · skip
              go_simp
              refine hK _ _ ?_
              clear hK K
              refine wpAny_ready (rs := [6]) (by kernel_rfl) (by simp) ?_
              refine AllReady.cons rfl (fun K hK => ?_) AllReady.nil
              · skip
                go_simp
                refine hK _ _ ?_
                clear hK K
                refine wpAny_done (by kernel_rfl) ?_ _
                go_wp2
                exact bodyPost_ret (results_cell3 rfl _ _ (w.heap.size + 1) 0 (by rfl) cs1 _ HR4.out Try.underlying32 rfl hsz3) rfl (by
                  show AnsT w _ (.returned (.tuple #[.agg cs1.toArray, v1, .int .i64 0])) (TickR s now)
                  exact HAN.out)
  · skip
    go_simp
    refine hK _ _ ?_
    clear hK K
    refine wpAny_ready (rs := [0, 3]) (by kernel_rfl) (by simp) ?_
    refine AllReady.cons rfl (fun K hK => ?_) (AllReady.cons rfl (fun K hK => ?_) AllReady.nil)
    · skip
      go_simp
      refine hK _ _ ?_
      clear hK K
      refine wpAny_ready (rs := [1, 3]) (by kernel_rfl) (by simp) ?_
      refine AllReady.cons rfl (fun K hK => ?_) (AllReady.cons rfl (fun K hK => ?_) AllReady.nil)
      · skip
        refine step_load (by rfl) 32 _ rfl w1.heap.size 0 (by rfl) cs1 _ HR1.out Try.underlying32 rfl hsz3 ?_
        refine hK _ _ ?_
        clear hK K
        refine wpAny_ready (rs := [3, 4]) (by kernel_rfl) (by simp) ?_
        refine AllReady.cons rfl (fun K hK => ?_) (AllReady.cons rfl (fun K hK => ?_) AllReady.nil)
        · skip
          go_simp
          refine hK _ _ ?_
          clear hK K
          refine wpAny_ready (rs := [4]) (by kernel_rfl) (by simp) ?_
          refine AllReady.cons rfl (fun K hK => ?_) AllReady.nil
          · skip
            refine step_store (by rfl) 32 _ _ rfl (w.heap.size + 1) 0 cs1.toArray (by rfl) (by rfl) r2 hsz2 r3 ?_
            refine hK _ _ ?_
            clear hK K
            refine wpAny_ready (rs := [5]) (by kernel_rfl) (by simp) ?_
            refine AllReady.cons rfl (fun K hK => ?_) AllReady.nil
            · skip
              go_simp
              refine hK _ _ ?_
              clear hK K
              refine wpAny_ready (rs := [6]) (by kernel_rfl) (by simp) ?_
              refine AllReady.cons rfl (fun K hK => ?_) AllReady.nil
              · skip
                go_simp
                refine hK _ _ ?_
                clear hK K
                refine wpAny_done (by kernel_rfl) ?_ _
                go_wp2
                exact bodyPost_ret (results_cell3 rfl _ _ (w.heap.size + 1) 0 (by rfl) cs1 _ HR4.out Try.underlying32 rfl hsz3) rfl (by
                  show AnsT w _ (.returned (.tuple #[.agg cs1.toArray, v1, .int .i64 0])) (TickR s now)
                  exact HAN.out)
        · skip
          refine step_store (by rfl) 32 _ _ rfl (w.heap.size + 1) 0 cs1.toArray (by rfl) (by rfl) r2 hsz2 r3 ?_
          refine hK _ _ ?_
          clear hK K
          refine wpAny_ready (rs := [3]) (by kernel_rfl) (by simp) ?_
          refine AllReady.cons rfl (fun K hK => ?_) AllReady.nil
          · skip
            go_simp
            refine hK _ _ ?_
            clear hK K
            refine wpAny_ready (rs := [5]) (by kernel_rfl) (by simp) ?_
            refine AllReady.cons rfl (fun K hK => ?_) AllReady.nil
            · skip
              go_simp
              refine hK _ _ ?_
              clear hK K
              refine wpAny_ready (rs := [6]) (by kernel_rfl) (by simp) ?_
              refine AllReady.cons rfl (fun K hK => ?_) AllReady.nil
              · skip
                go_simp
                refine hK _ _ ?_
                clear hK K
                refine wpAny_done (by kernel_rfl) ?_ _
                go_wp2
                exact bodyPost_ret (results_cell3 rfl _ _ (w.heap.size + 1) 0 (by rfl) cs1 _ HR4.out Try.underlying32 rfl hsz3) rfl (by
                  show AnsT w _ (.returned (.tuple #[.agg cs1.toArray, v1, .int .i64 0])) (TickR s now)
                  exact HAN.out)
      · skip
        go_simp
        refine hK _ _ ?_
        clear hK K
        refine wpAny_ready (rs := [1]) (by kernel_rfl) (by simp) ?_
        refine AllReady.cons rfl (fun K hK => ?_) AllReady.nil
        · skip
          refine step_load (by rfl) 32 _ rfl w1.heap.size 0 (by rfl) cs1 _ HR1.out Try.underlying32 rfl hsz3 ?_
          refine hK _ _ ?_
          clear hK K
          refine wpAny_ready (rs := [4]) (by kernel_rfl) (by simp) ?_
          refine AllReady.cons rfl (fun K hK => ?_) AllReady.nil
          · skip
            refine step_store (by rfl) 32 _ _ rfl (w.heap.size + 1) 0 cs1.toArray (by rfl) (by rfl) r2 hsz2 r3 ?_
            refine hK _ _ ?_
            clear hK K
            refine wpAny_ready (rs := [5]) (by kernel_rfl) (by simp) ?_
            refine AllReady.cons rfl (fun K hK => ?_) AllReady.nil
            · skip
              go_simp
              refine hK _ _ ?_
              clear hK K
              refine wpAny_ready (rs := [6]) (by kernel_rfl) (by simp) ?_
              refine AllReady.cons rfl (fun K hK => ?_) AllReady.nil
              · skip
                go_simp
                refine hK _ _ ?_
                clear hK K
                refine wpAny_done (by kernel_rfl) ?_ _
                go_wp2
                exact bodyPost_ret (results_cell3 rfl _ _ (w.heap.size + 1) 0 (by rfl) cs1 _ HR4.out Try.underlying32 rfl hsz3) rfl (by
                  show AnsT w _ (.returned (.tuple #[.agg cs1.toArray, v1, .int .i64 0])) (TickR s now)
                  exact HAN.out)
    · skip
      go_simp
      refine hK _ _ ?_
      clear hK K
      refine wpAny_ready (rs := [0]) (by kernel_rfl) (by simp) ?_
      refine AllReady.cons rfl (fun K hK => ?_) AllReady.nil
      · skip
        go_simp
        refine hK _ _ ?_
        clear hK K
        refine wpAny_ready (rs := [1]) (by kernel_rfl) (by simp) ?_
        refine AllReady.cons rfl (fun K hK => ?_) AllReady.nil
        · skip
          refine step_load (by rfl) 32 _ rfl w1.heap.size 0 (by rfl) cs1 _ HR1.out Try.underlying32 rfl hsz3 ?_
          refine hK _ _ ?_
          clear hK K
          refine wpAny_ready (rs := [4]) (by kernel_rfl) (by simp) ?_
          refine AllReady.cons rfl (fun K hK => ?_) AllReady.nil
          · skip
            refine step_store (by rfl) 32 _ _ rfl (w.heap.size + 1) 0 cs1.toArray (by rfl) (by rfl) r2 hsz2 r3 ?_
            refine hK _ _ ?_
            clear hK K
            refine wpAny_ready (rs := [5]) (by kernel_rfl) (by simp) ?_
            refine AllReady.cons rfl (fun K hK => ?_) AllReady.nil
            · skip
              go_simp
              refine hK _ _ ?_
              clear hK K
              refine wpAny_ready (rs := [6]) (by kernel_rfl) (by simp) ?_
              refine AllReady.cons rfl (fun K hK => ?_) AllReady.nil
              · skip
                go_simp
                refine hK _ _ ?_
                clear hK K
                refine wpAny_done (by kernel_rfl) ?_ _
                go_wp2
                exact bodyPost_ret (results_cell3 rfl _ _ (w.heap.size + 1) 0 (by rfl) cs1 _ HR4.out Try.underlying32 rfl hsz3) rfl (by
                  show AnsT w _ (.returned (.tuple #[.agg cs1.toArray, v1, .int .i64 0])) (TickR s now)
                  exact HAN.out)
theorem tick_ok (s : Sn) (p : Pt) (now : Int) (w : World) (hc : CameS w s p) (hok : okU s = true) (hn : inB now 0 1048576 = true) : Calls Try.prog 25 #[snv s p, .int .i64 now] w fun e w' => AnsT w w' e (TickR s now) := by
  cases ha : asksU s with
  | false => exact tick_no s p now w hc hok hn ha
  | true =>
    by_cases hd : now < s.due
    · exact tick_wait s p now w hc hok hn ha hd
    · exact tick_ask s p now w hc hok hn ha (by omega)
end Go.Proofs.Ytnjcaolkcmpdcaa
