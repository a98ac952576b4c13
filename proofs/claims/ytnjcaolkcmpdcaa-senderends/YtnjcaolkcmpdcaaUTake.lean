/- sender.Take of a report. -/
import Derived.Test.YtnjcaolkcmpdcaaUFin
namespace Go.Proofs.Ytnjcaolkcmpdcaa
open Go.RowKit Go.Shelf
set_option linter.unusedVariables false
set_option maxRecDepth 20000 in
set_option maxHeartbeats 16000000 in
theorem take_rep (s : Sn) (p : Pt) (x : Sg) (xa : Option Addr) (xc : Nat) (a2 : Option Addr) (c2 : Nat) (now : Int) (w : World) (hc : CameS w s p) (hx : Came w x xa xc a2 c2) (hok : okU s = true) (hn : inB now 0 1048576 = true) (h1 : okS x = true) (h2 : (x.src != s.bgn.src) = false) (h3 : ((x.ses : Int) != (s.bgn.ses : Int)) = false) (hk : x.knd = 2) :
    Calls Try.prog 18 #[snv s p, sv x xa xc a2 c2, .int .i64 now] w fun e w' => AnsT w w' e (RepA s x now) := by
  obtain ⟨cs, hcs⟩ : ∃ cs, Hid (cs = sncells s p) := ⟨_, rfl⟩
  have hsz1 : (Try.prog.info? 32).map (·.size) = some cs.length := by rw [show cs.length = 24 by rw [hcs.out]; rfl]; kernel_rfl
  have HBG : Hid (∀ W, Below w.heap.size w W → Calls Try.prog 45 #[.agg cs.toArray, .int .i64 now] W fun e w' => ∃ p' tl, e = .returned (.tuple #[.agg tl.toArray, .int .i64 0]) ∧ Hid (tl = tcells s p' (.slice none 0 0)) ∧ Hid (Below W.heap.size W w' ∧ CameS w' s p' ∧ NewS W.heap.size p' ∧ OwnN w' W.heap.size s p')) := fun W hb => by
    rw [hcs.out]
    exact (begin_own s p now W (hc.later hb) hok hn).mono (by rintro e w' ⟨p', rfl, h⟩; exact ⟨p', _, rfl, rfl, h⟩)
  have HEN : Hid (EnU w (((w.alloc (snc s p)).alloc (sc x xa xc a2 c2)).alloc (snc zeroU zeroP)) s p x xa xc a2 c2) := EnU.start w s p x xa xc a2 c2
  have HR0 : Hid ((((w.alloc (snc s p)).alloc (sc x xa xc a2 c2)).alloc (snc zeroU zeroP)).rangeAt w.heap.size 0 cs) := by rw [hcs.out]; exact sn_range HEN.out.one
  obtain ⟨ct, hct⟩ : ∃ ct, Hid (ct = sgcells x xa xc a2 c2) := ⟨_, rfl⟩
  have htz : (Try.prog.info? 29).map (·.size) = some ct.length := by rw [show ct.length = 13 by rw [hct.out]; rfl]; kernel_rfl
  have HCK : Hid (∀ W, Below w.heap.size w W → Calls Try.prog 46 #[.agg ct.toArray] W fun e w' => e = .returned (.int .i64 (chkS x)) ∧ Hid (Below W.heap.size W w')) := fun W hb => by rw [hct.out]; exact check_any x xa xc a2 c2 W (hx.later hb)
  have HFW : Hid (∀ W, Below w.heap.size w W → Calls Try.prog 47 #[.agg ct.toArray] W fun e w' => e = .returned (.bool (fwdS x)) ∧ Hid (Below W.heap.size W w')) := fun W hb => by rw [hct.out]; exact forward_any x xa xc a2 c2 W
  rw [chk_ok h1] at HCK
  have h4 : fwdS x = false := by unfold fwdS; rw [hk]; rfl
  rw [h4] at HFW
  have HRP : Hid (∀ W0 w1 p' w3, EnU w W0 s p x xa xc a2 c2 ∧ Below W0.heap.size W0 w1 ∧ CameS w1 s p' ∧ NewS W0.heap.size p' ∧ OwnN w1 W0.heap.size s p' → w3.heap[w1.heap.size]? = some (tnc s p' (.slice none 0 0)) → Below w1.heap.size w1 w3 → w1.heap.size + 1 ≤ w3.heap.size → Calls Try.prog 48 #[.pointer (some ⟨w1.heap.size, 0, none⟩), .agg ct.toArray, .int .i64 now] w3 fun e w' => e = .returned (.tuple #[]) ∧ ∃ v' s' p' L', Hid (FinT W0.heap.size W0 w' w1.heap.size (w1.heap.size + 1) v' s' p' L' ∧ RepA s x now s' L')) := fun W0 w1 p' w3 hq hbx hb hz => by
    rw [hct.out]
    obtain ⟨hT, hN⟩ := tn_begin rfl hq.2.1 hq.2.2.1 hq.2.2.2.1 hq.2.2.2.2 hok hbx hb hz
    exact rep_any s p' w1.heap.size (w1.heap.size + 1) W0.heap.size x xa xc a2 c2 now W0 w3 hT hN hok rfl (hx.later hq.1.bel) h1 hk hn
  have HKN : Hid (∀ W : World, W.heap[w.heap.size + 1]? = some (sc x xa xc a2 c2) → W.cell? ⟨w.heap.size + 1, 0, none⟩ = some (.int .i64 2)) := fun W e => by rw [cell_of e, ← hk]; rfl
  clear h1 h4 hc hx hok hn hk
  go_enter Try.func18, Try.ntmps18
  have hs25 : (Try.prog.info? 75).map (·.size) = some 25 := by kernel_rfl
  go_upto_region 2 with (first | (refine wpList_load_mid rfl 32 _ rfl w.heap.size 0 (by rfl) cs _ HR0.out Try.underlying32 rfl hsz1 ?_) | (go_at_call 45; refine (HBG.out _ HEN.out.bel).mono ?_; rintro e w1 ⟨p', tl, rfl, htl, hq⟩; obtain ⟨W0, HQ0⟩ : ∃ W0, Hid (EnU w W0 s p x xa xc a2 c2 ∧ Below W0.heap.size W0 w1 ∧ CameS w1 s p' ∧ NewS W0.heap.size p' ∧ OwnN w1 W0.heap.size s p') := ⟨_, HEN.out, hq.out⟩; clear hq; obtain ⟨HT3, HO3, HX2, HB2, HZ2⟩ := t_stored w1 s p' tl htl.out; have hl25 : (Try.prog.info? 75).map (·.size) = some tl.toArray.size := (by rw [show tl.toArray.size = 25 by rw [htl.out]; rfl]; exact hs25)) | (refine wpList_store_mid rfl 75 _ _ rfl w1.heap.size 0 tl.toArray (by rfl) (by rfl) HT3.out hl25 HO3.out ?_))
  obtain ⟨wt, hwt⟩ : ∃ wt, (w1.alloc (tnc zeroU zeroP (.slice none 0 0))).setCells w1.heap.size 0 tl = wt := ⟨_, rfl⟩
  change Code.wp Try.prog _ _ _ ((w1.alloc (tnc zeroU zeroP (.slice none 0 0))).setCells w1.heap.size 0 tl)
  rw [hwt] at HX2 HB2 HZ2 ⊢
  clear hwt HT3 HO3 HR0 HBG htl hcs
  have HE2 : Hid (EnU w wt s p x xa xc a2 c2) := (HQ0.out.1.later HQ0.out.2.1).later HB2.out
  have hR2 : Hid (wt.rangeAt (w.heap.size + 1) 0 ct) := by rw [hct.out]; exact usg_range HE2.out.two
  go_wp2_with (first | (go_at_call 46; refine (HCK.out _ HE2.out.bel).mono ?_; rintro e w2 ⟨rfl, hb2⟩; have HE3 : Hid (EnU w w2 s p x xa xc a2 c2) := HE2.out.later hb2.out; have hR3 : Hid (w2.rangeAt (w.heap.size + 1) 0 ct) := (by rw [hct.out]; exact usg_range HE3.out.two); have y1 := (scells HE3.out.two).2.1; have y2 := (scells HE3.out.two).2.2.1; have y3 := (ncells HE3.out.one).1; have y4 := (ncells HE3.out.one).2.1) | (go_at_call 47; refine (HFW.out _ HE3.out.bel).mono ?_; rintro e w3 ⟨rfl, hb3⟩; have HE4 : Hid (EnU w w3 s p x xa xc a2 c2) := HE3.out.later hb3.out; have hR4 : Hid (w3.rangeAt (w.heap.size + 1) 0 ct) := (by rw [hct.out]; exact usg_range HE4.out.two); have y5 := HKN.out w3 HE4.out.two; have HB5 : Hid (Below wt.heap.size wt w3) := below_of hb2.out hb3.out) | (refine wpList_load_want (by rfl) 29 _ rfl (w.heap.size + 1) 0 (by rfl) ct _ (by first | exact hR4.out | exact hR3.out | exact hR2.out) Try.underlying29 rfl htz ?_) | (go_at_call 48; refine (HRP.out W0 w1 p' w3 HQ0.out (old_block HB5.out HX2.out) (below_of HB2.out HB5.out) (Nat.le_trans HZ2.out HB5.out.size)).mono ?_; rintro e w4 ⟨rfl, v1, s1, p1, L1, H4⟩))
  obtain ⟨cs1, hcs1⟩ : ∃ cs, Hid (cs = sncells s1 p1) := ⟨_, rfl⟩
  obtain ⟨r1, r2, r3, r4, q1, q2, HAN⟩ := turn_fin (rb := w.heap.size + 1 + 1) (w := w) H4.out.1 (old_block H4.out.1.bel HQ0.out.1.res) (by have := HQ0.out.1.size; omega) HQ0.out.2.1.size (by omega) (below_of HQ0.out.1.bel H4.out.1.bel) hcs1.out H4.out.2
  have HR1 : Hid (w4.drew.rangeAt w1.heap.size 0 cs1) := r1
  have HR4 : Hid ((w4.drew.setCells (w.heap.size + 1 + 1) 0 cs1).rangeAt (w.heap.size + 1 + 1) 0 cs1) := r4
  have hl24 : cs1.length = 24 := by rw [hcs1.out]; rfl
  have hsz3 : (Try.prog.info? 32).map (·.size) = some cs1.length := by rw [hl24]; kernel_rfl
  have hsz2 : (Try.prog.info? 32).map (·.size) = some cs1.toArray.size := by rw [show cs1.toArray.size = 24 from hl24]; kernel_rfl
  clear r1 r4
  refine wp_region_any (by kernel_rfl) ?_
  change wpAny _ _ _ _ _ _ _ (World.drew _)
  refine wpAny_ready (rs := [0, 2]) (by kernel_rfl) (by simp) ?_
  refine AllReady.cons rfl (fun K hK => ?_) (AllReady.cons rfl (fun K hK => ?_) AllReady.nil)
  · skip
    go_simp
    refine hK _ _ ?_
    clear hK K
    refine wpAny_ready (rs := [1, 2]) (by kernel_rfl) (by simp) ?_
    refine AllReady.cons rfl (fun K hK => ?_) (AllReady.cons rfl (fun K hK => ?_) AllReady.nil)
    · skip
      refine step_load (by rfl) 32 _ rfl w1.heap.size 0 (by rfl) cs1 _ HR1.out Try.underlying32 rfl hsz3 ?_
      refine hK _ _ ?_
      clear hK K
      refine wpAny_ready (rs := [2, 4]) (by kernel_rfl) (by simp) ?_
      refine AllReady.cons rfl (fun K hK => ?_) (AllReady.cons rfl (fun K hK => ?_) AllReady.nil)
      · skip
        go_simp
        refine hK _ _ ?_
        clear hK K
        refine wpAny_ready (rs := [3, 4]) (by kernel_rfl) (by simp) ?_
        refine AllReady.cons rfl (fun K hK => ?_) (AllReady.cons rfl (fun K hK => ?_) AllReady.nil)
        · skip
          go_simp
          refine hK _ _ ?_
          clear hK K
          refine wpAny_ready (rs := [4]) (by kernel_rfl) (by simp) ?_
          refine AllReady.cons rfl (fun K hK => ?_) AllReady.nil
          · skip
            refine step_store (by rfl) 32 _ _ rfl (w.heap.size + 1 + 1) 0 cs1.toArray (by rfl) (by rfl) r2 hsz2 r3 ?_
            refine hK _ _ ?_
            clear hK K
            refine wpAny_ready (rs := [5]) (by kernel_rfl) (by simp) ?_
            refine AllReady.cons rfl (fun K hK => ?_) AllReady.nil
            · skip
              go_simp
              refine hK _ _ ?_
              clear hK K
              refine wpAny_ready (rs := [6]) (by kernel_rfl) (by simp) ?_
              refine AllReady.cons rfl (fun K hK => ?_) AllReady.nil
              · skip
                go_simp
                refine hK _ _ ?_
                clear hK K
                refine wpAny_done (by kernel_rfl) ?_ _
                go_wp2
                exact bodyPost_ret (results_cell3 rfl _ _ (w.heap.size + 1 + 1) 0 (by rfl) cs1 _ HR4.out Try.underlying32 rfl hsz3) rfl (by
                  show AnsT w _ (.returned (.tuple #[.agg cs1.toArray, v1, .int .i64 0])) (RepA s x now)
                  exact HAN.out)
        · skip
          refine step_store (by rfl) 32 _ _ rfl (w.heap.size + 1 + 1) 0 cs1.toArray (by rfl) (by rfl) r2 hsz2 r3 ?_
          refine hK _ _ ?_
          clear hK K
          refine wpAny_ready (rs := [3]) (by kernel_rfl) (by simp) ?_
          refine AllReady.cons rfl (fun K hK => ?_) AllReady.nil
          · skip
            go_simp
            refine hK _ _ ?_
            clear hK K
            refine wpAny_ready (rs := [5]) (by kernel_rfl) (by simp) ?_
            refine AllReady.cons rfl (fun K hK => ?_) AllReady.nil
            · skip
              go_simp
              refine hK _ _ ?_
              clear hK K
              refine wpAny_ready (rs := [6]) (by kernel_rfl) (by simp) ?_
              refine AllReady.cons rfl (fun K hK => ?_) AllReady.nil
              · skip
                go_simp
                refine hK _ _ ?_
                clear hK K
                refine wpAny_done (by kernel_rfl) ?_ _
                go_wp2
                exact bodyPost_ret (results_cell3 rfl _ _ (w.heap.size + 1 + 1) 0 (by rfl) cs1 _ HR4.out Try.underlying32 rfl hsz3) rfl (by
                  show AnsT w _ (.returned (.tuple #[.agg cs1.toArray, v1, .int .i64 0])) (RepA s x now)
                  exact HAN.out)
      · skip
        refine step_store (by rfl) 32 _ _ rfl (w.heap.size + 1 + 1) 0 cs1.toArray (by rfl) (by rfl) r2 hsz2 r3 ?_
        refine hK _ _ ?_
        clear hK K
        refine wpAny_ready (rs := [2]) (by kernel_rfl) (by simp) ?_
        refine AllReady.cons rfl (fun K hK => ?_) AllReady.nil
        · skip
          go_simp
          refine hK _ _ ?_
          clear hK K
          refine wpAny_ready (rs := [3]) (by kernel_rfl) (by simp) ?_
          refine AllReady.cons rfl (fun K hK => ?_) AllReady.nil
          · skip
            go_simp
            refine hK _ _ ?_
            clear hK K
            refine wpAny_ready (rs := [5]) (by kernel_rfl) (by simp) ?_
            refine AllReady.cons rfl (fun K hK => ?_) AllReady.nil
            · skip
              go_simp
              refine hK _ _ ?_
              clear hK K
              refine wpAny_ready (rs := [6]) (by kernel_rfl) (by simp) ?_
              refine AllReady.cons rfl (fun K hK => ?_) AllReady.nil
              · skip
                go_simp
                refine hK _ _ ?_
                clear hK K
                refine wpAny_done (by kernel_rfl) ?_ _
                go_wp2
                exact bodyPost_ret (results_cell3 rfl _ _ (w.heap.size + 1 + 1) 0 (by rfl) cs1 _ HR4.out Try.underlying32 rfl hsz3) rfl (by
                  show AnsT w _ (.returned (.tuple #[.agg cs1.toArray, v1, .int .i64 0])) (RepA s x now)
                  exact HAN.out)
    · skip
      go_simp
      refine hK _ _ ?_
      clear hK K
      refine wpAny_ready (rs := [1, 3]) (by kernel_rfl) (by simp) ?_
      refine AllReady.cons rfl (fun K hK => ?_) (AllReady.cons rfl (fun K hK => ?_) AllReady.nil)
      · skip
        refine step_load (by rfl) 32 _ rfl w1.heap.size 0 (by rfl) cs1 _ HR1.out Try.underlying32 rfl hsz3 ?_
        refine hK _ _ ?_
        clear hK K
        refine wpAny_ready (rs := [3, 4]) (by kernel_rfl) (by simp) ?_
        refine AllReady.cons rfl (fun K hK => ?_) (AllReady.cons rfl (fun K hK => ?_) AllReady.nil)
        · skip
          go_simp
          refine hK _ _ ?_
          clear hK K
          refine wpAny_ready (rs := [4]) (by kernel_rfl) (by simp) ?_
          refine AllReady.cons rfl (fun K hK => ?_) AllReady.nil
          · skip
            refine step_store (by rfl) 32 _ _ rfl (w.heap.size + 1 + 1) 0 cs1.toArray (by rfl) (by rfl) r2 hsz2 r3 ?_
            refine hK _ _ ?_
            clear hK K
            refine wpAny_ready (rs := [5]) (by kernel_rfl) (by simp) ?_
            refine AllReady.cons rfl (fun K hK => ?_) AllReady.nil
            · skip
              go_simp
              refine hK _ _ ?_
              clear hK K
              refine wpAny_ready (rs := [6]) (by kernel_rfl) (by simp) ?_
              refine AllReady.cons rfl (fun K hK => ?_) AllReady.nil
              · skip
                go_simp
                refine hK _ _ ?_
                clear hK K
                refine wpAny_done (by kernel_rfl) ?_ _
                go_wp2
                exact bodyPost_ret (results_cell3 rfl _ _ (w.heap.size + 1 + 1) 0 (by rfl) cs1 _ HR4.out Try.underlying32 rfl hsz3) rfl (by
                  show AnsT w _ (.returned (.tuple #[.agg cs1.toArray, v1, .int .i64 0])) (RepA s x now)
                  exact HAN.out)
        · skip
          refine step_store (by rfl) 32 _ _ rfl (w.heap.size + 1 + 1) 0 cs1.toArray (by rfl) (by rfl) r2 hsz2 r3 ?_
          refine hK _ _ ?_
          clear hK K
          refine wpAny_ready (rs := [3]) (by kernel_rfl) (by simp) ?_
          refine AllReady.cons rfl (fun K hK => ?_) AllReady.nil
          · skip
            go_simp
            refine hK _ _ ?_
            clear hK K
            refine wpAny_ready (rs := [5]) (by kernel_rfl) (by simp) ?_
            refine AllReady.cons rfl (fun K hK => ?_) AllReady.nil
            · skip
              go_simp
              refine hK _ _ ?_
              clear hK K
              refine wpAny_ready (rs := [6]) (by kernel_rfl) (by simp) ?_
              refine AllReady.cons rfl (fun K hK => ?_) AllReady.nil
              · skip
                go_simp
                refine hK _ _ ?_
                clear hK K
                refine wpAny_done (by kernel_rfl) ?_ _
                go_wp2
                exact bodyPost_ret (results_cell3 rfl _ _ (w.heap.size + 1 + 1) 0 (by rfl) cs1 _ HR4.out Try.underlying32 rfl hsz3) rfl (by
                  show AnsT w _ (.returned (.tuple #[.agg cs1.toArray, v1, .int .i64 0])) (RepA s x now)
                  exact HAN.out)
      · skip
        go_simp
        refine hK _ _ ?_
        clear hK K
        refine wpAny_ready (rs := [1]) (by kernel_rfl) (by simp) ?_
        refine AllReady.cons rfl (fun K hK => ?_) AllReady.nil
        · skip
          refine step_load (by rfl) 32 _ rfl w1.heap.size 0 (by rfl) cs1 _ HR1.out Try.underlying32 rfl hsz3 ?_
          refine hK _ _ ?_
          clear hK K
          refine wpAny_ready (rs := [4]) (by kernel_rfl) (by simp) ?_
          refine AllReady.cons rfl (fun K hK => ?_) AllReady.nil
          · skip
            refine step_store (by rfl) 32 _ _ rfl (w.heap.size + 1 + 1) 0 cs1.toArray (by rfl) (by rfl) r2 hsz2 r3 ?_
            refine hK _ _ ?_
            clear hK K
            refine wpAny_ready (rs := [5]) (by kernel_rfl) (by simp) ?_
            refine AllReady.cons rfl (fun K hK => ?_) AllReady.nil
            · skip
              go_simp
              refine hK _ _ ?_
              clear hK K
              refine wpAny_ready (rs := [6]) (by kernel_rfl) (by simp) ?_
              refine AllReady.cons rfl (fun K hK => ?_) AllReady.nil
              · skip
                go_simp
                refine hK _ _ ?_
                clear hK K
                refine wpAny_done (by kernel_rfl) ?_ _
                go_wp2
                exact bodyPost_ret (results_cell3 rfl _ _ (w.heap.size + 1 + 1) 0 (by rfl) cs1 _ HR4.out Try.underlying32 rfl hsz3) rfl (by
                  show AnsT w _ (.returned (.tuple #[.agg cs1.toArray, v1, .int .i64 0])) (RepA s x now)
                  exact HAN.out)
  · skip
    go_simp
    refine hK _ _ ?_
    clear hK K
    refine wpAny_ready (rs := [0, 3]) (by kernel_rfl) (by simp) ?_
    refine AllReady.cons rfl (fun K hK => ?_) (AllReady.cons rfl (fun K hK => ?_) AllReady.nil)
    · skip
      go_simp
      refine hK _ _ ?_
      clear hK K
      refine wpAny_ready (rs := [1, 3]) (by kernel_rfl) (by simp) ?_
      refine AllReady.cons rfl (fun K hK => ?_) (AllReady.cons rfl (fun K hK => ?_) AllReady.nil)
      · skip
        refine step_load (by rfl) 32 _ rfl w1.heap.size 0 (by rfl) cs1 _ HR1.out Try.underlying32 rfl hsz3 ?_
        refine hK _ _ ?_
        clear hK K
        refine wpAny_ready (rs := [3, 4]) (by kernel_rfl) (by simp) ?_
        refine AllReady.cons rfl (fun K hK => ?_) (AllReady.cons rfl (fun K hK => ?_) AllReady.nil)
        · skip
          go_simp
          refine hK _ _ ?_
          clear hK K
          refine wpAny_ready (rs := [4]) (by kernel_rfl) (by simp) ?_
          refine AllReady.cons rfl (fun K hK => ?_) AllReady.nil
          · skip
            refine step_store (by rfl) 32 _ _ rfl (w.heap.size + 1 + 1) 0 cs1.toArray (by rfl) (by rfl) r2 hsz2 r3 ?_
            refine hK _ _ ?_
            clear hK K
            refine wpAny_ready (rs := [5]) (by kernel_rfl) (by simp) ?_
            refine AllReady.cons rfl (fun K hK => ?_) AllReady.nil
            · skip
              go_simp
              refine hK _ _ ?_
              clear hK K
              refine wpAny_ready (rs := [6]) (by kernel_rfl) (by simp) ?_
              refine AllReady.cons rfl (fun K hK => ?_) AllReady.nil
              · skip
                go_simp
                refine hK _ _ ?_
                clear hK K
                refine wpAny_done (by kernel_rfl) ?_ _
                go_wp2
                exact bodyPost_ret (results_cell3 rfl _ _ (w.heap.size + 1 + 1) 0 (by rfl) cs1 _ HR4.out Try.underlying32 rfl hsz3) rfl (by
                  show AnsT w _ (.returned (.tuple #[.agg cs1.toArray, v1, .int .i64 0])) (RepA s x now)
                  exact HAN.out)
        · skip
          refine step_store (by rfl) 32 _ _ rfl (w.heap.size + 1 + 1) 0 cs1.toArray (by rfl) (by rfl) r2 hsz2 r3 ?_
          refine hK _ _ ?_
          clear hK K
          refine wpAny_ready (rs := [3]) (by kernel_rfl) (by simp) ?_
          refine AllReady.cons rfl (fun K hK => ?_) AllReady.nil
          · skip
            go_simp
            refine hK _ _ ?_
            clear hK K
            refine wpAny_ready (rs := [5]) (by kernel_rfl) (by simp) ?_
            refine AllReady.cons rfl (fun K hK => ?_) AllReady.nil
            · skip
              go_simp
              refine hK _ _ ?_
              clear hK K
              refine wpAny_ready (rs := [6]) (by kernel_rfl) (by simp) ?_
              refine AllReady.cons rfl (fun K hK => ?_) AllReady.nil
              · skip
                go_simp
                refine hK _ _ ?_
                clear hK K
                refine wpAny_done (by kernel_rfl) ?_ _
                go_wp2
                exact bodyPost_ret (results_cell3 rfl _ _ (w.heap.size + 1 + 1) 0 (by rfl) cs1 _ HR4.out Try.underlying32 rfl hsz3) rfl (by
                  show AnsT w _ (.returned (.tuple #[.agg cs1.toArray, v1, .int .i64 0])) (RepA s x now)
                  exact HAN.out)
      · skip
        go_simp
        refine hK _ _ ?_
        clear hK K
        refine wpAny_ready (rs := [1]) (by kernel_rfl) (by simp) ?_
        refine AllReady.cons rfl (fun K hK => ?_) AllReady.nil
        · skip
          refine step_load (by rfl) 32 _ rfl w1.heap.size 0 (by rfl) cs1 _ HR1.out Try.underlying32 rfl hsz3 ?_
          refine hK _ _ ?_
          clear hK K
          refine wpAny_ready (rs := [4]) (by kernel_rfl) (by simp) ?_
          refine AllReady.cons rfl (fun K hK => ?_) AllReady.nil
          · skip
            refine step_store (by rfl) 32 _ _ rfl (w.heap.size + 1 + 1) 0 cs1.toArray (by rfl) (by rfl) r2 hsz2 r3 ?_
            refine hK _ _ ?_
            clear hK K
            refine wpAny_ready (rs := [5]) (by kernel_rfl) (by simp) ?_
            refine AllReady.cons rfl (fun K hK => ?_) AllReady.nil
            · skip
              go_simp
              refine hK _ _ ?_
              clear hK K
              refine wpAny_ready (rs := [6]) (by kernel_rfl) (by simp) ?_
              refine AllReady.cons rfl (fun K hK => ?_) AllReady.nil
              · skip
                go_simp
                refine hK _ _ ?_
                clear hK K
                refine wpAny_done (by kernel_rfl) ?_ _
                go_wp2
                exact bodyPost_ret (results_cell3 rfl _ _ (w.heap.size + 1 + 1) 0 (by rfl) cs1 _ HR4.out Try.underlying32 rfl hsz3) rfl (by
                  show AnsT w _ (.returned (.tuple #[.agg cs1.toArray, v1, .int .i64 0])) (RepA s x now)
                  exact HAN.out)
    · skip
      go_simp
      refine hK _ _ ?_
      clear hK K
      refine wpAny_ready (rs := [0]) (by kernel_rfl) (by simp) ?_
      refine AllReady.cons rfl (fun K hK => ?_) AllReady.nil
      · skip
        go_simp
        refine hK _ _ ?_
        clear hK K
        refine wpAny_ready (rs := [1]) (by kernel_rfl) (by simp) ?_
        refine AllReady.cons rfl (fun K hK => ?_) AllReady.nil
        · skip
          refine step_load (by rfl) 32 _ rfl w1.heap.size 0 (by rfl) cs1 _ HR1.out Try.underlying32 rfl hsz3 ?_
          refine hK _ _ ?_
          clear hK K
          refine wpAny_ready (rs := [4]) (by kernel_rfl) (by simp) ?_
          refine AllReady.cons rfl (fun K hK => ?_) AllReady.nil
          · skip
            refine step_store (by rfl) 32 _ _ rfl (w.heap.size + 1 + 1) 0 cs1.toArray (by rfl) (by rfl) r2 hsz2 r3 ?_
            refine hK _ _ ?_
            clear hK K
            refine wpAny_ready (rs := [5]) (by kernel_rfl) (by simp) ?_
            refine AllReady.cons rfl (fun K hK => ?_) AllReady.nil
            · skip
              go_simp
              refine hK _ _ ?_
              clear hK K
              refine wpAny_ready (rs := [6]) (by kernel_rfl) (by simp) ?_
              refine AllReady.cons rfl (fun K hK => ?_) AllReady.nil
              · skip
                go_simp
                refine hK _ _ ?_
                clear hK K
                refine wpAny_done (by kernel_rfl) ?_ _
                go_wp2
                exact bodyPost_ret (results_cell3 rfl _ _ (w.heap.size + 1 + 1) 0 (by rfl) cs1 _ HR4.out Try.underlying32 rfl hsz3) rfl (by
                  show AnsT w _ (.returned (.tuple #[.agg cs1.toArray, v1, .int .i64 0])) (RepA s x now)
                  exact HAN.out)
end Go.Proofs.Ytnjcaolkcmpdcaa
