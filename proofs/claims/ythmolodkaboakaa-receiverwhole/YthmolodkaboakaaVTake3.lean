/- receiver.Take, of SegCancel and of data. -/
import Derived.Test.YthmolodkaboakaaVTake2
namespace Go.Proofs.Ythmolodkaboakaa
open Go.RowKit
set_option linter.unusedVariables false
theorem at3_two {w w1 w3 : World} {s : Tk} {a : Option Addr} {c : Nat} {g : Option Addr} {d : Nat} {x : Sg} {xa : Option Addr} {xc : Nat} {a2 : Option Addr} {c2 : Nat} {a' : Option Addr} {c' : Nat} {g' : Option Addr} {d' : Nat} {n : Nat} (h : At3 w w1 w3 s a c g d x xa xc a2 c2 a' c' g' d' n) (q : Int) : (w3.setCell ⟨w1.heap.size, 8, none⟩ (.int .i64 q)).heap[w.heap.size + 1]? = some (sc x xa xc a2 c2) := by
  have ho : Off (fun i => i = w1.heap.size) w3 (w3.setCell ⟨w1.heap.size, 8, none⟩ (.int .i64 q)) := (Off.refl (fun i => i = w1.heap.size) w3).setCell (p := ⟨w1.heap.size, 8, none⟩) (.inr rfl) _
  have := h.t3
  exact ho.at h.en.two (by show ¬ (_ = _); omega)
theorem left_fin {w w1 w3 w5 : World} {s s' : Tk} {a : Option Addr} {c : Nat} {g : Option Addr} {d : Nat} {x : Sg} {xa : Option Addr} {xc : Nat} {a2 : Option Addr} {c2 : Nat} {a' : Option Addr} {c' : Nat} {g' : Option Addr} {d' : Nat} {n : Nat} {l : List Sg} (h : At3 w w1 w3 s a c g d x xa xc a2 c2 a' c' g' d' n) (q : Int) (k : Left n (w3.setCell ⟨w1.heap.size, 8, none⟩ (.int .i64 q)) w5 w1.heap.size a' s' l) : ∃ c5 g5 d5 v5, Fin w w5 n w1.heap.size s' a' c5 g5 d5 v5 l := by
  obtain ⟨c5, g5, d5, v5, k1, k2, k3⟩ := k
  obtain ⟨_, o2⟩ := due_set h.tn q
  obtain ⟨e1, e2⟩ := left_res h.tn h.en.bel h.en.res h.n3 h.t3 (o2.trans k3 (fun _ _ t => t))
  exact ⟨c5, g5, d5, v5, k1, k2, e1, e2, h.n3, h.t3⟩
theorem say_fin {w w1 w3 w5 : World} {s : Tk} {a : Option Addr} {c : Nat} {g : Option Addr} {d : Nat} {x : Sg} {xa : Option Addr} {xc : Nat} {a2 : Option Addr} {c2 : Nat} {a' : Option Addr} {c' : Nat} {g' : Option Addr} {d' : Nat} {n : Nat} {X : Sg} (h : At3 w w1 w3 s a c g d x xa xc a2 c2 a' c' g' d' n) (q : Int) (k : Said (w3.setCell ⟨w1.heap.size, 8, none⟩ (.int .i64 q)) w5 w1.heap.size { s with due := q } a' c' g' d' X none 0 none 0) (hx : X.dat = []) (hy : X.cls = []) : ∃ v5, Fin w w5 n w1.heap.size { s with due := q } a' c' g' d' v5 [X] := by
  obtain ⟨d1, o2⟩ := due_set h.tn q
  obtain ⟨g2, cap, k1, k2, k3, k4, k5, k6⟩ := k
  obtain ⟨e1, e2⟩ := left_res h.tn h.en.bel h.en.res h.n3 h.t3 (o2.trans k3 (fun _ _ e => .inl e))
  refine ⟨_, ⟨k1, d1.kn.keep d1.here k3, Nat.lt_of_lt_of_le d1.lt k3.size, Nat.le_trans d1.le k3.size⟩, ⟨rfl, g2, cap, none, 0, rfl, Nat.le_trans d1.le k4, k2, hx, (by rw [hy]; exact ⟨by simp, fun h => absurd h (by simp)⟩), (fun bb e => by cases e), (by rw [hy]; simp), (by simp), k5, k6⟩, e1, e2, h.n3, h.t3⟩
theorem Fin.sta {w w5 : World} {n tb : Nat} {s : Tk} {a : Option Addr} {c : Nat} {g : Option Addr} {d : Nat} {v : Value} {l : List Sg} (h : Fin w w5 n tb s a c g d v l) (hl : ∀ x ∈ l, x.cls = []) (q : Int) : Fin w (w5.setCell ⟨tb, 6, none⟩ (.int .i64 q)) n tb { s with sta := q } a c g d v l := by
  obtain ⟨h1, h2⟩ := sta_set h.tn q
  have t3 := h.t3
  refine ⟨h1, ?_, h.bel.trans (h2.below h.bel.size (fun i e => by have : i = tb := e; omega)), h2.at h.res (by show ¬ (_ = _); omega), h.n3, h.t3⟩
  cases l with
  | nil => exact h.sent
  | cons x r =>
    obtain ⟨h0, g2, cap, b2, c2, k1, k2, k3, k4, k5, k6, k7⟩ := h.sent
    refine ⟨h0, g2, cap, b2, c2, k1, k2, fun j u hu => h2.cell (k3 j u hu) (fun t => ?_), k4, ⟨k5.1, fun hp => ?_⟩, k6, k7⟩
    · have e : g2 = tb := t
      have := k3 12 _ rfl
      rw [Nat.zero_add, e, cell_of h.tn.here] at this
      simp at this
    · rw [hl x List.mem_cons_self] at hp
      exact absurd hp (by simp)
theorem data_pre {w w1 w3 : World} {s : Tk} {a : Option Addr} {c : Nat} {g : Option Addr} {d : Nat} {x : Sg} {xa : Option Addr} {xc : Nat} {a2 : Option Addr} {c2 : Nat} {a' : Option Addr} {c' : Nat} {g' : Option Addr} {d' : Nat} {n : Nat} (h : At3 w w1 w3 s a c g d x xa xc a2 c2 a' c' g' d' n) (q : Int) (hok : okK s = true) (hx : Came w x xa xc a2 c2) (hs : s.ser < 4294967296) (h1 : okS x = true) (hk : x.knd = 1) : DatPre n (w3.setCell ⟨w1.heap.size, 8, none⟩ (.int .i64 q)) w1.heap.size { s with due := q } a' c' g' d' x xa := by
  obtain ⟨d1, o2⟩ := due_set h.tn q
  obtain ⟨e1, _⟩ := left_res h.tn h.en.bel h.en.res h.n3 h.t3 o2
  obtain ⟨k1, k2, _, _, k5, _⟩ := smallK hok
  obtain ⟨_, _, hf, _⟩ := okS_parts h1
  refine ⟨d1, ⟨k5, k1, k2⟩, hs, hx.row.later e1, ?_⟩
  rcases kinds hf with ⟨_, hd⟩ | ⟨h, _⟩ | ⟨h, _⟩ | ⟨h, _⟩ | h
  · have := dataS_of hd
    exact ⟨this.1, this.2.1, this.2.2.1⟩
  all_goals omega
set_option maxRecDepth 20000 in
set_option maxHeartbeats 4000000 in
theorem vtake_q4b (s : Tk) (a : Option Addr) (c : Nat) (g : Option Addr) (d : Nat) (x : Sg) (xa : Option Addr) (xc : Nat) (a2 : Option Addr) (c2 : Nat) (now : Int) (w : World) (hc : CameK w s a c g d) (hx : Came w x xa xc a2 c2) (hok : okK s = true) (hn : inB now 0 1048576 = true) (h1 : okS x = true) (h2 : (x.src != s.src) = false) (h3 : ((x.ses : Int) != (s.ses : Int)) = false) (h4 : fwdS x = true) (hk1 : (x.knd == 1) = false) (hk4 : (x.knd == 4) = true) (hs1 : (s.sta == 1) = false) :
    Calls Try.prog 10 #[kv s a c g d, sv x xa xc a2 c2, .int .i64 now] w fun e w' => Ans w w' e ({ s with due := now + s.lif }, [⟨5, s.src, s.ses, 0, 0, 0, 0, 0, 0, 0, false, [], []⟩], 0) := by
  have HBG : Hid (∀ W, Below w.heap.size w W → Calls Try.prog 31 #[kv s a c g d, .int .i64 now] W fun e w' => ∃ a' c' g' d', e = .returned (.tuple #[.agg (tcs s a' c' g' d' (.slice none 0 0)).toArray, .int .i64 0]) ∧ Hid (Below W.heap.size W w' ∧ KN W.heap.size w' s a' c' g' d')) := fun W hb => vbegin_ok s a c g d now W (hc.later hb) hok hn
  have HEN : Hid (En w (((w.alloc (kc s a c g d)).alloc (sc x xa xc a2 c2)).alloc (kc zeroK none 0 none 0)) s a c g d x xa xc a2 c2) := En.start w s a c g d x xa xc a2 c2
  obtain ⟨ct, hct⟩ : ∃ ct, Hid (ct = sgcells x xa xc a2 c2) := ⟨_, rfl⟩
  have htz : (Try.prog.info? 28).map (·.size) = some ct.length := by rw [show ct.length = 13 by rw [hct.out]; rfl]; kernel_rfl
  have hs9 : (Try.prog.info? 26).map (·.size) = some 9 := by kernel_rfl
  have HCK : Hid (∀ W, Below w.heap.size w W → Calls Try.prog 30 #[.agg ct.toArray] W fun e w' => e = .returned (.int .i64 (chkS x)) ∧ Hid (Below W.heap.size W w')) := fun W hb => by rw [hct.out]; exact check_any x xa xc a2 c2 W (hx.later hb)
  have HFW : Hid (∀ W, Below w.heap.size w W → Calls Try.prog 15 #[.agg ct.toArray] W fun e w' => e = .returned (.bool (fwdS x)) ∧ Hid (Below W.heap.size W w')) := fun W hb => by rw [hct.out]; exact forward_any x xa xc a2 c2 W
  have hnow := inB_of hn
  have hlif := (smallK hok).2.2.2.1
  rw [chk_ok h1] at HCK
  rw [h4] at HFW
  clear hc hx hok hn h1 h4
  go_enter Try.func10, Try.ntmps10
  go_wp2_with (first | (go_at_call 31; refine (HBG.out _ HEN.out.bel).mono ?_; rintro e w1 ⟨a', c', g', d', rfl, hq⟩; have HE2 : Hid (En w (w1.alloc (tc s a' c' g' d' (.slice none 0 0))) s a c g d x xa xc a2 c2) := (HEN.out.later hq.out.1).later ((Below.refl _ w1).alloc (Nat.le_refl _) _); have hR2 : Hid ((w1.alloc (tc s a' c' g' d' (.slice none 0 0))).rangeAt (w.heap.size + 1) 0 ct) := by (rw [hct.out]; exact sg_range HE2.out.two)) | (go_at_call 30; refine (HCK.out _ HE2.out.bel).mono ?_; rintro e w2 ⟨rfl, hb2⟩; have HE3 : Hid (En w w2 s a c g d x xa xc a2 c2) := HE2.out.later hb2.out; have hR3 : Hid (w2.rangeAt (w.heap.size + 1) 0 ct) := (by rw [hct.out]; exact sg_range HE3.out.two); have y1 := (scells HE3.out.two).2.1; have y2 := (scells HE3.out.two).2.2.1; have y3 := (kcells_get HE3.out.one).1; have y4 := (kcells_get HE3.out.one).2.1) | (go_at_call 15; refine (HFW.out _ HE3.out.bel).mono ?_; rintro e w3 ⟨rfl, hb3⟩; have HA3 : Hid (At3 w w1 w3 s a c g d x xa xc a2 c2 a' c' g' d' (((w.alloc (kc s a c g d)).alloc (sc x xa xc a2 c2)).alloc (kc zeroK none 0 none 0)).heap.size) := at3_of HEN.out hq.out (below_of hb2.out hb3.out); have z0 := (scells HA3.out.en.two).1; obtain ⟨_, _, _, _, _, _, k6, k7, k8, _⟩ := tc_get HA3.out.tn.here; have ff := frozen_of HA3.out.tn.here; have hR4 : Hid ((w3.setCell ⟨w1.heap.size, 8, none⟩ (.int .i64 (now + s.lif))).rangeAt (w.heap.size + 1) 0 ct) := (by rw [hct.out]; exact sg_range (at3_two HA3.out (now + s.lif))); have z0' := (scells (at3_two HA3.out (now + s.lif))).1) | (go_at_call 33; refine (vsay_any { s with due := now + s.lif } a' c' g' d' w1.heap.size ⟨5, 0, 0, 0, 0, 0, 0, 0, 0, 0, false, [], []⟩ none 0 none 0 _ (due_set HA3.out.tn (now + s.lif)).1.here).mono ?_; rintro e w5 ⟨rfl, hs5⟩; obtain ⟨v5, hv5⟩ := say_fin HA3.out (now + s.lif) hs5.out rfl rfl; have HF5 : Hid (Fin w w5 (((w.alloc (kc s a c g d)).alloc (sc x xa xc a2 c2)).alloc (kc zeroK none 0 none 0)).heap.size w1.heap.size { s with due := now + s.lif } a' c' g' d' v5 [⟨5, s.src, s.ses, 0, 0, 0, 0, 0, 0, 0, false, [], []⟩]) := hv5; clear hv5; have k6' := (tc_get HF5.out.tn.here).2.2.2.2.2.2.1; have ff5 := frozen_of HF5.out.tn.here) | (refine wpList_load_want (by rfl) 28 _ rfl (w.heap.size + 1) 0 (by rfl) ct _ (by first | exact hR3.out | exact hR2.out) Try.underlying28 rfl htz ?_))
  have HFI := HF5
  clear HF5 k6' ff5 hs5
  clear HBG HEN HCK HFW hR2 hR3 hR4 HE2 HE3 hb2 hb3 hq y1 y2 y3 y4 z0 z0' k6 k7 k8 ff HA3 hct htz
  obtain ⟨cs, hcs⟩ : ∃ cs, Hid (cs = kcells { s with due := now + s.lif } a' c' g' d') := ⟨_, rfl⟩
  obtain ⟨r1, r2, r3, r4, r5⟩ := HFI.out.stores hcs.out
  obtain ⟨q1, q2⟩ := HFI.out.cell9 cs
  have HR1 : Hid (w5.drew.rangeAt w1.heap.size 0 cs) := r1
  have HR4 : Hid ((w5.drew.setCells (w.heap.size + 1 + 1) 0 cs).rangeAt (w.heap.size + 1 + 1) 0 cs) := r4
  have HAN : Hid (Ans w (w5.drew.setCells (w.heap.size + 1 + 1) 0 cs) (.returned (.tuple #[.agg cs.toArray, v5, .int .i64 0])) ({ s with due := now + s.lif }, [⟨5, s.src, s.ses, 0, 0, 0, 0, 0, 0, 0, false, [], []⟩], 0)) := r5
  have hl9 : cs.length = 9 := by rw [hcs.out]; rfl
  have hsz1 : (Try.prog.info? 26).map (·.size) = some cs.length := by rw [hl9]; exact hs9
  have hsz2 : (Try.prog.info? 26).map (·.size) = some cs.toArray.size := by rw [show cs.toArray.size = 9 from hl9]; exact hs9
  clear r1 r4 r5
  refine wp_region_any (by kernel_rfl) ?_
  change wpAny _ _ _ _ _ _ _ (World.drew _)
  refine wpAny_ready (rs := [0, 2]) (by kernel_rfl) (by simp) ?_
  refine AllReady.cons rfl (fun K hK => ?_) (AllReady.cons rfl (fun K hK => ?_) AllReady.nil)
  · skip
    go_simp
    refine hK _ _ ?_
    clear hK K
    refine wpAny_ready (rs := [1, 2]) (by kernel_rfl) (by simp) ?_
    refine AllReady.cons rfl (fun K hK => ?_) (AllReady.cons rfl (fun K hK => ?_) AllReady.nil)
    · skip
      refine step_load (by rfl) 26 _ rfl w1.heap.size 0 (by rfl) cs _ HR1.out Try.underlying26 rfl hsz1 ?_
      refine hK _ _ ?_
      clear hK K
      refine wpAny_ready (rs := [2, 4]) (by kernel_rfl) (by simp) ?_
      refine AllReady.cons rfl (fun K hK => ?_) (AllReady.cons rfl (fun K hK => ?_) AllReady.nil)
      · skip
        go_simp
        refine hK _ _ ?_
        clear hK K
        refine wpAny_ready (rs := [3, 4]) (by kernel_rfl) (by simp) ?_
        refine AllReady.cons rfl (fun K hK => ?_) (AllReady.cons rfl (fun K hK => ?_) AllReady.nil)
        · skip
          go_simp
          refine hK _ _ ?_
          clear hK K
          refine wpAny_ready (rs := [4]) (by kernel_rfl) (by simp) ?_
          refine AllReady.cons rfl (fun K hK => ?_) AllReady.nil
          · skip
            refine step_store (by rfl) 26 _ _ rfl (w.heap.size + 1 + 1) 0 cs.toArray (by rfl) (by rfl) r2 hsz2 r3 ?_
            refine hK _ _ ?_
            clear hK K
            refine wpAny_ready (rs := [5]) (by kernel_rfl) (by simp) ?_
            refine AllReady.cons rfl (fun K hK => ?_) AllReady.nil
            · skip
              go_simp
              refine hK _ _ ?_
              clear hK K
              refine wpAny_ready (rs := [6]) (by kernel_rfl) (by simp) ?_
              refine AllReady.cons rfl (fun K hK => ?_) AllReady.nil
              · skip
                go_simp
                refine hK _ _ ?_
                clear hK K
                refine wpAny_done (by kernel_rfl) ?_ _
                go_wp2
                exact bodyPost_ret (results_cell3 rfl _ _ (w.heap.size + 1 + 1) 0 (by rfl) cs _ HR4.out Try.underlying26 rfl hsz1) rfl (by
                  show Ans w _ (.returned (.tuple #[.agg cs.toArray, v5, .int .i64 0])) _
                  exact HAN.out)
        · skip
          refine step_store (by rfl) 26 _ _ rfl (w.heap.size + 1 + 1) 0 cs.toArray (by rfl) (by rfl) r2 hsz2 r3 ?_
          refine hK _ _ ?_
          clear hK K
          refine wpAny_ready (rs := [3]) (by kernel_rfl) (by simp) ?_
          refine AllReady.cons rfl (fun K hK => ?_) AllReady.nil
          · skip
            go_simp
            refine hK _ _ ?_
            clear hK K
            refine wpAny_ready (rs := [5]) (by kernel_rfl) (by simp) ?_
            refine AllReady.cons rfl (fun K hK => ?_) AllReady.nil
            · skip
              go_simp
              refine hK _ _ ?_
              clear hK K
              refine wpAny_ready (rs := [6]) (by kernel_rfl) (by simp) ?_
              refine AllReady.cons rfl (fun K hK => ?_) AllReady.nil
              · skip
                go_simp
                refine hK _ _ ?_
                clear hK K
                refine wpAny_done (by kernel_rfl) ?_ _
                go_wp2
                exact bodyPost_ret (results_cell3 rfl _ _ (w.heap.size + 1 + 1) 0 (by rfl) cs _ HR4.out Try.underlying26 rfl hsz1) rfl (by
                  show Ans w _ (.returned (.tuple #[.agg cs.toArray, v5, .int .i64 0])) _
                  exact HAN.out)
      · skip
        refine step_store (by rfl) 26 _ _ rfl (w.heap.size + 1 + 1) 0 cs.toArray (by rfl) (by rfl) r2 hsz2 r3 ?_
        refine hK _ _ ?_
        clear hK K
        refine wpAny_ready (rs := [2]) (by kernel_rfl) (by simp) ?_
        refine AllReady.cons rfl (fun K hK => ?_) AllReady.nil
        · skip
          go_simp
          refine hK _ _ ?_
          clear hK K
          refine wpAny_ready (rs := [3]) (by kernel_rfl) (by simp) ?_
          refine AllReady.cons rfl (fun K hK => ?_) AllReady.nil
          · skip
            go_simp
            refine hK _ _ ?_
            clear hK K
            refine wpAny_ready (rs := [5]) (by kernel_rfl) (by simp) ?_
            refine AllReady.cons rfl (fun K hK => ?_) AllReady.nil
            · skip
              go_simp
              refine hK _ _ ?_
              clear hK K
              refine wpAny_ready (rs := [6]) (by kernel_rfl) (by simp) ?_
              refine AllReady.cons rfl (fun K hK => ?_) AllReady.nil
              · skip
                go_simp
                refine hK _ _ ?_
                clear hK K
                refine wpAny_done (by kernel_rfl) ?_ _
                go_wp2
                exact bodyPost_ret (results_cell3 rfl _ _ (w.heap.size + 1 + 1) 0 (by rfl) cs _ HR4.out Try.underlying26 rfl hsz1) rfl (by
                  show Ans w _ (.returned (.tuple #[.agg cs.toArray, v5, .int .i64 0])) _
                  exact HAN.out)
    · skip
      go_simp
      refine hK _ _ ?_
      clear hK K
      refine wpAny_ready (rs := [1, 3]) (by kernel_rfl) (by simp) ?_
      refine AllReady.cons rfl (fun K hK => ?_) (AllReady.cons rfl (fun K hK => ?_) AllReady.nil)
      · skip
        refine step_load (by rfl) 26 _ rfl w1.heap.size 0 (by rfl) cs _ HR1.out Try.underlying26 rfl hsz1 ?_
        refine hK _ _ ?_
        clear hK K
        refine wpAny_ready (rs := [3, 4]) (by kernel_rfl) (by simp) ?_
        refine AllReady.cons rfl (fun K hK => ?_) (AllReady.cons rfl (fun K hK => ?_) AllReady.nil)
        · skip
          go_simp
          refine hK _ _ ?_
          clear hK K
          refine wpAny_ready (rs := [4]) (by kernel_rfl) (by simp) ?_
          refine AllReady.cons rfl (fun K hK => ?_) AllReady.nil
          · skip
            refine step_store (by rfl) 26 _ _ rfl (w.heap.size + 1 + 1) 0 cs.toArray (by rfl) (by rfl) r2 hsz2 r3 ?_
            refine hK _ _ ?_
            clear hK K
            refine wpAny_ready (rs := [5]) (by kernel_rfl) (by simp) ?_
            refine AllReady.cons rfl (fun K hK => ?_) AllReady.nil
            · skip
              go_simp
              refine hK _ _ ?_
              clear hK K
              refine wpAny_ready (rs := [6]) (by kernel_rfl) (by simp) ?_
              refine AllReady.cons rfl (fun K hK => ?_) AllReady.nil
              · skip
                go_simp
                refine hK _ _ ?_
                clear hK K
                refine wpAny_done (by kernel_rfl) ?_ _
                go_wp2
                exact bodyPost_ret (results_cell3 rfl _ _ (w.heap.size + 1 + 1) 0 (by rfl) cs _ HR4.out Try.underlying26 rfl hsz1) rfl (by
                  show Ans w _ (.returned (.tuple #[.agg cs.toArray, v5, .int .i64 0])) _
                  exact HAN.out)
        · skip
          refine step_store (by rfl) 26 _ _ rfl (w.heap.size + 1 + 1) 0 cs.toArray (by rfl) (by rfl) r2 hsz2 r3 ?_
          refine hK _ _ ?_
          clear hK K
          refine wpAny_ready (rs := [3]) (by kernel_rfl) (by simp) ?_
          refine AllReady.cons rfl (fun K hK => ?_) AllReady.nil
          · skip
            go_simp
            refine hK _ _ ?_
            clear hK K
            refine wpAny_ready (rs := [5]) (by kernel_rfl) (by simp) ?_
            refine AllReady.cons rfl (fun K hK => ?_) AllReady.nil
            · skip
              go_simp
              refine hK _ _ ?_
              clear hK K
              refine wpAny_ready (rs := [6]) (by kernel_rfl) (by simp) ?_
              refine AllReady.cons rfl (fun K hK => ?_) AllReady.nil
              · skip
                go_simp
                refine hK _ _ ?_
                clear hK K
                refine wpAny_done (by kernel_rfl) ?_ _
                go_wp2
                exact bodyPost_ret (results_cell3 rfl _ _ (w.heap.size + 1 + 1) 0 (by rfl) cs _ HR4.out Try.underlying26 rfl hsz1) rfl (by
                  show Ans w _ (.returned (.tuple #[.agg cs.toArray, v5, .int .i64 0])) _
                  exact HAN.out)
      · skip
        go_simp
        refine hK _ _ ?_
        clear hK K
        refine wpAny_ready (rs := [1]) (by kernel_rfl) (by simp) ?_
        refine AllReady.cons rfl (fun K hK => ?_) AllReady.nil
        · skip
          refine step_load (by rfl) 26 _ rfl w1.heap.size 0 (by rfl) cs _ HR1.out Try.underlying26 rfl hsz1 ?_
          refine hK _ _ ?_
          clear hK K
          refine wpAny_ready (rs := [4]) (by kernel_rfl) (by simp) ?_
          refine AllReady.cons rfl (fun K hK => ?_) AllReady.nil
          · skip
            refine step_store (by rfl) 26 _ _ rfl (w.heap.size + 1 + 1) 0 cs.toArray (by rfl) (by rfl) r2 hsz2 r3 ?_
            refine hK _ _ ?_
            clear hK K
            refine wpAny_ready (rs := [5]) (by kernel_rfl) (by simp) ?_
            refine AllReady.cons rfl (fun K hK => ?_) AllReady.nil
            · skip
              go_simp
              refine hK _ _ ?_
              clear hK K
              refine wpAny_ready (rs := [6]) (by kernel_rfl) (by simp) ?_
              refine AllReady.cons rfl (fun K hK => ?_) AllReady.nil
              · skip
                go_simp
                refine hK _ _ ?_
                clear hK K
                refine wpAny_done (by kernel_rfl) ?_ _
                go_wp2
                exact bodyPost_ret (results_cell3 rfl _ _ (w.heap.size + 1 + 1) 0 (by rfl) cs _ HR4.out Try.underlying26 rfl hsz1) rfl (by
                  show Ans w _ (.returned (.tuple #[.agg cs.toArray, v5, .int .i64 0])) _
                  exact HAN.out)
  · skip
    go_simp
    refine hK _ _ ?_
    clear hK K
    refine wpAny_ready (rs := [0, 3]) (by kernel_rfl) (by simp) ?_
    refine AllReady.cons rfl (fun K hK => ?_) (AllReady.cons rfl (fun K hK => ?_) AllReady.nil)
    · skip
      go_simp
      refine hK _ _ ?_
      clear hK K
      refine wpAny_ready (rs := [1, 3]) (by kernel_rfl) (by simp) ?_
      refine AllReady.cons rfl (fun K hK => ?_) (AllReady.cons rfl (fun K hK => ?_) AllReady.nil)
      · skip
        refine step_load (by rfl) 26 _ rfl w1.heap.size 0 (by rfl) cs _ HR1.out Try.underlying26 rfl hsz1 ?_
        refine hK _ _ ?_
        clear hK K
        refine wpAny_ready (rs := [3, 4]) (by kernel_rfl) (by simp) ?_
        refine AllReady.cons rfl (fun K hK => ?_) (AllReady.cons rfl (fun K hK => ?_) AllReady.nil)
        · skip
          go_simp
          refine hK _ _ ?_
          clear hK K
          refine wpAny_ready (rs := [4]) (by kernel_rfl) (by simp) ?_
          refine AllReady.cons rfl (fun K hK => ?_) AllReady.nil
          · skip
            refine step_store (by rfl) 26 _ _ rfl (w.heap.size + 1 + 1) 0 cs.toArray (by rfl) (by rfl) r2 hsz2 r3 ?_
            refine hK _ _ ?_
            clear hK K
            refine wpAny_ready (rs := [5]) (by kernel_rfl) (by simp) ?_
            refine AllReady.cons rfl (fun K hK => ?_) AllReady.nil
            · skip
              go_simp
              refine hK _ _ ?_
              clear hK K
              refine wpAny_ready (rs := [6]) (by kernel_rfl) (by simp) ?_
              refine AllReady.cons rfl (fun K hK => ?_) AllReady.nil
              · skip
                go_simp
                refine hK _ _ ?_
                clear hK K
                refine wpAny_done (by kernel_rfl) ?_ _
                go_wp2
                exact bodyPost_ret (results_cell3 rfl _ _ (w.heap.size + 1 + 1) 0 (by rfl) cs _ HR4.out Try.underlying26 rfl hsz1) rfl (by
                  show Ans w _ (.returned (.tuple #[.agg cs.toArray, v5, .int .i64 0])) _
                  exact HAN.out)
        · skip
          refine step_store (by rfl) 26 _ _ rfl (w.heap.size + 1 + 1) 0 cs.toArray (by rfl) (by rfl) r2 hsz2 r3 ?_
          refine hK _ _ ?_
          clear hK K
          refine wpAny_ready (rs := [3]) (by kernel_rfl) (by simp) ?_
          refine AllReady.cons rfl (fun K hK => ?_) AllReady.nil
          · skip
            go_simp
            refine hK _ _ ?_
            clear hK K
            refine wpAny_ready (rs := [5]) (by kernel_rfl) (by simp) ?_
            refine AllReady.cons rfl (fun K hK => ?_) AllReady.nil
            · skip
              go_simp
              refine hK _ _ ?_
              clear hK K
              refine wpAny_ready (rs := [6]) (by kernel_rfl) (by simp) ?_
              refine AllReady.cons rfl (fun K hK => ?_) AllReady.nil
              · skip
                go_simp
                refine hK _ _ ?_
                clear hK K
                refine wpAny_done (by kernel_rfl) ?_ _
                go_wp2
                exact bodyPost_ret (results_cell3 rfl _ _ (w.heap.size + 1 + 1) 0 (by rfl) cs _ HR4.out Try.underlying26 rfl hsz1) rfl (by
                  show Ans w _ (.returned (.tuple #[.agg cs.toArray, v5, .int .i64 0])) _
                  exact HAN.out)
      · skip
        go_simp
        refine hK _ _ ?_
        clear hK K
        refine wpAny_ready (rs := [1]) (by kernel_rfl) (by simp) ?_
        refine AllReady.cons rfl (fun K hK => ?_) AllReady.nil
        · skip
          refine step_load (by rfl) 26 _ rfl w1.heap.size 0 (by rfl) cs _ HR1.out Try.underlying26 rfl hsz1 ?_
          refine hK _ _ ?_
          clear hK K
          refine wpAny_ready (rs := [4]) (by kernel_rfl) (by simp) ?_
          refine AllReady.cons rfl (fun K hK => ?_) AllReady.nil
          · skip
            refine step_store (by rfl) 26 _ _ rfl (w.heap.size + 1 + 1) 0 cs.toArray (by rfl) (by rfl) r2 hsz2 r3 ?_
            refine hK _ _ ?_
            clear hK K
            refine wpAny_ready (rs := [5]) (by kernel_rfl) (by simp) ?_
            refine AllReady.cons rfl (fun K hK => ?_) AllReady.nil
            · skip
              go_simp
              refine hK _ _ ?_
              clear hK K
              refine wpAny_ready (rs := [6]) (by kernel_rfl) (by simp) ?_
              refine AllReady.cons rfl (fun K hK => ?_) AllReady.nil
              · skip
                go_simp
                refine hK _ _ ?_
                clear hK K
                refine wpAny_done (by kernel_rfl) ?_ _
                go_wp2
                exact bodyPost_ret (results_cell3 rfl _ _ (w.heap.size + 1 + 1) 0 (by rfl) cs _ HR4.out Try.underlying26 rfl hsz1) rfl (by
                  show Ans w _ (.returned (.tuple #[.agg cs.toArray, v5, .int .i64 0])) _
                  exact HAN.out)
    · skip
      go_simp
      refine hK _ _ ?_
      clear hK K
      refine wpAny_ready (rs := [0]) (by kernel_rfl) (by simp) ?_
      refine AllReady.cons rfl (fun K hK => ?_) AllReady.nil
      · skip
        go_simp
        refine hK _ _ ?_
        clear hK K
        refine wpAny_ready (rs := [1]) (by kernel_rfl) (by simp) ?_
        refine AllReady.cons rfl (fun K hK => ?_) AllReady.nil
        · skip
          refine step_load (by rfl) 26 _ rfl w1.heap.size 0 (by rfl) cs _ HR1.out Try.underlying26 rfl hsz1 ?_
          refine hK _ _ ?_
          clear hK K
          refine wpAny_ready (rs := [4]) (by kernel_rfl) (by simp) ?_
          refine AllReady.cons rfl (fun K hK => ?_) AllReady.nil
          · skip
            refine step_store (by rfl) 26 _ _ rfl (w.heap.size + 1 + 1) 0 cs.toArray (by rfl) (by rfl) r2 hsz2 r3 ?_
            refine hK _ _ ?_
            clear hK K
            refine wpAny_ready (rs := [5]) (by kernel_rfl) (by simp) ?_
            refine AllReady.cons rfl (fun K hK => ?_) AllReady.nil
            · skip
              go_simp
              refine hK _ _ ?_
              clear hK K
              refine wpAny_ready (rs := [6]) (by kernel_rfl) (by simp) ?_
              refine AllReady.cons rfl (fun K hK => ?_) AllReady.nil
              · skip
                go_simp
                refine hK _ _ ?_
                clear hK K
                refine wpAny_done (by kernel_rfl) ?_ _
                go_wp2
                exact bodyPost_ret (results_cell3 rfl _ _ (w.heap.size + 1 + 1) 0 (by rfl) cs _ HR4.out Try.underlying26 rfl hsz1) rfl (by
                  show Ans w _ (.returned (.tuple #[.agg cs.toArray, v5, .int .i64 0])) _
                  exact HAN.out)
set_option maxRecDepth 20000 in
set_option maxHeartbeats 4000000 in
theorem vtake_q4a (s : Tk) (a : Option Addr) (c : Nat) (g : Option Addr) (d : Nat) (x : Sg) (xa : Option Addr) (xc : Nat) (a2 : Option Addr) (c2 : Nat) (now : Int) (w : World) (hc : CameK w s a c g d) (hx : Came w x xa xc a2 c2) (hok : okK s = true) (hn : inB now 0 1048576 = true) (h1 : okS x = true) (h2 : (x.src != s.src) = false) (h3 : ((x.ses : Int) != (s.ses : Int)) = false) (h4 : fwdS x = true) (hk1 : (x.knd == 1) = false) (hk4 : (x.knd == 4) = true) (hs1 : (s.sta == 1) = true) :
    Calls Try.prog 10 #[kv s a c g d, sv x xa xc a2 c2, .int .i64 now] w fun e w' => Ans w w' e ({ s with due := now + s.lif, sta := 4 }, [⟨5, s.src, s.ses, 0, 0, 0, 0, 0, 0, 0, false, [], []⟩], 0) := by
  have HBG : Hid (∀ W, Below w.heap.size w W → Calls Try.prog 31 #[kv s a c g d, .int .i64 now] W fun e w' => ∃ a' c' g' d', e = .returned (.tuple #[.agg (tcs s a' c' g' d' (.slice none 0 0)).toArray, .int .i64 0]) ∧ Hid (Below W.heap.size W w' ∧ KN W.heap.size w' s a' c' g' d')) := fun W hb => vbegin_ok s a c g d now W (hc.later hb) hok hn
  have HEN : Hid (En w (((w.alloc (kc s a c g d)).alloc (sc x xa xc a2 c2)).alloc (kc zeroK none 0 none 0)) s a c g d x xa xc a2 c2) := En.start w s a c g d x xa xc a2 c2
  obtain ⟨ct, hct⟩ : ∃ ct, Hid (ct = sgcells x xa xc a2 c2) := ⟨_, rfl⟩
  have htz : (Try.prog.info? 28).map (·.size) = some ct.length := by rw [show ct.length = 13 by rw [hct.out]; rfl]; kernel_rfl
  have hs9 : (Try.prog.info? 26).map (·.size) = some 9 := by kernel_rfl
  have HCK : Hid (∀ W, Below w.heap.size w W → Calls Try.prog 30 #[.agg ct.toArray] W fun e w' => e = .returned (.int .i64 (chkS x)) ∧ Hid (Below W.heap.size W w')) := fun W hb => by rw [hct.out]; exact check_any x xa xc a2 c2 W (hx.later hb)
  have HFW : Hid (∀ W, Below w.heap.size w W → Calls Try.prog 15 #[.agg ct.toArray] W fun e w' => e = .returned (.bool (fwdS x)) ∧ Hid (Below W.heap.size W w')) := fun W hb => by rw [hct.out]; exact forward_any x xa xc a2 c2 W
  have hnow := inB_of hn
  have hlif := (smallK hok).2.2.2.1
  rw [chk_ok h1] at HCK
  rw [h4] at HFW
  clear hc hx hok hn h1 h4
  go_enter Try.func10, Try.ntmps10
  go_wp2_with (first | (go_at_call 31; refine (HBG.out _ HEN.out.bel).mono ?_; rintro e w1 ⟨a', c', g', d', rfl, hq⟩; have HE2 : Hid (En w (w1.alloc (tc s a' c' g' d' (.slice none 0 0))) s a c g d x xa xc a2 c2) := (HEN.out.later hq.out.1).later ((Below.refl _ w1).alloc (Nat.le_refl _) _); have hR2 : Hid ((w1.alloc (tc s a' c' g' d' (.slice none 0 0))).rangeAt (w.heap.size + 1) 0 ct) := by (rw [hct.out]; exact sg_range HE2.out.two)) | (go_at_call 30; refine (HCK.out _ HE2.out.bel).mono ?_; rintro e w2 ⟨rfl, hb2⟩; have HE3 : Hid (En w w2 s a c g d x xa xc a2 c2) := HE2.out.later hb2.out; have hR3 : Hid (w2.rangeAt (w.heap.size + 1) 0 ct) := (by rw [hct.out]; exact sg_range HE3.out.two); have y1 := (scells HE3.out.two).2.1; have y2 := (scells HE3.out.two).2.2.1; have y3 := (kcells_get HE3.out.one).1; have y4 := (kcells_get HE3.out.one).2.1) | (go_at_call 15; refine (HFW.out _ HE3.out.bel).mono ?_; rintro e w3 ⟨rfl, hb3⟩; have HA3 : Hid (At3 w w1 w3 s a c g d x xa xc a2 c2 a' c' g' d' (((w.alloc (kc s a c g d)).alloc (sc x xa xc a2 c2)).alloc (kc zeroK none 0 none 0)).heap.size) := at3_of HEN.out hq.out (below_of hb2.out hb3.out); have z0 := (scells HA3.out.en.two).1; obtain ⟨_, _, _, _, _, _, k6, k7, k8, _⟩ := tc_get HA3.out.tn.here; have ff := frozen_of HA3.out.tn.here; have hR4 : Hid ((w3.setCell ⟨w1.heap.size, 8, none⟩ (.int .i64 (now + s.lif))).rangeAt (w.heap.size + 1) 0 ct) := (by rw [hct.out]; exact sg_range (at3_two HA3.out (now + s.lif))); have z0' := (scells (at3_two HA3.out (now + s.lif))).1) | (go_at_call 33; refine (vsay_any { s with due := now + s.lif } a' c' g' d' w1.heap.size ⟨5, 0, 0, 0, 0, 0, 0, 0, 0, 0, false, [], []⟩ none 0 none 0 _ (due_set HA3.out.tn (now + s.lif)).1.here).mono ?_; rintro e w5 ⟨rfl, hs5⟩; obtain ⟨v5, hv5⟩ := say_fin HA3.out (now + s.lif) hs5.out rfl rfl; have HF5 : Hid (Fin w w5 (((w.alloc (kc s a c g d)).alloc (sc x xa xc a2 c2)).alloc (kc zeroK none 0 none 0)).heap.size w1.heap.size { s with due := now + s.lif } a' c' g' d' v5 [⟨5, s.src, s.ses, 0, 0, 0, 0, 0, 0, 0, false, [], []⟩]) := hv5; clear hv5; have k6' := (tc_get HF5.out.tn.here).2.2.2.2.2.2.1; have ff5 := frozen_of HF5.out.tn.here) | (refine wpList_load_want (by rfl) 28 _ rfl (w.heap.size + 1) 0 (by rfl) ct _ (by first | exact hR3.out | exact hR2.out) Try.underlying28 rfl htz ?_))
  have HFI : Hid (Fin w (w5.setCell ⟨w1.heap.size, 6, none⟩ (.int .i64 4)) (((w.alloc (kc s a c g d)).alloc (sc x xa xc a2 c2)).alloc (kc zeroK none 0 none 0)).heap.size w1.heap.size { s with due := now + s.lif, sta := 4 } a' c' g' d' v5 [⟨5, s.src, s.ses, 0, 0, 0, 0, 0, 0, 0, false, [], []⟩]) := HF5.out.sta (by simp) 4
  clear HF5 k6' ff5 hs5
  generalize w5.setCell ⟨w1.heap.size, 6, none⟩ (.int .i64 4) = W6 at HFI ⊢
  clear HBG HEN HCK HFW hR2 hR3 hR4 HE2 HE3 hb2 hb3 hq y1 y2 y3 y4 z0 z0' k6 k7 k8 ff HA3 hct htz
  obtain ⟨cs, hcs⟩ : ∃ cs, Hid (cs = kcells { s with due := now + s.lif, sta := 4 } a' c' g' d') := ⟨_, rfl⟩
  obtain ⟨r1, r2, r3, r4, r5⟩ := HFI.out.stores hcs.out
  obtain ⟨q1, q2⟩ := HFI.out.cell9 cs
  have HR1 : Hid (W6.drew.rangeAt w1.heap.size 0 cs) := r1
  have HR4 : Hid ((W6.drew.setCells (w.heap.size + 1 + 1) 0 cs).rangeAt (w.heap.size + 1 + 1) 0 cs) := r4
  have HAN : Hid (Ans w (W6.drew.setCells (w.heap.size + 1 + 1) 0 cs) (.returned (.tuple #[.agg cs.toArray, v5, .int .i64 0])) ({ s with due := now + s.lif, sta := 4 }, [⟨5, s.src, s.ses, 0, 0, 0, 0, 0, 0, 0, false, [], []⟩], 0)) := r5
  have hl9 : cs.length = 9 := by rw [hcs.out]; rfl
  have hsz1 : (Try.prog.info? 26).map (·.size) = some cs.length := by rw [hl9]; exact hs9
  have hsz2 : (Try.prog.info? 26).map (·.size) = some cs.toArray.size := by rw [show cs.toArray.size = 9 from hl9]; exact hs9
  clear r1 r4 r5
  refine wp_region_any (by kernel_rfl) ?_
  change wpAny _ _ _ _ _ _ _ (World.drew _)
  refine wpAny_ready (rs := [0, 2]) (by kernel_rfl) (by simp) ?_
  refine AllReady.cons rfl (fun K hK => ?_) (AllReady.cons rfl (fun K hK => ?_) AllReady.nil)
  · skip
    go_simp
    refine hK _ _ ?_
    clear hK K
    refine wpAny_ready (rs := [1, 2]) (by kernel_rfl) (by simp) ?_
    refine AllReady.cons rfl (fun K hK => ?_) (AllReady.cons rfl (fun K hK => ?_) AllReady.nil)
    · skip
      refine step_load (by rfl) 26 _ rfl w1.heap.size 0 (by rfl) cs _ HR1.out Try.underlying26 rfl hsz1 ?_
      refine hK _ _ ?_
      clear hK K
      refine wpAny_ready (rs := [2, 4]) (by kernel_rfl) (by simp) ?_
      refine AllReady.cons rfl (fun K hK => ?_) (AllReady.cons rfl (fun K hK => ?_) AllReady.nil)
      · skip
        go_simp
        refine hK _ _ ?_
        clear hK K
        refine wpAny_ready (rs := [3, 4]) (by kernel_rfl) (by simp) ?_
        refine AllReady.cons rfl (fun K hK => ?_) (AllReady.cons rfl (fun K hK => ?_) AllReady.nil)
        · skip
          go_simp
          refine hK _ _ ?_
          clear hK K
          refine wpAny_ready (rs := [4]) (by kernel_rfl) (by simp) ?_
          refine AllReady.cons rfl (fun K hK => ?_) AllReady.nil
          · skip
            refine step_store (by rfl) 26 _ _ rfl (w.heap.size + 1 + 1) 0 cs.toArray (by rfl) (by rfl) r2 hsz2 r3 ?_
            refine hK _ _ ?_
            clear hK K
            refine wpAny_ready (rs := [5]) (by kernel_rfl) (by simp) ?_
            refine AllReady.cons rfl (fun K hK => ?_) AllReady.nil
            · skip
              go_simp
              refine hK _ _ ?_
              clear hK K
              refine wpAny_ready (rs := [6]) (by kernel_rfl) (by simp) ?_
              refine AllReady.cons rfl (fun K hK => ?_) AllReady.nil
              · skip
                go_simp
                refine hK _ _ ?_
                clear hK K
                refine wpAny_done (by kernel_rfl) ?_ _
                go_wp2
                exact bodyPost_ret (results_cell3 rfl _ _ (w.heap.size + 1 + 1) 0 (by rfl) cs _ HR4.out Try.underlying26 rfl hsz1) rfl (by
                  show Ans w _ (.returned (.tuple #[.agg cs.toArray, v5, .int .i64 0])) _
                  exact HAN.out)
        · skip
          refine step_store (by rfl) 26 _ _ rfl (w.heap.size + 1 + 1) 0 cs.toArray (by rfl) (by rfl) r2 hsz2 r3 ?_
          refine hK _ _ ?_
          clear hK K
          refine wpAny_ready (rs := [3]) (by kernel_rfl) (by simp) ?_
          refine AllReady.cons rfl (fun K hK => ?_) AllReady.nil
          · skip
            go_simp
            refine hK _ _ ?_
            clear hK K
            refine wpAny_ready (rs := [5]) (by kernel_rfl) (by simp) ?_
            refine AllReady.cons rfl (fun K hK => ?_) AllReady.nil
            · skip
              go_simp
              refine hK _ _ ?_
              clear hK K
              refine wpAny_ready (rs := [6]) (by kernel_rfl) (by simp) ?_
              refine AllReady.cons rfl (fun K hK => ?_) AllReady.nil
              · skip
                go_simp
                refine hK _ _ ?_
                clear hK K
                refine wpAny_done (by kernel_rfl) ?_ _
                go_wp2
                exact bodyPost_ret (results_cell3 rfl _ _ (w.heap.size + 1 + 1) 0 (by rfl) cs _ HR4.out Try.underlying26 rfl hsz1) rfl (by
                  show Ans w _ (.returned (.tuple #[.agg cs.toArray, v5, .int .i64 0])) _
                  exact HAN.out)
      · skip
        refine step_store (by rfl) 26 _ _ rfl (w.heap.size + 1 + 1) 0 cs.toArray (by rfl) (by rfl) r2 hsz2 r3 ?_
        refine hK _ _ ?_
        clear hK K
        refine wpAny_ready (rs := [2]) (by kernel_rfl) (by simp) ?_
        refine AllReady.cons rfl (fun K hK => ?_) AllReady.nil
        · skip
          go_simp
          refine hK _ _ ?_
          clear hK K
          refine wpAny_ready (rs := [3]) (by kernel_rfl) (by simp) ?_
          refine AllReady.cons rfl (fun K hK => ?_) AllReady.nil
          · skip
            go_simp
            refine hK _ _ ?_
            clear hK K
            refine wpAny_ready (rs := [5]) (by kernel_rfl) (by simp) ?_
            refine AllReady.cons rfl (fun K hK => ?_) AllReady.nil
            · skip
              go_simp
              refine hK _ _ ?_
              clear hK K
              refine wpAny_ready (rs := [6]) (by kernel_rfl) (by simp) ?_
              refine AllReady.cons rfl (fun K hK => ?_) AllReady.nil
              · skip
                go_simp
                refine hK _ _ ?_
                clear hK K
                refine wpAny_done (by kernel_rfl) ?_ _
                go_wp2
                exact bodyPost_ret (results_cell3 rfl _ _ (w.heap.size + 1 + 1) 0 (by rfl) cs _ HR4.out Try.underlying26 rfl hsz1) rfl (by
                  show Ans w _ (.returned (.tuple #[.agg cs.toArray, v5, .int .i64 0])) _
                  exact HAN.out)
    · skip
      go_simp
      refine hK _ _ ?_
      clear hK K
      refine wpAny_ready (rs := [1, 3]) (by kernel_rfl) (by simp) ?_
      refine AllReady.cons rfl (fun K hK => ?_) (AllReady.cons rfl (fun K hK => ?_) AllReady.nil)
      · skip
        refine step_load (by rfl) 26 _ rfl w1.heap.size 0 (by rfl) cs _ HR1.out Try.underlying26 rfl hsz1 ?_
        refine hK _ _ ?_
        clear hK K
        refine wpAny_ready (rs := [3, 4]) (by kernel_rfl) (by simp) ?_
        refine AllReady.cons rfl (fun K hK => ?_) (AllReady.cons rfl (fun K hK => ?_) AllReady.nil)
        · skip
          go_simp
          refine hK _ _ ?_
          clear hK K
          refine wpAny_ready (rs := [4]) (by kernel_rfl) (by simp) ?_
          refine AllReady.cons rfl (fun K hK => ?_) AllReady.nil
          · skip
            refine step_store (by rfl) 26 _ _ rfl (w.heap.size + 1 + 1) 0 cs.toArray (by rfl) (by rfl) r2 hsz2 r3 ?_
            refine hK _ _ ?_
            clear hK K
            refine wpAny_ready (rs := [5]) (by kernel_rfl) (by simp) ?_
            refine AllReady.cons rfl (fun K hK => ?_) AllReady.nil
            · skip
              go_simp
              refine hK _ _ ?_
              clear hK K
              refine wpAny_ready (rs := [6]) (by kernel_rfl) (by simp) ?_
              refine AllReady.cons rfl (fun K hK => ?_) AllReady.nil
              · skip
                go_simp
                refine hK _ _ ?_
                clear hK K
                refine wpAny_done (by kernel_rfl) ?_ _
                go_wp2
                exact bodyPost_ret (results_cell3 rfl _ _ (w.heap.size + 1 + 1) 0 (by rfl) cs _ HR4.out Try.underlying26 rfl hsz1) rfl (by
                  show Ans w _ (.returned (.tuple #[.agg cs.toArray, v5, .int .i64 0])) _
                  exact HAN.out)
        · skip
          refine step_store (by rfl) 26 _ _ rfl (w.heap.size + 1 + 1) 0 cs.toArray (by rfl) (by rfl) r2 hsz2 r3 ?_
          refine hK _ _ ?_
          clear hK K
          refine wpAny_ready (rs := [3]) (by kernel_rfl) (by simp) ?_
          refine AllReady.cons rfl (fun K hK => ?_) AllReady.nil
          · skip
            go_simp
            refine hK _ _ ?_
            clear hK K
            refine wpAny_ready (rs := [5]) (by kernel_rfl) (by simp) ?_
            refine AllReady.cons rfl (fun K hK => ?_) AllReady.nil
            · skip
              go_simp
              refine hK _ _ ?_
              clear hK K
              refine wpAny_ready (rs := [6]) (by kernel_rfl) (by simp) ?_
              refine AllReady.cons rfl (fun K hK => ?_) AllReady.nil
              · skip
                go_simp
                refine hK _ _ ?_
                clear hK K
                refine wpAny_done (by kernel_rfl) ?_ _
                go_wp2
                exact bodyPost_ret (results_cell3 rfl _ _ (w.heap.size + 1 + 1) 0 (by rfl) cs _ HR4.out Try.underlying26 rfl hsz1) rfl (by
                  show Ans w _ (.returned (.tuple #[.agg cs.toArray, v5, .int .i64 0])) _
                  exact HAN.out)
      · skip
        go_simp
        refine hK _ _ ?_
        clear hK K
        refine wpAny_ready (rs := [1]) (by kernel_rfl) (by simp) ?_
        refine AllReady.cons rfl (fun K hK => ?_) AllReady.nil
        · skip
          refine step_load (by rfl) 26 _ rfl w1.heap.size 0 (by rfl) cs _ HR1.out Try.underlying26 rfl hsz1 ?_
          refine hK _ _ ?_
          clear hK K
          refine wpAny_ready (rs := [4]) (by kernel_rfl) (by simp) ?_
          refine AllReady.cons rfl (fun K hK => ?_) AllReady.nil
          · skip
            refine step_store (by rfl) 26 _ _ rfl (w.heap.size + 1 + 1) 0 cs.toArray (by rfl) (by rfl) r2 hsz2 r3 ?_
            refine hK _ _ ?_
            clear hK K
            refine wpAny_ready (rs := [5]) (by kernel_rfl) (by simp) ?_
            refine AllReady.cons rfl (fun K hK => ?_) AllReady.nil
            · skip
              go_simp
              refine hK _ _ ?_
              clear hK K
              refine wpAny_ready (rs := [6]) (by kernel_rfl) (by simp) ?_
              refine AllReady.cons rfl (fun K hK => ?_) AllReady.nil
              · skip
                go_simp
                refine hK _ _ ?_
                clear hK K
                refine wpAny_done (by kernel_rfl) ?_ _
                go_wp2
                exact bodyPost_ret (results_cell3 rfl _ _ (w.heap.size + 1 + 1) 0 (by rfl) cs _ HR4.out Try.underlying26 rfl hsz1) rfl (by
                  show Ans w _ (.returned (.tuple #[.agg cs.toArray, v5, .int .i64 0])) _
                  exact HAN.out)
  · skip
    go_simp
    refine hK _ _ ?_
    clear hK K
    refine wpAny_ready (rs := [0, 3]) (by kernel_rfl) (by simp) ?_
    refine AllReady.cons rfl (fun K hK => ?_) (AllReady.cons rfl (fun K hK => ?_) AllReady.nil)
    · skip
      go_simp
      refine hK _ _ ?_
      clear hK K
      refine wpAny_ready (rs := [1, 3]) (by kernel_rfl) (by simp) ?_
      refine AllReady.cons rfl (fun K hK => ?_) (AllReady.cons rfl (fun K hK => ?_) AllReady.nil)
      · skip
        refine step_load (by rfl) 26 _ rfl w1.heap.size 0 (by rfl) cs _ HR1.out Try.underlying26 rfl hsz1 ?_
        refine hK _ _ ?_
        clear hK K
        refine wpAny_ready (rs := [3, 4]) (by kernel_rfl) (by simp) ?_
        refine AllReady.cons rfl (fun K hK => ?_) (AllReady.cons rfl (fun K hK => ?_) AllReady.nil)
        · skip
          go_simp
          refine hK _ _ ?_
          clear hK K
          refine wpAny_ready (rs := [4]) (by kernel_rfl) (by simp) ?_
          refine AllReady.cons rfl (fun K hK => ?_) AllReady.nil
          · skip
            refine step_store (by rfl) 26 _ _ rfl (w.heap.size + 1 + 1) 0 cs.toArray (by rfl) (by rfl) r2 hsz2 r3 ?_
            refine hK _ _ ?_
            clear hK K
            refine wpAny_ready (rs := [5]) (by kernel_rfl) (by simp) ?_
            refine AllReady.cons rfl (fun K hK => ?_) AllReady.nil
            · skip
              go_simp
              refine hK _ _ ?_
              clear hK K
              refine wpAny_ready (rs := [6]) (by kernel_rfl) (by simp) ?_
              refine AllReady.cons rfl (fun K hK => ?_) AllReady.nil
              · skip
                go_simp
                refine hK _ _ ?_
                clear hK K
                refine wpAny_done (by kernel_rfl) ?_ _
                go_wp2
                exact bodyPost_ret (results_cell3 rfl _ _ (w.heap.size + 1 + 1) 0 (by rfl) cs _ HR4.out Try.underlying26 rfl hsz1) rfl (by
                  show Ans w _ (.returned (.tuple #[.agg cs.toArray, v5, .int .i64 0])) _
                  exact HAN.out)
        · skip
          refine step_store (by rfl) 26 _ _ rfl (w.heap.size + 1 + 1) 0 cs.toArray (by rfl) (by rfl) r2 hsz2 r3 ?_
          refine hK _ _ ?_
          clear hK K
          refine wpAny_ready (rs := [3]) (by kernel_rfl) (by simp) ?_
          refine AllReady.cons rfl (fun K hK => ?_) AllReady.nil
          · skip
            go_simp
            refine hK _ _ ?_
            clear hK K
            refine wpAny_ready (rs := [5]) (by kernel_rfl) (by simp) ?_
            refine AllReady.cons rfl (fun K hK => ?_) AllReady.nil
            · skip
              go_simp
              refine hK _ _ ?_
              clear hK K
              refine wpAny_ready (rs := [6]) (by kernel_rfl) (by simp) ?_
              refine AllReady.cons rfl (fun K hK => ?_) AllReady.nil
              · skip
                go_simp
                refine hK _ _ ?_
                clear hK K
                refine wpAny_done (by kernel_rfl) ?_ _
                go_wp2
                exact bodyPost_ret (results_cell3 rfl _ _ (w.heap.size + 1 + 1) 0 (by rfl) cs _ HR4.out Try.underlying26 rfl hsz1) rfl (by
                  show Ans w _ (.returned (.tuple #[.agg cs.toArray, v5, .int .i64 0])) _
                  exact HAN.out)
      · skip
        go_simp
        refine hK _ _ ?_
        clear hK K
        refine wpAny_ready (rs := [1]) (by kernel_rfl) (by simp) ?_
        refine AllReady.cons rfl (fun K hK => ?_) AllReady.nil
        · skip
          refine step_load (by rfl) 26 _ rfl w1.heap.size 0 (by rfl) cs _ HR1.out Try.underlying26 rfl hsz1 ?_
          refine hK _ _ ?_
          clear hK K
          refine wpAny_ready (rs := [4]) (by kernel_rfl) (by simp) ?_
          refine AllReady.cons rfl (fun K hK => ?_) AllReady.nil
          · skip
            refine step_store (by rfl) 26 _ _ rfl (w.heap.size + 1 + 1) 0 cs.toArray (by rfl) (by rfl) r2 hsz2 r3 ?_
            refine hK _ _ ?_
            clear hK K
            refine wpAny_ready (rs := [5]) (by kernel_rfl) (by simp) ?_
            refine AllReady.cons rfl (fun K hK => ?_) AllReady.nil
            · skip
              go_simp
              refine hK _ _ ?_
              clear hK K
              refine wpAny_ready (rs := [6]) (by kernel_rfl) (by simp) ?_
              refine AllReady.cons rfl (fun K hK => ?_) AllReady.nil
              · skip
                go_simp
                refine hK _ _ ?_
                clear hK K
                refine wpAny_done (by kernel_rfl) ?_ _
                go_wp2
                exact bodyPost_ret (results_cell3 rfl _ _ (w.heap.size + 1 + 1) 0 (by rfl) cs _ HR4.out Try.underlying26 rfl hsz1) rfl (by
                  show Ans w _ (.returned (.tuple #[.agg cs.toArray, v5, .int .i64 0])) _
                  exact HAN.out)
    · skip
      go_simp
      refine hK _ _ ?_
      clear hK K
      refine wpAny_ready (rs := [0]) (by kernel_rfl) (by simp) ?_
      refine AllReady.cons rfl (fun K hK => ?_) AllReady.nil
      · skip
        go_simp
        refine hK _ _ ?_
        clear hK K
        refine wpAny_ready (rs := [1]) (by kernel_rfl) (by simp) ?_
        refine AllReady.cons rfl (fun K hK => ?_) AllReady.nil
        · skip
          refine step_load (by rfl) 26 _ rfl w1.heap.size 0 (by rfl) cs _ HR1.out Try.underlying26 rfl hsz1 ?_
          refine hK _ _ ?_
          clear hK K
          refine wpAny_ready (rs := [4]) (by kernel_rfl) (by simp) ?_
          refine AllReady.cons rfl (fun K hK => ?_) AllReady.nil
          · skip
            refine step_store (by rfl) 26 _ _ rfl (w.heap.size + 1 + 1) 0 cs.toArray (by rfl) (by rfl) r2 hsz2 r3 ?_
            refine hK _ _ ?_
            clear hK K
            refine wpAny_ready (rs := [5]) (by kernel_rfl) (by simp) ?_
            refine AllReady.cons rfl (fun K hK => ?_) AllReady.nil
            · skip
              go_simp
              refine hK _ _ ?_
              clear hK K
              refine wpAny_ready (rs := [6]) (by kernel_rfl) (by simp) ?_
              refine AllReady.cons rfl (fun K hK => ?_) AllReady.nil
              · skip
                go_simp
                refine hK _ _ ?_
                clear hK K
                refine wpAny_done (by kernel_rfl) ?_ _
                go_wp2
                exact bodyPost_ret (results_cell3 rfl _ _ (w.heap.size + 1 + 1) 0 (by rfl) cs _ HR4.out Try.underlying26 rfl hsz1) rfl (by
                  show Ans w _ (.returned (.tuple #[.agg cs.toArray, v5, .int .i64 0])) _
                  exact HAN.out)
set_option maxRecDepth 20000 in
set_option maxHeartbeats 4000000 in
theorem vtake_d1 (s : Tk) (a : Option Addr) (c : Nat) (g : Option Addr) (d : Nat) (x : Sg) (xa : Option Addr) (xc : Nat) (a2 : Option Addr) (c2 : Nat) (now : Int) (w : World) (hc : CameK w s a c g d) (hx : Came w x xa xc a2 c2) (hok : okK s = true) (hn : inB now 0 1048576 = true) (h1 : okS x = true) (h2 : (x.src != s.src) = false) (h3 : ((x.ses : Int) != (s.ses : Int)) = false) (h4 : fwdS x = true) (hk1 : (x.knd == 1) = true) :
    Calls Try.prog 10 #[kv s a c g d, sv x xa xc a2 c2, .int .i64 now] w fun e w' => Ans w w' e ((datK { s with due := now + s.lif } x).1, (datK { s with due := now + s.lif } x).2, 0) := by
  have HBG : Hid (∀ W, Below w.heap.size w W → Calls Try.prog 31 #[kv s a c g d, .int .i64 now] W fun e w' => ∃ a' c' g' d', e = .returned (.tuple #[.agg (tcs s a' c' g' d' (.slice none 0 0)).toArray, .int .i64 0]) ∧ Hid (Below W.heap.size W w' ∧ KN W.heap.size w' s a' c' g' d')) := fun W hb => vbegin_ok s a c g d now W (hc.later hb) hok hn
  have HEN : Hid (En w (((w.alloc (kc s a c g d)).alloc (sc x xa xc a2 c2)).alloc (kc zeroK none 0 none 0)) s a c g d x xa xc a2 c2) := En.start w s a c g d x xa xc a2 c2
  obtain ⟨ct, hct⟩ : ∃ ct, Hid (ct = sgcells x xa xc a2 c2) := ⟨_, rfl⟩
  have htz : (Try.prog.info? 28).map (·.size) = some ct.length := by rw [show ct.length = 13 by rw [hct.out]; rfl]; kernel_rfl
  have hs9 : (Try.prog.info? 26).map (·.size) = some 9 := by kernel_rfl
  have HCK : Hid (∀ W, Below w.heap.size w W → Calls Try.prog 30 #[.agg ct.toArray] W fun e w' => e = .returned (.int .i64 (chkS x)) ∧ Hid (Below W.heap.size W w')) := fun W hb => by rw [hct.out]; exact check_any x xa xc a2 c2 W (hx.later hb)
  have HFW : Hid (∀ W, Below w.heap.size w W → Calls Try.prog 15 #[.agg ct.toArray] W fun e w' => e = .returned (.bool (fwdS x)) ∧ Hid (Below W.heap.size W w')) := fun W hb => by rw [hct.out]; exact forward_any x xa xc a2 c2 W
  have hnow := inB_of hn
  have hlif := (smallK hok).2.2.2.1
  rw [chk_ok h1] at HCK
  rw [h4] at HFW
  have HDAT : Hid (∀ w1 w3 a' c' g' d' n, At3 w w1 w3 s a c g d x xa xc a2 c2 a' c' g' d' n → Calls Try.prog 32 #[.pointer (some ⟨w1.heap.size, 0, none⟩), .agg ct.toArray] (w3.setCell ⟨w1.heap.size, 8, none⟩ (.int .i64 (now + s.lif))) fun e w' => e = .returned (.tuple #[]) ∧ Hid (Left n (w3.setCell ⟨w1.heap.size, 8, none⟩ (.int .i64 (now + s.lif))) w' w1.heap.size a' (datK { s with due := now + s.lif } x).1 (datK { s with due := now + s.lif } x).2)) := fun w1 w3 a' c' g' d' n h => by
    rw [hct.out]
    exact vdata_any n { s with due := now + s.lif } a' c' g' d' w1.heap.size x xa xc a2 c2 _ (data_pre h (now + s.lif) hok hx hc.ser h1 (by simpa using hk1))
  clear hc hx hok hn h1 h4
  go_enter Try.func10, Try.ntmps10
  go_wp2_with (first | (go_at_call 31; refine (HBG.out _ HEN.out.bel).mono ?_; rintro e w1 ⟨a', c', g', d', rfl, hq⟩; have HE2 : Hid (En w (w1.alloc (tc s a' c' g' d' (.slice none 0 0))) s a c g d x xa xc a2 c2) := (HEN.out.later hq.out.1).later ((Below.refl _ w1).alloc (Nat.le_refl _) _); have hR2 : Hid ((w1.alloc (tc s a' c' g' d' (.slice none 0 0))).rangeAt (w.heap.size + 1) 0 ct) := by (rw [hct.out]; exact sg_range HE2.out.two)) | (go_at_call 30; refine (HCK.out _ HE2.out.bel).mono ?_; rintro e w2 ⟨rfl, hb2⟩; have HE3 : Hid (En w w2 s a c g d x xa xc a2 c2) := HE2.out.later hb2.out; have hR3 : Hid (w2.rangeAt (w.heap.size + 1) 0 ct) := (by rw [hct.out]; exact sg_range HE3.out.two); have y1 := (scells HE3.out.two).2.1; have y2 := (scells HE3.out.two).2.2.1; have y3 := (kcells_get HE3.out.one).1; have y4 := (kcells_get HE3.out.one).2.1) | (go_at_call 15; refine (HFW.out _ HE3.out.bel).mono ?_; rintro e w3 ⟨rfl, hb3⟩; have HA3 : Hid (At3 w w1 w3 s a c g d x xa xc a2 c2 a' c' g' d' (((w.alloc (kc s a c g d)).alloc (sc x xa xc a2 c2)).alloc (kc zeroK none 0 none 0)).heap.size) := at3_of HEN.out hq.out (below_of hb2.out hb3.out); have z0 := (scells HA3.out.en.two).1; obtain ⟨_, _, _, _, _, _, k6, k7, k8, _⟩ := tc_get HA3.out.tn.here; have ff := frozen_of HA3.out.tn.here; have hR4 : Hid ((w3.setCell ⟨w1.heap.size, 8, none⟩ (.int .i64 (now + s.lif))).rangeAt (w.heap.size + 1) 0 ct) := (by rw [hct.out]; exact sg_range (at3_two HA3.out (now + s.lif))); have z0' := (scells (at3_two HA3.out (now + s.lif))).1) | (go_at_call 32; refine (HDAT.out _ _ _ _ _ _ _ HA3.out).mono ?_; rintro e w5 ⟨rfl, hs5⟩; obtain ⟨c5, g5, d5, v5, hv5⟩ := left_fin HA3.out (now + s.lif) hs5.out; have HFI : Hid (Fin w w5 (((w.alloc (kc s a c g d)).alloc (sc x xa xc a2 c2)).alloc (kc zeroK none 0 none 0)).heap.size w1.heap.size (datK { s with due := now + s.lif } x).1 a' c5 g5 d5 v5 (datK { s with due := now + s.lif } x).2) := hv5; clear hv5) | (refine wpList_load_want (by rfl) 28 _ rfl (w.heap.size + 1) 0 (by rfl) ct _ (by first | exact hR4.out | exact hR3.out | exact hR2.out) Try.underlying28 rfl htz ?_))
  clear hs5 HDAT
  clear HBG HEN HCK HFW hR2 hR3 hR4 HE2 HE3 hb2 hb3 hq y1 y2 y3 y4 z0 z0' k6 k7 k8 ff HA3 hct htz
  obtain ⟨cs, hcs⟩ : ∃ cs, Hid (cs = kcells (datK { s with due := now + s.lif } x).1 a' c5 g5 d5) := ⟨_, rfl⟩
  obtain ⟨r1, r2, r3, r4, r5⟩ := HFI.out.stores hcs.out
  obtain ⟨q1, q2⟩ := HFI.out.cell9 cs
  have HR1 : Hid (w5.drew.rangeAt w1.heap.size 0 cs) := r1
  have HR4 : Hid ((w5.drew.setCells (w.heap.size + 1 + 1) 0 cs).rangeAt (w.heap.size + 1 + 1) 0 cs) := r4
  have HAN : Hid (Ans w (w5.drew.setCells (w.heap.size + 1 + 1) 0 cs) (.returned (.tuple #[.agg cs.toArray, v5, .int .i64 0])) ((datK { s with due := now + s.lif } x).1, (datK { s with due := now + s.lif } x).2, 0)) := r5
  have hl9 : cs.length = 9 := by rw [hcs.out]; rfl
  have hsz1 : (Try.prog.info? 26).map (·.size) = some cs.length := by rw [hl9]; exact hs9
  have hsz2 : (Try.prog.info? 26).map (·.size) = some cs.toArray.size := by rw [show cs.toArray.size = 9 from hl9]; exact hs9
  clear r1 r4 r5
  refine wp_region_any (by kernel_rfl) ?_
  change wpAny _ _ _ _ _ _ _ (World.drew _)
  refine wpAny_ready (rs := [0, 2]) (by kernel_rfl) (by simp) ?_
  refine AllReady.cons rfl (fun K hK => ?_) (AllReady.cons rfl (fun K hK => ?_) AllReady.nil)
  · skip
    go_simp
    refine hK _ _ ?_
    clear hK K
    refine wpAny_ready (rs := [1, 2]) (by kernel_rfl) (by simp) ?_
    refine AllReady.cons rfl (fun K hK => ?_) (AllReady.cons rfl (fun K hK => ?_) AllReady.nil)
    · skip
      refine step_load (by rfl) 26 _ rfl w1.heap.size 0 (by rfl) cs _ HR1.out Try.underlying26 rfl hsz1 ?_
      refine hK _ _ ?_
      clear hK K
      refine wpAny_ready (rs := [2, 4]) (by kernel_rfl) (by simp) ?_
      refine AllReady.cons rfl (fun K hK => ?_) (AllReady.cons rfl (fun K hK => ?_) AllReady.nil)
      · skip
        go_simp
        refine hK _ _ ?_
        clear hK K
        refine wpAny_ready (rs := [3, 4]) (by kernel_rfl) (by simp) ?_
        refine AllReady.cons rfl (fun K hK => ?_) (AllReady.cons rfl (fun K hK => ?_) AllReady.nil)
        · skip
          go_simp
          refine hK _ _ ?_
          clear hK K
          refine wpAny_ready (rs := [4]) (by kernel_rfl) (by simp) ?_
          refine AllReady.cons rfl (fun K hK => ?_) AllReady.nil
          · skip
            refine step_store (by rfl) 26 _ _ rfl (w.heap.size + 1 + 1) 0 cs.toArray (by rfl) (by rfl) r2 hsz2 r3 ?_
            refine hK _ _ ?_
            clear hK K
            refine wpAny_ready (rs := [5]) (by kernel_rfl) (by simp) ?_
            refine AllReady.cons rfl (fun K hK => ?_) AllReady.nil
            · skip
              go_simp
              refine hK _ _ ?_
              clear hK K
              refine wpAny_ready (rs := [6]) (by kernel_rfl) (by simp) ?_
              refine AllReady.cons rfl (fun K hK => ?_) AllReady.nil
              · skip
                go_simp
                refine hK _ _ ?_
                clear hK K
                refine wpAny_done (by kernel_rfl) ?_ _
                go_wp2
                exact bodyPost_ret (results_cell3 rfl _ _ (w.heap.size + 1 + 1) 0 (by rfl) cs _ HR4.out Try.underlying26 rfl hsz1) rfl (by
                  show Ans w _ (.returned (.tuple #[.agg cs.toArray, v5, .int .i64 0])) _
                  exact HAN.out)
        · skip
          refine step_store (by rfl) 26 _ _ rfl (w.heap.size + 1 + 1) 0 cs.toArray (by rfl) (by rfl) r2 hsz2 r3 ?_
          refine hK _ _ ?_
          clear hK K
          refine wpAny_ready (rs := [3]) (by kernel_rfl) (by simp) ?_
          refine AllReady.cons rfl (fun K hK => ?_) AllReady.nil
          · skip
            go_simp
            refine hK _ _ ?_
            clear hK K
            refine wpAny_ready (rs := [5]) (by kernel_rfl) (by simp) ?_
            refine AllReady.cons rfl (fun K hK => ?_) AllReady.nil
            · skip
              go_simp
              refine hK _ _ ?_
              clear hK K
              refine wpAny_ready (rs := [6]) (by kernel_rfl) (by simp) ?_
              refine AllReady.cons rfl (fun K hK => ?_) AllReady.nil
              · skip
                go_simp
                refine hK _ _ ?_
                clear hK K
                refine wpAny_done (by kernel_rfl) ?_ _
                go_wp2
                exact bodyPost_ret (results_cell3 rfl _ _ (w.heap.size + 1 + 1) 0 (by rfl) cs _ HR4.out Try.underlying26 rfl hsz1) rfl (by
                  show Ans w _ (.returned (.tuple #[.agg cs.toArray, v5, .int .i64 0])) _
                  exact HAN.out)
      · skip
        refine step_store (by rfl) 26 _ _ rfl (w.heap.size + 1 + 1) 0 cs.toArray (by rfl) (by rfl) r2 hsz2 r3 ?_
        refine hK _ _ ?_
        clear hK K
        refine wpAny_ready (rs := [2]) (by kernel_rfl) (by simp) ?_
        refine AllReady.cons rfl (fun K hK => ?_) AllReady.nil
        · skip
          go_simp
          refine hK _ _ ?_
          clear hK K
          refine wpAny_ready (rs := [3]) (by kernel_rfl) (by simp) ?_
          refine AllReady.cons rfl (fun K hK => ?_) AllReady.nil
          · skip
            go_simp
            refine hK _ _ ?_
            clear hK K
            refine wpAny_ready (rs := [5]) (by kernel_rfl) (by simp) ?_
            refine AllReady.cons rfl (fun K hK => ?_) AllReady.nil
            · skip
              go_simp
              refine hK _ _ ?_
              clear hK K
              refine wpAny_ready (rs := [6]) (by kernel_rfl) (by simp) ?_
              refine AllReady.cons rfl (fun K hK => ?_) AllReady.nil
              · skip
                go_simp
                refine hK _ _ ?_
                clear hK K
                refine wpAny_done (by kernel_rfl) ?_ _
                go_wp2
                exact bodyPost_ret (results_cell3 rfl _ _ (w.heap.size + 1 + 1) 0 (by rfl) cs _ HR4.out Try.underlying26 rfl hsz1) rfl (by
                  show Ans w _ (.returned (.tuple #[.agg cs.toArray, v5, .int .i64 0])) _
                  exact HAN.out)
    · skip
      go_simp
      refine hK _ _ ?_
      clear hK K
      refine wpAny_ready (rs := [1, 3]) (by kernel_rfl) (by simp) ?_
      refine AllReady.cons rfl (fun K hK => ?_) (AllReady.cons rfl (fun K hK => ?_) AllReady.nil)
      · skip
        refine step_load (by rfl) 26 _ rfl w1.heap.size 0 (by rfl) cs _ HR1.out Try.underlying26 rfl hsz1 ?_
        refine hK _ _ ?_
        clear hK K
        refine wpAny_ready (rs := [3, 4]) (by kernel_rfl) (by simp) ?_
        refine AllReady.cons rfl (fun K hK => ?_) (AllReady.cons rfl (fun K hK => ?_) AllReady.nil)
        · skip
          go_simp
          refine hK _ _ ?_
          clear hK K
          refine wpAny_ready (rs := [4]) (by kernel_rfl) (by simp) ?_
          refine AllReady.cons rfl (fun K hK => ?_) AllReady.nil
          · skip
            refine step_store (by rfl) 26 _ _ rfl (w.heap.size + 1 + 1) 0 cs.toArray (by rfl) (by rfl) r2 hsz2 r3 ?_
            refine hK _ _ ?_
            clear hK K
            refine wpAny_ready (rs := [5]) (by kernel_rfl) (by simp) ?_
            refine AllReady.cons rfl (fun K hK => ?_) AllReady.nil
            · skip
              go_simp
              refine hK _ _ ?_
              clear hK K
              refine wpAny_ready (rs := [6]) (by kernel_rfl) (by simp) ?_
              refine AllReady.cons rfl (fun K hK => ?_) AllReady.nil
              · skip
                go_simp
                refine hK _ _ ?_
                clear hK K
                refine wpAny_done (by kernel_rfl) ?_ _
                go_wp2
                exact bodyPost_ret (results_cell3 rfl _ _ (w.heap.size + 1 + 1) 0 (by rfl) cs _ HR4.out Try.underlying26 rfl hsz1) rfl (by
                  show Ans w _ (.returned (.tuple #[.agg cs.toArray, v5, .int .i64 0])) _
                  exact HAN.out)
        · skip
          refine step_store (by rfl) 26 _ _ rfl (w.heap.size + 1 + 1) 0 cs.toArray (by rfl) (by rfl) r2 hsz2 r3 ?_
          refine hK _ _ ?_
          clear hK K
          refine wpAny_ready (rs := [3]) (by kernel_rfl) (by simp) ?_
          refine AllReady.cons rfl (fun K hK => ?_) AllReady.nil
          · skip
            go_simp
            refine hK _ _ ?_
            clear hK K
            refine wpAny_ready (rs := [5]) (by kernel_rfl) (by simp) ?_
            refine AllReady.cons rfl (fun K hK => ?_) AllReady.nil
            · skip
              go_simp
              refine hK _ _ ?_
              clear hK K
              refine wpAny_ready (rs := [6]) (by kernel_rfl) (by simp) ?_
              refine AllReady.cons rfl (fun K hK => ?_) AllReady.nil
              · skip
                go_simp
                refine hK _ _ ?_
                clear hK K
                refine wpAny_done (by kernel_rfl) ?_ _
                go_wp2
                exact bodyPost_ret (results_cell3 rfl _ _ (w.heap.size + 1 + 1) 0 (by rfl) cs _ HR4.out Try.underlying26 rfl hsz1) rfl (by
                  show Ans w _ (.returned (.tuple #[.agg cs.toArray, v5, .int .i64 0])) _
                  exact HAN.out)
      · skip
        go_simp
        refine hK _ _ ?_
        clear hK K
        refine wpAny_ready (rs := [1]) (by kernel_rfl) (by simp) ?_
        refine AllReady.cons rfl (fun K hK => ?_) AllReady.nil
        · skip
          refine step_load (by rfl) 26 _ rfl w1.heap.size 0 (by rfl) cs _ HR1.out Try.underlying26 rfl hsz1 ?_
          refine hK _ _ ?_
          clear hK K
          refine wpAny_ready (rs := [4]) (by kernel_rfl) (by simp) ?_
          refine AllReady.cons rfl (fun K hK => ?_) AllReady.nil
          · skip
            refine step_store (by rfl) 26 _ _ rfl (w.heap.size + 1 + 1) 0 cs.toArray (by rfl) (by rfl) r2 hsz2 r3 ?_
            refine hK _ _ ?_
            clear hK K
            refine wpAny_ready (rs := [5]) (by kernel_rfl) (by simp) ?_
            refine AllReady.cons rfl (fun K hK => ?_) AllReady.nil
            · skip
              go_simp
              refine hK _ _ ?_
              clear hK K
              refine wpAny_ready (rs := [6]) (by kernel_rfl) (by simp) ?_
              refine AllReady.cons rfl (fun K hK => ?_) AllReady.nil
              · skip
                go_simp
                refine hK _ _ ?_
                clear hK K
                refine wpAny_done (by kernel_rfl) ?_ _
                go_wp2
                exact bodyPost_ret (results_cell3 rfl _ _ (w.heap.size + 1 + 1) 0 (by rfl) cs _ HR4.out Try.underlying26 rfl hsz1) rfl (by
                  show Ans w _ (.returned (.tuple #[.agg cs.toArray, v5, .int .i64 0])) _
                  exact HAN.out)
  · skip
    go_simp
    refine hK _ _ ?_
    clear hK K
    refine wpAny_ready (rs := [0, 3]) (by kernel_rfl) (by simp) ?_
    refine AllReady.cons rfl (fun K hK => ?_) (AllReady.cons rfl (fun K hK => ?_) AllReady.nil)
    · skip
      go_simp
      refine hK _ _ ?_
      clear hK K
      refine wpAny_ready (rs := [1, 3]) (by kernel_rfl) (by simp) ?_
      refine AllReady.cons rfl (fun K hK => ?_) (AllReady.cons rfl (fun K hK => ?_) AllReady.nil)
      · skip
        refine step_load (by rfl) 26 _ rfl w1.heap.size 0 (by rfl) cs _ HR1.out Try.underlying26 rfl hsz1 ?_
        refine hK _ _ ?_
        clear hK K
        refine wpAny_ready (rs := [3, 4]) (by kernel_rfl) (by simp) ?_
        refine AllReady.cons rfl (fun K hK => ?_) (AllReady.cons rfl (fun K hK => ?_) AllReady.nil)
        · skip
          go_simp
          refine hK _ _ ?_
          clear hK K
          refine wpAny_ready (rs := [4]) (by kernel_rfl) (by simp) ?_
          refine AllReady.cons rfl (fun K hK => ?_) AllReady.nil
          · skip
            refine step_store (by rfl) 26 _ _ rfl (w.heap.size + 1 + 1) 0 cs.toArray (by rfl) (by rfl) r2 hsz2 r3 ?_
            refine hK _ _ ?_
            clear hK K
            refine wpAny_ready (rs := [5]) (by kernel_rfl) (by simp) ?_
            refine AllReady.cons rfl (fun K hK => ?_) AllReady.nil
            · skip
              go_simp
              refine hK _ _ ?_
              clear hK K
              refine wpAny_ready (rs := [6]) (by kernel_rfl) (by simp) ?_
              refine AllReady.cons rfl (fun K hK => ?_) AllReady.nil
              · skip
                go_simp
                refine hK _ _ ?_
                clear hK K
                refine wpAny_done (by kernel_rfl) ?_ _
                go_wp2
                exact bodyPost_ret (results_cell3 rfl _ _ (w.heap.size + 1 + 1) 0 (by rfl) cs _ HR4.out Try.underlying26 rfl hsz1) rfl (by
                  show Ans w _ (.returned (.tuple #[.agg cs.toArray, v5, .int .i64 0])) _
                  exact HAN.out)
        · skip
          refine step_store (by rfl) 26 _ _ rfl (w.heap.size + 1 + 1) 0 cs.toArray (by rfl) (by rfl) r2 hsz2 r3 ?_
          refine hK _ _ ?_
          clear hK K
          refine wpAny_ready (rs := [3]) (by kernel_rfl) (by simp) ?_
          refine AllReady.cons rfl (fun K hK => ?_) AllReady.nil
          · skip
            go_simp
            refine hK _ _ ?_
            clear hK K
            refine wpAny_ready (rs := [5]) (by kernel_rfl) (by simp) ?_
            refine AllReady.cons rfl (fun K hK => ?_) AllReady.nil
            · skip
              go_simp
              refine hK _ _ ?_
              clear hK K
              refine wpAny_ready (rs := [6]) (by kernel_rfl) (by simp) ?_
              refine AllReady.cons rfl (fun K hK => ?_) AllReady.nil
              · skip
                go_simp
                refine hK _ _ ?_
                clear hK K
                refine wpAny_done (by kernel_rfl) ?_ _
                go_wp2
                exact bodyPost_ret (results_cell3 rfl _ _ (w.heap.size + 1 + 1) 0 (by rfl) cs _ HR4.out Try.underlying26 rfl hsz1) rfl (by
                  show Ans w _ (.returned (.tuple #[.agg cs.toArray, v5, .int .i64 0])) _
                  exact HAN.out)
      · skip
        go_simp
        refine hK _ _ ?_
        clear hK K
        refine wpAny_ready (rs := [1]) (by kernel_rfl) (by simp) ?_
        refine AllReady.cons rfl (fun K hK => ?_) AllReady.nil
        · skip
          refine step_load (by rfl) 26 _ rfl w1.heap.size 0 (by rfl) cs _ HR1.out Try.underlying26 rfl hsz1 ?_
          refine hK _ _ ?_
          clear hK K
          refine wpAny_ready (rs := [4]) (by kernel_rfl) (by simp) ?_
          refine AllReady.cons rfl (fun K hK => ?_) AllReady.nil
          · skip
            refine step_store (by rfl) 26 _ _ rfl (w.heap.size + 1 + 1) 0 cs.toArray (by rfl) (by rfl) r2 hsz2 r3 ?_
            refine hK _ _ ?_
            clear hK K
            refine wpAny_ready (rs := [5]) (by kernel_rfl) (by simp) ?_
            refine AllReady.cons rfl (fun K hK => ?_) AllReady.nil
            · skip
              go_simp
              refine hK _ _ ?_
              clear hK K
              refine wpAny_ready (rs := [6]) (by kernel_rfl) (by simp) ?_
              refine AllReady.cons rfl (fun K hK => ?_) AllReady.nil
              · skip
                go_simp
                refine hK _ _ ?_
                clear hK K
                refine wpAny_done (by kernel_rfl) ?_ _
                go_wp2
                exact bodyPost_ret (results_cell3 rfl _ _ (w.heap.size + 1 + 1) 0 (by rfl) cs _ HR4.out Try.underlying26 rfl hsz1) rfl (by
                  show Ans w _ (.returned (.tuple #[.agg cs.toArray, v5, .int .i64 0])) _
                  exact HAN.out)
    · skip
      go_simp
      refine hK _ _ ?_
      clear hK K
      refine wpAny_ready (rs := [0]) (by kernel_rfl) (by simp) ?_
      refine AllReady.cons rfl (fun K hK => ?_) AllReady.nil
      · skip
        go_simp
        refine hK _ _ ?_
        clear hK K
        refine wpAny_ready (rs := [1]) (by kernel_rfl) (by simp) ?_
        refine AllReady.cons rfl (fun K hK => ?_) AllReady.nil
        · skip
          refine step_load (by rfl) 26 _ rfl w1.heap.size 0 (by rfl) cs _ HR1.out Try.underlying26 rfl hsz1 ?_
          refine hK _ _ ?_
          clear hK K
          refine wpAny_ready (rs := [4]) (by kernel_rfl) (by simp) ?_
          refine AllReady.cons rfl (fun K hK => ?_) AllReady.nil
          · skip
            refine step_store (by rfl) 26 _ _ rfl (w.heap.size + 1 + 1) 0 cs.toArray (by rfl) (by rfl) r2 hsz2 r3 ?_
            refine hK _ _ ?_
            clear hK K
            refine wpAny_ready (rs := [5]) (by kernel_rfl) (by simp) ?_
            refine AllReady.cons rfl (fun K hK => ?_) AllReady.nil
            · skip
              go_simp
              refine hK _ _ ?_
              clear hK K
              refine wpAny_ready (rs := [6]) (by kernel_rfl) (by simp) ?_
              refine AllReady.cons rfl (fun K hK => ?_) AllReady.nil
              · skip
                go_simp
                refine hK _ _ ?_
                clear hK K
                refine wpAny_done (by kernel_rfl) ?_ _
                go_wp2
                exact bodyPost_ret (results_cell3 rfl _ _ (w.heap.size + 1 + 1) 0 (by rfl) cs _ HR4.out Try.underlying26 rfl hsz1) rfl (by
                  show Ans w _ (.returned (.tuple #[.agg cs.toArray, v5, .int .i64 0])) _
                  exact HAN.out)
end Go.Proofs.Ythmolodkaboakaa
