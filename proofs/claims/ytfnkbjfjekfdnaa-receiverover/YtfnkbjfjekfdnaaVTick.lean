/- receiver.Tick. -/
import Derived.Test.YtfnkbjfjekfdnaaVTake3
namespace Go.Proofs.Ytfnkbjfjekfdnaa
open Go.RowKit
set_option linter.unusedVariables false
/-- what becomes of a session when a moment comes, and what is sent. -/
def tiK (s : Tk) (now : Int) : Tk × List Sg := if s.due ≤ now then ({ s with sta := 4 }, if s.sta = 1 then [⟨6, s.src, s.ses, 0, 0, 0, 0, 0, 0, 4, false, [], []⟩] else []) else (s, [])
/-- what Tick answers. -/
def tickK (s : Tk) (now : Int) : Tk × List Sg × Int :=
  if okK s = true then (if inB now 0 1048576 = true then ((tiK s now).1, (tiK s now).2, 0) else (zeroK, [], 2)) else (zeroK, [], 250)
/-- the world behind Tick's entry. -/
structure EnT (w W : World) (s : Tk) (a : Option Addr) (c : Nat) (g : Option Addr) (d : Nat) : Prop where
  bel : Below w.heap.size w W
  res : W.heap[w.heap.size + 1]? = some (kc zeroK none 0 none 0)
theorem EnT.start (w : World) (s : Tk) (a : Option Addr) (c : Nat) (g : Option Addr) (d : Nat) : EnT w ((w.alloc (kc s a c g d)).alloc (kc zeroK none 0 none 0)) s a c g d :=
  ⟨below_of ((Below.refl _ w).alloc (Nat.le_refl _) _) ((Below.refl _ _).alloc (Nat.le_refl _) _), second_new w _ _⟩
theorem EnT.later {w W W' : World} {s : Tk} {a : Option Addr} {c : Nat} {g : Option Addr} {d : Nat} (h : EnT w W s a c g d) (hb : Below W.heap.size W W') : EnT w W' s a c g d := ⟨below_of h.bel hb, old_block hb h.res⟩
/-- a turn of Tick at its end. -/
structure FinT (w w5 : World) (n tb : Nat) (s : Tk) (a : Option Addr) (c : Nat) (g : Option Addr) (d : Nat) (v : Value) (l : List Sg) : Prop where
  tn : Tn n w5 tb s a c g d v
  sent : Sent n w5 v l
  bel : Below w.heap.size w w5
  res : w5.heap[w.heap.size + 1]? = some (kc zeroK none 0 none 0)
  n3 : w.heap.size + 2 ≤ n
  t3 : w.heap.size + 2 ≤ tb
theorem FinT.cell9 {w w5 : World} {n tb : Nat} {s : Tk} {a : Option Addr} {c : Nat} {g : Option Addr} {d : Nat} {v : Value} {l : List Sg} (h : FinT w w5 n tb s a c g d v l) (cs : List Value) : w5.cell? ⟨tb, 9, none⟩ = some v ∧ (w5.drew.setCells (w.heap.size + 1) 0 cs).cell? ⟨tb, 9, none⟩ = some v := by
  have h9 := (tc_get h.tn.here).2.2.2.2.2.2.2.2.2
  have ho := setC_off w5.drew (w.heap.size + 1) 0 cs
  have := h.t3
  exact ⟨h9, ho.cell (p := ⟨tb, 9, none⟩) h9 (by show ¬ (tb = _); omega)⟩
theorem FinT.stores {w w5 : World} {n tb : Nat} {s : Tk} {a : Option Addr} {c : Nat} {g : Option Addr} {d : Nat} {v : Value} {l : List Sg} (h : FinT w w5 n tb s a c g d v l) {cs : List Value} (hcs : cs = kcells s a c g d) :
    w5.drew.rangeAt tb 0 cs ∧ w5.drew.there (w.heap.size + 1) 0 cs.toArray.size ∧ cs.toArray.all (·.oneCell') = true ∧ (w5.drew.setCells (w.heap.size + 1) 0 cs).rangeAt (w.heap.size + 1) 0 cs ∧ Ans w (w5.drew.setCells (w.heap.size + 1) 0 cs) (.returned (.tuple #[.agg cs.toArray, v, .int .i64 0])) (s, l, 0) := by
  subst hcs
  have hf : Tn n w5.drew tb s a c g d v := h.tn.off (S := fun _ => False) (Off.refl _ w5).drew (fun _ t => t.elim) id
  have hs : Sent n w5.drew v l := h.sent.off (S := fun _ => False) (Off.refl _ w5).drew (fun _ t => t.elim)
  have ho := setC_off w5.drew (w.heap.size + 1) 0 (kcells s a c g d)
  have n3 := h.n3
  exact ⟨t_range9 hf.here, k_there h.res, k_one _ _ _ _ _, k_range (block_stored (zs := kcells zeroK none 0 none 0) h.res rfl), a, c, g, d, v, rfl, h.bel.drew.trans (ho.below h.bel.size (fun i e => by have : i = w.heap.size + 1 := e; omega)), (hf.kn.off ho (fun k e => by have : k = w.heap.size + 1 := e; omega)).base (by omega), (hs.off ho (fun k e => by have : k = w.heap.size + 1 := e; omega)).base (by omega)⟩
theorem finT_of {w W w1 : World} {s : Tk} {a : Option Addr} {c : Nat} {g : Option Addr} {d : Nat} {a' : Option Addr} {c' : Nat} {g' : Option Addr} {d' : Nat} (h : EnT w W s a c g d) (hq : Below W.heap.size W w1 ∧ KN W.heap.size w1 s a' c' g' d') : FinT w (w1.alloc (tc s a' c' g' d' (.slice none 0 0))) W.heap.size w1.heap.size s a' c' g' d' (.slice none 0 0) [] := by
  have hb1 : Below w1.heap.size w1 (w1.alloc (tc s a' c' g' d' (.slice none 0 0))) := (Below.refl _ w1).alloc (Nat.le_refl _) _
  have h2 := (h.later hq.1).later hb1
  have hsz := size_two h.res
  exact ⟨⟨heap_alloc_new w1 _, hq.2.later hb1, by simp, Nat.le_trans hq.1.size hb1.size⟩, rfl, h2.bel, h2.res, hsz, Nat.le_trans hsz hq.1.size⟩
theorem FinT.sta {w w5 : World} {n tb : Nat} {s : Tk} {a : Option Addr} {c : Nat} {g : Option Addr} {d : Nat} {v : Value} {l : List Sg} (h : FinT w w5 n tb s a c g d v l) (hl : ∀ x ∈ l, x.cls = []) (q : Int) : FinT w (w5.setCell ⟨tb, 6, none⟩ (.int .i64 q)) n tb { s with sta := q } a c g d v l := by
  obtain ⟨h1, h2⟩ := sta_set h.tn q
  have t3 := h.t3
  refine ⟨h1, ?_, h.bel.trans (h2.below h.bel.size (fun i e => by have : i = tb := e; omega)), h2.at h.res (by show ¬ (_ = _); omega), h.n3, h.t3⟩
  cases l with
  | nil => exact h.sent
  | cons x r =>
    obtain ⟨h0, g2, cap, b2, c2, k1, k2, k3, k4, k5, k6, k7⟩ := h.sent
    refine ⟨h0, g2, cap, b2, c2, k1, k2, fun j u hu => h2.cell (k3 j u hu) (fun t => ?_), k4, ⟨k5.1, fun hp => ?_⟩, k6, k7⟩
    · have e : g2 = tb := t
      have := k3 12 _ rfl
      rw [Nat.zero_add, e, cell_of h.tn.here] at this
      simp at this
    · rw [hl x List.mem_cons_self] at hp
      exact absurd hp (by simp)
theorem FinT.said {w w4 w5 : World} {n tb : Nat} {s : Tk} {a : Option Addr} {c : Nat} {g : Option Addr} {d : Nat} {X : Sg} (h : FinT w w4 n tb s a c g d (.slice none 0 0) []) (k : Said w4 w5 tb s a c g d X none 0 none 0) (hx : X.dat = []) (hy : X.cls = []) : ∃ v5, FinT w w5 n tb s a c g d v5 [X] := by
  obtain ⟨g2, cap, k1, k2, k3, k4, k5, k6⟩ := k
  have t3 := h.t3
  refine ⟨_, ⟨k1, h.tn.kn.keep h.tn.here k3, Nat.lt_of_lt_of_le h.tn.lt k3.size, Nat.le_trans h.tn.le k3.size⟩, ⟨rfl, g2, cap, none, 0, rfl, Nat.le_trans h.tn.le k4, k2, hx, (by rw [hy]; exact ⟨by simp, fun h => absurd h (by simp)⟩), (fun bb e => by cases e), (by rw [hy]; simp), (by simp), k5, k6⟩, h.bel.trans (k3.below h.bel.size (fun i e => by have : i = tb := e; omega)), k3.at h.res (by show ¬ (_ = _); omega), h.n3, h.t3⟩
set_option maxRecDepth 20000 in
set_option maxHeartbeats 4000000 in
theorem vtick_no (s : Tk) (a : Option Addr) (c : Nat) (g : Option Addr) (d : Nat) (now : Int) (w : World) (q : Int) (hq : (q != 0) = true)
    (hbg : ∀ W, Below w.heap.size w W → Calls Try.prog 31 #[kv s a c g d, .int .i64 now] W fun e w' => e = .returned (.tuple #[.agg (tcs zeroK none 0 none 0 (.slice none 0 0)).toArray, .int .i64 q]) ∧ Hid (Below W.heap.size W w')) :
    Calls Try.prog 20 #[kv s a c g d, .int .i64 now] w fun e w' => Ans w w' e (zeroK, [], q) := by
  have HBG : Hid (∀ W, Below w.heap.size w W → Calls Try.prog 31 #[kv s a c g d, .int .i64 now] W fun e w' => e = .returned (.tuple #[.agg (tcs zeroK none 0 none 0 (.slice none 0 0)).toArray, .int .i64 q]) ∧ Hid (Below W.heap.size W w')) := hbg
  have HEN : Hid (EnT w ((w.alloc (kc s a c g d)).alloc (kc zeroK none 0 none 0)) s a c g d) := EnT.start w s a c g d
  have hs9 : (Try.prog.info? 26).map (·.size) = some 9 := by kernel_rfl
  clear hbg
  go_enter Try.func20, Try.ntmps20
  go_wp2_with (first | (go_at_call 31; refine (HBG.out _ HEN.out.bel).mono ?_; rintro e w1 ⟨rfl, hb1⟩; have HE2 : Hid (EnT w (w1.alloc (tc zeroK none 0 none 0 (.slice none 0 0))) s a c g d) := (HEN.out.later hb1.out).later ((Below.refl _ w1).alloc (Nat.le_refl _) _); have HZ := res_store HE2.out.res HE2.out.bel (by omega) zeroK none 0 none 0) | (refine wpList_store_mid rfl 26 _ _ rfl (w.heap.size + 1) 0 (kcells zeroK none 0 none 0).toArray (by rfl) (by rfl) HZ.1.out hs9 HZ.2.1.out ?_))
  have HF := ans_zero (q := q) HZ.2.2.2.out.1
  exact bodyPost_ret (results_cell3 rfl _ _ (w.heap.size + 1) 0 (by rfl) (kcells zeroK none 0 none 0) _ HZ.2.2.1.out Try.underlying26 rfl hs9) rfl (by
    show Ans w _ (.returned (.tuple #[.agg (kcells zeroK none 0 none 0).toArray, .slice none 0 0, .int .i64 q])) _
    exact HF)
set_option maxRecDepth 20000 in
set_option maxHeartbeats 4000000 in
theorem vtick_w (s : Tk) (a : Option Addr) (c : Nat) (g : Option Addr) (d : Nat) (now : Int) (w : World) (hc : CameK w s a c g d) (hok : okK s = true) (hn : inB now 0 1048576 = true) (hd : now < s.due) :
    Calls Try.prog 20 #[kv s a c g d, .int .i64 now] w fun e w' => Ans w w' e (s, [], 0) := by
  have HBG : Hid (∀ W, Below w.heap.size w W → Calls Try.prog 31 #[kv s a c g d, .int .i64 now] W fun e w' => ∃ a' c' g' d', e = .returned (.tuple #[.agg (tcs s a' c' g' d' (.slice none 0 0)).toArray, .int .i64 0]) ∧ Hid (Below W.heap.size W w' ∧ KN W.heap.size w' s a' c' g' d')) := fun W hb => vbegin_ok s a c g d now W (hc.later hb) hok hn
  have HEN : Hid (EnT w ((w.alloc (kc s a c g d)).alloc (kc zeroK none 0 none 0)) s a c g d) := EnT.start w s a c g d
  have hs9 : (Try.prog.info? 26).map (·.size) = some 9 := by kernel_rfl
  clear hc hok hn
  go_enter Try.func20, Try.ntmps20
  go_wp2_with (go_at_call 31; refine (HBG.out _ HEN.out.bel).mono ?_; rintro e w1 ⟨a', c', g', d', rfl, hq⟩; have HF2 : Hid (FinT w (w1.alloc (tc s a' c' g' d' (.slice none 0 0))) ((w.alloc (kc s a c g d)).alloc (kc zeroK none 0 none 0)).heap.size w1.heap.size s a' c' g' d' (.slice none 0 0) []) := finT_of HEN.out hq.out; obtain ⟨_, _, _, _, _, _, k6, _, k8, _⟩ := tc_get HF2.out.tn.here; have ff := frozen_of HF2.out.tn.here)
  have HFI := HF2
  generalize w1.alloc (tc s a' c' g' d' (.slice none 0 0)) = W5 at HFI ⊢
  clear HBG HEN HF2 hq k6 k8 ff
  obtain ⟨cs, hcs⟩ : ∃ cs, Hid (cs = kcells s a' c' g' d') := ⟨_, rfl⟩
  obtain ⟨r1, r2, r3, r4, r5⟩ := HFI.out.stores hcs.out
  obtain ⟨q1, q2⟩ := HFI.out.cell9 cs
  have HR1 : Hid (W5.drew.rangeAt w1.heap.size 0 cs) := r1
  have HR4 : Hid ((W5.drew.setCells (w.heap.size + 1) 0 cs).rangeAt (w.heap.size + 1) 0 cs) := r4
  have HAN : Hid (Ans w (W5.drew.setCells (w.heap.size + 1) 0 cs) (.returned (.tuple #[.agg cs.toArray, (.slice none 0 0), .int .i64 0])) (s, [], 0)) := r5
  have hl9 : cs.length = 9 := by rw [hcs.out]; rfl
  have hsz1 : (Try.prog.info? 26).map (·.size) = some cs.length := by rw [hl9]; exact hs9
  have hsz2 : (Try.prog.info? 26).map (·.size) = some cs.toArray.size := by rw [show cs.toArray.size = 9 from hl9]; exact hs9
  clear r1 r4 r5
  refine wp_region_any (by kernel_rfl) ?_
  change wpAny _ _ _ _ _ _ _ (World.drew _)
  refine wpAny_ready (rs := [0, 2]) (by kernel_rfl) (by simp) ?_
  refine AllReady.cons rfl (fun K hK => ?_) (AllReady.cons rfl (fun K hK => ?_) AllReady.nil)
  · skip
    go_simp
    refine hK _ _ ?_
    clear hK K
    refine wpAny_ready (rs := [1, 2]) (by kernel_rfl) (by simp) ?_
    refine AllReady.cons rfl (fun K hK => ?_) (AllReady.cons rfl (fun K hK => ?_) AllReady.nil)
    · skip
      refine step_load (by rfl) 26 _ rfl w1.heap.size 0 (by rfl) cs _ HR1.out Try.underlying26 rfl hsz1 ?_
      refine hK _ _ ?_
      clear hK K
      refine wpAny_ready (rs := [2, 4]) (by kernel_rfl) (by simp) ?_
      refine AllReady.cons rfl (fun K hK => ?_) (AllReady.cons rfl (fun K hK => ?_) AllReady.nil)
      · skip
        go_simp
        refine hK _ _ ?_
        clear hK K
        refine wpAny_ready (rs := [3, 4]) (by kernel_rfl) (by simp) ?_
        refine AllReady.cons rfl (fun K hK => ?_) (AllReady.cons rfl (fun K hK => ?_) AllReady.nil)
        · skip
          go_simp
          refine hK _ _ ?_
          clear hK K
          refine wpAny_ready (rs := [4]) (by kernel_rfl) (by simp) ?_
          refine AllReady.cons rfl (fun K hK => ?_) AllReady.nil
          · skip
            refine step_store (by rfl) 26 _ _ rfl (w.heap.size + 1) 0 cs.toArray (by rfl) (by rfl) r2 hsz2 r3 ?_
            refine hK _ _ ?_
            clear hK K
            refine wpAny_ready (rs := [5]) (by kernel_rfl) (by simp) ?_
            refine AllReady.cons rfl (fun K hK => ?_) AllReady.nil
            · skip
              go_simp
              refine hK _ _ ?_
              clear hK K
              refine wpAny_ready (rs := [6]) (by kernel_rfl) (by simp) ?_
              refine AllReady.cons rfl (fun K hK => ?_) AllReady.nil
              · skip
                go_simp
                refine hK _ _ ?_
                clear hK K
                refine wpAny_done (by kernel_rfl) ?_ _
                go_wp2
                exact bodyPost_ret (results_cell3 rfl _ _ (w.heap.size + 1) 0 (by rfl) cs _ HR4.out Try.underlying26 rfl hsz1) rfl (by
                  show Ans w _ (.returned (.tuple #[.agg cs.toArray, (.slice none 0 0), .int .i64 0])) _
                  exact HAN.out)
        · skip
          refine step_store (by rfl) 26 _ _ rfl (w.heap.size + 1) 0 cs.toArray (by rfl) (by rfl) r2 hsz2 r3 ?_
          refine hK _ _ ?_
          clear hK K
          refine wpAny_ready (rs := [3]) (by kernel_rfl) (by simp) ?_
          refine AllReady.cons rfl (fun K hK => ?_) AllReady.nil
          · skip
            go_simp
            refine hK _ _ ?_
            clear hK K
            refine wpAny_ready (rs := [5]) (by kernel_rfl) (by simp) ?_
            refine AllReady.cons rfl (fun K hK => ?_) AllReady.nil
            · skip
              go_simp
              refine hK _ _ ?_
              clear hK K
              refine wpAny_ready (rs := [6]) (by kernel_rfl) (by simp) ?_
              refine AllReady.cons rfl (fun K hK => ?_) AllReady.nil
              · skip
                go_simp
                refine hK _ _ ?_
                clear hK K
                refine wpAny_done (by kernel_rfl) ?_ _
                go_wp2
                exact bodyPost_ret (results_cell3 rfl _ _ (w.heap.size + 1) 0 (by rfl) cs _ HR4.out Try.underlying26 rfl hsz1) rfl (by
                  show Ans w _ (.returned (.tuple #[.agg cs.toArray, (.slice none 0 0), .int .i64 0])) _
                  exact HAN.out)
      · skip
        refine step_store (by rfl) 26 _ _ rfl (w.heap.size + 1) 0 cs.toArray (by rfl) (by rfl) r2 hsz2 r3 ?_
        refine hK _ _ ?_
        clear hK K
        refine wpAny_ready (rs := [2]) (by kernel_rfl) (by simp) ?_
        refine AllReady.cons rfl (fun K hK => ?_) AllReady.nil
        · skip
          go_simp
          refine hK _ _ ?_
          clear hK K
          refine wpAny_ready (rs := [3]) (by kernel_rfl) (by simp) ?_
          refine AllReady.cons rfl (fun K hK => ?_) AllReady.nil
          · skip
            go_simp
            refine hK _ _ ?_
            clear hK K
            refine wpAny_ready (rs := [5]) (by kernel_rfl) (by simp) ?_
            refine AllReady.cons rfl (fun K hK => ?_) AllReady.nil
            · skip
              go_simp
              refine hK _ _ ?_
              clear hK K
              refine wpAny_ready (rs := [6]) (by kernel_rfl) (by simp) ?_
              refine AllReady.cons rfl (fun K hK => ?_) AllReady.nil
              · skip
                go_simp
                refine hK _ _ ?_
                clear hK K
                refine wpAny_done (by kernel_rfl) ?_ _
                go_wp2
                exact bodyPost_ret (results_cell3 rfl _ _ (w.heap.size + 1) 0 (by rfl) cs _ HR4.out Try.underlying26 rfl hsz1) rfl (by
                  show Ans w _ (.returned (.tuple #[.agg cs.toArray, (.slice none 0 0), .int .i64 0])) _
                  exact HAN.out)
    · skip
      go_simp
      refine hK _ _ ?_
      clear hK K
      refine wpAny_ready (rs := [1, 3]) (by kernel_rfl) (by simp) ?_
      refine AllReady.cons rfl (fun K hK => ?_) (AllReady.cons rfl (fun K hK => ?_) AllReady.nil)
      · skip
        refine step_load (by rfl) 26 _ rfl w1.heap.size 0 (by rfl) cs _ HR1.out Try.underlying26 rfl hsz1 ?_
        refine hK _ _ ?_
        clear hK K
        refine wpAny_ready (rs := [3, 4]) (by kernel_rfl) (by simp) ?_
        refine AllReady.cons rfl (fun K hK => ?_) (AllReady.cons rfl (fun K hK => ?_) AllReady.nil)
        · skip
          go_simp
          refine hK _ _ ?_
          clear hK K
          refine wpAny_ready (rs := [4]) (by kernel_rfl) (by simp) ?_
          refine AllReady.cons rfl (fun K hK => ?_) AllReady.nil
          · skip
            refine step_store (by rfl) 26 _ _ rfl (w.heap.size + 1) 0 cs.toArray (by rfl) (by rfl) r2 hsz2 r3 ?_
            refine hK _ _ ?_
            clear hK K
            refine wpAny_ready (rs := [5]) (by kernel_rfl) (by simp) ?_
            refine AllReady.cons rfl (fun K hK => ?_) AllReady.nil
            · skip
              go_simp
              refine hK _ _ ?_
              clear hK K
              refine wpAny_ready (rs := [6]) (by kernel_rfl) (by simp) ?_
              refine AllReady.cons rfl (fun K hK => ?_) AllReady.nil
              · skip
                go_simp
                refine hK _ _ ?_
                clear hK K
                refine wpAny_done (by kernel_rfl) ?_ _
                go_wp2
                exact bodyPost_ret (results_cell3 rfl _ _ (w.heap.size + 1) 0 (by rfl) cs _ HR4.out Try.underlying26 rfl hsz1) rfl (by
                  show Ans w _ (.returned (.tuple #[.agg cs.toArray, (.slice none 0 0), .int .i64 0])) _
                  exact HAN.out)
        · skip
          refine step_store (by rfl) 26 _ _ rfl (w.heap.size + 1) 0 cs.toArray (by rfl) (by rfl) r2 hsz2 r3 ?_
          refine hK _ _ ?_
          clear hK K
          refine wpAny_ready (rs := [3]) (by kernel_rfl) (by simp) ?_
          refine AllReady.cons rfl (fun K hK => ?_) AllReady.nil
          · skip
            go_simp
            refine hK _ _ ?_
            clear hK K
            refine wpAny_ready (rs := [5]) (by kernel_rfl) (by simp) ?_
            refine AllReady.cons rfl (fun K hK => ?_) AllReady.nil
            · skip
              go_simp
              refine hK _ _ ?_
              clear hK K
              refine wpAny_ready (rs := [6]) (by kernel_rfl) (by simp) ?_
              refine AllReady.cons rfl (fun K hK => ?_) AllReady.nil
              · skip
                go_simp
                refine hK _ _ ?_
                clear hK K
                refine wpAny_done (by kernel_rfl) ?_ _
                go_wp2
                exact bodyPost_ret (results_cell3 rfl _ _ (w.heap.size + 1) 0 (by rfl) cs _ HR4.out Try.underlying26 rfl hsz1) rfl (by
                  show Ans w _ (.returned (.tuple #[.agg cs.toArray, (.slice none 0 0), .int .i64 0])) _
                  exact HAN.out)
      · skip
        go_simp
        refine hK _ _ ?_
        clear hK K
        refine wpAny_ready (rs := [1]) (by kernel_rfl) (by simp) ?_
        refine AllReady.cons rfl (fun K hK => ?_) AllReady.nil
        · skip
          refine step_load (by rfl) 26 _ rfl w1.heap.size 0 (by rfl) cs _ HR1.out Try.underlying26 rfl hsz1 ?_
          refine hK _ _ ?_
          clear hK K
          refine wpAny_ready (rs := [4]) (by kernel_rfl) (by simp) ?_
          refine AllReady.cons rfl (fun K hK => ?_) AllReady.nil
          · skip
            refine step_store (by rfl) 26 _ _ rfl (w.heap.size + 1) 0 cs.toArray (by rfl) (by rfl) r2 hsz2 r3 ?_
            refine hK _ _ ?_
            clear hK K
            refine wpAny_ready (rs := [5]) (by kernel_rfl) (by simp) ?_
            refine AllReady.cons rfl (fun K hK => ?_) AllReady.nil
            · skip
              go_simp
              refine hK _ _ ?_
              clear hK K
              refine wpAny_ready (rs := [6]) (by kernel_rfl) (by simp) ?_
              refine AllReady.cons rfl (fun K hK => ?_) AllReady.nil
              · skip
                go_simp
                refine hK _ _ ?_
                clear hK K
                refine wpAny_done (by kernel_rfl) ?_ _
                go_wp2
                exact bodyPost_ret (results_cell3 rfl _ _ (w.heap.size + 1) 0 (by rfl) cs _ HR4.out Try.underlying26 rfl hsz1) rfl (by
                  show Ans w _ (.returned (.tuple #[.agg cs.toArray, (.slice none 0 0), .int .i64 0])) _
                  exact HAN.out)
  · skip
    go_simp
    refine hK _ _ ?_
    clear hK K
    refine wpAny_ready (rs := [0, 3]) (by kernel_rfl) (by simp) ?_
    refine AllReady.cons rfl (fun K hK => ?_) (AllReady.cons rfl (fun K hK => ?_) AllReady.nil)
    · skip
      go_simp
      refine hK _ _ ?_
      clear hK K
      refine wpAny_ready (rs := [1, 3]) (by kernel_rfl) (by simp) ?_
      refine AllReady.cons rfl (fun K hK => ?_) (AllReady.cons rfl (fun K hK => ?_) AllReady.nil)
      · skip
        refine step_load (by rfl) 26 _ rfl w1.heap.size 0 (by rfl) cs _ HR1.out Try.underlying26 rfl hsz1 ?_
        refine hK _ _ ?_
        clear hK K
        refine wpAny_ready (rs := [3, 4]) (by kernel_rfl) (by simp) ?_
        refine AllReady.cons rfl (fun K hK => ?_) (AllReady.cons rfl (fun K hK => ?_) AllReady.nil)
        · skip
          go_simp
          refine hK _ _ ?_
          clear hK K
          refine wpAny_ready (rs := [4]) (by kernel_rfl) (by simp) ?_
          refine AllReady.cons rfl (fun K hK => ?_) AllReady.nil
          · skip
            refine step_store (by rfl) 26 _ _ rfl (w.heap.size + 1) 0 cs.toArray (by rfl) (by rfl) r2 hsz2 r3 ?_
            refine hK _ _ ?_
            clear hK K
            refine wpAny_ready (rs := [5]) (by kernel_rfl) (by simp) ?_
            refine AllReady.cons rfl (fun K hK => ?_) AllReady.nil
            · skip
              go_simp
              refine hK _ _ ?_
              clear hK K
              refine wpAny_ready (rs := [6]) (by kernel_rfl) (by simp) ?_
              refine AllReady.cons rfl (fun K hK => ?_) AllReady.nil
              · skip
                go_simp
                refine hK _ _ ?_
                clear hK K
                refine wpAny_done (by kernel_rfl) ?_ _
                go_wp2
                exact bodyPost_ret (results_cell3 rfl _ _ (w.heap.size + 1) 0 (by rfl) cs _ HR4.out Try.underlying26 rfl hsz1) rfl (by
                  show Ans w _ (.returned (.tuple #[.agg cs.toArray, (.slice none 0 0), .int .i64 0])) _
                  exact HAN.out)
        · skip
          refine step_store (by rfl) 26 _ _ rfl (w.heap.size + 1) 0 cs.toArray (by rfl) (by rfl) r2 hsz2 r3 ?_
          refine hK _ _ ?_
          clear hK K
          refine wpAny_ready (rs := [3]) (by kernel_rfl) (by simp) ?_
          refine AllReady.cons rfl (fun K hK => ?_) AllReady.nil
          · skip
            go_simp
            refine hK _ _ ?_
            clear hK K
            refine wpAny_ready (rs := [5]) (by kernel_rfl) (by simp) ?_
            refine AllReady.cons rfl (fun K hK => ?_) AllReady.nil
            · skip
              go_simp
              refine hK _ _ ?_
              clear hK K
              refine wpAny_ready (rs := [6]) (by kernel_rfl) (by simp) ?_
              refine AllReady.cons rfl (fun K hK => ?_) AllReady.nil
              · skip
                go_simp
                refine hK _ _ ?_
                clear hK K
                refine wpAny_done (by kernel_rfl) ?_ _
                go_wp2
                exact bodyPost_ret (results_cell3 rfl _ _ (w.heap.size + 1) 0 (by rfl) cs _ HR4.out Try.underlying26 rfl hsz1) rfl (by
                  show Ans w _ (.returned (.tuple #[.agg cs.toArray, (.slice none 0 0), .int .i64 0])) _
                  exact HAN.out)
      · skip
        go_simp
        refine hK _ _ ?_
        clear hK K
        refine wpAny_ready (rs := [1]) (by kernel_rfl) (by simp) ?_
        refine AllReady.cons rfl (fun K hK => ?_) AllReady.nil
        · skip
          refine step_load (by rfl) 26 _ rfl w1.heap.size 0 (by rfl) cs _ HR1.out Try.underlying26 rfl hsz1 ?_
          refine hK _ _ ?_
          clear hK K
          refine wpAny_ready (rs := [4]) (by kernel_rfl) (by simp) ?_
          refine AllReady.cons rfl (fun K hK => ?_) AllReady.nil
          · skip
            refine step_store (by rfl) 26 _ _ rfl (w.heap.size + 1) 0 cs.toArray (by rfl) (by rfl) r2 hsz2 r3 ?_
            refine hK _ _ ?_
            clear hK K
            refine wpAny_ready (rs := [5]) (by kernel_rfl) (by simp) ?_
            refine AllReady.cons rfl (fun K hK => ?_) AllReady.nil
            · skip
              go_simp
              refine hK _ _ ?_
              clear hK K
              refine wpAny_ready (rs := [6]) (by kernel_rfl) (by simp) ?_
              refine AllReady.cons rfl (fun K hK => ?_) AllReady.nil
              · skip
                go_simp
                refine hK _ _ ?_
                clear hK K
                refine wpAny_done (by kernel_rfl) ?_ _
                go_wp2
                exact bodyPost_ret (results_cell3 rfl _ _ (w.heap.size + 1) 0 (by rfl) cs _ HR4.out Try.underlying26 rfl hsz1) rfl (by
                  show Ans w _ (.returned (.tuple #[.agg cs.toArray, (.slice none 0 0), .int .i64 0])) _
                  exact HAN.out)
    · skip
      go_simp
      refine hK _ _ ?_
      clear hK K
      refine wpAny_ready (rs := [0]) (by kernel_rfl) (by simp) ?_
      refine AllReady.cons rfl (fun K hK => ?_) AllReady.nil
      · skip
        go_simp
        refine hK _ _ ?_
        clear hK K
        refine wpAny_ready (rs := [1]) (by kernel_rfl) (by simp) ?_
        refine AllReady.cons rfl (fun K hK => ?_) AllReady.nil
        · skip
          refine step_load (by rfl) 26 _ rfl w1.heap.size 0 (by rfl) cs _ HR1.out Try.underlying26 rfl hsz1 ?_
          refine hK _ _ ?_
          clear hK K
          refine wpAny_ready (rs := [4]) (by kernel_rfl) (by simp) ?_
          refine AllReady.cons rfl (fun K hK => ?_) AllReady.nil
          · skip
            refine step_store (by rfl) 26 _ _ rfl (w.heap.size + 1) 0 cs.toArray (by rfl) (by rfl) r2 hsz2 r3 ?_
            refine hK _ _ ?_
            clear hK K
            refine wpAny_ready (rs := [5]) (by kernel_rfl) (by simp) ?_
            refine AllReady.cons rfl (fun K hK => ?_) AllReady.nil
            · skip
              go_simp
              refine hK _ _ ?_
              clear hK K
              refine wpAny_ready (rs := [6]) (by kernel_rfl) (by simp) ?_
              refine AllReady.cons rfl (fun K hK => ?_) AllReady.nil
              · skip
                go_simp
                refine hK _ _ ?_
                clear hK K
                refine wpAny_done (by kernel_rfl) ?_ _
                go_wp2
                exact bodyPost_ret (results_cell3 rfl _ _ (w.heap.size + 1) 0 (by rfl) cs _ HR4.out Try.underlying26 rfl hsz1) rfl (by
                  show Ans w _ (.returned (.tuple #[.agg cs.toArray, (.slice none 0 0), .int .i64 0])) _
                  exact HAN.out)
end Go.Proofs.Ytfnkbjfjekfdnaa
