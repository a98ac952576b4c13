/- ReceiverWhole: the law's walk. -/
import Derived.Test.YthmolodkaboakaaVWhQ
import Derived.Test.YthmolodkaboakaaVWakes
import Derived.Test.YthmolodkaboakaaVWhT
import Derived.Deep.CutRange
namespace Go.Proofs.Ythmolodkaboakaa
open Go.RowKit
set_option linter.unusedVariables false
theorem Try.info4 : (Try.prog.info? 4).map (fun i => (i.zero, i.size, i.bytes)) = some (some (.bool false), 1, 1) := by kernel_rfl
theorem made_bool (n : Nat) : madeCells (Value.bool false).cells (n * 1) = (bcl (fun _ => false) n).toArray := by
  apply Array.ext'
  unfold bcl madeCells
  rw [List.map_const', List.length_range, List.eq_replicate_iff]
  refine ⟨by simp, ?_⟩
  intro x hx
  simp only [Array.toList_map, List.mem_map, Value.cells] at hx
  obtain ⟨i, _, rfl⟩ := hx
  simp [Nat.mod_one]
theorem make_bools (T : Nat) (hT : T ≤ 1000) (W : World) : (Instr.makeSlice 56 (.int .i64 (T : Int)) (.int .i64 (T : Int))).run Try.prog W = .ok (.slice (some ⟨W.heap.size, 0, none⟩) T T) (W.alloc (.cells (bcl (fun _ => false) T).toArray 4)) := by
  obtain ⟨i0, hi, hz0, hz1, hz2⟩ := info_parts Try.info4
  have := run_make (P := Try.prog) W 56 4 i0 _ Try.underlying56 hi hz0 .i64 .i64 (T : Int) (T : Int) (by omega) (by omega) (by rw [hz2]; omega) (by omega)
  rw [hz1, Int.toNat_natCast, made_bool] at this
  exact this
theorem cntC_none : ∀ N, cntC (fun _ => false) N = 0
  | 0 => rfl
  | N + 1 => by rw [cntC, cntC_none N]; rfl
theorem wh_first {B : List Nat} {o n ser : Nat} {q : Int} (hp : Pc B o n ser) (hB1 : 1 ≤ B.length) (hB : B.length ≤ 512) (hq : 0 ≤ q ∧ q ≤ 1048576) : newK (pieceS B o n ser) q 50 = takeK (freshK (pieceS B o n ser) 50) (pieceS B o n ser) q := by
  unfold newK
  rw [if_pos (by rw [piece_ok hp hB]; rfl)]
/-- the first piece, or another one. -/
structure Got (B : List Nat) (C : Nat → Bool) (ser : Nat) (R : Tk × List Sg × Int) : Prop where
  e : R.2.2 = 0
  wh : WhK B C R.1
  sent : if 0 < ser then ∃ u, WhK B C u ∧ R.2.1 = [repK u ser] else R.2.1 = []
theorem got_take {B : List Nat} {C : Nat → Bool} {s : Tk} {o n ser : Nat} {now : Int} (h : WhK B C s) (hp : Pc B o n ser) (hB : B.length ≤ 512) (hn : 0 ≤ now ∧ now ≤ 1048576) : Got B (orC C o n) ser (takeK s (pieceS B o n ser) now) := by
  obtain ⟨t, l, e, h1, h2⟩ := wh_take h hp hB hn
  rw [e]
  refine ⟨rfl, h1, ?_⟩
  show if 0 < ser then ∃ u, WhK B (orC C o n) u ∧ l = [repK u ser] else l = []
  split at h2
  · rename_i hs
    rw [if_pos hs]
    obtain ⟨u, hu, _, hl⟩ := h2
    exact ⟨u, hu, hl⟩
  · rename_i hs
    rw [if_neg hs]
    exact h2
theorem got_new {B : List Nat} {o n ser : Nat} {now : Int} (hp : Pc B o n ser) (hB1 : 1 ≤ B.length) (hB : B.length ≤ 512) (hn : 0 ≤ now ∧ now ≤ 1048576) : Got B (orC (fun _ => false) o n) ser (newK (pieceS B o n ser) now 50) := by
  rw [wh_first hp hB1 hB hn]
  exact got_take (wh_fresh hB1 hB) hp hB hn
theorem got_len {B : List Nat} {C : Nat → Bool} {ser : Nat} {R : Tk × List Sg × Int} (h : Got B C ser R) : R.2.1.length = if 0 < ser then 1 else 0 := by
  have := h.sent
  split at this
  · rename_i hs
    obtain ⟨u, _, hl⟩ := this
    rw [hl, if_pos hs]; rfl
  · rename_i hs
    rw [this, if_neg hs]; rfl
theorem sent_len {n : Nat} {W : World} {v : Value} {L : List Sg} (h : Sent n W v L) : ∃ a c, v = .slice a L.length c := by
  cases L with
  | nil => exact ⟨none, 0, h⟩
  | cons X r =>
    obtain ⟨hr, g2, cap, _, _, hv, _⟩ := h
    subst hr
    exact ⟨_, _, hv⟩
theorem kk_there {W : World} {b : Nat} {s : Tk} {a : Option Addr} {c : Nat} {g : Option Addr} {d : Nat} (h : W.heap[b]? = some (kc s a c g d)) : W.there b 0 9 := by
  intro j hj
  rw [Nat.zero_add]
  refine ⟨?_, frozen_of h j⟩
  rw [cell_of h, Array.getElem?_eq_getElem (by simpa using hj)]
  rfl
set_option maxRecDepth 20000 in
set_option maxHeartbeats 4000000 in
theorem whole_any (B : List Nat) (ba : Option Addr) (c : Nat) (la : Option Addr) (lc : Nat) (l : List CutX) (now : Int) (w : World) (hr : Row w ba B) (hc : B.length ≤ c) (hcm : c ≤ maxLen) (hl : RowT w la l) (hlz : l.length ≤ 140737488351232) (hin : ∀ x ∈ l, in64 x.at_ ∧ in64 x.n) (hnow : in64 now) :
    Calls Try.prog 6 #[.slice ba B.length c, .slice la l.length lc, .int .i64 now] w fun e w' => e = .returned (.bool true) ∧ Hid (Below w.heap.size w w') := by
  have HR : Hid (Row w ba B) := hr
  have HL : Hid (RowT w la l) := hl
  have HIN : Hid (∀ x ∈ l, in64 x.at_ ∧ in64 x.n) := hin
  have hbm : B.length ≤ maxLen := hr.2.1
  have hbm2 : (B.length : Int) ≤ 9223372036854775807 := by unfold maxLen at hbm; omega
  clear hr hl hin hbm
  obtain ⟨N, hN⟩ : ∃ N, B.length = N := ⟨_, rfl⟩
  rw [hN] at hc hbm2 ⊢
  by_cases h1 : (N : Int) < 1
  · go_enter Try.func6, Try.ntmps6
    go_wp2_with (go_at_call 8; refine (wakes_any _).mono ?_; rintro e w1 ⟨rfl, hb1⟩)
    go_ret
    exact ⟨rfl, hb1⟩
  · by_cases h5 : (512 : Int) < (N : Int)
    · go_enter Try.func6, Try.ntmps6
      go_wp2_with (go_at_call 8; refine (wakes_any _).mono ?_; rintro e w1 ⟨rfl, hb1⟩)
      go_ret
      exact ⟨rfl, hb1⟩
    · have hN1 : 1 ≤ N := by omega
      have hN2 : N ≤ 512 := by omega
      obtain ⟨bb, bo, rfl, _⟩ := HR.out.2.2 (by omega)
      have HMK : ∀ W : World, (Instr.makeSlice 56 (.int .i64 (N : Int)) (.int .i64 (N : Int))).run Try.prog W = .ok (.slice (some ⟨W.heap.size, 0, none⟩) N N) (W.alloc (.cells (bcl (fun _ => false) N).toArray 4)) := fun W => make_bools N (by omega) W
      obtain ⟨Z, hZ⟩ : ∃ Z, Hid (Z = (bcl (fun _ => false) N).toArray) := ⟨_, rfl⟩
      rw [← hZ.out] at HMK
      have HPI : Hid (∀ W, Below w.heap.size w W → Calls Try.prog 28 #[.slice (some ⟨bb, bo, none⟩) N c, .slice la l.length lc] W fun e w' => ∃ v P, e = .returned v ∧ Hid (Below W.heap.size W w' ∧ PcO W.heap.size w' v N bb bo c P)) := fun W hb => pieces_any N bb bo c la lc l W hN1 hN2 hc hcm (HL.out.later hb) hlz HIN.out
      clear HL HIN hbm2 h1 h5
      have h1 : ¬ (N : Int) < 1 := by omega
      have h5 : ¬ (512 : Int) < (N : Int) := by omega
      go_enter Try.func6, Try.ntmps6
      go_upto_region 8 with (first | (go_at_call 8; refine (wakes_any _).mono ?_; rintro e w1 ⟨rfl, hb1⟩))
      have HB3 : Hid (Below w1.heap.size w1 ((w1.alloc (kc zeroK none 0 none 0)).alloc (.cells Z 4))) := ((Below.refl _ _).alloc (Nat.le_refl _) _).alloc (by simp) _
      obtain ⟨q, hq, hqe⟩ : ∃ q : Nat, q < 1000 ∧ (max now 0) % 1000 = (q : Int) := ⟨((max now 0) % 1000).toNat, by omega, by omega⟩
      go_cut [10] from 38 to 40 (fun u wd => u = .int .i64 (q : Int) ∧ wd = ((w1.alloc (kc zeroK none 0 none 0)).alloc (.cells Z 4)))
      case first =>
        by_cases h0 : 0 ≤ now
        · have e5 : now.tmod 1000 = now % 1000 := Int.tmod_eq_emod_of_nonneg h0
          have h0' : ¬ now < 0 := by omega
          have e6 : now % 1000 = (q : Int) := by rw [← hqe, Int.max_eq_left h0]
          clear hqe
          go_wp2
          go_meet
          case rel => exact ⟨by first | rfl | rw [e6], rfl⟩
        · have h0' : now < 0 := by omega
          have HE6 : Hid ((0 : Int) = (q : Int)) := by show _ = _; rw [← hqe, Int.max_eq_right (by omega)]; rfl
          clear hqe
          go_wp2
          go_meet
          case rel => exact ⟨by rw [← HE6.out], rfl⟩
      case rest =>
        obtain ⟨rfl, rfl⟩ := hcut
        clear hqe
        have HB0 : Hid (Below w.heap.size w ((w1.alloc (kc zeroK none 0 none 0)).alloc (.cells Z 4))) := below_of hb1.out HB3.out
        have HSB : Hid (((w1.alloc (kc zeroK none 0 none 0)).alloc (.cells Z 4)).heap[w1.heap.size]? = some (kc zeroK none 0 none 0)) := old_block ((Below.refl _ _).alloc (Nat.le_refl _) _) (heap_alloc_new w1 _)
        have HGB : Hid (((w1.alloc (kc zeroK none 0 none 0)).alloc (.cells Z 4)).heap[w1.heap.size + 1]? = some (.cells Z 4 (0, 0))) := second_new w1 _ _
        have HS3 : Hid (((w1.alloc (kc zeroK none 0 none 0)).alloc (.cells Z 4)).heap.size = w1.heap.size + 2) := by show _ = _; simp
        have HSW : Hid (w.heap.size ≤ w1.heap.size) := hb1.out.size
        clear HMK HB3
        generalize ((w1.alloc (kc zeroK none 0 none 0)).alloc (.cells Z 4)) = W3 at HB0 HSB HGB HS3 ⊢
        obtain ⟨sb, hsb⟩ : ∃ sb, w1.heap.size = sb := ⟨_, rfl⟩
        rw [hsb] at HSB HGB HS3 HSW ⊢
        clear hb1 hsb
        go_upto_region 10 with (go_at_call 28; refine (HPI.out _ HB0.out).mono ?_; rintro e w4 ⟨vp, P, rfl, hp⟩; obtain ⟨pg, pc, rfl, hpg, hpg2, hpr⟩ := pieces_at hp.out.2.own hp.out.2.pos)
        have HPR : Hid (pg < w4.heap.size ∧ sb + 2 ≤ pg ∧ ∀ k (hk : k < P.length), w4.rangeAt pg (k * 13) (pcell N bb bo c P[k])) := ⟨hpg2, by have := HS3.out; omega, hpr⟩
        have HPA : Hid (PcA N P) := hp.out.2.all
        have HPV : Hid (∀ i, i < N → ∃ p ∈ P, p.1 ≤ i ∧ i < p.1 + p.2.1) := hp.out.2.cov
        have hP1 := hp.out.2.len
        have HP0 : Hid (0 < P.length) := hp.out.2.pos
        have HB4 : Hid (Below w.heap.size w w4) := below_of HB0.out hp.out.1
        have HR4 : Hid (Row w4 (some ⟨bb, bo, none⟩) B) := HR.out.later HB4.out
        have HZ4 : Hid (sb + 2 ≤ w4.heap.size ∧ w.heap.size ≤ sb) := ⟨by have := hp.out.1.size; have := HS3.out; omega, HSW.out⟩
        have HI4 : Hid (WhI w4 w4 sb (sb + 1) B P 0 (fun _ => false) zeroK none 0 none 0) := by
          refine ⟨Off.refl _ _, by rw [hN, ← hZ.out]; exact old_block hp.out.1 HGB.out, old_block hp.out.1 HSB.out, kn_zero _ _, fun p hp => absurd hp (by simp), .inl ⟨rfl, rfl⟩⟩
        clear hp hpg hpg2 hpr HPI HB0 HSB HGB HS3 HSW hZ
        go_loopw [9, 45] (fun l i wr => ∃ (k : Nat) (C : Nat → Bool), k ≤ P.length ∧ i = .int .i64 k ∧ l = .int .i64 ((N - cntC C N : Nat) : Int) ∧ Hid (∃ s a c g d, WhI w4 wr sb (sb + 1) B P k C s a c g d)) (fun _ i _ => P.length - (intOf i).toNat)
        case atStart => exact ⟨0, fun _ => false, by omega, rfl, by rw [cntC_none]; rfl, ⟨_, _, _, _, _, HI4.out⟩⟩
        case round =>
          obtain ⟨k, C, hk, rfl, rfl, HQ⟩ := hrel
          by_cases hlt : k < P.length
          · have hki : (k : Int) < (P.length : Int) := by omega
            obtain ⟨s, a1, c1, g1, d1, hq0⟩ := HQ.out
            have HW : Hid (WhI w4 wr sb (sb + 1) B P k C s a1 c1 g1 d1) := hq0
            clear hq0 HQ
            obtain ⟨o, n, ser, hp⟩ : ∃ o n ser, P[k] = (o, n, ser) := ⟨_, _, _, rfl⟩
            have hpa := HPA.out P[k] (List.getElem_mem hlt)
            rw [hp] at hpa
            obtain ⟨pa1, pa2, pa3, pa4⟩ := hpa
            simp only at pa1 pa2 pa3 pa4
            have HPC : Hid (Pc B o n ser) := ⟨pa1, pa2, by omega, by omega⟩
            obtain ⟨ct, hct⟩ : ∃ ct, Hid (ct = pcell N bb bo c (o, n, ser)) := ⟨_, rfl⟩
            have HCS : Hid (ct = sgcells (pieceS B o n ser) (some ⟨bb, bo + o, none⟩) (c - o) none 0) := by show _ = _; rw [hct.out, ← hN]; exact pc_cells HPC.out bb bo c
            have ht13 : ct.length = 13 := by rw [hct.out]; rfl
            have htz : (Try.prog.info? 28).map (·.size) = some ct.length := by rw [ht13]; kernel_rfl
            have htz2 : (Try.prog.info? 28).map (·.size) = some ct.toArray.size := by rw [show ct.toArray.size = 13 from ht13]; kernel_rfl
            have hs9 : (Try.prog.info? 26).map (·.size) = some 9 := by kernel_rfl
            have HRL : Hid (wr.rangeAt pg (k * 13) ct) := by
              rw [hct.out, ← hp]
              intro j v hv
              refine HW.out.off.cell (HPR.out.2.2 k hlt j v hv) (fun e => ?_)
              have := HPR.out.2.1
              rcases e with e | e
              · have : pg = sb := e; omega
              · have : pg = sb + 1 := e; omega
            have HTH : Hid ((wr.alloc zsgW).there wr.heap.size 0 ct.toArray.size) := by rw [show ct.toArray.size = 13 from ht13]; exact sgw_there (cs := sgcells zeroS none 0 none 0) (heap_alloc_new wr _) (Nat.le_refl _)
            have HON : Hid (ct.toArray.all (·.oneCell') = true) := by show _ = true; rw [hct.out]; simp [pcell, Value.oneCell']
            have HXB : Hid (Below wr.heap.size wr ((wr.alloc zsgW).setCells wr.heap.size 0 ct) ∧ ((wr.alloc zsgW).setCells wr.heap.size 0 ct).heap[wr.heap.size]? = some (.cells ct.toArray 28 (0, 0))) := sgw_stored wr ct ht13
            have HZR : Hid (w4.heap.size ≤ wr.heap.size) := HW.out.off.size
            go_upto_region 14 with (first | (refine wpList_load_mid rfl 28 _ rfl pg (k * 13) (by rfl) ct _ HRL.out Try.underlying28 rfl htz ?_) | (refine wpList_store_mid rfl 28 _ _ rfl wr.heap.size 0 ct.toArray (by rfl) (by rfl) HTH.out htz2 HON.out ?_; rw [show ct.toArray.toList = ct from rfl]; generalize hWX : (wr.alloc zsgW).setCells wr.heap.size 0 ct = wx at HXB ⊢; have HRX : Hid (wx.rangeAt wr.heap.size 0 ct) := rangew HXB.out.2; clear hWX))
            go_upto_if 51 with fail
            have HSX : Hid (sb < wr.heap.size ∧ sb + 1 < wr.heap.size ∧ sb + 1 < w4.heap.size) := by have := HZ4.out; have := HZR.out; show _ ∧ _ ∧ _; omega
            have HQX : Hid (wx.heap[sb]? = some (kc s a1 c1 g1 d1)) := old_block HXB.out.1 HW.out.box
            have HGX : Hid (wx.heap[sb + 1]? = some (.cells (bcl C N).toArray 4 (0, 0))) := by have := HW.out.row; rw [hN] at this; exact old_block HXB.out.1 this
            have HOX : Hid (Off (fun i => i = sb ∨ i = sb + 1) w4 wx) := HW.out.off.trans (Off.of_below (S := fun _ => False) HXB.out.1) (fun _ _ t => t.elim)
            have HCX : Hid (Came wx (pieceS B o n ser) (some ⟨bb, bo + o, none⟩) (c - o) none 0) := by
              have hrx : Row wx (some ⟨bb, bo, none⟩) B := by
                refine HR4.out.off HOX.out (fun _ b e => ?_)
                cases e
                have hbw := row_lt HR.out (by omega)
                have := HZ4.out.2
                show ¬ (bb = sb ∨ bb = sb + 1)
                omega
              exact came_piece hrx HPC.out (by omega) (by omega) hcm
            go_cut [13, 14] from 50 to 68 (fun v13 v14 wd => ∃ R L a c g d, v14 = .int .i64 0 ∧ Hid (Rd w4 wd sb (sb + 1) wr.heap.size N C R a c g d ct v13 L ∧ Got B (orC C o n) ser (R, L, 0)))
            case first =>
              by_cases k0 : k = 0
              · have e0 : ((k : Int) == 0) = true := by simp [k0]
                have hC : C = fun _ => false := by rcases HW.out.st with ⟨_, h⟩ | ⟨h, _⟩; exact h; omega
                obtain ⟨R, L, hRL⟩ : ∃ R L, newK (pieceS B o n ser) (q : Int) 50 = (R, L, 0) := ⟨_, _, Prod.ext rfl (Prod.ext rfl (got_new HPC.out (by omega) (by omega) (by omega)).e)⟩
                have HG : Hid (Got B (orC C o n) ser (R, L, 0)) := by rw [← hRL, hC]; exact got_new HPC.out (by omega) (by omega) (by omega)
                have HNW : Hid (Calls Try.prog 18 #[.agg ct.toArray, .int .i64 (q : Int), .int .i64 50] wx fun e w' => Ans wx w' e (R, L, 0)) := by rw [HCS.out, ← hRL]; exact vnew_any _ _ _ _ _ _ _ _ HCX.out
                clear hRL hC k0
                go_wp2_with (first | (refine wpList_load_mid rfl 28 _ rfl wr.heap.size 0 (by rfl) ct _ HRX.out Try.underlying28 rfl htz ?_) | (go_at_call 18; refine HNW.out.mono ?_; rintro e w5 ⟨a5, c5, g5, d5, v5, rfl, hb5, hk5, hs5⟩; obtain ⟨cp, hcp⟩ : ∃ cp, Hid (cp = kcells R a5 c5 g5 d5) := ⟨_, rfl⟩; have hcp9 : cp.length = 9 := (by rw [hcp.out]; rfl); have hpz2 : (Try.prog.info? 26).map (·.size) = some cp.toArray.size := (by rw [show cp.toArray.size = 9 from hcp9]; exact hs9); have HON2 : Hid (cp.toArray.all (·.oneCell') = true) := (by rw [hcp.out]; exact k_one _ _ _ _ _); have HTQ : Hid (w5.there sb 0 cp.toArray.size) := (by rw [show cp.toArray.size = 9 from hcp9]; exact kk_there (old_block hb5 HQX.out)); have HRD : Hid (Rd w4 (w5.setCells sb 0 cp) sb (sb + 1) wr.heap.size N C R a5 c5 g5 d5 ct v5 L) := (by rw [hcp.out]; exact rd_set (HOX.out.trans (Off.of_below (S := fun _ => False) hb5) (fun _ _ t => t.elim)) (old_block hb5 HGX.out) (old_block hb5 HQX.out) hk5 hs5 (old_block hb5 HXB.out.2) (Nat.le_trans HZR.out HXB.out.1.size) (by have := HSX.out; omega) (by omega) (by have := HSX.out; omega)); rw [show (kcells R a5 c5 g5 d5) = cp from hcp.out.symm]) | (refine wpList_store_mid rfl 26 _ _ rfl sb 0 cp.toArray (by rfl) (by rfl) HTQ.out hpz2 HON2.out ?_; rw [show cp.toArray.toList = cp from rfl]))
                go_meet
                case rel => exact ⟨R, L, a5, c5, g5, d5, rfl, HRD.out, HG.out⟩
              · have e0 : ((k : Int) == 0) = false := by simp; omega
                have hwk : WhK B C s := by rcases HW.out.st with ⟨h, _⟩ | ⟨_, h⟩; omega; exact h
                obtain ⟨D, hD⟩ : ∃ D : Nat, q + k = D := ⟨_, rfl⟩
                have hDw : IntKind.i64.wrap ((q : Int) + (k : Int)) = (D : Int) := by rw [IntKind.wrap_i64]; omega
                have hDs : (0 : Int) ≤ (D : Int) ∧ (D : Int) ≤ 1048576 := by omega
                obtain ⟨R, L, hRL⟩ : ∃ R L, takeK s (pieceS B o n ser) (D : Int) = (R, L, 0) := ⟨_, _, Prod.ext rfl (Prod.ext rfl (got_take hwk HPC.out (by omega) hDs).e)⟩
                have HG : Hid (Got B (orC C o n) ser (R, L, 0)) := by rw [← hRL]; exact got_take hwk HPC.out (by omega) hDs
                obtain ⟨cq, hcq⟩ : ∃ cq, Hid (cq = kcells s a1 c1 g1 d1) := ⟨_, rfl⟩
                have hq9 : cq.length = 9 := by rw [hcq.out]; rfl
                have hqz : (Try.prog.info? 26).map (·.size) = some cq.length := by rw [hq9]; exact hs9
                have HRQ : Hid (wx.rangeAt sb 0 cq) := by rw [hcq.out]; exact k_range HQX.out
                have HTK : Hid (Calls Try.prog 10 #[.agg cq.toArray, .agg ct.toArray, .int .i64 (D : Int)] wx fun e w' => Ans wx w' e (R, L, 0)) := by rw [HCS.out, hcq.out, ← hRL]; exact vtake_any _ _ _ _ _ _ _ _ _ _ _ _ ((came_wh hwk HW.out.kn).later HXB.out.1) HCX.out
                clear hRL hwk hD hDs k0
                go_wp2_with (first | (refine wpList_load_mid rfl 26 _ rfl sb 0 (by rfl) cq _ HRQ.out Try.underlying26 rfl hqz ?_) | (refine wpList_load_mid rfl 28 _ rfl wr.heap.size 0 (by rfl) ct _ HRX.out Try.underlying28 rfl htz ?_) | (go_at_call 10; refine HTK.out.mono ?_; rintro e w5 ⟨a5, c5, g5, d5, v5, rfl, hb5, hk5, hs5⟩; obtain ⟨cp, hcp⟩ : ∃ cp, Hid (cp = kcells R a5 c5 g5 d5) := ⟨_, rfl⟩; have hcp9 : cp.length = 9 := (by rw [hcp.out]; rfl); have hpz2 : (Try.prog.info? 26).map (·.size) = some cp.toArray.size := (by rw [show cp.toArray.size = 9 from hcp9]; exact hs9); have HON2 : Hid (cp.toArray.all (·.oneCell') = true) := (by rw [hcp.out]; exact k_one _ _ _ _ _); have HTQ : Hid (w5.there sb 0 cp.toArray.size) := (by rw [show cp.toArray.size = 9 from hcp9]; exact kk_there (old_block hb5 HQX.out)); have HRD : Hid (Rd w4 (w5.setCells sb 0 cp) sb (sb + 1) wr.heap.size N C R a5 c5 g5 d5 ct v5 L) := (by rw [hcp.out]; exact rd_set (HOX.out.trans (Off.of_below (S := fun _ => False) hb5) (fun _ _ t => t.elim)) (old_block hb5 HGX.out) (old_block hb5 HQX.out) hk5 hs5 (old_block hb5 HXB.out.2) (Nat.le_trans HZR.out HXB.out.1.size) (by have := HSX.out; omega) (by omega) (by have := HSX.out; omega)); rw [show (kcells R a5 c5 g5 d5) = cp from hcp.out.symm]) | (refine wpList_store_mid rfl 26 _ _ rfl sb 0 cp.toArray (by rfl) (by rfl) HTQ.out hpz2 HON2.out ?_; rw [show cp.toArray.toList = cp from rfl]))
                go_meet
                case rel => exact ⟨R, L, a5, c5, g5, d5, rfl, HRD.out, HG.out⟩
            case rest =>
              obtain ⟨R, L, a6, c6, g6, d6, rfl, hcut⟩ := hcut
              have HRd : Hid (Rd w4 wc sb (sb + 1) wr.heap.size N C R a6 c6 g6 d6 ct u13 L) := hcut.1
              have HGt : Hid (Got B (orC C o n) ser (R, L, 0)) := hcut.2
              have HCV : Hid (∀ p ∈ P.take k, ∀ i, p.1 ≤ i → i < p.1 + p.2.1 → C i = true) := HW.out.cov
              clear hcut HW HXB HRX HSX HQX HGX HOX HRL HTH HON HPR HPA HI4
              obtain ⟨xb, hxb⟩ : ∃ xb, wr.heap.size = xb := ⟨_, rfl⟩
              rw [hxb] at HRd HZR ⊢
              have HXG : Hid (∀ W C', Rd w4 W sb (sb + 1) xb N C' R a6 c6 g6 d6 ct u13 L → W.cell? ⟨xb, 11, none⟩ = some (.slice (some ⟨bb, bo + o, none⟩) n (c - o)) ∧ W.cell? ⟨xb, 5, none⟩ = some (.int .i64 (o : Int)) ∧ W.cell? ⟨xb, 3, none⟩ = some (.int .u32 (ser : Nat)) ∧ W.cell? ⟨xb, 10, none⟩ = some (.bool (decide (0 < ser)))) := by
                intro W C' h
                have hs := h.seg
                rw [hct.out] at hs
                refine ⟨?_, ?_, ?_, ?_⟩
                all_goals (rw [cell_of hs]; rfl)
              have y11 := (HXG.out wc C HRd.out).1
              go_wp2_with fail
              go_loopw [9, 72] (fun l i wl => ∃ j : Nat, j ≤ n ∧ i = .int .i64 j ∧ l = .int .i64 ((N - cntC (orC C o j) N : Nat) : Int) ∧ Hid (Rd w4 wl sb (sb + 1) xb N (orC C o j) R a6 c6 g6 d6 ct u13 L)) (fun _ i _ => n - (intOf i).toNat)
              case atStart => exact ⟨0, by omega, rfl, by rw [or_zero], by rw [or_zero]; exact HRd.out⟩
              case round =>
                rename World => wl
                obtain ⟨j, hj, rfl, rfl, HJ⟩ := hrel
                by_cases hjn : j < n
                · have hjn2 : (j : Int) < (n : Int) := by omega
                  have y5 := (HXG.out wl _ HJ.out).2.1
                  obtain ⟨Z9, hZ9⟩ : ∃ Z9, o + j = Z9 := ⟨_, rfl⟩
                  have hw9 : IntKind.i64.wrap ((o : Int) + (j : Int)) = (Z9 : Int) := by rw [IntKind.wrap_i64]; omega
                  have hz9 : Z9 < N := by omega
                  have hz9' : (Z9 : Int) < (N : Int) := by omega
                  have hz9'' : (0 : Int) ≤ (Z9 : Int) := by omega
                  obtain ⟨yb, yf⟩ := HJ.out.get hz9
                  have hor := or_succ C o j
                  rw [hZ9] at hor
                  cases hb : orC C o j Z9 with
                  | true =>
                    rw [hb] at yb
                    rw [up_same hb] at hor
                    go_wp2
                    go_roundw
                    case rel => exact ⟨j + 1, by omega, by go_num, by rw [hor], by rw [hor]; exact HJ.out⟩
                    case measure => simp [intOf]; omega
                  | false =>
                    rw [hb] at yb
                    have hcu := cnt_up hb N
                    rw [if_pos hz9] at hcu
                    have hcl := cntC_le (upC (orC C o j) Z9) N
                    obtain ⟨Lf, hLf⟩ : ∃ Lf : Nat, N - cntC (orC C o j) N = Lf := ⟨_, rfl⟩
                    have HLn : Hid (N - cntC (orC C o (j + 1)) N = Lf - 1 ∧ 1 ≤ Lf) := by rw [hor, hcu]; show _ ∧ _; omega
                    have hLw : IntKind.i64.wrap ((Lf : Int) - 1) = ((Lf - 1 : Nat) : Int) := by rw [IntKind.wrap_i64]; have := HLn.out; omega
                    rw [hLf]
                    clear hcu hcl hLf
                    have HUP : Hid (Rd w4 (wl.setCell ⟨sb + 1, Z9, none⟩ (.bool true)) sb (sb + 1) xb N (orC C o (j + 1)) R a6 c6 g6 d6 ct u13 L) := by rw [hor]; exact HJ.out.up (by omega) (by have := HZ4.out; have := HZR.out; omega) (by have := HZ4.out; omega) hz9
                    clear hor
                    go_wp2
                    go_roundw
                    case rel => exact ⟨j + 1, by omega, by go_num, by rw [HLn.out.1], HUP.out⟩
                    case measure => simp [intOf]; omega
                · obtain rfl : j = n := by omega
                  have HJ2 : Hid (Rd w4 wl sb (sb + 1) xb N (orC C o j) R a6 c6 g6 d6 ct u13 L) := HJ.out
                  obtain ⟨bl, f, hbk⟩ : ∃ bl f, blockK R = (bl, f) := ⟨_, _, rfl⟩
                  have HBK : Hid (blockK R = (bl, f)) := hbk
                  obtain ⟨cr, hcr⟩ : ∃ cr, Hid (cr = kcells R a6 c6 g6 d6) := ⟨_, rfl⟩
                  have hr9 : cr.length = 9 := by rw [hcr.out]; rfl
                  have hrz : (Try.prog.info? 26).map (·.size) = some cr.length := by rw [hr9]; exact hs9
                  have HRR : Hid (∀ W, Below wl.heap.size wl W → W.rangeAt sb 0 cr) := fun W hb => by rw [hcr.out]; exact k_range (old_block hb HJ2.out.box)
                  have HCK : Hid (CameK wl R a6 c6 g6 d6) := came_wh HGt.out.wh HJ2.out.kn
                  have HSM := smallK HGt.out.wh.ok
                  simp only at HSM
                  have HBL : Hid (Calls Try.prog 23 #[.agg cr.toArray] wl fun e w' => ∃ a' c', e = .returned (.tuple #[.slice a' bl.length c', .int .i64 f]) ∧ Hid (Below wl.heap.size wl w' ∧ w'.ownsRow wl.heap.size 5 1 (.slice a' bl.length c') bl.length (cells bl))) := by
                    have := vblock_any R a6 c6 g6 d6 wl HCK.out (fun _ => by omega)
                    rw [hbk] at this
                    rw [hcr.out]
                    exact this
                  have HCH : Hid (∀ W, Below wl.heap.size wl W → Calls Try.prog 25 #[.agg cr.toArray] W fun e w' => e = .returned (.int .i64 0) ∧ Hid (Below W.heap.size W w')) := fun W hb => by
                    have := vcheck_any R a6 c6 g6 d6 W (HCK.out.later hb)
                    rw [chkK_ok HGt.out.wh.ok] at this
                    rw [hcr.out]
                    exact this
                  obtain ⟨M, hM⟩ : ∃ M : Nat, N - cntC (orC C o j) N = M := ⟨_, rfl⟩
                  have HMI : Hid (∀ W, Below wl.heap.size wl W → Calls Try.prog 24 #[.agg cr.toArray] W fun e w' => e = .returned (.int .i64 (M : Int)) ∧ Hid (Below W.heap.size W w')) := fun W hb => by
                    have := vmiss_any R a6 c6 g6 d6 W (HCK.out.later hb) (fun _ => ⟨HSM.1, HSM.2.2.2.2.1⟩)
                    rw [wh_miss HGt.out.wh, hN, hM] at this
                    rw [hcr.out]
                    exact this
                  have HRB : Hid (Row wl (some ⟨bb, bo, none⟩) B) := by
                    refine HR4.out.off HJ2.out.off (fun _ b e => ?_)
                    cases e
                    have hbw := row_lt HR.out (by omega)
                    have := HZ4.out.2
                    show ¬ (bb = sb ∨ bb = sb + 1)
                    omega
                  obtain ⟨va, vc, hv⟩ := sent_len HJ2.out.sent
                  have HV : Hid (u13 = .slice va L.length vc) := hv
                  have HLL : Hid (L.length = if 0 < ser then 1 else 0) := got_len HGt.out
                  have HMM : Hid (N - cntC (orC C o j) N = M) := hM
                  rw [hM]
                  rw [hv]
                  clear hbk HSM hv hM
                  go_upto_region 25 with (first | (refine wpList_load_mid rfl 26 _ rfl sb 0 (by rfl) cr _ (HRR.out _ (Below.refl _ _)) Try.underlying26 rfl hrz ?_) | (go_at_call 23; refine HBL.out.mono ?_; rintro e w7 ⟨ab, cb, rfl, hq7⟩))
                  have HOB : Hid (w7.ownsRow wl.heap.size 5 1 (.slice ab bl.length cb) bl.length (cells bl)) := hq7.out.2
                  have HB7 : Hid (Below wl.heap.size wl w7) := hq7.out.1
                  clear hq7 HBL
                  go_cut [9, 13, 16, 17, 139] from 92 to 139 (fun v9 v13 v16 v17 v wd => v9 = .int .i64 ((N - cntC (orC C o j) N : Nat) : Int) ∧ v13 = .slice va L.length vc ∧ v = .bool false ∧ Hid (Below wl.heap.size wl wd))
                  case first =>
                    cases hs : decide (0 < ser) with
                    | true =>
                      have hL : L.length = 1 := by rw [HLL.out, if_pos (by simpa using hs)]
                      rw [hL]
                      have HY10 : Hid (∀ W, Below wl.heap.size wl W → W.cell? ⟨xb, 10, none⟩ = some (.bool true)) := fun W hb => by rw [← hs]; exact (HXG.out W _ (HJ2.out.later hb)).2.2.2
                      by_cases hw : cntC (orC C o j) N = N
                      · have hb2 : blockK R = (B, 0) := wh_block_yes HGt.out.wh (by rw [hN]; exact hw)
                        rw [HBK.out] at hb2
                        cases hb2
                        have hM0 : M = 0 := by have := HMM.out; omega
                        subst hM0
                        have HEQ : Hid (∀ W, Below w7.heap.size w7 W → Calls Try.prog 29 #[.slice ab N cb, .slice (some ⟨bb, bo, none⟩) N c] W fun e w' => e = .returned (.bool true) ∧ W = w') := fun W hb => by
                          have hrow := (own_row HOB.out HR.out.1 HR.out.2.1)
                          obtain ⟨a', cap, e1, _, _, hra⟩ := hrow
                          cases e1
                          have := equal_any ab (some ⟨bb, bo, none⟩) cb c B B W (hra.later hb) (HRB.out.later (below_of HB7.out hb))
                          rw [decide_eq_true rfl, hN] at this
                          exact this
                        go_wp2_with (first | (refine wpList_load_want (by rfl) 26 _ rfl sb 0 (by rfl) cr _ (HRR.out _ HB7.out) Try.underlying26 rfl hrz ?_) | (go_at_call 25; refine (HCH.out _ HB7.out).mono ?_; rintro e w8 ⟨rfl, hb8⟩; have HB7' := HB7; have HB7 : Hid (Below wl.heap.size wl w8) := below_of HB7'.out hb8.out; have HB8 : Hid (Below w7.heap.size w7 w8) := hb8) | (go_at_call 24; refine (HMI.out _ HB7.out).mono ?_; rintro e w9 ⟨rfl, hb9⟩; have HB7'' := HB7; have HB7 : Hid (Below wl.heap.size wl w9) := below_of HB7''.out hb9.out; have HB8 : Hid (Below w7.heap.size w7 w9) := below_of HB8.out hb9.out; have y10 := HY10.out _ HB7.out) | (go_at_call 29; refine (HEQ.out _ HB8.out).mono ?_; rintro e w10 ⟨rfl, rfl⟩))
                        go_meet
                        case rel => exact ⟨by rw [HMM.out]; rfl, by rw [hL], rfl, HB7.out⟩
                      · have hb2 : blockK R = ([], 4) := wh_block_no HGt.out.wh (by rw [hN]; exact hw)
                        rw [HBK.out] at hb2
                        cases hb2
                        have hM0 : ¬ (M : Int) = 0 := by have := HMM.out; have := cntC_le (orC C o j) N; omega
                        have hM1 : ((M : Int) == 0) = false := by simpa using hM0
                        go_wp2_with (first | (refine wpList_load_want (by rfl) 26 _ rfl sb 0 (by rfl) cr _ (HRR.out _ HB7.out) Try.underlying26 rfl hrz ?_) | (go_at_call 25; refine (HCH.out _ HB7.out).mono ?_; rintro e w8 ⟨rfl, hb8⟩; have HB7' := HB7; have HB7 : Hid (Below wl.heap.size wl w8) := below_of HB7'.out hb8.out; have HB8 : Hid (Below w7.heap.size w7 w8) := hb8) | (go_at_call 24; refine (HMI.out _ HB7.out).mono ?_; rintro e w9 ⟨rfl, hb9⟩; have HB7'' := HB7; have HB7 : Hid (Below wl.heap.size wl w9) := below_of HB7''.out hb9.out; have HB8 : Hid (Below w7.heap.size w7 w9) := below_of HB8.out hb9.out; have y10 := HY10.out _ HB7.out))
                        go_meet
                        case rel => exact ⟨by rw [HMM.out], by rw [hL], rfl, HB7.out⟩
                    | false =>
                      have hL : L.length = 0 := by rw [HLL.out, if_neg (by simpa using hs)]
                      rw [hL]
                      have HY10 : Hid (∀ W, Below wl.heap.size wl W → W.cell? ⟨xb, 10, none⟩ = some (.bool false)) := fun W hb => by rw [← hs]; exact (HXG.out W _ (HJ2.out.later hb)).2.2.2
                      by_cases hw : cntC (orC C o j) N = N
                      · have hb2 : blockK R = (B, 0) := wh_block_yes HGt.out.wh (by rw [hN]; exact hw)
                        rw [HBK.out] at hb2
                        cases hb2
                        have hM0 : M = 0 := by have := HMM.out; omega
                        subst hM0
                        have HEQ : Hid (∀ W, Below w7.heap.size w7 W → Calls Try.prog 29 #[.slice ab N cb, .slice (some ⟨bb, bo, none⟩) N c] W fun e w' => e = .returned (.bool true) ∧ W = w') := fun W hb => by
                          have hrow := (own_row HOB.out HR.out.1 HR.out.2.1)
                          obtain ⟨a', cap, e1, _, _, hra⟩ := hrow
                          cases e1
                          have := equal_any ab (some ⟨bb, bo, none⟩) cb c B B W (hra.later hb) (HRB.out.later (below_of HB7.out hb))
                          rw [decide_eq_true rfl, hN] at this
                          exact this
                        go_wp2_with (first | (refine wpList_load_want (by rfl) 26 _ rfl sb 0 (by rfl) cr _ (HRR.out _ HB7.out) Try.underlying26 rfl hrz ?_) | (go_at_call 25; refine (HCH.out _ HB7.out).mono ?_; rintro e w8 ⟨rfl, hb8⟩; have HB7' := HB7; have HB7 : Hid (Below wl.heap.size wl w8) := below_of HB7'.out hb8.out; have HB8 : Hid (Below w7.heap.size w7 w8) := hb8) | (go_at_call 24; refine (HMI.out _ HB7.out).mono ?_; rintro e w9 ⟨rfl, hb9⟩; have HB7'' := HB7; have HB7 : Hid (Below wl.heap.size wl w9) := below_of HB7''.out hb9.out; have HB8 : Hid (Below w7.heap.size w7 w9) := below_of HB8.out hb9.out; have y10 := HY10.out _ HB7.out) | (go_at_call 29; refine (HEQ.out _ HB8.out).mono ?_; rintro e w10 ⟨rfl, rfl⟩))
                        go_meet
                        case rel => exact ⟨by rw [HMM.out]; rfl, by rw [hL], rfl, HB7.out⟩
                      · have hb2 : blockK R = ([], 4) := wh_block_no HGt.out.wh (by rw [hN]; exact hw)
                        rw [HBK.out] at hb2
                        cases hb2
                        have hM0 : ¬ (M : Int) = 0 := by have := HMM.out; have := cntC_le (orC C o j) N; omega
                        have hM1 : ((M : Int) == 0) = false := by simpa using hM0
                        go_wp2_with (first | (refine wpList_load_want (by rfl) 26 _ rfl sb 0 (by rfl) cr _ (HRR.out _ HB7.out) Try.underlying26 rfl hrz ?_) | (go_at_call 25; refine (HCH.out _ HB7.out).mono ?_; rintro e w8 ⟨rfl, hb8⟩; have HB7' := HB7; have HB7 : Hid (Below wl.heap.size wl w8) := below_of HB7'.out hb8.out; have HB8 : Hid (Below w7.heap.size w7 w8) := hb8) | (go_at_call 24; refine (HMI.out _ HB7.out).mono ?_; rintro e w9 ⟨rfl, hb9⟩; have HB7'' := HB7; have HB7 : Hid (Below wl.heap.size wl w9) := below_of HB7''.out hb9.out; have HB8 : Hid (Below w7.heap.size w7 w9) := below_of HB8.out hb9.out; have y10 := HY10.out _ HB7.out))
                        go_meet
                        case rel => exact ⟨by rw [HMM.out], by rw [hL], rfl, HB7.out⟩
                  case rest =>
                    obtain ⟨rfl, rfl, rfl, HB9⟩ := hcut
                    have HR9 : Hid (Rd w4 wc sb (sb + 1) xb N (orC C o j) R a6 c6 g6 d6 ct u13 L) := HJ2.out.later HB9.out
                    clear HCH HMI HRB HBK HOB HB7 HB9 HRR HCK
                    go_wp2_with fail
                    go_loopw [142] (fun i ws => ∃ r : Nat, r ≤ L.length ∧ i = .int .i64 r ∧ Hid (Rd w4 ws sb (sb + 1) xb N (orC C o j) R a6 c6 g6 d6 ct u13 L)) (fun i _ => L.length - (intOf i).toNat)
                    case atStart => exact ⟨0, by omega, rfl, HR9.out⟩
                    case round =>
                      rename World => ws
                      obtain ⟨r, hr, rfl, HS⟩ := hrel
                      by_cases hrl : r < L.length
                      · have hser : 0 < ser := by
                          have := HLL.out
                          split at this
                          · assumption
                          · omega
                        obtain ⟨u, hu, hLu⟩ : ∃ u, WhK B (orC C o j) u ∧ L = [repK u ser] := by have := HGt.out.sent; rw [if_pos hser] at this; exact this
                        have hsn := HS.out.sent
                        rw [hLu] at hsn
                        obtain ⟨_, g2, cap, a2, c2, hv2, hg2, hrange, hdat, hrowc, hnew, hlc, hcm2, h1cap, hcapm⟩ := hsn
                        have hv3 := HV.out
                        rw [hv2] at hv3
                        have hl1 : L.length = 1 := by rw [hLu]; rfl
                        simp only [Value.slice.injEq] at hv3
                        obtain ⟨rfl, hjunk, rfl⟩ := hv3
                        clear hjunk
                        obtain rfl : r = 0 := by omega
                        have hrl' : (0 : Int) < (L.length : Int) := by omega
                        have HU : Hid (WhK B (orC C o j) u) := hu
                        obtain ⟨cy, hcy⟩ : ∃ cy, Hid (cy = sgcells (repK u ser) none 0 a2 c2) := ⟨_, rfl⟩
                        have hy13 : cy.length = 13 := by rw [hcy.out]; rfl
                        have hyz : (Try.prog.info? 28).map (·.size) = some cy.length := by rw [hy13]; kernel_rfl
                        have hyz2 : (Try.prog.info? 28).map (·.size) = some cy.toArray.size := by rw [show cy.toArray.size = 13 from hy13]; kernel_rfl
                        have HYL : Hid (ws.rangeAt g2 0 cy) := by rw [hcy.out]; exact hrange
                        have HYT : Hid ((ws.alloc zsgW).there ws.heap.size 0 cy.toArray.size) := by rw [show cy.toArray.size = 13 from hy13]; exact sgw_there (cs := sgcells zeroS none 0 none 0) (heap_alloc_new ws _) (Nat.le_refl _)
                        have HYO : Hid (cy.toArray.all (·.oneCell') = true) := by show _ = true; rw [hcy.out]; simp [Value.oneCell']
                        have HYB : Hid (Below ws.heap.size ws ((ws.alloc zsgW).setCells ws.heap.size 0 cy) ∧ ((ws.alloc zsgW).setCells ws.heap.size 0 cy).heap[ws.heap.size]? = some (.cells cy.toArray 28 (0, 0))) := sgw_stored ws cy hy13
                        have HRW : Hid (RowC ws a2 (repK u ser).cls) := hrowc
                        have HCY : Hid (∀ W, Below ws.heap.size ws W → Came W (repK u ser) none 0 a2 c2) := fun W hb => came_rep hu (by omega) (by omega) (hrowc.later hb) hlc hcm2
                        have HCL := rep_claims (ser := ser) HU.out
                        rw [hN] at HCL
                        have HCLH : Hid _ := HCL
                        clear HCL hu hLu hv2 hrange hdat hrowc hnew hl1 hr h1cap hcapm
                        go_upto_region 30 with (first | (refine wpList_load_mid rfl 28 _ rfl g2 0 (by rfl) cy _ HYL.out Try.underlying28 rfl hyz ?_) | (refine wpList_store_mid rfl 28 _ _ rfl ws.heap.size 0 cy.toArray (by rfl) (by rfl) HYT.out hyz2 HYO.out ?_; rw [show cy.toArray.toList = cy from rfl]; generalize hWY : (ws.alloc zsgW).setCells ws.heap.size 0 cy = wy at HYB ⊢; have HRY : Hid (wy.rangeAt ws.heap.size 0 cy) := rangew HYB.out.2; clear hWY))
                        have HSY : Hid (Rd w4 wy sb (sb + 1) xb N (orC C o j) R a6 c6 g6 d6 ct u13 L) := HS.out.later HYB.out.1
                        have k0 : wy.cell? ⟨ws.heap.size, 0, none⟩ = some (.int .i64 2) := HRY.out 0 _ (by rw [hcy.out]; rfl)
                        have k4 : wy.cell? ⟨ws.heap.size, 4, none⟩ = some (.int .u32 (ser : Nat)) := HRY.out 4 _ (by rw [hcy.out]; rfl)
                        have x3 := (HXG.out wy _ HSY.out).2.2.1
                        have HSC : Hid (Calls Try.prog 30 #[.agg cy.toArray] wy fun e w' => e = .returned (.int .i64 0) ∧ Hid (Below wy.heap.size wy w')) := by
                          have := check_any _ _ _ _ _ wy (HCY.out wy HYB.out.1)
                          rw [chk_ok (rep_ok HU.out hser)] at this
                          rw [hcy.out]
                          exact this
                        go_upto_region 32 with (first | (refine wpList_load_want (by rfl) 28 _ rfl ws.heap.size 0 (by rfl) cy _ HRY.out Try.underlying28 rfl hyz ?_) | (go_at_call 30; refine HSC.out.mono ?_; rintro e w8 ⟨rfl, hb8⟩))
                        have HS8 : Hid (Rd w4 w8 sb (sb + 1) xb N (orC C o j) R a6 c6 g6 d6 ct u13 L) := HSY.out.later hb8.out
                        have HB8 : Hid (Below ws.heap.size ws w8) := below_of HYB.out.1 hb8.out
                        obtain ⟨cl, hcl⟩ : ∃ cl, (repK u ser).cls = cl := ⟨_, rfl⟩
                        have hl20 : cl.length ≤ 20 := by rw [← hcl]; show (u.got.take 20).length ≤ 20; rw [List.length_take]; omega
                        have k12 : w8.cell? ⟨ws.heap.size, 12, none⟩ = some (.slice a2 cl.length c2) := by rw [← hcl]; exact cell_later hb8.out (HRY.out 12 _ (by rw [hcy.out]; rfl))
                        have HR8 : Hid (RowC w8 a2 cl) := by rw [← hcl]; exact HRW.out.later HB8.out
                        have HC8 : Hid (∀ c ∈ cl, (0 ≤ c.1 ∧ 1 ≤ c.2 ∧ c.1 + c.2 ≤ N) ∧ ∀ k : Nat, (k : Int) < c.2 → orC C o j (c.1.toNat + k) = true) := by rw [← hcl]; exact HCLH.out
                        clear k0 k4 x3 HSC HRY HYB HSY HCY HU hcy hyz hyz2 HYL HYT HYO HRW HCLH hlc hcl hb8 hy13
                        have hlc : cl.length ≤ 140737488351232 := by omega
                        clear hl20
                        go_wp2_with fail
                        go_loopw [164] (fun i wt => ∃ t : Nat, t ≤ cl.length ∧ i = .int .i64 t ∧ Hid (Below w8.heap.size w8 wt)) (fun i _ => cl.length - (intOf i).toNat)
                        case atStart => exact ⟨0, by omega, rfl, Below.refl _ _⟩
                        case round =>
                          rename World => wt
                          obtain ⟨t, ht, rfl, HT⟩ := hrel
                          by_cases htl : t < cl.length
                          · have htl' : (t : Int) < (cl.length : Int) := by omega
                            obtain ⟨b2, o2, rfl, hcc⟩ := (HR8.out.later HT.out).2 (by omega)
                            obtain ⟨q1, q2⟩ := hcc t htl
                            obtain ⟨⟨e1, e2, e3⟩, e4⟩ := HC8.out cl[t] (List.getElem_mem htl)
                            obtain ⟨x, hx⟩ : ∃ x : Nat, cl[t].1 = x := ⟨cl[t].1.toNat, by omega⟩
                            obtain ⟨y, hy⟩ : ∃ y : Nat, cl[t].2 = y := ⟨cl[t].2.toNat, by omega⟩
                            rw [hx] at q1 e1 e3 e4
                            rw [hy] at q2 e2 e3 e4
                            have HE4 : Hid (∀ m : Nat, m < y → orC C o j (x + m) = true) := fun m hm => by have := e4 m (by omega); rwa [Int.toNat_natCast] at this
                            clear e4 hx hy hcc
                            have HTA : Hid (∀ A : Obj, Below w8.heap.size w8 (wt.alloc A)) := fun A => below_of HT.out ((Below.refl _ wt).alloc (Nat.le_refl _) A)
                            have hzb : ∀ A : Array Value, (wt.alloc (.cells A 60)).heap[wt.heap.size]? = some (.cells A 60 (0, 0)) := fun A => heap_alloc_new wt _
                            have z0 : ∀ V0 V1 : Value, (wt.alloc (.cells #[V0, V1] 60)).cell? ⟨wt.heap.size, 0, none⟩ = some V0 ∧ (wt.alloc (.cells #[V0, V1] 60)).cell? ⟨wt.heap.size, 1, none⟩ = some V1 := fun V0 V1 => by
                              refine ⟨?_, ?_⟩
                              · rw [cell_of (hzb _)]; rfl
                              · rw [cell_of (hzb _)]; rfl
                            clear hzb
                            go_wp2_with fail
                            have hzz := z0 (.int .i64 (x : Int)) (.int .i64 (y : Int))
                            have HZA : Hid (Below w8.heap.size w8 (wt.alloc (.cells #[.int .i64 (x : Int), .int .i64 (y : Int)] 60))) := HTA.out _
                            generalize wt.alloc (.cells #[.int .i64 (x : Int), .int .i64 (y : Int)] 60) = wz at hzz HZA ⊢
                            obtain ⟨z1, z2⟩ := hzz
                            clear z0
                            go_loopw [170] (fun i wu => ∃ m : Nat, m ≤ y ∧ i = .int .i64 m ∧ wu = wz) (fun i _ => y - (intOf i).toNat)
                            case atStart => exact ⟨0, by omega, rfl, rfl⟩
                            case round =>
                              obtain ⟨m, hm, rfl, rfl⟩ := hrel
                              by_cases hmy : m < y
                              · have hmy' : (m : Int) < (y : Int) := by omega
                                obtain ⟨Z9, hZ9⟩ : ∃ Z9, x + m = Z9 := ⟨_, rfl⟩
                                have hw9 : IntKind.i64.wrap ((x : Int) + (m : Int)) = (Z9 : Int) := by rw [IntKind.wrap_i64]; omega
                                have hz9 : Z9 < N := by omega
                                have hz9' : (Z9 : Int) < (N : Int) := by omega
                                have hz9'' : (0 : Int) ≤ (Z9 : Int) := by omega
                                have yb := ((HS8.out.later HZA.out).get hz9).1
                                rw [← hZ9, HE4.out m hmy, hZ9] at yb
                                go_wp2
                                go_roundw
                                case rel => exact ⟨m + 1, by omega, by go_num, trivial⟩
                                case measure => simp [intOf]; omega
                              · obtain rfl : m = y := by omega
                                go_wp2
                                go_roundw
                                case rel => exact ⟨t + 1, by omega, by go_num, HZA.out⟩
                                case measure => simp [intOf]; omega
                          · obtain rfl : t = cl.length := by omega
                            go_wp2
                            go_roundw
                            case rel => exact ⟨0 + 1, by omega, by go_num, HS8.out.later HT.out⟩
                            case measure => simp [intOf]; omega
                      · obtain rfl : r = L.length := by omega
                        go_wp2
                        go_roundw
                        case rel => exact ⟨k + 1, orC C o j, by omega, by go_num, rfl, _, _, _, _, _, rd_next (by rw [hN]; exact HS.out) HGt.out.wh hlt hp HCV.out⟩
                        case measure => simp [intOf]; omega
          · obtain rfl : k = P.length := by omega
            obtain ⟨s, a1, c1, g1, d1, hq0⟩ := HQ.out
            have hwk : WhK B C s := by rcases hq0.st with ⟨h, _⟩ | ⟨_, h⟩; have := HP0.out; omega; exact h
            have hall : cntC C N = N := (cntC_all N).2 (fun i hi => by
              obtain ⟨p, hp, h2, h3⟩ := HPV.out i hi
              exact hq0.cov p (by rw [List.take_length]; exact hp) i h2 h3)
            have hz6 := (kcells_get hq0.box).2.2.2.2.2.2.1
            rw [wh_done hwk (by rw [hN]; exact hall)] at hz6
            have HBE : Hid (Below w.heap.size w wr) := HB4.out.trans (hq0.off.below HB4.out.size (fun i e => by have := HZ4.out; rcases e with e | e <;> omega))
            rw [hall, Nat.sub_self]
            clear hq0 hall hwk HQ
            go_wp2
            go_ret
            exact ⟨rfl, HBE.out⟩
end Go.Proofs.Ythmolodkaboakaa
