/- The reference's Put. -/
import Derived.Test.YtlhgjhbbiohcnaaVPutX
import Derived.Deep.CutRange
namespace Go.Proofs.Ytlhgjhbbiohcnaa
open Go.RowKit
set_option linter.unusedVariables false
theorem pt_start {w w1 : World} {s : Tk} {a : Option Addr} {c : Nat} {g : Option Addr} {d : Nat} {x : Sg} {xa : Option Addr} {xc : Nat} {a2 : Option Addr} {c2 : Nat} {v : Value} {n : Nat} (he : En w w1 s a c g d x xa xc a2 c2) (h1 : w1.ownsRow n 5 1 v (s.byt.length + 0) (cells (s.byt ++ []))) (hn : n = w.heap.size + 3) (h0 : 0 < s.byt.length) : ∃ gb cb, v = .slice (some ⟨gb, 0, none⟩) s.byt.length cb ∧ PutI w w1 s a c g d x xa xc a2 c2 0 0 v (.slice none 0 0) := by
  rw [List.append_nil, Nat.add_zero, hn] at h1
  have h2 : PutI w w1 s a c g d x xa xc a2 c2 0 0 v (.slice none 0 0) := ⟨he, by rw [mix_zero]; exact h1, ⟨rfl, .inl ⟨rfl, rfl⟩⟩, fun j h => absurd h (by omega)⟩
  rcases h1.2 with ⟨_, h⟩ | ⟨gb, cb, cur, h, _⟩
  · omega
  · exact ⟨gb, cb, h, h2⟩
theorem cells_nth (l : List Nat) (k : Nat) (h : k < l.length) : (cells l)[k]? = some (.int .u8 ((l.getD k 0 : Nat) : Int)) := by
  unfold cells
  rw [List.getElem?_map, List.getD_eq_getElem?_getD, List.getElem?_eq_getElem h]
  rfl
set_option maxRecDepth 20000 in
set_option maxHeartbeats 4000000 in
theorem rput_any (s : Tk) (a : Option Addr) (c : Nat) (g : Option Addr) (d : Nat) (x : Sg) (xa : Option Addr) (xc : Nat) (a2 : Option Addr) (c2 : Nat) (w : World) (hc : CameK w s a c g d) (hx : Came w x xa xc a2 c2) (hok : okK s = true) (hd : dataS x = true) (ht : x.tot = s.tot) :
    Calls Try.prog 38 #[kv s a c g d, sv x xa xc a2 c2] w fun e w' => ∃ a' c' g' d', e = .returned (.tuple #[.agg (kcells (rputK s x).1 a' c' g' d').toArray, .bool (rputK s x).2]) ∧ Hid (Below w.heap.size w w' ∧ CameK w' (rputK s x).1 a' c' g' d') := by
  obtain ⟨⟨ht1, ht2⟩, hbl, hs3, hs4, hcl, hs5⟩ := smallK hok
  have HBO : Hid (∀ W, Below w.heap.size w W → Calls Try.prog 58 #[.slice a s.byt.length c, .slice none 0 0] W fun e w' => ∃ v, e = .returned v ∧ Hid (w'.ownsRow W.heap.size 5 1 v (s.byt.length + 0) (cells (s.byt ++ [])) ∧ Below W.heap.size W w')) := fun W hb => both_own W a none c 0 s.byt [] (hc.byt.later hb) (row_nil _ _) (by have := hc.zb; simpa using this)
  have HIN : Hid (∀ W, Below w.heap.size w W → ∀ y : Int, Calls Try.prog 26 #[.slice g s.got.length d, .int .i64 y] W fun e w' => e = .returned (.bool (cov s.got y)) ∧ ∃ n, w' = W.drewN n) := fun W hb y => rin_any g d s.got y W (hc.got.later hb) hc.zg (fun c hcm => clsOk_all s.tot s.got 0 (by omega) ht2 hcl c hcm)
  have hnt : (x.tot != s.tot) = false := by simp [ht]
  have HEN : Hid (En w (((w.alloc (kc s a c g d)).alloc (sc x xa xc a2 c2)).alloc (kc zeroK none 0 none 0)) s a c g d x xa xc a2 c2) := En.start w s a c g d x xa xc a2 c2
  obtain ⟨hd0, hdl, hof, hchk⟩ := dataS_of hd
  obtain ⟨O, hO⟩ : ∃ O : Nat, x.off = O := ⟨x.off.toNat, by omega⟩
  have HO : Hid (x.off = O ∧ x.off.toNat = O ∧ O + x.dat.length ≤ s.byt.length) := ⟨hO, by omega, by omega⟩
  have hx0 : 0 ≤ x.off := by omega
  have hx1 : x.off ≤ 512 := by omega
  have hx2 : (x.dat.length : Int) ≤ 100 := by omega
  have HCL : Hid (clsOk s.tot 0 s.got = true) := hcl
  have HOK : Hid (okK s = true ∧ dataS x = true ∧ x.tot = s.tot) := ⟨hok, hd, ht⟩
  have HC : Hid (CameK w s a c g d) := hc
  have HXC : Hid (Came w x xa xc a2 c2) := hx
  have HTB : Hid ((s.byt.length : Int) = s.tot) := hbl
  have hTl : (s.byt.length : Int) ≤ 512 := by omega
  have HTL : Hid ((s.byt.length : Int) ≤ 512) := hTl
  clear hc hx hok hd ht hO hdl hof hcl hbl hs3 hs4 hs5 hd0 hchk
  go_enter Try.func38, Try.ntmps38
  go_wp2_with (go_at_call 58; refine (HBO.out _ HEN.out.bel).mono ?_; rintro e w1 ⟨v, rfl, hq1⟩; have HE1 : Hid (En w w1 s a c g d x xa xc a2 c2) := HEN.out.later hq1.out.2; have y2 := (kcells_get HE1.out.one).2.2.1)
  obtain ⟨gb, cb, rfl, hi1⟩ := pt_start HE1.out hq1.out.1 (by simp) (by have := HTB.out; omega)
  have HI1 : Hid (PutI w w1 s a c g d x xa xc a2 c2 0 0 (.slice (some ⟨gb, 0, none⟩) s.byt.length cb) (.slice none 0 0)) := hi1
  clear HBO HEN hq1 HE1 y2 hi1
  go_loopw [7, 8] (fun vl i wr => ∃ k : Nat, (k : Int) ≤ s.tot ∧ i = .int .i64 k ∧ Hid (PutI w wr s a c g d x xa xc a2 c2 k k (.slice (some ⟨gb, 0, none⟩) s.byt.length cb) vl)) (fun _ i _ => (s.tot - intOf i).toNat)
  case atStart => exact ⟨0, by omega, rfl, HI1.out⟩
  case round =>
    obtain ⟨k, hk, rfl, HQ⟩ := hrel
    obtain ⟨y0, y1, y2, y3, y4, y5, y6, y7, y8⟩ := kcells_get HQ.out.en.one
    obtain ⟨z0, z1, z2, z3, z4, z5, z6, z7, z8, z9, z10, z11, z12⟩ := scells HQ.out.en.two
    obtain ⟨la, lc, hvl⟩ := ownC_form HQ.out.lst
    subst hvl
    by_cases hlt : (k : Int) < s.tot
    · have hkl : k < s.byt.length := by have := HTB.out; omega
      have hbc0 := World.ownsRow.cellAt HQ.out.byt k (by omega)
      have hbc : wr.cell? ⟨gb, k, none⟩ = some (.int .u8 ((s.byt.getD k 0 : Nat) : Int)) := by
        rw [hbc0, cells_nth _ _ (by rw [mix_len]; exact hkl), mix_get hkl]
      have hbf := World.ownsRow.frozenAt HQ.out.byt k
      clear hbc0
      have hki : (k : Int) < (s.byt.length : Int) := by omega
      by_cases ho1 : x.off ≤ (k : Int)
      · by_cases ho2 : (k : Int) < x.off + (x.dat.length : Int)
        · have HOW : Hid (ownJ x.off.toNat x.dat k = true) := by show _ = _; unfold ownJ; have := HO.out; simp; omega
          have hkx : (k : Int) - x.off = ((k - x.off.toNat : Nat) : Int) := by omega
          obtain ⟨db, dof, rfl, hdc⟩ := (HXC.out.row.later HQ.out.en.bel).2.2 (by omega)
          have hdc1 := hdc (k - x.off.toNat) (by omega)
          have hkj : ((k - x.off.toNat : Nat) : Int) < (x.dat.length : Int) := by omega
          clear hdc
          obtain ⟨dv, hdv⟩ : ∃ dv, x.dat.getD (k - x.off.toNat) 0 = dv := ⟨_, rfl⟩
          rw [hdv] at hdc1
          have HDV : Hid (x.dat.getD (k - x.off.toNat) 0 = dv) := hdv
          clear hdv
          cases hcv : cov s.got (k : Int) with
          | false =>
            have HS : Hid (∀ n, PutI w ((wr.drewN n).setCell ⟨gb, k, none⟩ (.int .u8 ((dv : Nat) : Int))) s a c g d x (some ⟨db, dof, none⟩) xc a2 c2 (k + 1) k (.slice (some ⟨gb, 0, none⟩) s.byt.length cb) (.slice la (runs (covC s x) k).length lc)) := fun n => by rw [← HDV.out]; exact pt_set (HQ.out.later (below_drewN (Below.refl _ _) _)) HOW.out hkl (fun h => by rw [hcv] at h; cases h)
            have HCC : Hid (covC s x k = true) := by show _ = _; unfold covC; rw [HOW.out]; simp
            have HIN2 : Hid (∀ W, Below w.heap.size w W → Calls Try.prog 26 #[.slice g s.got.length d, .int .i64 (k : Int)] W fun e w' => e = .returned (.bool false) ∧ ∃ n, w' = W.drewN n) := fun W hb => by rw [← hcv]; exact HIN.out W hb k
            go_wp2_with (go_at_call 26; refine (HIN2.out _ HQ.out.en.bel).mono ?_; rintro e w2 ⟨rfl, n2, rfl⟩)
            go_quiet (fail)
            go_wp2
            have HM : Hid (PutI w ((wr.drewN (n2 + nq)).setCell ⟨gb, k, none⟩ (.int .u8 ((dv : Nat) : Int))) s a c g d x (some ⟨db, dof, none⟩) xc a2 c2 (k + 1) k (.slice (some ⟨gb, 0, none⟩) s.byt.length cb) (.slice la (runs (covC s x) k).length lc)) := HS.out (n2 + nq)
            generalize (wr.drewN (n2 + nq)).setCell ⟨gb, k, none⟩ (.int .u8 ((dv : Nat) : Int)) = wm at HM ⊢
            clear HS hbc hbf y0 y1 y2 y3 y4 y5 y6 y7 y8 z0 z1 z2 z3 z4 z5 z6 z7 z8 z9 z10 z11 z12 hkl
            have HRU := runs_is (u := s.byt.length) (covC s x) k (by omega)
            have HLN : Hid ((runs (covC s x) k).length ≤ 100000) := by
              rcases clsOk_len _ _ _ (Int.le_refl 0) HRU.1 with h | h
              · show _ ≤ _; omega
              · rw [h]; show (0 : Nat) ≤ _; omega
            have HAL : Hid (∀ r ∈ runs (covC s x) k, (0 ≤ r.1 ∧ r.1 ≤ 512) ∧ (0 ≤ r.2 ∧ r.2 ≤ 512)) := clsOk_all _ _ 0 (Int.le_refl 0) (by have := HTL.out; omega) HRU.1
            clear HRU
            cases hlast : (runs (covC s x) k).getLast? with
            | none =>
              have hz0 : (runs (covC s x) k).length = 0 := by rw [List.getLast?_eq_none_iff.1 hlast]; rfl
              have hg1 : decide ((0 : Int) < ((runs (covC s x) k).length : Int)) = false := decide_eq_false (by omega)
              have hg2 : decide (0 < (runs (covC s x) k).length) = false := decide_eq_false (by omega)
              have HNO : Hid (∀ r, (runs (covC s x) k).getLast? = some r → r.1 + r.2 ≠ (k : Int)) := fun r h => by rw [hlast] at h; cases h
              clear hz0
              have HOL : Hid (∀ n X, ((wm.drewN n).alloc X).ownsRow (w.heap.size + 3) 60 2 _ (runs (covC s x) k).length (ccells (runs (covC s x) k))) := fun n X => (HM.out.later (below_of (below_drewN (Below.refl _ wm) n) ((Below.refl _ _).alloc (Nat.le_refl _) X))).lst
              have HSZ : Hid (∀ n X, w.heap.size + 3 ≤ ((wm.drewN n).alloc X).heap.size) := fun n X => Nat.le_trans HM.out.en.size (below_of (below_drewN (Below.refl _ wm) n) ((Below.refl _ _).alloc (Nat.le_refl _) X)).size
              go_quiet (fail)
              go_wp2_with (at_builtin; refine wpList_append_one rfl _ _ rfl (w.heap.size + 3) _ (runs (covC s x) k) (by rfl) (HOL.out _ _) _ (k : Int) 1 (by rfl) (heap_alloc_new _ _) HLN.out (HSZ.out _ _) ?_; intro gn cn wn hon hfn _ _; have HPA : Hid _ := pt_app (kb := k + 1) HM.out HCC.out HNO.out (below_of (below_drewN (Below.refl _ wm) _) ((Below.refl _ _).alloc (Nat.le_refl _) _)) hfn hon; clear hon hfn)
              go_roundw
              case rel => repeat (first | exact ⟨k + 1, by omega, by go_num, HPA.out⟩ | refine ⟨_, ?_⟩)
              case measure => simp [intOf]; omega
            | some r =>
              obtain ⟨L, hL⟩ : ∃ L, (runs (covC s x) k).dropLast = L := ⟨_, rfl⟩
              have HLS : Hid (runs (covC s x) k = L ++ [r]) := by rw [← hL]; exact last_split hlast
              have hlen : (runs (covC s x) k).length = L.length + 1 := by rw [HLS.out]; simp
              obtain ⟨gl, rfl⟩ : ∃ gl, la = some ⟨gl, 0, none⟩ := by
                rcases HM.out.lst.2 with ⟨_, h⟩ | ⟨gl, cl, cur, h, _⟩
                · omega
                · cases h; exact ⟨gl, rfl⟩
              have hgl := HM.out.lst
              have hl1 := World.ownsRow.cellAt hgl (L.length * 2) (by omega)
              have hl2 := World.ownsRow.cellAt hgl (L.length * 2 + 1) (by omega)
              have hlf := World.ownsRow.frozenAt hgl (L.length * 2 + 1)
              obtain ⟨hc1, hc2⟩ := ccells_get (runs (covC s x) k) L.length (by omega)
              have hgr : (runs (covC s x) k)[L.length]'(by omega) = r := by simp only [HLS.out]; simp
              rw [hc1, hgr] at hl1
              rw [hc2, hgr] at hl2
              obtain ⟨⟨b1, b2⟩, b3, b4⟩ := HAL.out r (by rw [HLS.out]; simp)
              have hg1 : decide ((0 : Int) < ((runs (covC s x) k).length : Int)) = true := decide_eq_true (by omega)
              have hg2 : decide (0 < (runs (covC s x) k).length) = true := decide_eq_true (by omega)
              have hm1 : ((runs (covC s x) k).length : Int) - 1 = (L.length : Int) := by omega
              have hli : (L.length : Int) < ((runs (covC s x) k).length : Int) := by omega
              have HLE : Hid ((runs (covC s x) k).length = L.length + 1) := hlen
              have hlb : (L.length : Int) ≤ 100000 := by have := HLN.out; omega
              clear hgl hc1 hc2 hgr hlen hL
              by_cases hrk : r.1 + r.2 = (k : Int)
              · have hrb : (r.1 + r.2 == (k : Int)) = true := by simp [hrk]
                have HPI : Hid (∀ n, PutI w ((wm.drewN n).setCell ⟨gl, L.length * 2 + 1, none⟩ (.int .i64 (r.2 + 1))) s a c g d x (some ⟨db, dof, none⟩) xc a2 c2 (k + 1) (k + 1) (.slice (some ⟨gb, 0, none⟩) s.byt.length cb) (.slice (some ⟨gl, 0, none⟩) (runs (covC s x) k).length lc)) := fun n => by
                  have h1 := HM.out.later (below_drewN (Below.refl _ wm) n)
                  rw [HLE.out] at h1 ⊢
                  exact pt_inc h1 HCC.out HLS.out hrk
                clear hrk
                go_quiet (fail)
                go_wp2
                go_roundw
                case rel => repeat (first | exact ⟨k + 1, by omega, by go_num, HPI.out _⟩ | refine ⟨_, ?_⟩)
                case measure => simp [intOf]; omega
              · have hrb : (r.1 + r.2 == (k : Int)) = false := by simp [hrk]
                have HNO : Hid (∀ r, (runs (covC s x) k).getLast? = some r → r.1 + r.2 ≠ (k : Int)) := fun r' h => by rw [hlast] at h; cases h; exact hrk
                clear hrk
                have HOL : Hid (∀ n X, ((wm.drewN n).alloc X).ownsRow (w.heap.size + 3) 60 2 _ (runs (covC s x) k).length (ccells (runs (covC s x) k))) := fun n X => (HM.out.later (below_of (below_drewN (Below.refl _ wm) n) ((Below.refl _ _).alloc (Nat.le_refl _) X))).lst
                have HSZ : Hid (∀ n X, w.heap.size + 3 ≤ ((wm.drewN n).alloc X).heap.size) := fun n X => Nat.le_trans HM.out.en.size (below_of (below_drewN (Below.refl _ wm) n) ((Below.refl _ _).alloc (Nat.le_refl _) X)).size
                go_quiet (fail)
                go_wp2_with (at_builtin; refine wpList_append_one rfl _ _ rfl (w.heap.size + 3) _ (runs (covC s x) k) (by rfl) (HOL.out _ _) _ (k : Int) 1 (by rfl) (heap_alloc_new _ _) HLN.out (HSZ.out _ _) ?_; intro gn cn wn hon hfn _ _; have HPA : Hid _ := pt_app (kb := k + 1) HM.out HCC.out HNO.out (below_of (below_drewN (Below.refl _ wm) _) ((Below.refl _ _).alloc (Nat.le_refl _) _)) hfn hon; clear hon hfn)
                go_roundw
                case rel => repeat (first | exact ⟨k + 1, by omega, by go_num, HPA.out⟩ | refine ⟨_, ?_⟩)
                case measure => simp [intOf]; omega
          | true =>
            by_cases hbe : s.byt.getD k 0 = dv
            · have hbn : (((s.byt.getD k 0 : Nat) : Int) != (dv : Int)) = false := by rw [hbe]; simp
              have hbn2 : (s.byt.getD k 0 != dv) = false := by rw [hbe]; simp
              have HBE : Hid (s.byt.getD k 0 = dv) := hbe
              have HS : Hid (∀ n, PutI w ((wr.drewN n).setCell ⟨gb, k, none⟩ (.int .u8 ((dv : Nat) : Int))) s a c g d x (some ⟨db, dof, none⟩) xc a2 c2 (k + 1) k (.slice (some ⟨gb, 0, none⟩) s.byt.length cb) (.slice la (runs (covC s x) k).length lc)) := fun n => by rw [← HDV.out]; exact pt_set (HQ.out.later (below_drewN (Below.refl _ _) _)) HOW.out hkl (fun _ => by rw [HBE.out, HDV.out])
              have HCC : Hid (covC s x k = true) := by show _ = _; unfold covC; rw [HOW.out]; simp
              obtain ⟨bv, hbv⟩ : ∃ bv, s.byt.getD k 0 = bv := ⟨_, rfl⟩
              rw [hbv] at hbc hbn hbn2
              clear hbe hbv
              have HIN2 : Hid (∀ W, Below w.heap.size w W → Calls Try.prog 26 #[.slice g s.got.length d, .int .i64 (k : Int)] W fun e w' => e = .returned (.bool true) ∧ ∃ n, w' = W.drewN n) := fun W hb => by rw [← hcv]; exact HIN.out W hb k
              go_wp2_with (go_at_call 26; refine (HIN2.out _ HQ.out.en.bel).mono ?_; rintro e w2 ⟨rfl, n2, rfl⟩)
              go_quiet (fail)
              go_wp2
              have HM : Hid (PutI w ((wr.drewN (n2 + nq)).setCell ⟨gb, k, none⟩ (.int .u8 ((dv : Nat) : Int))) s a c g d x (some ⟨db, dof, none⟩) xc a2 c2 (k + 1) k (.slice (some ⟨gb, 0, none⟩) s.byt.length cb) (.slice la (runs (covC s x) k).length lc)) := HS.out (n2 + nq)
              generalize (wr.drewN (n2 + nq)).setCell ⟨gb, k, none⟩ (.int .u8 ((dv : Nat) : Int)) = wm at HM ⊢
              clear HS hbc hbf y0 y1 y2 y3 y4 y5 y6 y7 y8 z0 z1 z2 z3 z4 z5 z6 z7 z8 z9 z10 z11 z12 hkl
              have HRU := runs_is (u := s.byt.length) (covC s x) k (by omega)
              have HLN : Hid ((runs (covC s x) k).length ≤ 100000) := by
                rcases clsOk_len _ _ _ (Int.le_refl 0) HRU.1 with h | h
                · show _ ≤ _; omega
                · rw [h]; show (0 : Nat) ≤ _; omega
              have HAL : Hid (∀ r ∈ runs (covC s x) k, (0 ≤ r.1 ∧ r.1 ≤ 512) ∧ (0 ≤ r.2 ∧ r.2 ≤ 512)) := clsOk_all _ _ 0 (Int.le_refl 0) (by have := HTL.out; omega) HRU.1
              clear HRU
              cases hlast : (runs (covC s x) k).getLast? with
              | none =>
                have hz0 : (runs (covC s x) k).length = 0 := by rw [List.getLast?_eq_none_iff.1 hlast]; rfl
                have hg1 : decide ((0 : Int) < ((runs (covC s x) k).length : Int)) = false := decide_eq_false (by omega)
                have hg2 : decide (0 < (runs (covC s x) k).length) = false := decide_eq_false (by omega)
                have HNO : Hid (∀ r, (runs (covC s x) k).getLast? = some r → r.1 + r.2 ≠ (k : Int)) := fun r h => by rw [hlast] at h; cases h
                clear hz0
                have HOL : Hid (∀ n X, ((wm.drewN n).alloc X).ownsRow (w.heap.size + 3) 60 2 _ (runs (covC s x) k).length (ccells (runs (covC s x) k))) := fun n X => (HM.out.later (below_of (below_drewN (Below.refl _ wm) n) ((Below.refl _ _).alloc (Nat.le_refl _) X))).lst
                have HSZ : Hid (∀ n X, w.heap.size + 3 ≤ ((wm.drewN n).alloc X).heap.size) := fun n X => Nat.le_trans HM.out.en.size (below_of (below_drewN (Below.refl _ wm) n) ((Below.refl _ _).alloc (Nat.le_refl _) X)).size
                go_quiet (fail)
                go_wp2_with (at_builtin; refine wpList_append_one rfl _ _ rfl (w.heap.size + 3) _ (runs (covC s x) k) (by rfl) (HOL.out _ _) _ (k : Int) 1 (by rfl) (heap_alloc_new _ _) HLN.out (HSZ.out _ _) ?_; intro gn cn wn hon hfn _ _; have HPA : Hid _ := pt_app (kb := k + 1) HM.out HCC.out HNO.out (below_of (below_drewN (Below.refl _ wm) _) ((Below.refl _ _).alloc (Nat.le_refl _) _)) hfn hon; clear hon hfn)
                go_roundw
                case rel => repeat (first | exact ⟨k + 1, by omega, by go_num, HPA.out⟩ | refine ⟨_, ?_⟩)
                case measure => simp [intOf]; omega
              | some r =>
                obtain ⟨L, hL⟩ : ∃ L, (runs (covC s x) k).dropLast = L := ⟨_, rfl⟩
                have HLS : Hid (runs (covC s x) k = L ++ [r]) := by rw [← hL]; exact last_split hlast
                have hlen : (runs (covC s x) k).length = L.length + 1 := by rw [HLS.out]; simp
                obtain ⟨gl, rfl⟩ : ∃ gl, la = some ⟨gl, 0, none⟩ := by
                  rcases HM.out.lst.2 with ⟨_, h⟩ | ⟨gl, cl, cur, h, _⟩
                  · omega
                  · cases h; exact ⟨gl, rfl⟩
                have hgl := HM.out.lst
                have hl1 := World.ownsRow.cellAt hgl (L.length * 2) (by omega)
                have hl2 := World.ownsRow.cellAt hgl (L.length * 2 + 1) (by omega)
                have hlf := World.ownsRow.frozenAt hgl (L.length * 2 + 1)
                obtain ⟨hc1, hc2⟩ := ccells_get (runs (covC s x) k) L.length (by omega)
                have hgr : (runs (covC s x) k)[L.length]'(by omega) = r := by simp only [HLS.out]; simp
                rw [hc1, hgr] at hl1
                rw [hc2, hgr] at hl2
                obtain ⟨⟨b1, b2⟩, b3, b4⟩ := HAL.out r (by rw [HLS.out]; simp)
                have hg1 : decide ((0 : Int) < ((runs (covC s x) k).length : Int)) = true := decide_eq_true (by omega)
                have hg2 : decide (0 < (runs (covC s x) k).length) = true := decide_eq_true (by omega)
                have hm1 : ((runs (covC s x) k).length : Int) - 1 = (L.length : Int) := by omega
                have hli : (L.length : Int) < ((runs (covC s x) k).length : Int) := by omega
                have HLE : Hid ((runs (covC s x) k).length = L.length + 1) := hlen
                have hlb : (L.length : Int) ≤ 100000 := by have := HLN.out; omega
                clear hgl hc1 hc2 hgr hlen hL
                by_cases hrk : r.1 + r.2 = (k : Int)
                · have hrb : (r.1 + r.2 == (k : Int)) = true := by simp [hrk]
                  have HPI : Hid (∀ n, PutI w ((wm.drewN n).setCell ⟨gl, L.length * 2 + 1, none⟩ (.int .i64 (r.2 + 1))) s a c g d x (some ⟨db, dof, none⟩) xc a2 c2 (k + 1) (k + 1) (.slice (some ⟨gb, 0, none⟩) s.byt.length cb) (.slice (some ⟨gl, 0, none⟩) (runs (covC s x) k).length lc)) := fun n => by
                    have h1 := HM.out.later (below_drewN (Below.refl _ wm) n)
                    rw [HLE.out] at h1 ⊢
                    exact pt_inc h1 HCC.out HLS.out hrk
                  clear hrk
                  go_quiet (fail)
                  go_wp2
                  go_roundw
                  case rel => repeat (first | exact ⟨k + 1, by omega, by go_num, HPI.out _⟩ | refine ⟨_, ?_⟩)
                  case measure => simp [intOf]; omega
                · have hrb : (r.1 + r.2 == (k : Int)) = false := by simp [hrk]
                  have HNO : Hid (∀ r, (runs (covC s x) k).getLast? = some r → r.1 + r.2 ≠ (k : Int)) := fun r' h => by rw [hlast] at h; cases h; exact hrk
                  clear hrk
                  have HOL : Hid (∀ n X, ((wm.drewN n).alloc X).ownsRow (w.heap.size + 3) 60 2 _ (runs (covC s x) k).length (ccells (runs (covC s x) k))) := fun n X => (HM.out.later (below_of (below_drewN (Below.refl _ wm) n) ((Below.refl _ _).alloc (Nat.le_refl _) X))).lst
                  have HSZ : Hid (∀ n X, w.heap.size + 3 ≤ ((wm.drewN n).alloc X).heap.size) := fun n X => Nat.le_trans HM.out.en.size (below_of (below_drewN (Below.refl _ wm) n) ((Below.refl _ _).alloc (Nat.le_refl _) X)).size
                  go_quiet (fail)
                  go_wp2_with (at_builtin; refine wpList_append_one rfl _ _ rfl (w.heap.size + 3) _ (runs (covC s x) k) (by rfl) (HOL.out _ _) _ (k : Int) 1 (by rfl) (heap_alloc_new _ _) HLN.out (HSZ.out _ _) ?_; intro gn cn wn hon hfn _ _; have HPA : Hid _ := pt_app (kb := k + 1) HM.out HCC.out HNO.out (below_of (below_drewN (Below.refl _ wm) _) ((Below.refl _ _).alloc (Nat.le_refl _) _)) hfn hon; clear hon hfn)
                  go_roundw
                  case rel => repeat (first | exact ⟨k + 1, by omega, by go_num, HPA.out⟩ | refine ⟨_, ?_⟩)
                  case measure => simp [intOf]; omega
            · have HBD : Hid (difK s x = true) := dif_yes (O := x.off.toNat) (by omega) hkl hcv HOW.out (by rw [HDV.out]; exact hbe)
              obtain ⟨bv, hbv⟩ : ∃ bv, s.byt.getD k 0 = bv := ⟨_, rfl⟩
              rw [hbv] at hbc hbe
              have hbn : ((bv : Int) != (dv : Int)) = true := by simp; omega
              have hbn2 : (bv != dv) = true := by simp [hbe]
              have HIN2 : Hid (∀ W, Below w.heap.size w W → Calls Try.prog 26 #[.slice g s.got.length d, .int .i64 (k : Int)] W fun e w' => e = .returned (.bool true) ∧ ∃ n, w' = W.drewN n) := fun W hb => by rw [← hcv]; exact HIN.out W hb k
              clear hbe hbv
              go_wp2_with (go_at_call 26; refine (HIN2.out _ HQ.out.en.bel).mono ?_; rintro e w2 ⟨rfl, n2, rfl⟩)
              clear y0 y1 y2 y3 y4 y5 y6 y7 y8
              go_quiet (fail)
              obtain ⟨cs, hcs⟩ : ∃ cs, Hid (cs = kcells s a c g d) := ⟨_, rfl⟩
              have hs9 : (Try.prog.info? 26).map (·.size) = some 9 := by kernel_rfl
              have hl9 : cs.length = 9 := by rw [hcs.out]; rfl
              have hsz : (Try.prog.info? 26).map (·.size) = some cs.length := by rw [hl9]; exact hs9
              have hsz2 : (Try.prog.info? 26).map (·.size) = some cs.toArray.size := by rw [show cs.toArray.size = 9 from hl9]; exact hs9
              have HEF2 : Hid (∀ n m, En w ((wr.drewN n).drewN m) s a c g d x (some ⟨db, dof, none⟩) xc a2 c2) := fun n m => HQ.out.en.later (below_drewN (below_drewN (Below.refl _ _) n) m)
              have HEF : Hid (∀ n, En w (wr.drewN n) s a c g d x (some ⟨db, dof, none⟩) xc a2 c2) := fun n => HQ.out.en.later (below_drewN (Below.refl _ _) n)
              have HAW : Hid (∀ W, En w W s a c g d x (some ⟨db, dof, none⟩) xc a2 c2 → ∃ a' c' g' d', Ending.returned (.tuple #[.agg cs.toArray, .bool false]) = .returned (.tuple #[.agg (kcells (rputK s x).1 a' c' g' d').toArray, .bool (rputK s x).2]) ∧ Hid (Below w.heap.size w (W.setCells (w.heap.size + 1 + 1) 0 cs) ∧ CameK (W.setCells (w.heap.size + 1 + 1) 0 cs) (rputK s x).1 a' c' g' d')) := fun W hE => by
                have e : rputK s x = (s, false) := by unfold rputK; rw [HBD.out, if_pos rfl]
                rw [e, hcs.out]
                refine ⟨a, c, g, d, rfl, ?_⟩
                have hz := (res_store hE.res hE.bel (by omega) s a c g d).2.2.2.out.1
                exact ⟨hz, HC.out.later hz⟩
              have HZW : Hid (∀ W, En w W s a c g d x (some ⟨db, dof, none⟩) xc a2 c2 → W.rangeAt w.heap.size 0 cs ∧ W.there (w.heap.size + 1 + 1) 0 cs.toArray.size ∧ cs.toArray.all (·.oneCell') = true ∧ (W.setCells (w.heap.size + 1 + 1) 0 cs).rangeAt (w.heap.size + 1 + 1) 0 cs) := fun W hE => by
                have hz := res_store hE.res hE.bel (by omega) s a c g d
                rw [hcs.out]
                exact ⟨k_range hE.one, hz.1.out, hz.2.1.out, hz.2.2.1.out⟩
              go_wp2_with (first | (refine wpList_load_mid rfl 26 _ rfl w.heap.size 0 (by rfl) cs _ (HZW.out _ (by first | exact HEF.out _ | exact HEF2.out _ _)).1 Try.underlying26 rfl hsz ?_) | (refine wpList_store_mid rfl 26 _ _ rfl (w.heap.size + 1 + 1) 0 cs.toArray (by rfl) (by rfl) (HZW.out _ (by first | exact HEF.out _ | exact HEF2.out _ _)).2.1 hsz2 (HZW.out (wr.drewN 0) (HEF.out 0)).2.2.1 ?_))
              exact bodyPost_ret (results_cell2 rfl _ _ (w.heap.size + 1 + 1) 0 (by rfl) cs _ (HZW.out _ (by first | exact HEF.out _ | exact HEF2.out _ _)).2.2.2 Try.underlying26 rfl hsz) rfl (by
                show ∃ a' c' g' d', Ending.returned (.tuple #[.agg cs.toArray, .bool false]) = _ ∧ _
                exact HAW.out _ (by first | exact HEF.out _ | exact HEF2.out _ _))
        · have ho2d : decide ((k : Int) < x.off + (x.dat.length : Int)) = false := decide_eq_false ho2
          have HOW : Hid (ownJ x.off.toNat x.dat k = false) := by show _ = _; unfold ownJ; have := HO.out; simp; omega
          have HS : Hid (∀ n, PutI w (wr.drewN n) s a c g d x xa xc a2 c2 (k + 1) k (.slice (some ⟨gb, 0, none⟩) s.byt.length cb) (.slice la (runs (covC s x) k).length lc)) := fun n => pt_skip (HQ.out.later (below_drewN (Below.refl _ _) _)) HOW.out
          cases hcv : cov s.got (k : Int) with
          | true =>
            have HCC : Hid (covC s x k = true) := by show _ = _; unfold covC; rw [hcv]; rfl
            have HIN2 : Hid (∀ W, Below w.heap.size w W → Calls Try.prog 26 #[.slice g s.got.length d, .int .i64 (k : Int)] W fun e w' => e = .returned (.bool true) ∧ ∃ n, w' = W.drewN n) := fun W hb => by rw [← hcv]; exact HIN.out W hb k
            go_wp2_with (go_at_call 26; refine (HIN2.out _ HQ.out.en.bel).mono ?_; rintro e w2 ⟨rfl, n2, rfl⟩)
            go_quiet (fail)
            go_wp2
            have HM : Hid (PutI w (wr.drewN (n2 + nq)) s a c g d x xa xc a2 c2 (k + 1) k (.slice (some ⟨gb, 0, none⟩) s.byt.length cb) (.slice la (runs (covC s x) k).length lc)) := HS.out (n2 + nq)
            generalize wr.drewN (n2 + nq) = wm at HM ⊢
            clear HS hbc hbf y0 y1 y2 y3 y4 y5 y6 y7 y8 z0 z1 z2 z3 z4 z5 z6 z7 z8 z9 z10 z11 z12 hkl
            have HRU := runs_is (u := s.byt.length) (covC s x) k (by omega)
            have HLN : Hid ((runs (covC s x) k).length ≤ 100000) := by
              rcases clsOk_len _ _ _ (Int.le_refl 0) HRU.1 with h | h
              · show _ ≤ _; omega
              · rw [h]; show (0 : Nat) ≤ _; omega
            have HAL : Hid (∀ r ∈ runs (covC s x) k, (0 ≤ r.1 ∧ r.1 ≤ 512) ∧ (0 ≤ r.2 ∧ r.2 ≤ 512)) := clsOk_all _ _ 0 (Int.le_refl 0) (by have := HTL.out; omega) HRU.1
            clear HRU
            cases hlast : (runs (covC s x) k).getLast? with
            | none =>
              have hz0 : (runs (covC s x) k).length = 0 := by rw [List.getLast?_eq_none_iff.1 hlast]; rfl
              have hg1 : decide ((0 : Int) < ((runs (covC s x) k).length : Int)) = false := decide_eq_false (by omega)
              have hg2 : decide (0 < (runs (covC s x) k).length) = false := decide_eq_false (by omega)
              have HNO : Hid (∀ r, (runs (covC s x) k).getLast? = some r → r.1 + r.2 ≠ (k : Int)) := fun r h => by rw [hlast] at h; cases h
              clear hz0
              have HOL : Hid (∀ n X, ((wm.drewN n).alloc X).ownsRow (w.heap.size + 3) 60 2 _ (runs (covC s x) k).length (ccells (runs (covC s x) k))) := fun n X => (HM.out.later (below_of (below_drewN (Below.refl _ wm) n) ((Below.refl _ _).alloc (Nat.le_refl _) X))).lst
              have HSZ : Hid (∀ n X, w.heap.size + 3 ≤ ((wm.drewN n).alloc X).heap.size) := fun n X => Nat.le_trans HM.out.en.size (below_of (below_drewN (Below.refl _ wm) n) ((Below.refl _ _).alloc (Nat.le_refl _) X)).size
              go_quiet (fail)
              go_wp2_with (at_builtin; refine wpList_append_one rfl _ _ rfl (w.heap.size + 3) _ (runs (covC s x) k) (by rfl) (HOL.out _ _) _ (k : Int) 1 (by rfl) (heap_alloc_new _ _) HLN.out (HSZ.out _ _) ?_; intro gn cn wn hon hfn _ _; have HPA : Hid _ := pt_app (kb := k + 1) HM.out HCC.out HNO.out (below_of (below_drewN (Below.refl _ wm) _) ((Below.refl _ _).alloc (Nat.le_refl _) _)) hfn hon; clear hon hfn)
              go_roundw
              case rel => repeat (first | exact ⟨k + 1, by omega, by go_num, HPA.out⟩ | refine ⟨_, ?_⟩)
              case measure => simp [intOf]; omega
            | some r =>
              obtain ⟨L, hL⟩ : ∃ L, (runs (covC s x) k).dropLast = L := ⟨_, rfl⟩
              have HLS : Hid (runs (covC s x) k = L ++ [r]) := by rw [← hL]; exact last_split hlast
              have hlen : (runs (covC s x) k).length = L.length + 1 := by rw [HLS.out]; simp
              obtain ⟨gl, rfl⟩ : ∃ gl, la = some ⟨gl, 0, none⟩ := by
                rcases HM.out.lst.2 with ⟨_, h⟩ | ⟨gl, cl, cur, h, _⟩
                · omega
                · cases h; exact ⟨gl, rfl⟩
              have hgl := HM.out.lst
              have hl1 := World.ownsRow.cellAt hgl (L.length * 2) (by omega)
              have hl2 := World.ownsRow.cellAt hgl (L.length * 2 + 1) (by omega)
              have hlf := World.ownsRow.frozenAt hgl (L.length * 2 + 1)
              obtain ⟨hc1, hc2⟩ := ccells_get (runs (covC s x) k) L.length (by omega)
              have hgr : (runs (covC s x) k)[L.length]'(by omega) = r := by simp only [HLS.out]; simp
              rw [hc1, hgr] at hl1
              rw [hc2, hgr] at hl2
              obtain ⟨⟨b1, b2⟩, b3, b4⟩ := HAL.out r (by rw [HLS.out]; simp)
              have hg1 : decide ((0 : Int) < ((runs (covC s x) k).length : Int)) = true := decide_eq_true (by omega)
              have hg2 : decide (0 < (runs (covC s x) k).length) = true := decide_eq_true (by omega)
              have hm1 : ((runs (covC s x) k).length : Int) - 1 = (L.length : Int) := by omega
              have hli : (L.length : Int) < ((runs (covC s x) k).length : Int) := by omega
              have HLE : Hid ((runs (covC s x) k).length = L.length + 1) := hlen
              have hlb : (L.length : Int) ≤ 100000 := by have := HLN.out; omega
              clear hgl hc1 hc2 hgr hlen hL
              by_cases hrk : r.1 + r.2 = (k : Int)
              · have hrb : (r.1 + r.2 == (k : Int)) = true := by simp [hrk]
                have HPI : Hid (∀ n, PutI w ((wm.drewN n).setCell ⟨gl, L.length * 2 + 1, none⟩ (.int .i64 (r.2 + 1))) s a c g d x xa xc a2 c2 (k + 1) (k + 1) (.slice (some ⟨gb, 0, none⟩) s.byt.length cb) (.slice (some ⟨gl, 0, none⟩) (runs (covC s x) k).length lc)) := fun n => by
                  have h1 := HM.out.later (below_drewN (Below.refl _ wm) n)
                  rw [HLE.out] at h1 ⊢
                  exact pt_inc h1 HCC.out HLS.out hrk
                clear hrk
                go_quiet (fail)
                go_wp2
                go_roundw
                case rel => repeat (first | exact ⟨k + 1, by omega, by go_num, HPI.out _⟩ | refine ⟨_, ?_⟩)
                case measure => simp [intOf]; omega
              · have hrb : (r.1 + r.2 == (k : Int)) = false := by simp [hrk]
                have HNO : Hid (∀ r, (runs (covC s x) k).getLast? = some r → r.1 + r.2 ≠ (k : Int)) := fun r' h => by rw [hlast] at h; cases h; exact hrk
                clear hrk
                have HOL : Hid (∀ n X, ((wm.drewN n).alloc X).ownsRow (w.heap.size + 3) 60 2 _ (runs (covC s x) k).length (ccells (runs (covC s x) k))) := fun n X => (HM.out.later (below_of (below_drewN (Below.refl _ wm) n) ((Below.refl _ _).alloc (Nat.le_refl _) X))).lst
                have HSZ : Hid (∀ n X, w.heap.size + 3 ≤ ((wm.drewN n).alloc X).heap.size) := fun n X => Nat.le_trans HM.out.en.size (below_of (below_drewN (Below.refl _ wm) n) ((Below.refl _ _).alloc (Nat.le_refl _) X)).size
                go_quiet (fail)
                go_wp2_with (at_builtin; refine wpList_append_one rfl _ _ rfl (w.heap.size + 3) _ (runs (covC s x) k) (by rfl) (HOL.out _ _) _ (k : Int) 1 (by rfl) (heap_alloc_new _ _) HLN.out (HSZ.out _ _) ?_; intro gn cn wn hon hfn _ _; have HPA : Hid _ := pt_app (kb := k + 1) HM.out HCC.out HNO.out (below_of (below_drewN (Below.refl _ wm) _) ((Below.refl _ _).alloc (Nat.le_refl _) _)) hfn hon; clear hon hfn)
                go_roundw
                case rel => repeat (first | exact ⟨k + 1, by omega, by go_num, HPA.out⟩ | refine ⟨_, ?_⟩)
                case measure => simp [intOf]; omega
          | false =>
            have HCC : Hid (covC s x k = false) := by show _ = _; unfold covC; rw [hcv, HOW.out]; rfl
            have HPN : Hid (∀ n, PutI w (wr.drewN n) s a c g d x xa xc a2 c2 (k + 1) (k + 1) (.slice (some ⟨gb, 0, none⟩) s.byt.length cb) (.slice la (runs (covC s x) k).length lc)) := fun n => pt_none (HS.out n) HCC.out
            have HIN2 : Hid (∀ W, Below w.heap.size w W → Calls Try.prog 26 #[.slice g s.got.length d, .int .i64 (k : Int)] W fun e w' => e = .returned (.bool false) ∧ ∃ n, w' = W.drewN n) := fun W hb => by rw [← hcv]; exact HIN.out W hb k
            go_wp2_with (go_at_call 26; refine (HIN2.out _ HQ.out.en.bel).mono ?_; rintro e w2 ⟨rfl, n2, rfl⟩)
            go_quiet (fail)
            go_wp2
            go_roundw
            case rel => repeat (first | exact ⟨k + 1, by omega, by go_num, HPN.out _⟩ | refine ⟨_, ?_⟩)
            case measure => simp [intOf]; omega
      · have ho1d : decide (x.off ≤ (k : Int)) = false := decide_eq_false ho1
        have HOW : Hid (ownJ x.off.toNat x.dat k = false) := by show _ = _; unfold ownJ; have := HO.out; simp; omega
        have HS : Hid (∀ n, PutI w (wr.drewN n) s a c g d x xa xc a2 c2 (k + 1) k (.slice (some ⟨gb, 0, none⟩) s.byt.length cb) (.slice la (runs (covC s x) k).length lc)) := fun n => pt_skip (HQ.out.later (below_drewN (Below.refl _ _) _)) HOW.out
        cases hcv : cov s.got (k : Int) with
        | true =>
          have HCC : Hid (covC s x k = true) := by show _ = _; unfold covC; rw [hcv]; rfl
          have HIN2 : Hid (∀ W, Below w.heap.size w W → Calls Try.prog 26 #[.slice g s.got.length d, .int .i64 (k : Int)] W fun e w' => e = .returned (.bool true) ∧ ∃ n, w' = W.drewN n) := fun W hb => by rw [← hcv]; exact HIN.out W hb k
          go_wp2_with (go_at_call 26; refine (HIN2.out _ HQ.out.en.bel).mono ?_; rintro e w2 ⟨rfl, n2, rfl⟩)
          go_quiet (fail)
          go_wp2
          have HM : Hid (PutI w (wr.drewN (n2 + nq)) s a c g d x xa xc a2 c2 (k + 1) k (.slice (some ⟨gb, 0, none⟩) s.byt.length cb) (.slice la (runs (covC s x) k).length lc)) := HS.out (n2 + nq)
          generalize wr.drewN (n2 + nq) = wm at HM ⊢
          clear HS hbc hbf y0 y1 y2 y3 y4 y5 y6 y7 y8 z0 z1 z2 z3 z4 z5 z6 z7 z8 z9 z10 z11 z12 hkl
          have HRU := runs_is (u := s.byt.length) (covC s x) k (by omega)
          have HLN : Hid ((runs (covC s x) k).length ≤ 100000) := by
            rcases clsOk_len _ _ _ (Int.le_refl 0) HRU.1 with h | h
            · show _ ≤ _; omega
            · rw [h]; show (0 : Nat) ≤ _; omega
          have HAL : Hid (∀ r ∈ runs (covC s x) k, (0 ≤ r.1 ∧ r.1 ≤ 512) ∧ (0 ≤ r.2 ∧ r.2 ≤ 512)) := clsOk_all _ _ 0 (Int.le_refl 0) (by have := HTL.out; omega) HRU.1
          clear HRU
          cases hlast : (runs (covC s x) k).getLast? with
          | none =>
            have hz0 : (runs (covC s x) k).length = 0 := by rw [List.getLast?_eq_none_iff.1 hlast]; rfl
            have hg1 : decide ((0 : Int) < ((runs (covC s x) k).length : Int)) = false := decide_eq_false (by omega)
            have hg2 : decide (0 < (runs (covC s x) k).length) = false := decide_eq_false (by omega)
            have HNO : Hid (∀ r, (runs (covC s x) k).getLast? = some r → r.1 + r.2 ≠ (k : Int)) := fun r h => by rw [hlast] at h; cases h
            clear hz0
            have HOL : Hid (∀ n X, ((wm.drewN n).alloc X).ownsRow (w.heap.size + 3) 60 2 _ (runs (covC s x) k).length (ccells (runs (covC s x) k))) := fun n X => (HM.out.later (below_of (below_drewN (Below.refl _ wm) n) ((Below.refl _ _).alloc (Nat.le_refl _) X))).lst
            have HSZ : Hid (∀ n X, w.heap.size + 3 ≤ ((wm.drewN n).alloc X).heap.size) := fun n X => Nat.le_trans HM.out.en.size (below_of (below_drewN (Below.refl _ wm) n) ((Below.refl _ _).alloc (Nat.le_refl _) X)).size
            go_quiet (fail)
            go_wp2_with (at_builtin; refine wpList_append_one rfl _ _ rfl (w.heap.size + 3) _ (runs (covC s x) k) (by rfl) (HOL.out _ _) _ (k : Int) 1 (by rfl) (heap_alloc_new _ _) HLN.out (HSZ.out _ _) ?_; intro gn cn wn hon hfn _ _; have HPA : Hid _ := pt_app (kb := k + 1) HM.out HCC.out HNO.out (below_of (below_drewN (Below.refl _ wm) _) ((Below.refl _ _).alloc (Nat.le_refl _) _)) hfn hon; clear hon hfn)
            go_roundw
            case rel => repeat (first | exact ⟨k + 1, by omega, by go_num, HPA.out⟩ | refine ⟨_, ?_⟩)
            case measure => simp [intOf]; omega
          | some r =>
            obtain ⟨L, hL⟩ : ∃ L, (runs (covC s x) k).dropLast = L := ⟨_, rfl⟩
            have HLS : Hid (runs (covC s x) k = L ++ [r]) := by rw [← hL]; exact last_split hlast
            have hlen : (runs (covC s x) k).length = L.length + 1 := by rw [HLS.out]; simp
            obtain ⟨gl, rfl⟩ : ∃ gl, la = some ⟨gl, 0, none⟩ := by
              rcases HM.out.lst.2 with ⟨_, h⟩ | ⟨gl, cl, cur, h, _⟩
              · omega
              · cases h; exact ⟨gl, rfl⟩
            have hgl := HM.out.lst
            have hl1 := World.ownsRow.cellAt hgl (L.length * 2) (by omega)
            have hl2 := World.ownsRow.cellAt hgl (L.length * 2 + 1) (by omega)
            have hlf := World.ownsRow.frozenAt hgl (L.length * 2 + 1)
            obtain ⟨hc1, hc2⟩ := ccells_get (runs (covC s x) k) L.length (by omega)
            have hgr : (runs (covC s x) k)[L.length]'(by omega) = r := by simp only [HLS.out]; simp
            rw [hc1, hgr] at hl1
            rw [hc2, hgr] at hl2
            obtain ⟨⟨b1, b2⟩, b3, b4⟩ := HAL.out r (by rw [HLS.out]; simp)
            have hg1 : decide ((0 : Int) < ((runs (covC s x) k).length : Int)) = true := decide_eq_true (by omega)
            have hg2 : decide (0 < (runs (covC s x) k).length) = true := decide_eq_true (by omega)
            have hm1 : ((runs (covC s x) k).length : Int) - 1 = (L.length : Int) := by omega
            have hli : (L.length : Int) < ((runs (covC s x) k).length : Int) := by omega
            have HLE : Hid ((runs (covC s x) k).length = L.length + 1) := hlen
            have hlb : (L.length : Int) ≤ 100000 := by have := HLN.out; omega
            clear hgl hc1 hc2 hgr hlen hL
            by_cases hrk : r.1 + r.2 = (k : Int)
            · have hrb : (r.1 + r.2 == (k : Int)) = true := by simp [hrk]
              have HPI : Hid (∀ n, PutI w ((wm.drewN n).setCell ⟨gl, L.length * 2 + 1, none⟩ (.int .i64 (r.2 + 1))) s a c g d x xa xc a2 c2 (k + 1) (k + 1) (.slice (some ⟨gb, 0, none⟩) s.byt.length cb) (.slice (some ⟨gl, 0, none⟩) (runs (covC s x) k).length lc)) := fun n => by
                have h1 := HM.out.later (below_drewN (Below.refl _ wm) n)
                rw [HLE.out] at h1 ⊢
                exact pt_inc h1 HCC.out HLS.out hrk
              clear hrk
              go_quiet (fail)
              go_wp2
              go_roundw
              case rel => repeat (first | exact ⟨k + 1, by omega, by go_num, HPI.out _⟩ | refine ⟨_, ?_⟩)
              case measure => simp [intOf]; omega
            · have hrb : (r.1 + r.2 == (k : Int)) = false := by simp [hrk]
              have HNO : Hid (∀ r, (runs (covC s x) k).getLast? = some r → r.1 + r.2 ≠ (k : Int)) := fun r' h => by rw [hlast] at h; cases h; exact hrk
              clear hrk
              have HOL : Hid (∀ n X, ((wm.drewN n).alloc X).ownsRow (w.heap.size + 3) 60 2 _ (runs (covC s x) k).length (ccells (runs (covC s x) k))) := fun n X => (HM.out.later (below_of (below_drewN (Below.refl _ wm) n) ((Below.refl _ _).alloc (Nat.le_refl _) X))).lst
              have HSZ : Hid (∀ n X, w.heap.size + 3 ≤ ((wm.drewN n).alloc X).heap.size) := fun n X => Nat.le_trans HM.out.en.size (below_of (below_drewN (Below.refl _ wm) n) ((Below.refl _ _).alloc (Nat.le_refl _) X)).size
              go_quiet (fail)
              go_wp2_with (at_builtin; refine wpList_append_one rfl _ _ rfl (w.heap.size + 3) _ (runs (covC s x) k) (by rfl) (HOL.out _ _) _ (k : Int) 1 (by rfl) (heap_alloc_new _ _) HLN.out (HSZ.out _ _) ?_; intro gn cn wn hon hfn _ _; have HPA : Hid _ := pt_app (kb := k + 1) HM.out HCC.out HNO.out (below_of (below_drewN (Below.refl _ wm) _) ((Below.refl _ _).alloc (Nat.le_refl _) _)) hfn hon; clear hon hfn)
              go_roundw
              case rel => repeat (first | exact ⟨k + 1, by omega, by go_num, HPA.out⟩ | refine ⟨_, ?_⟩)
              case measure => simp [intOf]; omega
        | false =>
          have HCC : Hid (covC s x k = false) := by show _ = _; unfold covC; rw [hcv, HOW.out]; rfl
          have HPN : Hid (∀ n, PutI w (wr.drewN n) s a c g d x xa xc a2 c2 (k + 1) (k + 1) (.slice (some ⟨gb, 0, none⟩) s.byt.length cb) (.slice la (runs (covC s x) k).length lc)) := fun n => pt_none (HS.out n) HCC.out
          have HIN2 : Hid (∀ W, Below w.heap.size w W → Calls Try.prog 26 #[.slice g s.got.length d, .int .i64 (k : Int)] W fun e w' => e = .returned (.bool false) ∧ ∃ n, w' = W.drewN n) := fun W hb => by rw [← hcv]; exact HIN.out W hb k
          go_wp2_with (go_at_call 26; refine (HIN2.out _ HQ.out.en.bel).mono ?_; rintro e w2 ⟨rfl, n2, rfl⟩)
          go_quiet (fail)
          go_wp2
          go_roundw
          case rel => repeat (first | exact ⟨k + 1, by omega, by go_num, HPN.out _⟩ | refine ⟨_, ?_⟩)
          case measure => simp [intOf]; omega
    · have hkT : k = s.byt.length := by have := HTB.out; omega
      subst hkT
      obtain ⟨hrp, W3, hW3, q1, q2, q3, q4⟩ := pt_fin HQ.out HOK.out.1 HOK.out.2.1 HOK.out.2.2 HC.out HXC.out
      subst hW3
      have hz1 := frozen_of HQ.out.en.one 3
      have hz2 := frozen_of HQ.out.en.one 4
      obtain ⟨cs, hcs⟩ : ∃ cs, Hid (cs = kcells (putG s x) (some ⟨gb, 0, none⟩) cb la lc) := ⟨_, rfl⟩
      have hs9 : (Try.prog.info? 26).map (·.size) = some 9 := by kernel_rfl
      have hl9 : cs.length = 9 := by rw [hcs.out]; rfl
      have hsz : (Try.prog.info? 26).map (·.size) = some cs.length := by rw [hl9]; exact hs9
      have hsz2 : (Try.prog.info? 26).map (·.size) = some cs.toArray.size := by rw [show cs.toArray.size = 9 from hl9]; exact hs9
      have HRS : Hid (((wr.setCell ⟨w.heap.size, 3, none⟩ (.slice (some ⟨gb, 0, none⟩) s.byt.length cb)).setCell ⟨w.heap.size, 4, none⟩ (.slice la (runs (covC s x) s.byt.length).length lc)).rangeAt w.heap.size 0 cs) := by rw [hcs.out]; exact q1
      have HZZ := res_store q3 q2 (by omega) (putG s x) (some ⟨gb, 0, none⟩) cb la lc
      rw [← hcs.out] at HZZ
      have HAN : Hid (∃ a' c' g' d', Ending.returned (.tuple #[.agg cs.toArray, .bool true]) = .returned (.tuple #[.agg (kcells (rputK s x).1 a' c' g' d').toArray, .bool (rputK s x).2]) ∧ Hid (Below w.heap.size w (((wr.setCell ⟨w.heap.size, 3, none⟩ (.slice (some ⟨gb, 0, none⟩) s.byt.length cb)).setCell ⟨w.heap.size, 4, none⟩ (.slice la (runs (covC s x) s.byt.length).length lc)).setCells (w.heap.size + 1 + 1) 0 cs) ∧ CameK (((wr.setCell ⟨w.heap.size, 3, none⟩ (.slice (some ⟨gb, 0, none⟩) s.byt.length cb)).setCell ⟨w.heap.size, 4, none⟩ (.slice la (runs (covC s x) s.byt.length).length lc)).setCells (w.heap.size + 1 + 1) 0 cs) (rputK s x).1 a' c' g' d')) := by
        rw [hrp, hcs.out]
        refine ⟨_, _, _, _, rfl, ?_⟩
        obtain ⟨hz, ho⟩ := HZZ.2.2.2.out
        rw [hcs.out] at hz ho
        obtain ⟨r1, r2, r3⟩ := put_rows HOK.out.1 HOK.out.2.1 HOK.out.2.2
        have hB : (putG s x).byt.length = s.byt.length := putB_len (by have := HO.out; omega)
        have h0 := HC.out
        obtain ⟨p1, p2, p3, p4⟩ := kn_rows (q4.off ho (fun k e => by have : k = w.heap.size + 1 + 1 := e; omega)) (by rw [hB]; exact Nat.le_trans h0.lb.1 h0.lb.2)
        have hgl := clsOk_len _ _ _ (Int.le_refl 0) r3
        have hgi := clsOk_all _ _ _ (Int.le_refl 0) ht2 r3
        exact ⟨hz, ⟨p1, p2, p3, p4, by rw [hB]; exact h0.zb, by show (tog s.got x.off x.dat.length).length ≤ _; rcases hgl with h | h; omega; rw [h]; simp, fun c hcm => by have := hgi c hcm; unfold in64; omega, h0.src, h0.ses, h0.tot, h0.ser, h0.sta, h0.lif, h0.due⟩⟩
      clear y0 y1 y5 y6 y7 y8 z0 z1 z2 z3 z4 z5 z6 z7 z8 z9 z10 z11 z12 q1 q2 q3 q4 hrp
      go_wp2_with (first | (refine wpList_load_mid rfl 26 _ rfl w.heap.size 0 (by rfl) cs _ HRS.out Try.underlying26 rfl hsz ?_) | (refine wpList_store_mid rfl 26 _ _ rfl (w.heap.size + 1 + 1) 0 cs.toArray (by rfl) (by rfl) HZZ.1.out hsz2 HZZ.2.1.out ?_))
      exact bodyPost_ret (results_cell2 rfl _ _ (w.heap.size + 1 + 1) 0 (by rfl) cs _ HZZ.2.2.1.out Try.underlying26 rfl hsz) rfl (by
        show ∃ a' c' g' d', Ending.returned (.tuple #[.agg cs.toArray, .bool true]) = _ ∧ _
        exact HAN.out)
end Go.Proofs.Ytlhgjhbbiohcnaa
