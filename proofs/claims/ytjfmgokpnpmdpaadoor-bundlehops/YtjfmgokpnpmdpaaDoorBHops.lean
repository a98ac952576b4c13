/- The walk of BundleHops. -/
import Derived.Test.YtjfmgokpnpmdpaaDoorBCopy
namespace Go.Proofs.YtjfmgokpnpmdpaaDoor
open Go.RowKit
set_option linter.unusedVariables false
set_option maxRecDepth 20000 in
set_option maxHeartbeats 8000000 in
theorem hops_big (V : List Nat → Bool) (TB : World → Prop) (hT : Txt V TB) (w : World) (b : Bn) (a : Option Addr) (c : Nat) (hops : Int) (hw : TB w) (h1 : 1 < w.heap.size) (hb : Came w b a c) (hbig : 5000 < b.pay.length) :
    Calls Tryd.prog 7 #[bv b a c, .int .i64 hops] w fun e w' => e = .returned (.bool true) ∧ Hid (Below w.heap.size w w') := by
  have HB : Hid (∀ (w : World) (X : Obj), Below w.heap.size w (w.alloc X)) := fun w X => (Below.refl _ w).alloc (Nat.le_refl _) X
  have HWK : Hid (∀ X, Calls Tryd.prog 9 #[] (w.alloc X) fun e w' => e = .returned (.bool true) ∧ Hid (Below (w.alloc X).heap.size (w.alloc X) w')) := fun X => wakes_any V TB hT _ (hT.later _ _ hw (HB.out w X)) (by simp; omega)
  have hz1 := hb.fit.pay
  clear hT hw hb
  go_enter Tryd.func7, Tryd.ntmps7
  go_wp2_with (go_at_call 9; refine (HWK.out _).mono ?_; rintro e w1 ⟨rfl, hb1⟩; obtain ⟨e0, e1, e2, e3, e4, e5, e6, e7, e8, e9, e10⟩ := bcells (old_block hb1.out (heap_alloc_new w _)))
  go_ret
  exact ⟨rfl, below_of (HB.out w _) hb1.out⟩
theorem cntD_le (x y : List Nat) : ∀ k, cntD x y k ≤ k
  | 0 => Nat.le_refl _
  | k + 1 => by
    have := cntD_le x y k
    rw [cntD]
    split <;> omega
theorem fit_hop {b : Bn} (h : Bz b) {x : Int} (hx : in64 x) : Bz { b with hop := x } := ⟨h.src, h.dst, h.seq, h.cre, h.lif, h.lim, hx, h.pri, h.off, h.tot, h.pay⟩
set_option maxRecDepth 20000 in
set_option maxHeartbeats 8000000 in
theorem hops_small (V : List Nat → Bool) (TB : World → Prop) (hT : Txt V TB) (w : World) (b : Bn) (a : Option Addr) (c : Nat) (hops : Int) (hh : in64 hops) (hw : TB w) (h1 : 1 < w.heap.size) (hb : Came w b a c) (hs1 : b.pay.length ≤ 5000) :
    Calls Tryd.prog 7 #[bv b a c, .int .i64 hops] w fun e w' => e = .returned (.bool true) ∧ Hid (Below w.heap.size w w') := by
  have HB : Hid (∀ (w : World) (X : Obj), Below w.heap.size w (w.alloc X)) := fun w X => (Below.refl _ w).alloc (Nat.le_refl _) X
  have HWK : Hid (∀ X, Calls Tryd.prog 9 #[] (w.alloc X) fun e w' => e = .returned (.bool true) ∧ Hid (Below (w.alloc X).heap.size (w.alloc X) w')) := fun X => wakes_any V TB hT _ (hT.later _ _ hw (HB.out w X)) (by simp; omega)
  have HTB : Hid (∀ W, Below w.heap.size w W → TB W) := fun W hb => hT.later _ _ hw hb
  have HEN : Hid (∀ W y ay cy, Below w.heap.size w W → Came W y ay cy → Calls Tryd.prog 10 #[bv y ay cy] W fun e w' => Enc9 y W e w') := fun W y ay cy hb hy => encode9_any V TB hT y W ay cy hy.fit (HTB.out _ hb) hy.row hy.le hy.cap
  have HCM : Hid (Came w b a c) := hb
  have HHH : Hid (in64 hops) := hh
  clear hT hw hb hh
  go_enter Tryd.func7, Tryd.ntmps7
  go_wp2_with (first
    | (go_at_call 9; refine (HWK.out _).mono ?_; rintro e w1 ⟨rfl, hb1⟩; have HP : Hid (w1.heap[w.heap.size]? = some (bc b a c) ∧ Below w.heap.size w w1) := ⟨old_block hb1.out (heap_alloc_new w _), below_of (HB.out w _) hb1.out⟩; obtain ⟨e0, e1, e2, e3, e4, e5, e6, e7, e8, e9, e10⟩ := bcells (old_block hb1.out (heap_alloc_new w _)))
    | (go_at_call 11; refine (copied_any b a c _ (HCM.out.later HP.out.2)).mono ?_; rintro e w2 ⟨a2, c2, rfl, hq2⟩; have g9 := (fun X => bcells (old_block (below_of hq2.out.2 (HB.out w2 X)) HP.out.1)); have f0 := (fun X => (g9 X).1); have f1 := (fun X => (g9 X).2.1); have f2 := (fun X => (g9 X).2.2.1); have f3 := (fun X => (g9 X).2.2.2.1); have f4 := (fun X => (g9 X).2.2.2.2.1); have f5 := (fun X => (g9 X).2.2.2.2.2.1); have f6 := (fun X => (g9 X).2.2.2.2.2.2.1); have f7 := (fun X => (g9 X).2.2.2.2.2.2.2.1); have f8 := (fun X => (g9 X).2.2.2.2.2.2.2.2.1); have f9 := (fun X => (g9 X).2.2.2.2.2.2.2.2.2.1); have f10 := (fun X => (g9 X).2.2.2.2.2.2.2.2.2.2); clear g9))
  have HBC : Hid (Below w.heap.size w (w2.alloc (bc { b with hop := hops } a2 c2))) := below_of (below_of HP.out.2 hq2.out.2) (HB.out w2 _)
  have HDC : Hid (∀ W, Below (w2.alloc (bc { b with hop := hops } a2 c2)).heap.size (w2.alloc (bc { b with hop := hops } a2 c2)) W → W.heap[w2.heap.size]? = some (bc { b with hop := hops } a2 c2) ∧ Came W { b with hop := hops } a2 c2) := fun W h => ⟨old_block h (heap_alloc_new w2 _), fit_hop hq2.out.1.fit HHH.out, hq2.out.1.row.later (below_of (HB.out w2 _) h), hq2.out.1.le, hq2.out.1.cap⟩
  refine (HEN.out _ b a c HBC.out (HCM.out.later HBC.out)).mono ?_
  intro e w3 he3
  unfold Enc9 at he3
  rcases he3 with ⟨hok, a3, c3, rfl, hq3⟩ | ⟨hok, rfl, hq3⟩
  · obtain ⟨g0, g1, g2, g3, g4, g5, g6, g7, g8, g9, g10⟩ := bcells (HDC.out w3 hq3.out.2.2.2.2).1
    clear e0 e1 e2 e3 e4 e5 e6 e7 e8 e9 e10 f0 f1 f2 f3 f4 f5 f6 f7 f8 f9 f10
    go_wp2_with fail
    refine (HEN.out _ { b with hop := hops } a2 c2 (below_of HBC.out hq3.out.2.2.2.2) (HDC.out w3 hq3.out.2.2.2.2).2).mono ?_
    intro e w4 he4
    unfold Enc9 at he4
    clear g0 g1 g2 g3 g4 g5 g6 g7 g8 g9 g10
    rcases he4 with ⟨hok2, a4, c4, rfl, hq4⟩ | ⟨hok2, rfl, hq4⟩
    · have hl1 := encB_len b hok
      obtain ⟨hlen, hcnt⟩ := hop_cnt b hops hok hok2
      have HX : Hid (Row w4 a3 (encB b) ∧ Row w4 a4 (encB { b with hop := hops })) := ⟨hq3.out.1.later hq4.out.2.2.2.2, hq4.out.1⟩
      have HCN : Hid (cntD (encB b) (encB { b with hop := hops }) (encB b).length = if b.hop = hops then 0 else 1) := hcnt
      have h0 := enc_len 4 4 (itemB b) (okItem (fun _ => true) b hok) (Nat.le_refl _)
      have HB4 : Hid (Below w.heap.size w w4) := below_of (below_of HBC.out hq3.out.2.2.2.2) hq4.out.2.2.2.2
      have HLE : Hid ((encB { b with hop := hops }).length = (encB b).length) := hlen
      have hbh : w4.cell? ⟨w.heap.size, 6, none⟩ = some (.int .i64 b.hop) := (bcells (old_block (below_of (below_of (below_of hq2.out.2 (HB.out w2 _)) hq3.out.2.2.2.2) hq4.out.2.2.2.2) HP.out.1)).2.2.2.2.2.2.1
      rw [hlen]
      clear hok hok2 hcnt hlen
      have h0' : 0 < (encB b).length := h0
      clear h0
      generalize encB { b with hop := hops } = Y at HX HCN HLE
      generalize encB b = X at HX HCN HLE hl1 h0' ⊢
      go_wp2_with fail
      go_loopw [10, 40] (fun v i wr => ∃ k : Nat, k ≤ X.length ∧ i = .int .i64 k ∧ v = .int .i64 (cntD X Y k : Nat) ∧ ∃ n, wr = w4.drewN n) (fun _ i _ => X.length - (intOf i).toNat)
      case atStart => exact ⟨0, Nat.zero_le _, rfl, rfl, 0, rfl⟩
      case round =>
        obtain ⟨k, hk, rfl, rfl, nd, rfl⟩ := hrel
        by_cases hkl : k < X.length
        · obtain ⟨g3, o3, rfl, hx3⟩ := HX.out.1.2.2 (by omega)
          obtain ⟨g4, o4, rfl, hx4⟩ := HX.out.2.2.2 (by rw [HLE.out]; omega)
          have q3 := hx3 k hkl
          have q4 := hx4 k (by rw [HLE.out]; exact hkl)
          have hb1' : X.getD k 0 < 256 := getD_lt HX.out.1.1 k
          have hb2' : Y.getD k 0 < 256 := getD_lt HX.out.2.1 k
          have hge : decide ((X.length : Int) ≤ (k : Int)) = false := decide_eq_false (by omega)
          have hcl : cntD X Y k ≤ k := cntD_le X Y k
          by_cases he : X.getD k 0 = Y.getD k 0
          · have HS : Hid (cntD X Y (k + 1) = cntD X Y k) := by show _ = _; rw [cntD, if_neg (by rw [HLE.out]; intro h; rcases h with h | h; omega; exact h he)]; rfl
            rw [he] at q3
            have hne : (((Y.getD k 0 : Nat) : Int) != ((Y.getD k 0 : Nat) : Int)) = false := by simp
            clear hx3 hx4 he
            generalize Y.getD k 0 = y at q3 q4 hne hb2'
            generalize cntD X Y k = cn at HS hcl ⊢
            go_wp2_with fail
            go_quiet (fail)
            go_wp2
            go_roundw
            case rel => exact ⟨k + 1, by omega, by go_num, by rw [HS.out], nd + nq, rfl⟩
            case measure => simp [intOf]; omega
          · have HS : Hid (cntD X Y (k + 1) = cntD X Y k + 1) := by show _ = _; rw [cntD, if_pos (.inr he)]
            have hne : (((X.getD k 0 : Nat) : Int) != ((Y.getD k 0 : Nat) : Int)) = true := by rw [bne_iff_ne]; omega
            clear hx3 hx4 he
            generalize X.getD k 0 = x at q3 hne hb1'
            generalize Y.getD k 0 = y at q4 hne hb2'
            generalize cntD X Y k = cn at HS hcl ⊢
            go_wp2_with fail
            go_quiet (fail)
            go_wp2
            go_roundw
            case rel => exact ⟨k + 1, by omega, by go_num, by rw [HS.out]; go_num, nd + nq, rfl⟩
            case measure => simp [intOf]; omega
        · obtain rfl : k = X.length := by omega
          rw [HCN.out]
          by_cases hh : b.hop = hops
          · rw [if_pos hh]
            have hhb : (b.hop == hops) = true := by simpa using hh
            clear hh
            go_wp2
            go_ret
            exact ⟨rfl, below_drewN HB4.out nd⟩
          · rw [if_neg hh]
            have hhb : (b.hop == hops) = false := by simpa using hh
            clear hh
            go_wp2
            go_ret
            exact ⟨rfl, below_drewN HB4.out nd⟩
    · clear hok hok2
      go_wp2
      go_ret
      exact ⟨rfl, below_of (below_of HBC.out hq3.out.2.2.2.2) hq4.out⟩
  · obtain ⟨g0, g1, g2, g3, g4, g5, g6, g7, g8, g9, g10⟩ := bcells (HDC.out w3 hq3.out).1
    clear e0 e1 e2 e3 e4 e5 e6 e7 e8 e9 e10 f0 f1 f2 f3 f4 f5 f6 f7 f8 f9 f10 hok
    go_wp2_with fail
    refine (HEN.out _ { b with hop := hops } a2 c2 (below_of HBC.out hq3.out) (HDC.out w3 hq3.out).2).mono ?_
    intro e w4 he4
    unfold Enc9 at he4
    clear g0 g1 g2 g3 g4 g5 g6 g7 g8 g9 g10
    rcases he4 with ⟨hok2, a4, c4, rfl, hq4⟩ | ⟨hok2, rfl, hq4⟩
    · clear hok2
      go_wp2
      go_ret
      exact ⟨rfl, below_of (below_of HBC.out hq3.out) hq4.out.2.2.2.2⟩
    · clear hok2
      go_wp2
      go_ret
      exact ⟨rfl, below_of (below_of HBC.out hq3.out) hq4.out⟩
theorem hops_any (V : List Nat → Bool) (TB : World → Prop) (hT : Txt V TB) (w : World) (b : Bn) (a : Option Addr) (c : Nat) (hops : Int) (hh : -9223372036854775808 ≤ hops ∧ hops ≤ 9223372036854775807) (hw : TB w) (h1 : 1 < w.heap.size) (hb : Came w b a c) :
    Calls Tryd.prog 7 #[bv b a c, .int .i64 hops] w fun e w' => e = .returned (.bool true) ∧ Hid (Below w.heap.size w w') := by
  by_cases h5 : 5000 < b.pay.length
  · exact hops_big V TB hT w b a c hops hw h1 hb h5
  · exact hops_small V TB hT w b a c hops hh hw h1 hb (by omega)
end Go.Proofs.YtjfmgokpnpmdpaaDoor
