/- ReceiverOver: a session that is over says nothing but what a cancel asks for. -/
import Derived.Test.YtfnkbjfjekfdnaaVWakes
import Derived.Test.YtfnkbjfjekfdnaaVOvP
import Derived.Test.YtfnkbjfjekfdnaaVOpen
import Derived.Test.YtfnkbjfjekfdnaaVLarge
import Derived.Deep.RegionHeld3
import Derived.Deep.CutRange
namespace Go.Proofs.Ytfnkbjfjekfdnaa
open Go.RowKit
set_option linter.unusedVariables false
abbrev zsg : Obj := .cells #[.int .i64 0, .int .i64 0, .int .u32 0, .int .u32 0, .int .u32 0, .int .i64 0, .int .i64 0, .int .i64 0, .int .i64 0, .int .i64 0, .bool false, .slice none 0 0, .slice none 0 0] 28
def noS : Sg := ⟨0, 0, 0, 0, 0, 0, 0, 0, 0, 0, false, [], []⟩
/-- where the loop stands. -/
def OvI (w wr : World) (s : Tk) : Prop := ∃ q a c g d, (0 ≤ q ∧ q ≤ 1114112) ∧ wr.heap[w.heap.size]? = some (kc (ovS s q) a c g d) ∧ CameK wr (ovS s q) a c g d ∧ Below w.heap.size w wr
theorem in64_mid {q : Int} (h0 : 0 ≤ q) (h1 : q ≤ 1114112) : in64 q := by unfold in64; omega
theorem came_over {w W : World} {s : Tk} {a : Option Addr} {c : Nat} {g : Option Addr} {d : Nat} (h : CameK w s a c g d) (hb : Below w.heap.size w W) {q : Int} (h0 : 0 ≤ q) (h1 : q ≤ 1114112) : CameK W (ovS s q) a c g d :=
  have k := h.later hb
  ⟨k.byt, k.got, k.lb, k.lg, k.zb, k.zg, k.gin, k.src, k.ses, k.tot, k.ser, by show in64 4; unfold in64; omega, k.lif, in64_mid h0 h1⟩
theorem ov_start {w w3 : World} {s : Tk} {a : Option Addr} {c : Nat} {g : Option Addr} {d : Nat} (hb : Below w.heap.size w w3) (h : w3.heap[w.heap.size]? = some (kc s a c g d)) (hc : CameK w s a c g d) (hok : okK s = true) : OvI w (w3.setCell ⟨w.heap.size, 6, none⟩ (.int .i64 4)) s := by
  obtain ⟨⟨d0, d1⟩, _⟩ := due_ok hok
  have ho : Off (fun i => i = w.heap.size) w3 (w3.setCell ⟨w.heap.size, 6, none⟩ (.int .i64 4)) := (Off.refl (fun i => i = w.heap.size) w3).setCell (p := ⟨w.heap.size, 6, none⟩) (.inr rfl) _
  have hb2 : Below w.heap.size w (w3.setCell ⟨w.heap.size, 6, none⟩ (.int .i64 4)) := hb.trans (ho.below hb.size (fun i e => by have : i = w.heap.size := e; omega))
  refine ⟨s.due, a, c, g, d, ⟨d0, d1⟩, ?_, came_over hc hb2 d0 d1, hb2⟩
  rw [heap_setCell_same _ _ _ _ _ _ h]
  rfl
theorem ov_set {w w5 : World} {n : Nat} {s : Tk} {a : Option Addr} {c : Nat} {g : Option Addr} {d : Nat} {w0 : World} {P : Int} {a5 : Option Addr} {c5 : Nat} {g5 : Option Addr} {d5 : Nat} {zs : List Value} (hc : CameK w0 s a c g d) (hp0 : 0 ≤ P) (hp1 : P ≤ 1114112) (hb : Below w.heap.size w w5) (hk : KN n w5 (ovS s P) a5 c5 g5 d5) (hn : w.heap.size < n) (hz : zs.length = 9) (hbx : w5.heap[w.heap.size]? = some (.cells zs.toArray 26 (0, 0))) (A : Obj) : OvI w ((w5.alloc A).setCells w.heap.size 0 (kcells (ovS s P) a5 c5 g5 d5)) s := by
  have hba : Below w5.heap.size w5 (w5.alloc A) := (Below.refl _ w5).alloc (Nat.le_refl _) A
  have ho := setC_off (w5.alloc A) w.heap.size 0 (kcells (ovS s P) a5 c5 g5 d5)
  have hk2 := (hk.later hba).off ho (fun k e => by have : k = w.heap.size := e; omega)
  obtain ⟨h1, h2, h3, h4⟩ := kn_rows hk2 (Nat.le_trans hc.lb.1 hc.lb.2)
  have hb2 : Below w.heap.size w (w5.alloc A) := below_of hb hba
  exact ⟨P, a5, c5, g5, d5, ⟨hp0, hp1⟩, block_stored (zs := zs) (old_block hba hbx) (by rw [hz]; rfl), ⟨h1, h2, h3, h4, hc.zb, hc.zg, hc.gin, hc.src, hc.ses, hc.tot, hc.ser, by show in64 4; unfold in64; omega, hc.lif, in64_mid hp0 hp1⟩, hb2.trans (ho.below hb2.size (fun i e => by have : i = w.heap.size := e; omega))⟩
theorem OvI.later {w wr wx : World} {s : Tk} (h : OvI w wr s) (hb : Below wr.heap.size wr wx) : OvI w wx s := by
  obtain ⟨q, a, c, g, d, h1, h2, h3, h4⟩ := h
  exact ⟨q, a, c, g, d, h1, old_block hb h2, h3.later hb, below_of h4 hb⟩
theorem sg_there {W : World} {b : Nat} {s : Sg} {a : Option Addr} {c : Nat} {a2 : Option Addr} {c2 : Nat} (h : W.heap[b]? = some (sc s a c a2 c2)) : W.there b 0 13 := by
  intro j hj
  rw [Nat.zero_add]
  refine ⟨?_, frozen_of h j⟩
  rw [cell_of h, Array.getElem?_eq_getElem (by simpa using hj)]
  rfl
theorem size_one {W : World} {n : Nat} {o : Obj} (h : W.heap[n]? = some o) : n < W.heap.size := by
  by_cases c : n < W.heap.size
  · exact c
  · rw [Array.getElem?_eq_none (by omega)] at h; cases h
theorem kq_there {W : World} {b : Nat} {s s2 : Tk} {a a2 : Option Addr} {c c2 : Nat} {g g2 : Option Addr} {d d2 : Nat} (h : W.heap[b]? = some (kc s a c g d)) : Hid (W.there b 0 (kcells s2 a2 c2 g2 d2).toArray.size) := by
  show W.there b 0 9
  intro j hj
  rw [Nat.zero_add]
  refine ⟨?_, frozen_of h j⟩
  rw [cell_of h, Array.getElem?_eq_getElem (by simpa using hj)]
  rfl
theorem sx_one (x : SX) : x.cells.toArray.all (·.oneCell') = true := by simp [SX.cells, Value.oneCell']
theorem sg_stored (wr : World) (ct : List Value) (h : ct.length = 13) : Below wr.heap.size wr ((wr.alloc zsg).setCells wr.heap.size 0 ct) ∧ ((wr.alloc zsg).setCells wr.heap.size 0 ct).heap[wr.heap.size]? = some (.cells ct.toArray 28 (0, 0)) := by
  have ho := setC_off (wr.alloc zsg) wr.heap.size 0 ct
  have hb : Below wr.heap.size wr (wr.alloc zsg) := (Below.refl _ wr).alloc (Nat.le_refl _) _
  exact ⟨hb.trans (ho.below hb.size (fun i e => by have : i = wr.heap.size := e; omega)), block_stored (zs := sgcells zeroS none 0 none 0) (heap_alloc_new wr _) (by rw [h]; rfl)⟩
theorem cells_range {W : World} {b : Nat} {ct : List Value} {t : TypeId} (h : W.heap[b]? = some (.cells ct.toArray t (0, 0))) : W.rangeAt b 0 ct := by
  intro j v hv
  rw [Nat.zero_add, cell_of h]
  rw [← List.getElem?_toArray] at hv
  exact hv
set_option maxRecDepth 20000 in
set_option maxHeartbeats 4000000 in
theorem over_any (s : Tk) (a : Option Addr) (c : Nat) (g : Option Addr) (d : Nat) (la : Option Addr) (lc : Nat) (l : List SX) (now : Int) (w : World) (hc : CameK w s a c g d) (hl : SxAt w la l) (hlz : l.length ≤ 140737488351232) (hnow : in64 now) :
    Calls Try.prog 7 #[kv s a c g d, .slice la l.length lc, .int .i64 now] w fun e w' => e = .returned (.bool true) ∧ Hid (Below w.heap.size w w') := by
  have HC : Hid (CameK w s a c g d) := hc
  have HL : Hid (SxAt w la l) := hl
  have HB : Hid (Below w.heap.size w (w.alloc (kc s a c g d))) := (Below.refl _ w).alloc (Nat.le_refl _) _
  have HP : Hid ((w.alloc (kc s a c g d)).heap[w.heap.size]? = some (kc s a c g d)) := heap_alloc_new w _
  obtain ⟨cs, hcs⟩ : ∃ cs, Hid (cs = kcells s a c g d) := ⟨_, rfl⟩
  have hs9 : (Try.prog.info? 26).map (·.size) = some 9 := by kernel_rfl
  have hl9 : cs.length = 9 := by rw [hcs.out]; rfl
  have hsz : (Try.prog.info? 26).map (·.size) = some cs.length := by rw [hl9]; exact hs9
  have HLG : Hid (∀ W, Calls Try.prog 9 #[.agg cs.toArray, sv noS none 0 none 0] W fun e w' => e = .returned (.bool (largeK s noS)) ∧ Hid (Below W.heap.size W w')) := fun W => by rw [hcs.out]; exact vlarge_any s a c g d noS none 0 none 0 W
  have HCK : Hid (∀ W, Below w.heap.size w W → Calls Try.prog 25 #[.agg cs.toArray] W fun e w' => e = .returned (.int .i64 (chkK s)) ∧ Hid (Below W.heap.size W w')) := fun W hb => by rw [hcs.out]; exact vcheck_any s a c g d W (HC.out.later hb)
  clear hc hl
  cases hlg : largeK s noS with
  | true =>
    rw [hlg] at HLG
    go_enter Try.func7, Try.ntmps7
    go_wp2_with (first | (go_at_call 8; refine (wakes_any _).mono ?_; rintro e w1 ⟨rfl, hb1⟩; have HW1 : Hid (Below w.heap.size w w1) := below_of HB.out hb1.out; have HR1 : Hid (w1.rangeAt w.heap.size 0 cs) := (by rw [hcs.out]; exact k_range (old_block hb1.out HP.out))) | (refine wpList_load_want (by rfl) 26 _ rfl w.heap.size 0 (by rfl) cs _ HR1.out Try.underlying26 rfl hsz ?_) | (go_at_call 9; refine (HLG.out _).mono ?_; rintro e w2 ⟨rfl, hb2⟩))
    go_ret
    exact ⟨rfl, below_of HW1.out hb2.out⟩
  | false =>
    rw [hlg] at HLG
    cases hok : okK s with
    | false =>
      rw [chkK_no hok] at HCK
      go_enter Try.func7, Try.ntmps7
      go_wp2_with (first | (go_at_call 8; refine (wakes_any _).mono ?_; rintro e w1 ⟨rfl, hb1⟩; have HW1 : Hid (Below w.heap.size w w1) := below_of HB.out hb1.out; have HR1 : Hid (w1.rangeAt w.heap.size 0 cs) := (by rw [hcs.out]; exact k_range (old_block hb1.out HP.out))) | (refine wpList_load_want (by rfl) 26 _ rfl w.heap.size 0 (by rfl) cs _ (by first | exact HR2.out | exact HR1.out) Try.underlying26 rfl hsz ?_) | (go_at_call 9; refine (HLG.out _).mono ?_; rintro e w2 ⟨rfl, hb2⟩; have HW2 : Hid (Below w.heap.size w w2) := below_of HW1.out hb2.out; have HR2 : Hid (w2.rangeAt w.heap.size 0 cs) := (by rw [hcs.out]; exact k_range (old_block hb2.out (old_block hb1.out HP.out)))) | (go_at_call 25; refine (HCK.out _ HW2.out).mono ?_; rintro e w3 ⟨rfl, hb3⟩; have HW3 : Hid (Below w.heap.size w w3) := below_of HW2.out hb3.out; have HP3 : Hid (w3.heap[w.heap.size]? = some (kc s a c g d)) := old_block hb3.out (old_block hb2.out (old_block hb1.out HP.out)); have z6 := (kcells_get HP3.out).2.2.2.2.2.2.1; have f6 := frozen_of HP3.out 6))
      go_ret
      exact ⟨rfl, below_of HW2.out hb3.out⟩
    | true =>
      rw [chkK_ok hok] at HCK
      go_enter Try.func7, Try.ntmps7
      go_wp2_with (first | (go_at_call 8; refine (wakes_any _).mono ?_; rintro e w1 ⟨rfl, hb1⟩; have HW1 : Hid (Below w.heap.size w w1) := below_of HB.out hb1.out; have HR1 : Hid (w1.rangeAt w.heap.size 0 cs) := (by rw [hcs.out]; exact k_range (old_block hb1.out HP.out))) | (refine wpList_load_want (by rfl) 26 _ rfl w.heap.size 0 (by rfl) cs _ (by first | exact HR2.out | exact HR1.out) Try.underlying26 rfl hsz ?_) | (go_at_call 9; refine (HLG.out _).mono ?_; rintro e w2 ⟨rfl, hb2⟩; have HW2 : Hid (Below w.heap.size w w2) := below_of HW1.out hb2.out; have HR2 : Hid (w2.rangeAt w.heap.size 0 cs) := (by rw [hcs.out]; exact k_range (old_block hb2.out (old_block hb1.out HP.out)))) | (go_at_call 25; refine (HCK.out _ HW2.out).mono ?_; rintro e w3 ⟨rfl, hb3⟩; have HW3 : Hid (Below w.heap.size w w3) := below_of HW2.out hb3.out; have HP3 : Hid (w3.heap[w.heap.size]? = some (kc s a c g d)) := old_block hb3.out (old_block hb2.out (old_block hb1.out HP.out)); have z6 := (kcells_get HP3.out).2.2.2.2.2.2.1; have f6 := frozen_of HP3.out 6))
      have HI : Hid (OvI w (w3.setCell ⟨w.heap.size, 6, none⟩ (.int .i64 4)) s) := ov_start HW3.out HP3.out HC.out hok
      generalize w3.setCell ⟨w.heap.size, 6, none⟩ (.int .i64 4) = W4 at HI ⊢
      clear z6 f6 HP3 HW3 HR2 HW2 hb2 hb3 HR1 HW1 hb1 HLG HCK hlg
      go_loopw [28] (fun i wr => ∃ k : Nat, k ≤ l.length ∧ i = .int .i64 k ∧ Hid (OvI w wr s)) (fun i _ => l.length - (intOf i).toNat)
      case atStart => exact ⟨0, by omega, rfl, HI⟩
      case round =>
        obtain ⟨k, hk, rfl, HQ⟩ := hrel
        by_cases hlt : k < l.length
        · have hki : (k : Int) < (l.length : Int) := by omega
          obtain ⟨q, a1, c1, g1, d1, hq, hbx, hcm, hbw⟩ := HQ.out
          have HBX : Hid (wr.heap[w.heap.size]? = some (kc (ovS s q) a1 c1 g1 d1)) := hbx
          have HCM : Hid (CameK wr (ovS s q) a1 c1 g1 d1) := hcm
          have HBW : Hid (Below w.heap.size w wr) := hbw
          clear hbx hcm hbw
          obtain ⟨x, hx⟩ : ∃ x, l[k] = x := ⟨_, rfl⟩
          obtain ⟨b, o, rfl, hcell⟩ := HL.out.here (by omega)
          have hcell2 := hcell k hlt
          have hcx := HL.out.came l[k] (List.getElem_mem hlt)
          rw [hx] at hcell2 hcx
          have HCX : Hid (Came w x.s x.a x.c x.g x.d) := hcx
          obtain ⟨ct, hct⟩ : ∃ ct, Hid (ct = x.cells) := ⟨_, rfl⟩
          obtain ⟨cq, hcq⟩ : ∃ cq, Hid (cq = kcells (ovS s q) a1 c1 g1 d1) := ⟨_, rfl⟩
          have ht13 : ct.length = 13 := by rw [hct.out]; rfl
          have htz : (Try.prog.info? 28).map (·.size) = some ct.length := by rw [ht13]; kernel_rfl
          have htz2 : (Try.prog.info? 28).map (·.size) = some ct.toArray.size := by rw [show ct.toArray.size = 13 from ht13]; kernel_rfl
          have hq9 : cq.length = 9 := by rw [hcq.out]; rfl
          have hqz : (Try.prog.info? 26).map (·.size) = some cq.length := by rw [hq9]; exact hs9
          have HRL : Hid (wr.rangeAt b (o + k * 13) ct) := by
            rw [hct.out]
            intro j v hv
            have := cell_later HBW.out (hcell2 j v hv)
            rw [show o + k * 13 + j = o + (k * 13 + j) by omega]
            exact this
          have HTH : Hid ((wr.alloc zsg).there wr.heap.size 0 ct.toArray.size) := by rw [show ct.toArray.size = 13 from ht13]; exact sg_there (s := zeroS) (a := none) (c := 0) (a2 := none) (c2 := 0) (heap_alloc_new wr _)
          have HON : Hid (ct.toArray.all (·.oneCell') = true) := by rw [hct.out]; exact sx_one x
          have HXB : Hid (Below wr.heap.size wr ((wr.alloc zsg).setCells wr.heap.size 0 ct) ∧ ((wr.alloc zsg).setCells wr.heap.size 0 ct).heap[wr.heap.size]? = some (.cells ct.toArray 28 (0, 0))) := sg_stored wr ct ht13
          have HSZ : Hid (w.heap.size < wr.heap.size) := size_one HBX.out
          have HRQ : Hid (∀ W, Below wr.heap.size wr W → W.rangeAt w.heap.size 0 cq) := fun W hb => by rw [hcq.out]; exact k_range (old_block hb HBX.out)
          have HLG : Hid (∀ W, Calls Try.prog 9 #[.agg cq.toArray, .agg ct.toArray] W fun e w' => e = .returned (.bool (largeK (ovS s q) x.s)) ∧ Hid (Below W.heap.size W w')) := fun W => by rw [hcq.out, hct.out]; exact vlarge_any (ovS s q) a1 c1 g1 d1 x.s x.a x.c x.g x.d W
          have HTK : Hid (∀ W, Below wr.heap.size wr W → Calls Try.prog 10 #[.agg cq.toArray, .agg ct.toArray, .int .i64 now] W fun e w' => Ans W w' e (takeK (ovS s q) x.s now)) := fun W hb => by rw [hcq.out, hct.out]; exact vtake_any (ovS s q) a1 c1 g1 d1 x.s x.a x.c x.g x.d now W (HCM.out.later hb) (HCX.out.later (below_of HBW.out hb))
          clear hcell hcell2 hcx hx HL
          have HTI : Hid (∀ m : Int, 0 ≤ m → m ≤ 1048576 → ∀ W, Below wr.heap.size wr W → Calls Try.prog 20 #[.agg cq.toArray, .int .i64 m] W fun e w' => Ans W w' e (ovS s q, [], 0)) := fun m m0 m1 W hb => by rw [hcq.out, ← over_tick hok hq.1 hq.2 m0 m1]; exact vtick_any (ovS s q) a1 c1 g1 d1 m W (HCM.out.later hb)
          by_cases h20 : k = 20
          · have e20 : ((k : Int) == 20) = true := by simp; omega
            clear h20
            go_wp2_with (first | (refine wpList_load_mid rfl 28 _ rfl b (o + k * 13) (by rfl) ct _ HRL.out Try.underlying28 rfl htz ?_) | (refine wpList_store_mid rfl 28 _ _ rfl wr.heap.size 0 ct.toArray (by rfl) (by rfl) HTH.out htz2 HON.out ?_; rw [show ct.toArray.toList = ct from rfl]; generalize hWX : (wr.alloc zsg).setCells wr.heap.size 0 ct = wx at HXB ⊢; have HRX : Hid (∀ W, Below wx.heap.size wx W → W.rangeAt wr.heap.size 0 ct) := (fun W hb => cells_range (old_block hb HXB.out.2)); have HXN : Hid (Below wx.heap.size wx wx) := (Below.refl _ _); have HBN : Hid (Below wr.heap.size wr wx) := HXB.out.1; clear HXB hWX) | (refine wpList_load_want (by rfl) 26 _ rfl w.heap.size 0 (by rfl) cq _ (HRQ.out _ HBN.out) Try.underlying26 rfl hqz ?_) | (refine wpList_load_want (by rfl) 28 _ rfl wr.heap.size 0 (by rfl) ct _ (HRX.out _ HXN.out) Try.underlying28 rfl htz ?_) | (go_at_call 9; refine (HLG.out _).mono ?_; rintro e w2 ⟨rfl, hb2⟩; have HBN : Hid (Below wr.heap.size wr w2) := below_of HBN.out hb2.out; have HXN : Hid (Below wx.heap.size wx w2) := below_of HXN.out hb2.out) | (go_at_call 20; refine (HTI.out _ (by first | omega | (split <;> omega)) (by first | omega | (split <;> omega)) _ HBN.out).mono ?_; rintro e w5 ⟨a5, c5, g5, d5, v5, rfl, hb5, hk5, hs5⟩; obtain rfl := hs5; have HW5 : Hid (Below w.heap.size w w5) := below_of HBW.out (below_of HBN.out hb5)))
            all_goals
              go_ret
              exact ⟨rfl, below_of HW5.out ((Below.refl _ w5).alloc (Nat.le_refl _) _)⟩
          · have e20 : ((k : Int) == 20) = false := by simp; omega
            cases hlg2 : largeK (ovS s q) x.s with
            | true =>
              rw [hlg2] at HLG
              go_wp2_with (first | (refine wpList_load_mid rfl 28 _ rfl b (o + k * 13) (by rfl) ct _ HRL.out Try.underlying28 rfl htz ?_) | (refine wpList_store_mid rfl 28 _ _ rfl wr.heap.size 0 ct.toArray (by rfl) (by rfl) HTH.out htz2 HON.out ?_; rw [show ct.toArray.toList = ct from rfl]; generalize hWX : (wr.alloc zsg).setCells wr.heap.size 0 ct = wx at HXB ⊢; have HRX : Hid (∀ W, Below wx.heap.size wx W → W.rangeAt wr.heap.size 0 ct) := (fun W hb => cells_range (old_block hb HXB.out.2)); have HXN : Hid (Below wx.heap.size wx wx) := (Below.refl _ _); have HBN : Hid (Below wr.heap.size wr wx) := HXB.out.1; clear HXB hWX) | (refine wpList_load_want (by rfl) 26 _ rfl w.heap.size 0 (by rfl) cq _ (HRQ.out _ HBN.out) Try.underlying26 rfl hqz ?_) | (refine wpList_load_want (by rfl) 28 _ rfl wr.heap.size 0 (by rfl) ct _ (HRX.out _ HXN.out) Try.underlying28 rfl htz ?_) | (go_at_call 9; refine (HLG.out _).mono ?_; rintro e w2 ⟨rfl, hb2⟩; have HBN : Hid (Below wr.heap.size wr w2) := below_of HBN.out hb2.out; have HXN : Hid (Below wx.heap.size wx w2) := below_of HXN.out hb2.out) | (go_at_call 20; refine (HTI.out _ (by first | omega | (split <;> omega)) (by first | omega | (split <;> omega)) _ HBN.out).mono ?_; rintro e w5 ⟨a5, c5, g5, d5, v5, rfl, hb5, hk5, hs5⟩; obtain rfl := hs5; have HW5 : Hid (Below w.heap.size w w5) := below_of HBW.out (below_of HBN.out hb5)))
              all_goals
                go_ret
                exact ⟨rfl, below_of HW5.out ((Below.refl _ w5).alloc (Nat.le_refl _) _)⟩
            | false =>
              rw [hlg2] at HLG
              rcases over_take hok q x.s now with he | he | ⟨p, hp0, hp1, he⟩
              · rw [he] at HTK
                go_wp2_with (first | (refine wpList_load_mid rfl 28 _ rfl b (o + k * 13) (by rfl) ct _ HRL.out Try.underlying28 rfl htz ?_) | (refine wpList_store_mid rfl 28 _ _ rfl wr.heap.size 0 ct.toArray (by rfl) (by rfl) HTH.out htz2 HON.out ?_; rw [show ct.toArray.toList = ct from rfl]; generalize hWX : (wr.alloc zsg).setCells wr.heap.size 0 ct = wx at HXB ⊢; have HRX : Hid (∀ W, Below wx.heap.size wx W → W.rangeAt wr.heap.size 0 ct) := (fun W hb => cells_range (old_block hb HXB.out.2)); have HXN : Hid (Below wx.heap.size wx wx) := (Below.refl _ _); have HBN : Hid (Below wr.heap.size wr wx) := HXB.out.1; clear HXB hWX) | (refine wpList_load_want (by rfl) 26 _ rfl w.heap.size 0 (by rfl) cq _ (HRQ.out _ HBN.out) Try.underlying26 rfl hqz ?_) | (refine wpList_load_want (by rfl) 28 _ rfl wr.heap.size 0 (by rfl) ct _ (HRX.out _ HXN.out) Try.underlying28 rfl htz ?_) | (go_at_call 9; refine (HLG.out _).mono ?_; rintro e w2 ⟨rfl, hb2⟩; have HBN : Hid (Below wr.heap.size wr w2) := below_of HBN.out hb2.out; have HXN : Hid (Below wx.heap.size wx w2) := below_of HXN.out hb2.out) | (go_at_call 10; refine (HTK.out _ HBN.out).mono ?_; rintro e w5 ⟨a5, c5, g5, d5, v5, rfl, hb5, hk5, hs5⟩; have HB5 := HBN; have HBN : Hid (Below wr.heap.size wr w5) := below_of HBN.out hb5; have HXN : Hid (Below wx.heap.size wx w5) := below_of HXN.out hb5))
                have HO : Hid (∀ A, OvI w (w5.alloc A) s) := fun A => HQ.out.later (below_of HBN.out ((Below.refl _ w5).alloc (Nat.le_refl _) A))
                exact ⟨⟨k + 1, by omega, by go_num, HO.out _⟩, by simp [intOf]; omega⟩
              · rw [he] at HTK
                go_wp2_with (first | (refine wpList_load_mid rfl 28 _ rfl b (o + k * 13) (by rfl) ct _ HRL.out Try.underlying28 rfl htz ?_) | (refine wpList_store_mid rfl 28 _ _ rfl wr.heap.size 0 ct.toArray (by rfl) (by rfl) HTH.out htz2 HON.out ?_; rw [show ct.toArray.toList = ct from rfl]; generalize hWX : (wr.alloc zsg).setCells wr.heap.size 0 ct = wx at HXB ⊢; have HRX : Hid (∀ W, Below wx.heap.size wx W → W.rangeAt wr.heap.size 0 ct) := (fun W hb => cells_range (old_block hb HXB.out.2)); have HXN : Hid (Below wx.heap.size wx wx) := (Below.refl _ _); have HBN : Hid (Below wr.heap.size wr wx) := HXB.out.1; clear HXB hWX) | (refine wpList_load_want (by rfl) 26 _ rfl w.heap.size 0 (by rfl) cq _ (HRQ.out _ HBN.out) Try.underlying26 rfl hqz ?_) | (refine wpList_load_want (by rfl) 28 _ rfl wr.heap.size 0 (by rfl) ct _ (HRX.out _ HXN.out) Try.underlying28 rfl htz ?_) | (go_at_call 9; refine (HLG.out _).mono ?_; rintro e w2 ⟨rfl, hb2⟩; have HBN : Hid (Below wr.heap.size wr w2) := below_of HBN.out hb2.out; have HXN : Hid (Below wx.heap.size wx w2) := below_of HXN.out hb2.out) | (go_at_call 10; refine (HTK.out _ HBN.out).mono ?_; rintro e w5 ⟨a5, c5, g5, d5, v5, rfl, hb5, hk5, hs5⟩; have HB5 := HBN; have HBN : Hid (Below wr.heap.size wr w5) := below_of HBN.out hb5; have HXN : Hid (Below wx.heap.size wx w5) := below_of HXN.out hb5))
                have HO : Hid (∀ A, OvI w (w5.alloc A) s) := fun A => HQ.out.later (below_of HBN.out ((Below.refl _ w5).alloc (Nat.le_refl _) A))
                exact ⟨⟨k + 1, by omega, by go_num, HO.out _⟩, by simp [intOf]; omega⟩
              · rw [he] at HTK
                cases hk4 : (x.s.knd == 4) with
                | true =>
                  have hk4n : (x.s.knd != 4) = false := by rw [bne, hk4]; rfl
                  rw [show ackOf s x.s = [⟨5, s.src, s.ses, 0, 0, 0, 0, 0, 0, 0, false, [], []⟩] from if_pos (by simpa using hk4)] at HTK
                  go_wp2_with (first | (refine wpList_load_mid rfl 28 _ rfl b (o + k * 13) (by rfl) ct _ HRL.out Try.underlying28 rfl htz ?_) | (refine wpList_store_mid rfl 28 _ _ rfl wr.heap.size 0 ct.toArray (by rfl) (by rfl) HTH.out htz2 HON.out ?_; rw [show ct.toArray.toList = ct from rfl]; generalize hWX : (wr.alloc zsg).setCells wr.heap.size 0 ct = wx at HXB ⊢; have HRX : Hid (∀ W, Below wx.heap.size wx W → W.rangeAt wr.heap.size 0 ct) := (fun W hb => cells_range (old_block hb HXB.out.2)); have HXN : Hid (Below wx.heap.size wx wx) := (Below.refl _ _); have HBN : Hid (Below wr.heap.size wr wx) := HXB.out.1; clear HXB hWX) | (refine wpList_load_want (by rfl) 26 _ rfl w.heap.size 0 (by rfl) cq _ (HRQ.out _ HBN.out) Try.underlying26 rfl hqz ?_) | (refine wpList_load_want (by rfl) 28 _ rfl wr.heap.size 0 (by rfl) ct _ (HRX.out _ HXN.out) Try.underlying28 rfl htz ?_) | (go_at_call 9; refine (HLG.out _).mono ?_; rintro e w2 ⟨rfl, hb2⟩; have HBN : Hid (Below wr.heap.size wr w2) := below_of HBN.out hb2.out; have HXN : Hid (Below wx.heap.size wx w2) := below_of HXN.out hb2.out) | (go_at_call 10; refine (HTK.out _ HBN.out).mono ?_; rintro e w5 ⟨a5, c5, g5, d5, v5, rfl, hb5, hk5, hs5⟩; have HB5 := HBN; have HBN : Hid (Below wr.heap.size wr w5) := below_of HBN.out hb5; have HXN : Hid (Below wx.heap.size wx w5) := below_of HXN.out hb5; obtain ⟨_, gs, caps, as2, cs2, rfl, hgs, hrs, hrest⟩ := hs5; have sk0 : ∀ A, (w5.alloc A).cell? ⟨gs, 0, none⟩ = some (.int .i64 5) := (fun A => cell_later ((Below.refl _ w5).alloc (Nat.le_refl _) A) (by have := hrs 0 _ rfl; exact this)); have xk0 : ∀ A, (w5.alloc A).cell? ⟨wr.heap.size, 0, none⟩ = some (.int .i64 x.s.knd) := (fun A => (HRX.out _ (below_of HXN.out ((Below.refl _ w5).alloc (Nat.le_refl _) A))) 0 _ (by rw [hct.out]; rfl)); clear hrs hrest; obtain ⟨cp, hcp⟩ : ∃ cp, Hid (cp = kcells (ovS s p) a5 c5 g5 d5) := ⟨_, rfl⟩; have HRT : Hid ((w5.alloc (kc (ovS s p) a5 c5 g5 d5)).rangeAt w5.heap.size 0 cp) := (by rw [hcp.out]; exact k_range (heap_alloc_new w5 _)); have HTQ : Hid (∀ A : Obj, (w5.alloc A).there w.heap.size 0 cp.toArray.size) := (fun A => by rw [hcp.out]; exact (kq_there (old_block ((Below.refl _ w5).alloc (Nat.le_refl _) A) (old_block HBN.out HBX.out))).out); have hcp9 : cp.length = 9 := (by rw [hcp.out]; rfl); have hpz : (Try.prog.info? 26).map (·.size) = some cp.length := (by rw [hcp9]; exact hs9); have hpz2 : (Try.prog.info? 26).map (·.size) = some cp.toArray.size := (by rw [show cp.toArray.size = 9 from hcp9]; exact hs9); have HON2 : Hid (cp.toArray.all (·.oneCell') = true) := (by rw [hcp.out]; exact k_one _ _ _ _ _)) | (refine wpList_load_mid rfl 26 _ rfl w5.heap.size 0 (by rfl) cp _ HRT.out Try.underlying26 rfl hpz ?_) | (refine wpList_store_mid rfl 26 _ _ rfl w.heap.size 0 cp.toArray (by rfl) (by rfl) (HTQ.out _) hpz2 HON2.out ?_))
                  have HO : Hid (∀ A, OvI w ((w5.alloc A).setCells w.heap.size 0 cp) s) := fun A => hcp.out ▸ ov_set (zs := kcells (ovS s q) a1 c1 g1 d1) HC.out hp0 hp1 (below_of HBW.out HBN.out) hk5 (Nat.lt_of_lt_of_le HSZ.out HB5.out.size) rfl (old_block HBN.out HBX.out) A
                  exact ⟨⟨k + 1, by omega, by go_num, HO.out _⟩, by simp [intOf]; omega⟩
                | false =>
                  have hk4n : (x.s.knd != 4) = true := by rw [bne, hk4]; rfl
                  rw [show ackOf s x.s = [] from if_neg (by simpa using hk4)] at HTK
                  go_wp2_with (first | (refine wpList_load_mid rfl 28 _ rfl b (o + k * 13) (by rfl) ct _ HRL.out Try.underlying28 rfl htz ?_) | (refine wpList_store_mid rfl 28 _ _ rfl wr.heap.size 0 ct.toArray (by rfl) (by rfl) HTH.out htz2 HON.out ?_; rw [show ct.toArray.toList = ct from rfl]; generalize hWX : (wr.alloc zsg).setCells wr.heap.size 0 ct = wx at HXB ⊢; have HRX : Hid (∀ W, Below wx.heap.size wx W → W.rangeAt wr.heap.size 0 ct) := (fun W hb => cells_range (old_block hb HXB.out.2)); have HXN : Hid (Below wx.heap.size wx wx) := (Below.refl _ _); have HBN : Hid (Below wr.heap.size wr wx) := HXB.out.1; clear HXB hWX) | (refine wpList_load_want (by rfl) 26 _ rfl w.heap.size 0 (by rfl) cq _ (HRQ.out _ HBN.out) Try.underlying26 rfl hqz ?_) | (refine wpList_load_want (by rfl) 28 _ rfl wr.heap.size 0 (by rfl) ct _ (HRX.out _ HXN.out) Try.underlying28 rfl htz ?_) | (go_at_call 9; refine (HLG.out _).mono ?_; rintro e w2 ⟨rfl, hb2⟩; have HBN : Hid (Below wr.heap.size wr w2) := below_of HBN.out hb2.out; have HXN : Hid (Below wx.heap.size wx w2) := below_of HXN.out hb2.out) | (go_at_call 10; refine (HTK.out _ HBN.out).mono ?_; rintro e w5 ⟨a5, c5, g5, d5, v5, rfl, hb5, hk5, hs5⟩; have HB5 := HBN; have HBN : Hid (Below wr.heap.size wr w5) := below_of HBN.out hb5; have HXN : Hid (Below wx.heap.size wx w5) := below_of HXN.out hb5; obtain rfl := hs5; have xk0 : ∀ A, (w5.alloc A).cell? ⟨wr.heap.size, 0, none⟩ = some (.int .i64 x.s.knd) := (fun A => (HRX.out _ (below_of HXN.out ((Below.refl _ w5).alloc (Nat.le_refl _) A))) 0 _ (by rw [hct.out]; rfl)); obtain ⟨cp, hcp⟩ : ∃ cp, Hid (cp = kcells (ovS s p) a5 c5 g5 d5) := ⟨_, rfl⟩; have HRT : Hid ((w5.alloc (kc (ovS s p) a5 c5 g5 d5)).rangeAt w5.heap.size 0 cp) := (by rw [hcp.out]; exact k_range (heap_alloc_new w5 _)); have HTQ : Hid (∀ A : Obj, (w5.alloc A).there w.heap.size 0 cp.toArray.size) := (fun A => by rw [hcp.out]; exact (kq_there (old_block ((Below.refl _ w5).alloc (Nat.le_refl _) A) (old_block HBN.out HBX.out))).out); have hcp9 : cp.length = 9 := (by rw [hcp.out]; rfl); have hpz : (Try.prog.info? 26).map (·.size) = some cp.length := (by rw [hcp9]; exact hs9); have hpz2 : (Try.prog.info? 26).map (·.size) = some cp.toArray.size := (by rw [show cp.toArray.size = 9 from hcp9]; exact hs9); have HON2 : Hid (cp.toArray.all (·.oneCell') = true) := (by rw [hcp.out]; exact k_one _ _ _ _ _)) | (refine wpList_load_mid rfl 26 _ rfl w5.heap.size 0 (by rfl) cp _ HRT.out Try.underlying26 rfl hpz ?_) | (refine wpList_store_mid rfl 26 _ _ rfl w.heap.size 0 cp.toArray (by rfl) (by rfl) (HTQ.out _) hpz2 HON2.out ?_))
                  have HO : Hid (∀ A, OvI w ((w5.alloc A).setCells w.heap.size 0 cp) s) := fun A => hcp.out ▸ ov_set (zs := kcells (ovS s q) a1 c1 g1 d1) HC.out hp0 hp1 (below_of HBW.out HBN.out) hk5 (Nat.lt_of_lt_of_le HSZ.out HB5.out.size) rfl (old_block HBN.out HBX.out) A
                  exact ⟨⟨k + 1, by omega, by go_num, HO.out _⟩, by simp [intOf]; omega⟩
        · obtain rfl : k = l.length := by omega
          obtain ⟨q, a1, c1, g1, d1, hq, hbx, hcm, hbw⟩ := HQ.out
          have HBX : Hid (wr.heap[w.heap.size]? = some (kc (ovS s q) a1 c1 g1 d1)) := hbx
          have HCM : Hid (CameK wr (ovS s q) a1 c1 g1 d1) := hcm
          have HBW : Hid (Below w.heap.size w wr) := hbw
          clear hbx hcm hbw
          obtain ⟨cq, hcq⟩ : ∃ cq, Hid (cq = kcells (ovS s q) a1 c1 g1 d1) := ⟨_, rfl⟩
          have hq9 : cq.length = 9 := by rw [hcq.out]; rfl
          have hqz : (Try.prog.info? 26).map (·.size) = some cq.length := by rw [hq9]; exact hs9
          have HRQ : Hid (wr.rangeAt w.heap.size 0 cq) := by rw [hcq.out]; exact k_range HBX.out
          have HTI : Hid (∀ m : Int, 0 ≤ m → m ≤ 1048576 → Calls Try.prog 20 #[.agg cq.toArray, .int .i64 m] wr fun e w' => Ans wr w' e (ovS s q, [], 0)) := fun m m0 m1 => by rw [hcq.out, ← over_tick hok hq.1 hq.2 m0 m1]; exact vtick_any (ovS s q) a1 c1 g1 d1 m wr HCM.out
          go_wp2_with (first | (refine wpList_load_mid rfl 26 _ rfl w.heap.size 0 (by rfl) cq _ HRQ.out Try.underlying26 rfl hqz ?_) | (go_at_call 20; refine (HTI.out _ (by first | omega | (split <;> omega)) (by first | omega | (split <;> omega))).mono ?_; rintro e w5 ⟨a5, c5, g5, d5, v5, rfl, hb5, hk5, hs5⟩; obtain rfl := hs5; have HW5 : Hid (Below w.heap.size w w5) := below_of HBW.out hb5))
          all_goals
            go_ret
            exact ⟨rfl, below_of HW5.out ((Below.refl _ w5).alloc (Nat.le_refl _) _)⟩
end Go.Proofs.Ytfnkbjfjekfdnaa
