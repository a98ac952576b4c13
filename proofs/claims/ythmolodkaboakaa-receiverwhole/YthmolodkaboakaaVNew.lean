/- receiver.New. -/
import Derived.Test.YthmolodkaboakaaVTake4
namespace Go.Proofs.Ythmolodkaboakaa
open Go.RowKit
set_option linter.unusedVariables false
/-- the session that a segment begins. -/
def freshK (x : Sg) (life : Int) : Tk := ⟨x.src, x.ses, x.tot, List.replicate x.tot.toNat 0, [], 0, 1, life, 0⟩
/-- what New answers. -/
def newK (x : Sg) (now life : Int) : Tk × List Sg × Int := if (okS x && (decide (x.knd = 1) && inB life 1 65536)) = true then takeK (freshK x life) x now else (zeroK, [], 2)
/-- the world behind New's entry. -/
structure EnN (w W : World) (x : Sg) (xa : Option Addr) (xc : Nat) (a2 : Option Addr) (c2 : Nat) : Prop where
  bel : Below w.heap.size w W
  one : W.heap[w.heap.size]? = some (sc x xa xc a2 c2)
  res : W.heap[w.heap.size + 1]? = some (kc zeroK none 0 none 0)
theorem EnN.start (w : World) (x : Sg) (xa : Option Addr) (xc : Nat) (a2 : Option Addr) (c2 : Nat) : EnN w ((w.alloc (sc x xa xc a2 c2)).alloc (kc zeroK none 0 none 0)) x xa xc a2 c2 := by
  have hb1 : Below (w.alloc (sc x xa xc a2 c2)).heap.size (w.alloc (sc x xa xc a2 c2)) ((w.alloc (sc x xa xc a2 c2)).alloc (kc zeroK none 0 none 0)) := (Below.refl _ _).alloc (Nat.le_refl _) _
  exact ⟨below_of ((Below.refl _ w).alloc (Nat.le_refl _) _) hb1, old_block hb1 (heap_alloc_new w _), second_new w _ _⟩
theorem EnN.later {w W W' : World} {x : Sg} {xa : Option Addr} {xc : Nat} {a2 : Option Addr} {c2 : Nat} (h : EnN w W x xa xc a2 c2) (hb : Below W.heap.size W W') : EnN w W' x xa xc a2 c2 :=
  ⟨below_of h.bel hb, old_block hb h.one, old_block hb h.res⟩
set_option maxRecDepth 20000 in
set_option maxHeartbeats 4000000 in
theorem vnew_e1 (x : Sg) (xa : Option Addr) (xc : Nat) (a2 : Option Addr) (c2 : Nat) (now life : Int) (w : World) (hx : Came w x xa xc a2 c2) (h1 : okS x = false) :
    Calls Try.prog 18 #[sv x xa xc a2 c2, .int .i64 now, .int .i64 life] w fun e w' => Ans w w' e (zeroK, [], 2) := by
  obtain ⟨ct, hct⟩ : ∃ ct, Hid (ct = sgcells x xa xc a2 c2) := ⟨_, rfl⟩
  have htz : (Try.prog.info? 28).map (·.size) = some ct.length := by rw [show ct.length = 13 by rw [hct.out]; rfl]; kernel_rfl
  have hs9 : (Try.prog.info? 26).map (·.size) = some 9 := by kernel_rfl
  have HCK : Hid (∀ W, Below w.heap.size w W → Calls Try.prog 30 #[.agg ct.toArray] W fun e w' => e = .returned (.int .i64 (chkS x)) ∧ Hid (Below W.heap.size W w')) := fun W hb => by rw [hct.out]; exact check_any x xa xc a2 c2 W (hx.later hb)
  have HEN : Hid (EnN w ((w.alloc (sc x xa xc a2 c2)).alloc (kc zeroK none 0 none 0)) x xa xc a2 c2) := EnN.start w x xa xc a2 c2
  have HR0 : Hid (((w.alloc (sc x xa xc a2 c2)).alloc (kc zeroK none 0 none 0)).rangeAt w.heap.size 0 ct) := by rw [hct.out]; exact sg_range HEN.out.one
  rw [chk_no h1] at HCK
  clear hx h1
  go_enter Try.func18, Try.ntmps18
  go_wp2_with (first | (go_at_call 30; refine (HCK.out _ HEN.out.bel).mono ?_; rintro e w1 ⟨rfl, hb1⟩; have HE1 : Hid (EnN w w1 x xa xc a2 c2) := HEN.out.later hb1.out; have y0 := (scells HE1.out.one).1; have HZ := res_store HE1.out.res HE1.out.bel (by omega) zeroK none 0 none 0) | (go_at_call 39; refine (vwithin_any _ _ _ _).mono ?_; rintro e w2 ⟨rfl, rfl⟩) | (refine wpList_load_want (by rfl) 28 _ rfl w.heap.size 0 (by rfl) ct _ (by first | exact hR2.out | exact HR0.out) Try.underlying28 rfl htz ?_) | (refine wpList_store_mid rfl 26 _ _ rfl (w.heap.size + 1) 0 (kcells zeroK none 0 none 0).toArray (by rfl) (by rfl) HZ.1.out hs9 HZ.2.1.out ?_))
  have HF := ans_zero (q := 2) HZ.2.2.2.out.1
  exact bodyPost_ret (results_cell3 rfl _ _ (w.heap.size + 1) 0 (by rfl) (kcells zeroK none 0 none 0) _ HZ.2.2.1.out Try.underlying26 rfl hs9) rfl (by
    show Ans w _ (.returned (.tuple #[.agg (kcells zeroK none 0 none 0).toArray, .slice none 0 0, .int .i64 2])) _
    exact HF)
set_option maxRecDepth 20000 in
set_option maxHeartbeats 4000000 in
theorem vnew_e2 (x : Sg) (xa : Option Addr) (xc : Nat) (a2 : Option Addr) (c2 : Nat) (now life : Int) (w : World) (hx : Came w x xa xc a2 c2) (h1 : okS x = true) (h2 : (x.knd != 1) = true) :
    Calls Try.prog 18 #[sv x xa xc a2 c2, .int .i64 now, .int .i64 life] w fun e w' => Ans w w' e (zeroK, [], 2) := by
  obtain ⟨ct, hct⟩ : ∃ ct, Hid (ct = sgcells x xa xc a2 c2) := ⟨_, rfl⟩
  have htz : (Try.prog.info? 28).map (·.size) = some ct.length := by rw [show ct.length = 13 by rw [hct.out]; rfl]; kernel_rfl
  have hs9 : (Try.prog.info? 26).map (·.size) = some 9 := by kernel_rfl
  have HCK : Hid (∀ W, Below w.heap.size w W → Calls Try.prog 30 #[.agg ct.toArray] W fun e w' => e = .returned (.int .i64 (chkS x)) ∧ Hid (Below W.heap.size W w')) := fun W hb => by rw [hct.out]; exact check_any x xa xc a2 c2 W (hx.later hb)
  have HEN : Hid (EnN w ((w.alloc (sc x xa xc a2 c2)).alloc (kc zeroK none 0 none 0)) x xa xc a2 c2) := EnN.start w x xa xc a2 c2
  have HR0 : Hid (((w.alloc (sc x xa xc a2 c2)).alloc (kc zeroK none 0 none 0)).rangeAt w.heap.size 0 ct) := by rw [hct.out]; exact sg_range HEN.out.one
  rw [chk_ok h1] at HCK
  clear hx h1
  go_enter Try.func18, Try.ntmps18
  go_wp2_with (first | (go_at_call 30; refine (HCK.out _ HEN.out.bel).mono ?_; rintro e w1 ⟨rfl, hb1⟩; have HE1 : Hid (EnN w w1 x xa xc a2 c2) := HEN.out.later hb1.out; have y0 := (scells HE1.out.one).1; have HZ := res_store HE1.out.res HE1.out.bel (by omega) zeroK none 0 none 0) | (go_at_call 39; refine (vwithin_any _ _ _ _).mono ?_; rintro e w2 ⟨rfl, rfl⟩) | (refine wpList_load_want (by rfl) 28 _ rfl w.heap.size 0 (by rfl) ct _ (by first | exact hR2.out | exact HR0.out) Try.underlying28 rfl htz ?_) | (refine wpList_store_mid rfl 26 _ _ rfl (w.heap.size + 1) 0 (kcells zeroK none 0 none 0).toArray (by rfl) (by rfl) HZ.1.out hs9 HZ.2.1.out ?_))
  have HF := ans_zero (q := 2) HZ.2.2.2.out.1
  exact bodyPost_ret (results_cell3 rfl _ _ (w.heap.size + 1) 0 (by rfl) (kcells zeroK none 0 none 0) _ HZ.2.2.1.out Try.underlying26 rfl hs9) rfl (by
    show Ans w _ (.returned (.tuple #[.agg (kcells zeroK none 0 none 0).toArray, .slice none 0 0, .int .i64 2])) _
    exact HF)
set_option maxRecDepth 20000 in
set_option maxHeartbeats 4000000 in
theorem vnew_e3 (x : Sg) (xa : Option Addr) (xc : Nat) (a2 : Option Addr) (c2 : Nat) (now life : Int) (w : World) (hx : Came w x xa xc a2 c2) (h1 : okS x = true) (h2 : (x.knd != 1) = false) (h3 : inB life 1 65536 = false) :
    Calls Try.prog 18 #[sv x xa xc a2 c2, .int .i64 now, .int .i64 life] w fun e w' => Ans w w' e (zeroK, [], 2) := by
  obtain ⟨ct, hct⟩ : ∃ ct, Hid (ct = sgcells x xa xc a2 c2) := ⟨_, rfl⟩
  have htz : (Try.prog.info? 28).map (·.size) = some ct.length := by rw [show ct.length = 13 by rw [hct.out]; rfl]; kernel_rfl
  have hs9 : (Try.prog.info? 26).map (·.size) = some 9 := by kernel_rfl
  have HCK : Hid (∀ W, Below w.heap.size w W → Calls Try.prog 30 #[.agg ct.toArray] W fun e w' => e = .returned (.int .i64 (chkS x)) ∧ Hid (Below W.heap.size W w')) := fun W hb => by rw [hct.out]; exact check_any x xa xc a2 c2 W (hx.later hb)
  have HEN : Hid (EnN w ((w.alloc (sc x xa xc a2 c2)).alloc (kc zeroK none 0 none 0)) x xa xc a2 c2) := EnN.start w x xa xc a2 c2
  have HR0 : Hid (((w.alloc (sc x xa xc a2 c2)).alloc (kc zeroK none 0 none 0)).rangeAt w.heap.size 0 ct) := by rw [hct.out]; exact sg_range HEN.out.one
  rw [chk_ok h1] at HCK
  clear hx h1
  go_enter Try.func18, Try.ntmps18
  go_wp2_with (first | (go_at_call 30; refine (HCK.out _ HEN.out.bel).mono ?_; rintro e w1 ⟨rfl, hb1⟩; have HE1 : Hid (EnN w w1 x xa xc a2 c2) := HEN.out.later hb1.out; have y0 := (scells HE1.out.one).1; have HZ := res_store HE1.out.res HE1.out.bel (by omega) zeroK none 0 none 0) | (go_at_call 39; refine (vwithin_any _ _ _ _).mono ?_; rintro e w2 ⟨rfl, rfl⟩) | (refine wpList_load_want (by rfl) 28 _ rfl w.heap.size 0 (by rfl) ct _ (by first | exact hR2.out | exact HR0.out) Try.underlying28 rfl htz ?_) | (refine wpList_store_mid rfl 26 _ _ rfl (w.heap.size + 1) 0 (kcells zeroK none 0 none 0).toArray (by rfl) (by rfl) HZ.1.out hs9 HZ.2.1.out ?_))
  have HF := ans_zero (q := 2) HZ.2.2.2.out.1
  exact bodyPost_ret (results_cell3 rfl _ _ (w.heap.size + 1) 0 (by rfl) (kcells zeroK none 0 none 0) _ HZ.2.2.1.out Try.underlying26 rfl hs9) rfl (by
    show Ans w _ (.returned (.tuple #[.agg (kcells zeroK none 0 none 0).toArray, .slice none 0 0, .int .i64 2])) _
    exact HF)
end Go.Proofs.Ythmolodkaboakaa
