/- receiver.Take. -/
import Derived.Test.YthmolodkaboakaaVData
namespace Go.Proofs.Ythmolodkaboakaa
open Go.RowKit
set_option linter.unusedVariables false
/-- a block's result, and two slots'. -/
theorem results_cell3 {P : Program} {fn : Func} {k t u : Tmp} {ty : TypeId} (h : fn.results = #[.cell k ty, .tmp t, .tmp u]) (tmps : Array Value) (w : World) (b o : Nat) (hk : tmps.getD k undef = .pointer (some ⟨b, o, none⟩)) (cs : List Value) (d : TypeDesc) (hc : w.rangeAt b o cs)
    (hu : P.underlying ty = some d) (hd : d.isRow = true) (hi : (P.info? ty).map (·.size) = some cs.length) : (results fn tmps).run P w = .ok (.tuple #[.agg cs.toArray, tmps.getD t undef, tmps.getD u undef]) w := by
  have hl : (loadVar ty ⟨b, o, none⟩).run P w = .ok (.agg cs.toArray) w := run_loadVar_mid w b o ty cs d hc hu hd hi
  unfold results
  rw [h]
  simp only [List.mapM_toArray, List.mapM_cons, List.mapM_nil]
  rw [hk]
  simp only [asAddr, pure_bind]
  simp [hl]
/-- what Take answers of a segment that goes with the session. -/
def tkK (s : Tk) (x : Sg) (now : Int) : Tk × List Sg :=
  if x.knd = 1 then datK { s with due := now + s.lif } x
  else if x.knd = 4 then ({ s with due := now + s.lif, sta := if s.sta = 1 then 4 else s.sta }, [⟨5, s.src, s.ses, 0, 0, 0, 0, 0, 0, 0, false, [], []⟩])
  else ({ s with due := now + s.lif }, [])
/-- does the segment go with the session? -/
def goesK (s : Tk) (x : Sg) : Bool := okS x && (decide (x.src = s.src) && (decide (x.ses = s.ses) && fwdS x))
/-- what Take answers. -/
def takeK (s : Tk) (x : Sg) (now : Int) : Tk × List Sg × Int :=
  if okK s = true then (if inB now 0 1048576 = true then (if goesK s x = true then ((tkK s x now).1, (tkK s x now).2, 0) else (zeroK, [], 2)) else (zeroK, [], 2)) else (zeroK, [], 250)
/-- how an answer lies: a session, what is sent, an error. -/
def Ans (w w' : World) (e : Ending) (r : Tk × List Sg × Int) : Prop :=
  ∃ a c g d v, e = .returned (.tuple #[.agg (kcells r.1 a c g d).toArray, v, .int .i64 r.2.2]) ∧ Below w.heap.size w w' ∧ KN w.heap.size w' r.1 a c g d ∧ Sent w.heap.size w' v r.2.1
theorem kn_zero (n : Nat) (w : World) : KN n w zeroK none 0 none 0 := ⟨⟨rfl, .inl ⟨rfl, rfl⟩⟩, ⟨rfl, .inl ⟨rfl, rfl⟩⟩, by simp [zeroK]⟩
theorem ans_zero {w w' : World} {q : Int} (hb : Below w.heap.size w w') : Ans w w' (.returned (.tuple #[.agg (kcells zeroK none 0 none 0).toArray, .slice none 0 0, .int .i64 q])) (zeroK, [], q) := ⟨none, 0, none, 0, _, rfl, hb, kn_zero _ _, rfl⟩
/-- the world behind Take's entry. -/
structure En (w W : World) (s : Tk) (a : Option Addr) (c : Nat) (g : Option Addr) (d : Nat) (x : Sg) (xa : Option Addr) (xc : Nat) (a2 : Option Addr) (c2 : Nat) : Prop where
  bel : Below w.heap.size w W
  one : W.heap[w.heap.size]? = some (kc s a c g d)
  two : W.heap[w.heap.size + 1]? = some (sc x xa xc a2 c2)
  res : W.heap[w.heap.size + 1 + 1]? = some (kc zeroK none 0 none 0)
  size : w.heap.size + 3 ≤ W.heap.size
theorem En.start (w : World) (s : Tk) (a : Option Addr) (c : Nat) (g : Option Addr) (d : Nat) (x : Sg) (xa : Option Addr) (xc : Nat) (a2 : Option Addr) (c2 : Nat) : En w (((w.alloc (kc s a c g d)).alloc (sc x xa xc a2 c2)).alloc (kc zeroK none 0 none 0)) s a c g d x xa xc a2 c2 := by
  have h3 := second_new (w.alloc (kc s a c g d)) (sc x xa xc a2 c2) (kc zeroK none 0 none 0)
  rw [show (w.alloc (kc s a c g d)).heap.size = w.heap.size + 1 by simp] at h3
  have hb2 : Below ((w.alloc (kc s a c g d)).alloc (sc x xa xc a2 c2)).heap.size ((w.alloc (kc s a c g d)).alloc (sc x xa xc a2 c2)) (((w.alloc (kc s a c g d)).alloc (sc x xa xc a2 c2)).alloc (kc zeroK none 0 none 0)) := (Below.refl _ _).alloc (Nat.le_refl _) _
  have hb1 : Below (w.alloc (kc s a c g d)).heap.size (w.alloc (kc s a c g d)) ((w.alloc (kc s a c g d)).alloc (sc x xa xc a2 c2)) := (Below.refl _ _).alloc (Nat.le_refl _) _
  exact ⟨below_of ((Below.refl _ w).alloc (Nat.le_refl _) _) (below_of hb1 hb2), old_block (below_of hb1 hb2) (heap_alloc_new w _), old_block hb2 (second_new w _ _), h3, by simp⟩
theorem En.later {w W W' : World} {s : Tk} {a : Option Addr} {c : Nat} {g : Option Addr} {d : Nat} {x : Sg} {xa : Option Addr} {xc : Nat} {a2 : Option Addr} {c2 : Nat} (h : En w W s a c g d x xa xc a2 c2) (hb : Below W.heap.size W W') : En w W' s a c g d x xa xc a2 c2 :=
  ⟨below_of h.bel hb, old_block hb h.one, old_block hb h.two, old_block hb h.res, Nat.le_trans h.size hb.size⟩
theorem k_there {W : World} {b : Nat} {s : Tk} {a : Option Addr} {c : Nat} {g : Option Addr} {d : Nat} (h : W.heap[b]? = some (kc s a c g d)) : W.there b 0 9 := by
  intro j hj
  rw [Nat.zero_add]
  refine ⟨?_, frozen_of h j⟩
  rw [cell_of h, Array.getElem?_eq_getElem (by simpa using hj)]
  rfl
theorem k_one (s : Tk) (a : Option Addr) (c : Nat) (g : Option Addr) (d : Nat) : (kcells s a c g d).toArray.all (·.oneCell') = true := by simp [Value.oneCell']
theorem res_store {w W : World} {b : Nat} (h : W.heap[b]? = some (kc zeroK none 0 none 0)) (hb : Below w.heap.size w W) (hw : w.heap.size ≤ b) (s : Tk) (a : Option Addr) (c : Nat) (g : Option Addr) (d : Nat) :
    Hid (W.there b 0 (kcells s a c g d).toArray.size) ∧ Hid ((kcells s a c g d).toArray.all (·.oneCell') = true) ∧ Hid ((W.setCells b 0 (kcells s a c g d)).rangeAt b 0 (kcells s a c g d)) ∧ Hid (Below w.heap.size w (W.setCells b 0 (kcells s a c g d)) ∧ Off (fun i => i = b) W (W.setCells b 0 (kcells s a c g d))) := by
  have ho := setC_off W b 0 (kcells s a c g d)
  exact ⟨k_there h, k_one _ _ _ _ _, k_range (block_stored (zs := kcells zeroK none 0 none 0) h rfl), hb.trans (ho.below hb.size (fun i e => by have : i = b := e; omega)), ho⟩
set_option maxRecDepth 20000 in
set_option maxHeartbeats 4000000 in
theorem vtake_no (s : Tk) (a : Option Addr) (c : Nat) (g : Option Addr) (d : Nat) (x : Sg) (xa : Option Addr) (xc : Nat) (a2 : Option Addr) (c2 : Nat) (now : Int) (w : World) (q : Int) (hq : (q != 0) = true)
    (hbg : ∀ W, Below w.heap.size w W → Calls Try.prog 31 #[kv s a c g d, .int .i64 now] W fun e w' => e = .returned (.tuple #[.agg (tcs zeroK none 0 none 0 (.slice none 0 0)).toArray, .int .i64 q]) ∧ Hid (Below W.heap.size W w')) :
    Calls Try.prog 10 #[kv s a c g d, sv x xa xc a2 c2, .int .i64 now] w fun e w' => Ans w w' e (zeroK, [], q) := by
  have HBG : Hid (∀ W, Below w.heap.size w W → Calls Try.prog 31 #[kv s a c g d, .int .i64 now] W fun e w' => e = .returned (.tuple #[.agg (tcs zeroK none 0 none 0 (.slice none 0 0)).toArray, .int .i64 q]) ∧ Hid (Below W.heap.size W w')) := hbg
  have HEN : Hid (En w (((w.alloc (kc s a c g d)).alloc (sc x xa xc a2 c2)).alloc (kc zeroK none 0 none 0)) s a c g d x xa xc a2 c2) := En.start w s a c g d x xa xc a2 c2
  have hs9 : (Try.prog.info? 26).map (·.size) = some 9 := by kernel_rfl
  clear hbg
  go_enter Try.func10, Try.ntmps10
  go_wp2_with (first | (go_at_call 31; refine (HBG.out _ HEN.out.bel).mono ?_; rintro e w1 ⟨rfl, hb1⟩; have HE2 : Hid (En w (w1.alloc (tc zeroK none 0 none 0 (.slice none 0 0))) s a c g d x xa xc a2 c2) := (HEN.out.later hb1.out).later ((Below.refl _ w1).alloc (Nat.le_refl _) _); have HZ := res_store HE2.out.res HE2.out.bel (by omega) zeroK none 0 none 0) | (refine wpList_store_mid rfl 26 _ _ rfl (w.heap.size + 1 + 1) 0 (kcells zeroK none 0 none 0).toArray (by rfl) (by rfl) HZ.1.out hs9 HZ.2.1.out ?_))
  have HF := ans_zero (q := q) HZ.2.2.2.out.1
  exact bodyPost_ret (results_cell3 rfl _ _ (w.heap.size + 1 + 1) 0 (by rfl) (kcells zeroK none 0 none 0) _ HZ.2.2.1.out Try.underlying26 rfl hs9) rfl (by
    show Ans w _ (.returned (.tuple #[.agg (kcells zeroK none 0 none 0).toArray, .slice none 0 0, .int .i64 q])) _
    exact HF)
set_option maxRecDepth 20000 in
set_option maxHeartbeats 4000000 in
theorem vtake_e1 (s : Tk) (a : Option Addr) (c : Nat) (g : Option Addr) (d : Nat) (x : Sg) (xa : Option Addr) (xc : Nat) (a2 : Option Addr) (c2 : Nat) (now : Int) (w : World) (hc : CameK w s a c g d) (hx : Came w x xa xc a2 c2) (hok : okK s = true) (hn : inB now 0 1048576 = true) (h1 : okS x = false) :
    Calls Try.prog 10 #[kv s a c g d, sv x xa xc a2 c2, .int .i64 now] w fun e w' => Ans w w' e (zeroK, [], 2) := by
  have HBG : Hid (∀ W, Below w.heap.size w W → Calls Try.prog 31 #[kv s a c g d, .int .i64 now] W fun e w' => ∃ a' c' g' d', e = .returned (.tuple #[.agg (tcs s a' c' g' d' (.slice none 0 0)).toArray, .int .i64 0]) ∧ Hid (Below W.heap.size W w' ∧ KN W.heap.size w' s a' c' g' d')) := fun W hb => vbegin_ok s a c g d now W (hc.later hb) hok hn
  have HEN : Hid (En w (((w.alloc (kc s a c g d)).alloc (sc x xa xc a2 c2)).alloc (kc zeroK none 0 none 0)) s a c g d x xa xc a2 c2) := En.start w s a c g d x xa xc a2 c2
  obtain ⟨ct, hct⟩ : ∃ ct, Hid (ct = sgcells x xa xc a2 c2) := ⟨_, rfl⟩
  have htz : (Try.prog.info? 28).map (·.size) = some ct.length := by rw [show ct.length = 13 by rw [hct.out]; rfl]; kernel_rfl
  have hs9 : (Try.prog.info? 26).map (·.size) = some 9 := by kernel_rfl
  have HCK : Hid (∀ W, Below w.heap.size w W → Calls Try.prog 30 #[.agg ct.toArray] W fun e w' => e = .returned (.int .i64 (chkS x)) ∧ Hid (Below W.heap.size W w')) := fun W hb => by rw [hct.out]; exact check_any x xa xc a2 c2 W (hx.later hb)
  have HFW : Hid (∀ W, Below w.heap.size w W → Calls Try.prog 15 #[.agg ct.toArray] W fun e w' => e = .returned (.bool (fwdS x)) ∧ Hid (Below W.heap.size W w')) := fun W hb => by rw [hct.out]; exact forward_any x xa xc a2 c2 W
  rw [chk_no h1] at HCK
  clear h1
  clear hc hx hok hn
  go_enter Try.func10, Try.ntmps10
  go_wp2_with (first | (go_at_call 31; refine (HBG.out _ HEN.out.bel).mono ?_; rintro e w1 ⟨a', c', g', d', rfl, hq⟩; have HE2 : Hid (En w (w1.alloc (tc s a' c' g' d' (.slice none 0 0))) s a c g d x xa xc a2 c2) := (HEN.out.later hq.out.1).later ((Below.refl _ w1).alloc (Nat.le_refl _) _); have hR2 : Hid ((w1.alloc (tc s a' c' g' d' (.slice none 0 0))).rangeAt (w.heap.size + 1) 0 ct) := by (rw [hct.out]; exact sg_range HE2.out.two)) | (go_at_call 30; refine (HCK.out _ HE2.out.bel).mono ?_; rintro e w2 ⟨rfl, hb2⟩; have HE3 : Hid (En w w2 s a c g d x xa xc a2 c2) := HE2.out.later hb2.out; have hR3 : Hid (w2.rangeAt (w.heap.size + 1) 0 ct) := (by rw [hct.out]; exact sg_range HE3.out.two); have y1 := (scells HE3.out.two).2.1; have y2 := (scells HE3.out.two).2.2.1; have y3 := (kcells_get HE3.out.one).1; have y4 := (kcells_get HE3.out.one).2.1; have HZ := res_store HE3.out.res HE3.out.bel (by omega) zeroK none 0 none 0) | (refine wpList_load_want (by rfl) 28 _ rfl (w.heap.size + 1) 0 (by rfl) ct _ (by first | exact hR3.out | exact hR2.out) Try.underlying28 rfl htz ?_) | (refine wpList_store_mid rfl 26 _ _ rfl (w.heap.size + 1 + 1) 0 (kcells zeroK none 0 none 0).toArray (by rfl) (by rfl) HZ.1.out hs9 HZ.2.1.out ?_))
  have HF := ans_zero (q := 2) HZ.2.2.2.out.1
  exact bodyPost_ret (results_cell3 rfl _ _ (w.heap.size + 1 + 1) 0 (by rfl) (kcells zeroK none 0 none 0) _ HZ.2.2.1.out Try.underlying26 rfl hs9) rfl (by
    show Ans w _ (.returned (.tuple #[.agg (kcells zeroK none 0 none 0).toArray, .slice none 0 0, .int .i64 2])) _
    exact HF)
set_option maxRecDepth 20000 in
set_option maxHeartbeats 4000000 in
theorem vtake_e2 (s : Tk) (a : Option Addr) (c : Nat) (g : Option Addr) (d : Nat) (x : Sg) (xa : Option Addr) (xc : Nat) (a2 : Option Addr) (c2 : Nat) (now : Int) (w : World) (hc : CameK w s a c g d) (hx : Came w x xa xc a2 c2) (hok : okK s = true) (hn : inB now 0 1048576 = true) (h1 : okS x = true) (h2 : (x.src != s.src) = true) :
    Calls Try.prog 10 #[kv s a c g d, sv x xa xc a2 c2, .int .i64 now] w fun e w' => Ans w w' e (zeroK, [], 2) := by
  have HBG : Hid (∀ W, Below w.heap.size w W → Calls Try.prog 31 #[kv s a c g d, .int .i64 now] W fun e w' => ∃ a' c' g' d', e = .returned (.tuple #[.agg (tcs s a' c' g' d' (.slice none 0 0)).toArray, .int .i64 0]) ∧ Hid (Below W.heap.size W w' ∧ KN W.heap.size w' s a' c' g' d')) := fun W hb => vbegin_ok s a c g d now W (hc.later hb) hok hn
  have HEN : Hid (En w (((w.alloc (kc s a c g d)).alloc (sc x xa xc a2 c2)).alloc (kc zeroK none 0 none 0)) s a c g d x xa xc a2 c2) := En.start w s a c g d x xa xc a2 c2
  obtain ⟨ct, hct⟩ : ∃ ct, Hid (ct = sgcells x xa xc a2 c2) := ⟨_, rfl⟩
  have htz : (Try.prog.info? 28).map (·.size) = some ct.length := by rw [show ct.length = 13 by rw [hct.out]; rfl]; kernel_rfl
  have hs9 : (Try.prog.info? 26).map (·.size) = some 9 := by kernel_rfl
  have HCK : Hid (∀ W, Below w.heap.size w W → Calls Try.prog 30 #[.agg ct.toArray] W fun e w' => e = .returned (.int .i64 (chkS x)) ∧ Hid (Below W.heap.size W w')) := fun W hb => by rw [hct.out]; exact check_any x xa xc a2 c2 W (hx.later hb)
  have HFW : Hid (∀ W, Below w.heap.size w W → Calls Try.prog 15 #[.agg ct.toArray] W fun e w' => e = .returned (.bool (fwdS x)) ∧ Hid (Below W.heap.size W w')) := fun W hb => by rw [hct.out]; exact forward_any x xa xc a2 c2 W
  rw [chk_ok h1] at HCK
  clear h1
  clear hc hx hok hn
  go_enter Try.func10, Try.ntmps10
  go_wp2_with (first | (go_at_call 31; refine (HBG.out _ HEN.out.bel).mono ?_; rintro e w1 ⟨a', c', g', d', rfl, hq⟩; have HE2 : Hid (En w (w1.alloc (tc s a' c' g' d' (.slice none 0 0))) s a c g d x xa xc a2 c2) := (HEN.out.later hq.out.1).later ((Below.refl _ w1).alloc (Nat.le_refl _) _); have hR2 : Hid ((w1.alloc (tc s a' c' g' d' (.slice none 0 0))).rangeAt (w.heap.size + 1) 0 ct) := by (rw [hct.out]; exact sg_range HE2.out.two)) | (go_at_call 30; refine (HCK.out _ HE2.out.bel).mono ?_; rintro e w2 ⟨rfl, hb2⟩; have HE3 : Hid (En w w2 s a c g d x xa xc a2 c2) := HE2.out.later hb2.out; have hR3 : Hid (w2.rangeAt (w.heap.size + 1) 0 ct) := (by rw [hct.out]; exact sg_range HE3.out.two); have y1 := (scells HE3.out.two).2.1; have y2 := (scells HE3.out.two).2.2.1; have y3 := (kcells_get HE3.out.one).1; have y4 := (kcells_get HE3.out.one).2.1; have HZ := res_store HE3.out.res HE3.out.bel (by omega) zeroK none 0 none 0) | (refine wpList_load_want (by rfl) 28 _ rfl (w.heap.size + 1) 0 (by rfl) ct _ (by first | exact hR3.out | exact hR2.out) Try.underlying28 rfl htz ?_) | (refine wpList_store_mid rfl 26 _ _ rfl (w.heap.size + 1 + 1) 0 (kcells zeroK none 0 none 0).toArray (by rfl) (by rfl) HZ.1.out hs9 HZ.2.1.out ?_))
  have HF := ans_zero (q := 2) HZ.2.2.2.out.1
  exact bodyPost_ret (results_cell3 rfl _ _ (w.heap.size + 1 + 1) 0 (by rfl) (kcells zeroK none 0 none 0) _ HZ.2.2.1.out Try.underlying26 rfl hs9) rfl (by
    show Ans w _ (.returned (.tuple #[.agg (kcells zeroK none 0 none 0).toArray, .slice none 0 0, .int .i64 2])) _
    exact HF)
set_option maxRecDepth 20000 in
set_option maxHeartbeats 4000000 in
theorem vtake_e3 (s : Tk) (a : Option Addr) (c : Nat) (g : Option Addr) (d : Nat) (x : Sg) (xa : Option Addr) (xc : Nat) (a2 : Option Addr) (c2 : Nat) (now : Int) (w : World) (hc : CameK w s a c g d) (hx : Came w x xa xc a2 c2) (hok : okK s = true) (hn : inB now 0 1048576 = true) (h1 : okS x = true) (h2 : (x.src != s.src) = false) (h3 : ((x.ses : Int) != (s.ses : Int)) = true) :
    Calls Try.prog 10 #[kv s a c g d, sv x xa xc a2 c2, .int .i64 now] w fun e w' => Ans w w' e (zeroK, [], 2) := by
  have HBG : Hid (∀ W, Below w.heap.size w W → Calls Try.prog 31 #[kv s a c g d, .int .i64 now] W fun e w' => ∃ a' c' g' d', e = .returned (.tuple #[.agg (tcs s a' c' g' d' (.slice none 0 0)).toArray, .int .i64 0]) ∧ Hid (Below W.heap.size W w' ∧ KN W.heap.size w' s a' c' g' d')) := fun W hb => vbegin_ok s a c g d now W (hc.later hb) hok hn
  have HEN : Hid (En w (((w.alloc (kc s a c g d)).alloc (sc x xa xc a2 c2)).alloc (kc zeroK none 0 none 0)) s a c g d x xa xc a2 c2) := En.start w s a c g d x xa xc a2 c2
  obtain ⟨ct, hct⟩ : ∃ ct, Hid (ct = sgcells x xa xc a2 c2) := ⟨_, rfl⟩
  have htz : (Try.prog.info? 28).map (·.size) = some ct.length := by rw [show ct.length = 13 by rw [hct.out]; rfl]; kernel_rfl
  have hs9 : (Try.prog.info? 26).map (·.size) = some 9 := by kernel_rfl
  have HCK : Hid (∀ W, Below w.heap.size w W → Calls Try.prog 30 #[.agg ct.toArray] W fun e w' => e = .returned (.int .i64 (chkS x)) ∧ Hid (Below W.heap.size W w')) := fun W hb => by rw [hct.out]; exact check_any x xa xc a2 c2 W (hx.later hb)
  have HFW : Hid (∀ W, Below w.heap.size w W → Calls Try.prog 15 #[.agg ct.toArray] W fun e w' => e = .returned (.bool (fwdS x)) ∧ Hid (Below W.heap.size W w')) := fun W hb => by rw [hct.out]; exact forward_any x xa xc a2 c2 W
  rw [chk_ok h1] at HCK
  clear h1
  clear hc hx hok hn
  go_enter Try.func10, Try.ntmps10
  go_wp2_with (first | (go_at_call 31; refine (HBG.out _ HEN.out.bel).mono ?_; rintro e w1 ⟨a', c', g', d', rfl, hq⟩; have HE2 : Hid (En w (w1.alloc (tc s a' c' g' d' (.slice none 0 0))) s a c g d x xa xc a2 c2) := (HEN.out.later hq.out.1).later ((Below.refl _ w1).alloc (Nat.le_refl _) _); have hR2 : Hid ((w1.alloc (tc s a' c' g' d' (.slice none 0 0))).rangeAt (w.heap.size + 1) 0 ct) := by (rw [hct.out]; exact sg_range HE2.out.two)) | (go_at_call 30; refine (HCK.out _ HE2.out.bel).mono ?_; rintro e w2 ⟨rfl, hb2⟩; have HE3 : Hid (En w w2 s a c g d x xa xc a2 c2) := HE2.out.later hb2.out; have hR3 : Hid (w2.rangeAt (w.heap.size + 1) 0 ct) := (by rw [hct.out]; exact sg_range HE3.out.two); have y1 := (scells HE3.out.two).2.1; have y2 := (scells HE3.out.two).2.2.1; have y3 := (kcells_get HE3.out.one).1; have y4 := (kcells_get HE3.out.one).2.1; have HZ := res_store HE3.out.res HE3.out.bel (by omega) zeroK none 0 none 0) | (refine wpList_load_want (by rfl) 28 _ rfl (w.heap.size + 1) 0 (by rfl) ct _ (by first | exact hR3.out | exact hR2.out) Try.underlying28 rfl htz ?_) | (refine wpList_store_mid rfl 26 _ _ rfl (w.heap.size + 1 + 1) 0 (kcells zeroK none 0 none 0).toArray (by rfl) (by rfl) HZ.1.out hs9 HZ.2.1.out ?_))
  have HF := ans_zero (q := 2) HZ.2.2.2.out.1
  exact bodyPost_ret (results_cell3 rfl _ _ (w.heap.size + 1 + 1) 0 (by rfl) (kcells zeroK none 0 none 0) _ HZ.2.2.1.out Try.underlying26 rfl hs9) rfl (by
    show Ans w _ (.returned (.tuple #[.agg (kcells zeroK none 0 none 0).toArray, .slice none 0 0, .int .i64 2])) _
    exact HF)
set_option maxRecDepth 20000 in
set_option maxHeartbeats 4000000 in
theorem vtake_e4 (s : Tk) (a : Option Addr) (c : Nat) (g : Option Addr) (d : Nat) (x : Sg) (xa : Option Addr) (xc : Nat) (a2 : Option Addr) (c2 : Nat) (now : Int) (w : World) (hc : CameK w s a c g d) (hx : Came w x xa xc a2 c2) (hok : okK s = true) (hn : inB now 0 1048576 = true) (h1 : okS x = true) (h2 : (x.src != s.src) = false) (h3 : ((x.ses : Int) != (s.ses : Int)) = false) (h4 : fwdS x = false) :
    Calls Try.prog 10 #[kv s a c g d, sv x xa xc a2 c2, .int .i64 now] w fun e w' => Ans w w' e (zeroK, [], 2) := by
  have HBG : Hid (∀ W, Below w.heap.size w W → Calls Try.prog 31 #[kv s a c g d, .int .i64 now] W fun e w' => ∃ a' c' g' d', e = .returned (.tuple #[.agg (tcs s a' c' g' d' (.slice none 0 0)).toArray, .int .i64 0]) ∧ Hid (Below W.heap.size W w' ∧ KN W.heap.size w' s a' c' g' d')) := fun W hb => vbegin_ok s a c g d now W (hc.later hb) hok hn
  have HEN : Hid (En w (((w.alloc (kc s a c g d)).alloc (sc x xa xc a2 c2)).alloc (kc zeroK none 0 none 0)) s a c g d x xa xc a2 c2) := En.start w s a c g d x xa xc a2 c2
  obtain ⟨ct, hct⟩ : ∃ ct, Hid (ct = sgcells x xa xc a2 c2) := ⟨_, rfl⟩
  have htz : (Try.prog.info? 28).map (·.size) = some ct.length := by rw [show ct.length = 13 by rw [hct.out]; rfl]; kernel_rfl
  have hs9 : (Try.prog.info? 26).map (·.size) = some 9 := by kernel_rfl
  have HCK : Hid (∀ W, Below w.heap.size w W → Calls Try.prog 30 #[.agg ct.toArray] W fun e w' => e = .returned (.int .i64 (chkS x)) ∧ Hid (Below W.heap.size W w')) := fun W hb => by rw [hct.out]; exact check_any x xa xc a2 c2 W (hx.later hb)
  have HFW : Hid (∀ W, Below w.heap.size w W → Calls Try.prog 15 #[.agg ct.toArray] W fun e w' => e = .returned (.bool (fwdS x)) ∧ Hid (Below W.heap.size W w')) := fun W hb => by rw [hct.out]; exact forward_any x xa xc a2 c2 W
  rw [chk_ok h1] at HCK
  rw [h4] at HFW
  clear h1 h4
  clear hc hx hok hn
  go_enter Try.func10, Try.ntmps10
  go_wp2_with (first | (go_at_call 31; refine (HBG.out _ HEN.out.bel).mono ?_; rintro e w1 ⟨a', c', g', d', rfl, hq⟩; have HE2 : Hid (En w (w1.alloc (tc s a' c' g' d' (.slice none 0 0))) s a c g d x xa xc a2 c2) := (HEN.out.later hq.out.1).later ((Below.refl _ w1).alloc (Nat.le_refl _) _); have hR2 : Hid ((w1.alloc (tc s a' c' g' d' (.slice none 0 0))).rangeAt (w.heap.size + 1) 0 ct) := by (rw [hct.out]; exact sg_range HE2.out.two)) | (go_at_call 30; refine (HCK.out _ HE2.out.bel).mono ?_; rintro e w2 ⟨rfl, hb2⟩; have HE3 : Hid (En w w2 s a c g d x xa xc a2 c2) := HE2.out.later hb2.out; have hR3 : Hid (w2.rangeAt (w.heap.size + 1) 0 ct) := (by rw [hct.out]; exact sg_range HE3.out.two); have y1 := (scells HE3.out.two).2.1; have y2 := (scells HE3.out.two).2.2.1; have y3 := (kcells_get HE3.out.one).1; have y4 := (kcells_get HE3.out.one).2.1; have HZ := res_store HE3.out.res HE3.out.bel (by omega) zeroK none 0 none 0) | (go_at_call 15; refine (HFW.out _ HE3.out.bel).mono ?_; rintro e w3 ⟨rfl, hb3⟩; have HE4 : Hid (En w w3 s a c g d x xa xc a2 c2) := HE3.out.later hb3.out; have HZ := res_store HE4.out.res HE4.out.bel (by omega) zeroK none 0 none 0) | (refine wpList_load_want (by rfl) 28 _ rfl (w.heap.size + 1) 0 (by rfl) ct _ (by first | exact hR3.out | exact hR2.out) Try.underlying28 rfl htz ?_) | (refine wpList_store_mid rfl 26 _ _ rfl (w.heap.size + 1 + 1) 0 (kcells zeroK none 0 none 0).toArray (by rfl) (by rfl) HZ.1.out hs9 HZ.2.1.out ?_))
  have HF := ans_zero (q := 2) HZ.2.2.2.out.1
  exact bodyPost_ret (results_cell3 rfl _ _ (w.heap.size + 1 + 1) 0 (by rfl) (kcells zeroK none 0 none 0) _ HZ.2.2.1.out Try.underlying26 rfl hs9) rfl (by
    show Ans w _ (.returned (.tuple #[.agg (kcells zeroK none 0 none 0).toArray, .slice none 0 0, .int .i64 2])) _
    exact HF)
end Go.Proofs.Ythmolodkaboakaa
