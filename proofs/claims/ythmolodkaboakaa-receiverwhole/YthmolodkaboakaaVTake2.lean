/- receiver.Take, of a segment that goes with the session. -/
import Derived.Test.YthmolodkaboakaaVTake
namespace Go.Proofs.Ythmolodkaboakaa
open Go.RowKit
set_option linter.unusedVariables false
theorem Sent.off {n : Nat} {w w' : World} {S : Nat → Prop} {v : Value} {l : List Sg} (h : Sent n w v l) (ho : Off S w w') (hS : ∀ k, S k → k < n) : Sent n w' v l := by
  cases l with
  | nil => exact h
  | cons x r =>
    obtain ⟨h0, g2, cap, a2, c2, h1, h2, h3, h4, h5, h6, h7⟩ := h
    refine ⟨h0, g2, cap, a2, c2, h1, h2, fun j u hu => ho.cell (h3 j u hu) (fun t => by have := hS _ t; simp only at this; omega), h4, ⟨h5.1, fun hp => ?_⟩, h6, h7⟩
    obtain ⟨b, o, rfl, hc⟩ := h5.2 hp
    have := h6 _ rfl
    exact ⟨b, o, rfl, fun i hi => ⟨ho.cell (hc i hi).1 (fun t => by have := hS _ t; simp only at *; omega), ho.cell (hc i hi).2 (fun t => by have := hS _ t; simp only at *; omega)⟩⟩
theorem Sent.base {n m : Nat} {w : World} {v : Value} {l : List Sg} (h : Sent n w v l) (hm : m ≤ n) : Sent m w v l := by
  cases l with
  | nil => exact h
  | cons x r =>
    obtain ⟨h0, g2, cap, a2, c2, h1, h2, h3, h4, h5, h6, h7⟩ := h
    exact ⟨h0, g2, cap, a2, c2, h1, by omega, h3, h4, h5, fun bb e => by have := h6 bb e; omega, h7⟩
theorem take_fin {w w5 : World} {n tb : Nat} {s : Tk} {a : Option Addr} {c : Nat} {g : Option Addr} {d : Nat} {v : Value} {l : List Sg} (h : Tn n w5 tb s a c g d v) (hs : Sent n w5 v l) (hb : Below w.heap.size w w5) (hn : w.heap.size + 3 ≤ n) :
    Ans w (w5.setCells (w.heap.size + 1 + 1) 0 (kcells s a c g d)) (.returned (.tuple #[.agg (kcells s a c g d).toArray, v, .int .i64 0])) (s, l, 0) := by
  have ho := setC_off w5 (w.heap.size + 1 + 1) 0 (kcells s a c g d)
  exact ⟨a, c, g, d, v, rfl, hb.trans (ho.below hb.size (fun i e => by have : i = w.heap.size + 1 + 1 := e; omega)), (h.kn.off ho (fun k e => by have : k = w.heap.size + 1 + 1 := e; omega)).base (by omega), (hs.off ho (fun k e => by have : k = w.heap.size + 1 + 1 := e; omega)).base (by omega)⟩
/-- the answer's block, and all that lay ahead, behind a turn's call. -/
theorem left_res {w w3 w5 : World} {n tb : Nat} {s : Tk} {a : Option Addr} {c : Nat} {g : Option Addr} {d : Nat} {v : Value} (h : Tn n w3 tb s a c g d v) (hb : Below w.heap.size w w3) (hr : w3.heap[w.heap.size + 1 + 1]? = some (kc zeroK none 0 none 0)) (hn : w.heap.size + 3 ≤ n) (ht : w.heap.size + 3 ≤ tb) (k : Off (Wr tb a) w3 w5) : Below w.heap.size w w5 ∧ w5.heap[w.heap.size + 1 + 1]? = some (kc zeroK none 0 none 0) := by
  have hge : ∀ i, Wr tb a i → w.heap.size + 3 ≤ i := fun i t => by
    rcases t with t | ⟨o, t⟩
    · omega
    · have := own_ge h.kn.byt i (by rw [t]; rfl); omega
  exact ⟨hb.trans (k.below hb.size (fun i t => by have := hge i t; omega)), k.at hr (fun t => by have := hge _ t; omega)⟩
theorem due_set {n : Nat} {w : World} {tb : Nat} {s : Tk} {a : Option Addr} {c : Nat} {g : Option Addr} {d : Nat} {v : Value} (h : Tn n w tb s a c g d v) (q : Int) : Tn n (w.setCell ⟨tb, 8, none⟩ (.int .i64 q)) tb { s with due := q } a c g d v ∧ Off (Wr tb a) w (w.setCell ⟨tb, 8, none⟩ (.int .i64 q)) := by
  have ho : Off (fun i => i = tb) w (w.setCell ⟨tb, 8, none⟩ (.int .i64 q)) := (Off.refl (fun i => i = tb) w).setCell (p := ⟨tb, 8, none⟩) (.inr rfl) _
  have hk := h.kn.keep h.here ho
  refine ⟨⟨?_, ⟨hk.byt, hk.got, hk.bok⟩, Nat.lt_of_lt_of_le h.lt ho.size, Nat.le_trans h.le ho.size⟩, ho.mono (fun i _ e => .inl e)⟩
  rw [heap_setCell_same _ _ _ _ _ _ h.here]
  rfl
theorem step_load {P : Program} {ops : Array Oper} {op : Oper} {a : Act} {w : World} {K : Act → World → Prop} {Q : Exit → Act → World → Prop} {E : Prop} (hw : Region.wanted op (yielded ops a.tmps) = true) (ty : TypeId) (x : Operand) (ho : op.op = .load ty x)
    (b o : Nat) (hx : a.eval x = .pointer (some ⟨b, o, none⟩)) (cs : List Value) (d : TypeDesc) (hc : w.rangeAt b o cs)
    (hu : P.underlying ty = some d) (hd : d.isRow = true) (hi : (P.info? ty).map (·.size) = some cs.length)
    (h : K (a.put op.dst (.agg cs.toArray)) w) : if Region.wanted op (yielded ops a.tmps) = true then Oper.wp P op a w K Q else E := by
  rw [if_pos hw]
  exact wp_load_mid ty x ho b o hx cs d hc hu hd hi h
theorem step_store {P : Program} {ops : Array Oper} {op : Oper} {a : Act} {w : World} {K : Act → World → Prop} {Q : Exit → Act → World → Prop} {E : Prop} (hw : Region.wanted op (yielded ops a.tmps) = true) (ty : TypeId) (x y : Operand) (ho : op.op = .store ty x y)
    (b o : Nat) (cells : Array Value) (hx : a.eval x = .pointer (some ⟨b, o, none⟩)) (hy : a.eval y = .agg cells)
    (ht : w.there b o cells.size) (hi : (P.info? ty).map (·.size) = some cells.size) (h1 : cells.all (·.oneCell') = true)
    (h : K (a.put op.dst undef) (w.setCells b o cells.toList)) : if Region.wanted op (yielded ops a.tmps) = true then Oper.wp P op a w K Q else E := by
  rw [if_pos hw]
  exact wp_store_mid ty x y ho b o cells hx hy ht hi h1 h
/-- a turn at its end. -/
structure Fin (w w5 : World) (n tb : Nat) (s : Tk) (a : Option Addr) (c : Nat) (g : Option Addr) (d : Nat) (v : Value) (l : List Sg) : Prop where
  tn : Tn n w5 tb s a c g d v
  sent : Sent n w5 v l
  bel : Below w.heap.size w w5
  res : w5.heap[w.heap.size + 1 + 1]? = some (kc zeroK none 0 none 0)
  n3 : w.heap.size + 3 ≤ n
  t3 : w.heap.size + 3 ≤ tb
theorem Fin.cell9 {w w5 : World} {n tb : Nat} {s : Tk} {a : Option Addr} {c : Nat} {g : Option Addr} {d : Nat} {v : Value} {l : List Sg} (h : Fin w w5 n tb s a c g d v l) (cs : List Value) : w5.cell? ⟨tb, 9, none⟩ = some v ∧ (w5.drew.setCells (w.heap.size + 1 + 1) 0 cs).cell? ⟨tb, 9, none⟩ = some v := by
  have h9 := (tc_get h.tn.here).2.2.2.2.2.2.2.2.2
  have ho := setC_off w5.drew (w.heap.size + 1 + 1) 0 cs
  have := h.t3
  exact ⟨h9, ho.cell (p := ⟨tb, 9, none⟩) h9 (by show ¬ (tb = _); omega)⟩
theorem Fin.stores {w w5 : World} {n tb : Nat} {s : Tk} {a : Option Addr} {c : Nat} {g : Option Addr} {d : Nat} {v : Value} {l : List Sg} (h : Fin w w5 n tb s a c g d v l) {cs : List Value} (hcs : cs = kcells s a c g d) :
    w5.drew.rangeAt tb 0 cs ∧ w5.drew.there (w.heap.size + 1 + 1) 0 cs.toArray.size ∧ cs.toArray.all (·.oneCell') = true ∧ (w5.drew.setCells (w.heap.size + 1 + 1) 0 cs).rangeAt (w.heap.size + 1 + 1) 0 cs ∧ Ans w (w5.drew.setCells (w.heap.size + 1 + 1) 0 cs) (.returned (.tuple #[.agg cs.toArray, v, .int .i64 0])) (s, l, 0) := by
  subst hcs
  have hf : Tn n w5.drew tb s a c g d v := h.tn.off (S := fun _ => False) (Off.refl _ w5).drew (fun _ t => t.elim) id
  have hs : Sent n w5.drew v l := h.sent.off (S := fun _ => False) (Off.refl _ w5).drew (fun _ t => t.elim)
  exact ⟨t_range9 hf.here, k_there h.res, k_one _ _ _ _ _, k_range (block_stored (zs := kcells zeroK none 0 none 0) h.res rfl), take_fin hf hs h.bel.drew h.n3⟩
theorem Fin.reads {w w5 : World} {n tb : Nat} {s : Tk} {a : Option Addr} {c : Nat} {g : Option Addr} {d : Nat} {v : Value} {l : List Sg} (h : Fin w w5 n tb s a c g d v l) : w5.cell? ⟨tb, 0, none⟩ = some (.int .i64 s.src) ∧ w5.cell? ⟨tb, 1, none⟩ = some (.int .u32 (s.ses : Nat)) ∧ w5.cell? ⟨tb, 2, none⟩ = some (.int .i64 s.tot) ∧ w5.cell? ⟨tb, 3, none⟩ = some (.slice a s.byt.length c) ∧ w5.cell? ⟨tb, 4, none⟩ = some (.slice g s.got.length d) ∧ w5.cell? ⟨tb, 5, none⟩ = some (.int .u32 (s.ser : Nat)) ∧ w5.cell? ⟨tb, 6, none⟩ = some (.int .i64 s.sta) ∧ w5.cell? ⟨tb, 7, none⟩ = some (.int .i64 s.lif) ∧ w5.cell? ⟨tb, 8, none⟩ = some (.int .i64 s.due) ∧ w5.cell? ⟨tb, 9, none⟩ = some v := tc_get h.tn.here
theorem Fin.reads2 {w w5 : World} {n tb : Nat} {s : Tk} {a : Option Addr} {c : Nat} {g : Option Addr} {d : Nat} {v : Value} {l : List Sg} (h : Fin w w5 n tb s a c g d v l) : (w5.drew.setCells (w.heap.size + 1 + 1) 0 (kcells s a c g d)).cell? ⟨tb, 0, none⟩ = some (.int .i64 s.src) ∧ (w5.drew.setCells (w.heap.size + 1 + 1) 0 (kcells s a c g d)).cell? ⟨tb, 1, none⟩ = some (.int .u32 (s.ses : Nat)) ∧ (w5.drew.setCells (w.heap.size + 1 + 1) 0 (kcells s a c g d)).cell? ⟨tb, 2, none⟩ = some (.int .i64 s.tot) ∧ (w5.drew.setCells (w.heap.size + 1 + 1) 0 (kcells s a c g d)).cell? ⟨tb, 3, none⟩ = some (.slice a s.byt.length c) ∧ (w5.drew.setCells (w.heap.size + 1 + 1) 0 (kcells s a c g d)).cell? ⟨tb, 4, none⟩ = some (.slice g s.got.length d) ∧ (w5.drew.setCells (w.heap.size + 1 + 1) 0 (kcells s a c g d)).cell? ⟨tb, 5, none⟩ = some (.int .u32 (s.ser : Nat)) ∧ (w5.drew.setCells (w.heap.size + 1 + 1) 0 (kcells s a c g d)).cell? ⟨tb, 6, none⟩ = some (.int .i64 s.sta) ∧ (w5.drew.setCells (w.heap.size + 1 + 1) 0 (kcells s a c g d)).cell? ⟨tb, 7, none⟩ = some (.int .i64 s.lif) ∧ (w5.drew.setCells (w.heap.size + 1 + 1) 0 (kcells s a c g d)).cell? ⟨tb, 8, none⟩ = some (.int .i64 s.due) ∧ (w5.drew.setCells (w.heap.size + 1 + 1) 0 (kcells s a c g d)).cell? ⟨tb, 9, none⟩ = some v := by
  have ho := setC_off w5.drew (w.heap.size + 1 + 1) 0 (kcells s a c g d)
  have := h.t3
  exact tc_get (ho.at (k := tb) h.tn.here (by show ¬ (tb = _); omega))
/-- where Take stands when the segment goes with the session. -/
structure At3 (w w1 w3 : World) (s : Tk) (a : Option Addr) (c : Nat) (g : Option Addr) (d : Nat) (x : Sg) (xa : Option Addr) (xc : Nat) (a2 : Option Addr) (c2 : Nat) (a' : Option Addr) (c' : Nat) (g' : Option Addr) (d' : Nat) (n : Nat) : Prop where
  en : En w w3 s a c g d x xa xc a2 c2
  tn : Tn n w3 w1.heap.size s a' c' g' d' (.slice none 0 0)
  n3 : w.heap.size + 3 ≤ n
  t3 : w.heap.size + 3 ≤ w1.heap.size
theorem at3_of {w W w1 w3 : World} {s : Tk} {a : Option Addr} {c : Nat} {g : Option Addr} {d : Nat} {x : Sg} {xa : Option Addr} {xc : Nat} {a2 : Option Addr} {c2 : Nat} {a' : Option Addr} {c' : Nat} {g' : Option Addr} {d' : Nat} (h : En w W s a c g d x xa xc a2 c2) (hq : Below W.heap.size W w1 ∧ KN W.heap.size w1 s a' c' g' d') (hb : Below (w1.alloc (tc s a' c' g' d' (.slice none 0 0))).heap.size (w1.alloc (tc s a' c' g' d' (.slice none 0 0))) w3) : At3 w w1 w3 s a c g d x xa xc a2 c2 a' c' g' d' W.heap.size := by
  have hb1 : Below w1.heap.size w1 (w1.alloc (tc s a' c' g' d' (.slice none 0 0))) := (Below.refl _ w1).alloc (Nat.le_refl _) _
  have hb2 := below_of hb1 hb
  refine ⟨(h.later hq.1).later hb2, ⟨old_block hb (heap_alloc_new w1 _), hq.2.later hb2, ?_, Nat.le_trans hq.1.size hb2.size⟩, h.size, Nat.le_trans h.size hq.1.size⟩
  have := hb.size
  simp at this
  omega
set_option maxRecDepth 20000 in
set_option maxHeartbeats 4000000 in
theorem vtake_p (s : Tk) (a : Option Addr) (c : Nat) (g : Option Addr) (d : Nat) (x : Sg) (xa : Option Addr) (xc : Nat) (a2 : Option Addr) (c2 : Nat) (now : Int) (w : World) (hc : CameK w s a c g d) (hx : Came w x xa xc a2 c2) (hok : okK s = true) (hn : inB now 0 1048576 = true) (h1 : okS x = true) (h2 : (x.src != s.src) = false) (h3 : ((x.ses : Int) != (s.ses : Int)) = false) (h4 : fwdS x = true) (hk1 : (x.knd == 1) = false) (hk4 : (x.knd == 4) = false) :
    Calls Try.prog 10 #[kv s a c g d, sv x xa xc a2 c2, .int .i64 now] w fun e w' => Ans w w' e ({ s with due := now + s.lif }, [], 0) := by
  have HBG : Hid (∀ W, Below w.heap.size w W → Calls Try.prog 31 #[kv s a c g d, .int .i64 now] W fun e w' => ∃ a' c' g' d', e = .returned (.tuple #[.agg (tcs s a' c' g' d' (.slice none 0 0)).toArray, .int .i64 0]) ∧ Hid (Below W.heap.size W w' ∧ KN W.heap.size w' s a' c' g' d')) := fun W hb => vbegin_ok s a c g d now W (hc.later hb) hok hn
  have HEN : Hid (En w (((w.alloc (kc s a c g d)).alloc (sc x xa xc a2 c2)).alloc (kc zeroK none 0 none 0)) s a c g d x xa xc a2 c2) := En.start w s a c g d x xa xc a2 c2
  obtain ⟨ct, hct⟩ : ∃ ct, Hid (ct = sgcells x xa xc a2 c2) := ⟨_, rfl⟩
  have htz : (Try.prog.info? 28).map (·.size) = some ct.length := by rw [show ct.length = 13 by rw [hct.out]; rfl]; kernel_rfl
  have hs9 : (Try.prog.info? 26).map (·.size) = some 9 := by kernel_rfl
  have HCK : Hid (∀ W, Below w.heap.size w W → Calls Try.prog 30 #[.agg ct.toArray] W fun e w' => e = .returned (.int .i64 (chkS x)) ∧ Hid (Below W.heap.size W w')) := fun W hb => by rw [hct.out]; exact check_any x xa xc a2 c2 W (hx.later hb)
  have HFW : Hid (∀ W, Below w.heap.size w W → Calls Try.prog 15 #[.agg ct.toArray] W fun e w' => e = .returned (.bool (fwdS x)) ∧ Hid (Below W.heap.size W w')) := fun W hb => by rw [hct.out]; exact forward_any x xa xc a2 c2 W
  have hnow := inB_of hn
  have hlif := (smallK hok).2.2.2.1
  rw [chk_ok h1] at HCK
  rw [h4] at HFW
  clear hc hx hok hn h1 h4
  go_enter Try.func10, Try.ntmps10
  go_wp2_with (first | (go_at_call 31; refine (HBG.out _ HEN.out.bel).mono ?_; rintro e w1 ⟨a', c', g', d', rfl, hq⟩; have HE2 : Hid (En w (w1.alloc (tc s a' c' g' d' (.slice none 0 0))) s a c g d x xa xc a2 c2) := (HEN.out.later hq.out.1).later ((Below.refl _ w1).alloc (Nat.le_refl _) _); have hR2 : Hid ((w1.alloc (tc s a' c' g' d' (.slice none 0 0))).rangeAt (w.heap.size + 1) 0 ct) := by (rw [hct.out]; exact sg_range HE2.out.two)) | (go_at_call 30; refine (HCK.out _ HE2.out.bel).mono ?_; rintro e w2 ⟨rfl, hb2⟩; have HE3 : Hid (En w w2 s a c g d x xa xc a2 c2) := HE2.out.later hb2.out; have hR3 : Hid (w2.rangeAt (w.heap.size + 1) 0 ct) := (by rw [hct.out]; exact sg_range HE3.out.two); have y1 := (scells HE3.out.two).2.1; have y2 := (scells HE3.out.two).2.2.1; have y3 := (kcells_get HE3.out.one).1; have y4 := (kcells_get HE3.out.one).2.1) | (go_at_call 15; refine (HFW.out _ HE3.out.bel).mono ?_; rintro e w3 ⟨rfl, hb3⟩; have HA3 : Hid (At3 w w1 w3 s a c g d x xa xc a2 c2 a' c' g' d' (((w.alloc (kc s a c g d)).alloc (sc x xa xc a2 c2)).alloc (kc zeroK none 0 none 0)).heap.size) := at3_of HEN.out hq.out (below_of hb2.out hb3.out); have z0 := (scells HA3.out.en.two).1; obtain ⟨_, _, _, _, _, _, k6, k7, k8, _⟩ := tc_get HA3.out.tn.here; have ff := frozen_of HA3.out.tn.here) | (refine wpList_load_want (by rfl) 28 _ rfl (w.heap.size + 1) 0 (by rfl) ct _ (by first | exact hR3.out | exact hR2.out) Try.underlying28 rfl htz ?_))
  have HFI : Hid (Fin w (w3.setCell ⟨w1.heap.size, 8, none⟩ (.int .i64 (now + s.lif))) (((w.alloc (kc s a c g d)).alloc (sc x xa xc a2 c2)).alloc (kc zeroK none 0 none 0)).heap.size w1.heap.size { s with due := now + s.lif } a' c' g' d' (.slice none 0 0) []) := by
    obtain ⟨d1, d2⟩ := due_set HA3.out.tn (now + s.lif)
    obtain ⟨e1, e2⟩ := left_res HA3.out.tn HA3.out.en.bel HA3.out.en.res HA3.out.n3 HA3.out.t3 d2
    exact ⟨d1, rfl, e1, e2, HA3.out.n3, HA3.out.t3⟩
  generalize w3.setCell ⟨w1.heap.size, 8, none⟩ (.int .i64 (now + s.lif)) = W5 at HFI ⊢
  clear HBG HEN HCK HFW hR2 hR3 HE2 HE3 hb2 hb3 hq y1 y2 y3 y4 z0 k6 k7 k8 ff HA3 hct htz
  obtain ⟨cs, hcs⟩ : ∃ cs, Hid (cs = kcells { s with due := now + s.lif } a' c' g' d') := ⟨_, rfl⟩
  obtain ⟨r1, r2, r3, r4, r5⟩ := HFI.out.stores hcs.out
  obtain ⟨q1, q2⟩ := HFI.out.cell9 cs
  have HR1 : Hid (W5.drew.rangeAt w1.heap.size 0 cs) := r1
  have HR4 : Hid ((W5.drew.setCells (w.heap.size + 1 + 1) 0 cs).rangeAt (w.heap.size + 1 + 1) 0 cs) := r4
  have HAN : Hid (Ans w (W5.drew.setCells (w.heap.size + 1 + 1) 0 cs) (.returned (.tuple #[.agg cs.toArray, (.slice none 0 0), .int .i64 0])) ({ s with due := now + s.lif }, [], 0)) := r5
  have hl9 : cs.length = 9 := by rw [hcs.out]; rfl
  have hsz1 : (Try.prog.info? 26).map (·.size) = some cs.length := by rw [hl9]; exact hs9
  have hsz2 : (Try.prog.info? 26).map (·.size) = some cs.toArray.size := by rw [show cs.toArray.size = 9 from hl9]; exact hs9
  clear r1 r4 r5
  refine wp_region_any (by kernel_rfl) ?_
  change wpAny _ _ _ _ _ _ _ (World.drew _)
  refine wpAny_ready (rs := [0, 2]) (by kernel_rfl) (by simp) ?_
  refine AllReady.cons rfl (fun K hK => ?_) (AllReady.cons rfl (fun K hK => ?_) AllReady.nil)
  · skip
    go_simp
    refine hK _ _ ?_
    clear hK K
    refine wpAny_ready (rs := [1, 2]) (by kernel_rfl) (by simp) ?_
    refine AllReady.cons rfl (fun K hK => ?_) (AllReady.cons rfl (fun K hK => ?_) AllReady.nil)
    · skip
      refine step_load (by rfl) 26 _ rfl w1.heap.size 0 (by rfl) cs _ HR1.out Try.underlying26 rfl hsz1 ?_
      refine hK _ _ ?_
      clear hK K
      refine wpAny_ready (rs := [2, 4]) (by kernel_rfl) (by simp) ?_
      refine AllReady.cons rfl (fun K hK => ?_) (AllReady.cons rfl (fun K hK => ?_) AllReady.nil)
      · skip
        go_simp
        refine hK _ _ ?_
        clear hK K
        refine wpAny_ready (rs := [3, 4]) (by kernel_rfl) (by simp) ?_
        refine AllReady.cons rfl (fun K hK => ?_) (AllReady.cons rfl (fun K hK => ?_) AllReady.nil)
        · skip
          go_simp
          refine hK _ _ ?_
          clear hK K
          refine wpAny_ready (rs := [4]) (by kernel_rfl) (by simp) ?_
          refine AllReady.cons rfl (fun K hK => ?_) AllReady.nil
          · skip
            refine step_store (by rfl) 26 _ _ rfl (w.heap.size + 1 + 1) 0 cs.toArray (by rfl) (by rfl) r2 hsz2 r3 ?_
            refine hK _ _ ?_
            clear hK K
            refine wpAny_ready (rs := [5]) (by kernel_rfl) (by simp) ?_
            refine AllReady.cons rfl (fun K hK => ?_) AllReady.nil
            · skip
              go_simp
              refine hK _ _ ?_
              clear hK K
              refine wpAny_ready (rs := [6]) (by kernel_rfl) (by simp) ?_
              refine AllReady.cons rfl (fun K hK => ?_) AllReady.nil
              · skip
                go_simp
                refine hK _ _ ?_
                clear hK K
                refine wpAny_done (by kernel_rfl) ?_ _
                go_wp2
                exact bodyPost_ret (results_cell3 rfl _ _ (w.heap.size + 1 + 1) 0 (by rfl) cs _ HR4.out Try.underlying26 rfl hsz1) rfl (by
                  show Ans w _ (.returned (.tuple #[.agg cs.toArray, (.slice none 0 0), .int .i64 0])) _
                  exact HAN.out)
        · skip
          refine step_store (by rfl) 26 _ _ rfl (w.heap.size + 1 + 1) 0 cs.toArray (by rfl) (by rfl) r2 hsz2 r3 ?_
          refine hK _ _ ?_
          clear hK K
          refine wpAny_ready (rs := [3]) (by kernel_rfl) (by simp) ?_
          refine AllReady.cons rfl (fun K hK => ?_) AllReady.nil
          · skip
            go_simp
            refine hK _ _ ?_
            clear hK K
            refine wpAny_ready (rs := [5]) (by kernel_rfl) (by simp) ?_
            refine AllReady.cons rfl (fun K hK => ?_) AllReady.nil
            · skip
              go_simp
              refine hK _ _ ?_
              clear hK K
              refine wpAny_ready (rs := [6]) (by kernel_rfl) (by simp) ?_
              refine AllReady.cons rfl (fun K hK => ?_) AllReady.nil
              · skip
                go_simp
                refine hK _ _ ?_
                clear hK K
                refine wpAny_done (by kernel_rfl) ?_ _
                go_wp2
                exact bodyPost_ret (results_cell3 rfl _ _ (w.heap.size + 1 + 1) 0 (by rfl) cs _ HR4.out Try.underlying26 rfl hsz1) rfl (by
                  show Ans w _ (.returned (.tuple #[.agg cs.toArray, (.slice none 0 0), .int .i64 0])) _
                  exact HAN.out)
      · skip
        refine step_store (by rfl) 26 _ _ rfl (w.heap.size + 1 + 1) 0 cs.toArray (by rfl) (by rfl) r2 hsz2 r3 ?_
        refine hK _ _ ?_
        clear hK K
        refine wpAny_ready (rs := [2]) (by kernel_rfl) (by simp) ?_
        refine AllReady.cons rfl (fun K hK => ?_) AllReady.nil
        · skip
          go_simp
          refine hK _ _ ?_
          clear hK K
          refine wpAny_ready (rs := [3]) (by kernel_rfl) (by simp) ?_
          refine AllReady.cons rfl (fun K hK => ?_) AllReady.nil
          · skip
            go_simp
            refine hK _ _ ?_
            clear hK K
            refine wpAny_ready (rs := [5]) (by kernel_rfl) (by simp) ?_
            refine AllReady.cons rfl (fun K hK => ?_) AllReady.nil
            · skip
              go_simp
              refine hK _ _ ?_
              clear hK K
              refine wpAny_ready (rs := [6]) (by kernel_rfl) (by simp) ?_
              refine AllReady.cons rfl (fun K hK => ?_) AllReady.nil
              · skip
                go_simp
                refine hK _ _ ?_
                clear hK K
                refine wpAny_done (by kernel_rfl) ?_ _
                go_wp2
                exact bodyPost_ret (results_cell3 rfl _ _ (w.heap.size + 1 + 1) 0 (by rfl) cs _ HR4.out Try.underlying26 rfl hsz1) rfl (by
                  show Ans w _ (.returned (.tuple #[.agg cs.toArray, (.slice none 0 0), .int .i64 0])) _
                  exact HAN.out)
    · skip
      go_simp
      refine hK _ _ ?_
      clear hK K
      refine wpAny_ready (rs := [1, 3]) (by kernel_rfl) (by simp) ?_
      refine AllReady.cons rfl (fun K hK => ?_) (AllReady.cons rfl (fun K hK => ?_) AllReady.nil)
      · skip
        refine step_load (by rfl) 26 _ rfl w1.heap.size 0 (by rfl) cs _ HR1.out Try.underlying26 rfl hsz1 ?_
        refine hK _ _ ?_
        clear hK K
        refine wpAny_ready (rs := [3, 4]) (by kernel_rfl) (by simp) ?_
        refine AllReady.cons rfl (fun K hK => ?_) (AllReady.cons rfl (fun K hK => ?_) AllReady.nil)
        · skip
          go_simp
          refine hK _ _ ?_
          clear hK K
          refine wpAny_ready (rs := [4]) (by kernel_rfl) (by simp) ?_
          refine AllReady.cons rfl (fun K hK => ?_) AllReady.nil
          · skip
            refine step_store (by rfl) 26 _ _ rfl (w.heap.size + 1 + 1) 0 cs.toArray (by rfl) (by rfl) r2 hsz2 r3 ?_
            refine hK _ _ ?_
            clear hK K
            refine wpAny_ready (rs := [5]) (by kernel_rfl) (by simp) ?_
            refine AllReady.cons rfl (fun K hK => ?_) AllReady.nil
            · skip
              go_simp
              refine hK _ _ ?_
              clear hK K
              refine wpAny_ready (rs := [6]) (by kernel_rfl) (by simp) ?_
              refine AllReady.cons rfl (fun K hK => ?_) AllReady.nil
              · skip
                go_simp
                refine hK _ _ ?_
                clear hK K
                refine wpAny_done (by kernel_rfl) ?_ _
                go_wp2
                exact bodyPost_ret (results_cell3 rfl _ _ (w.heap.size + 1 + 1) 0 (by rfl) cs _ HR4.out Try.underlying26 rfl hsz1) rfl (by
                  show Ans w _ (.returned (.tuple #[.agg cs.toArray, (.slice none 0 0), .int .i64 0])) _
                  exact HAN.out)
        · skip
          refine step_store (by rfl) 26 _ _ rfl (w.heap.size + 1 + 1) 0 cs.toArray (by rfl) (by rfl) r2 hsz2 r3 ?_
          refine hK _ _ ?_
          clear hK K
          refine wpAny_ready (rs := [3]) (by kernel_rfl) (by simp) ?_
          refine AllReady.cons rfl (fun K hK => ?_) AllReady.nil
          · skip
            go_simp
            refine hK _ _ ?_
            clear hK K
            refine wpAny_ready (rs := [5]) (by kernel_rfl) (by simp) ?_
            refine AllReady.cons rfl (fun K hK => ?_) AllReady.nil
            · skip
              go_simp
              refine hK _ _ ?_
              clear hK K
              refine wpAny_ready (rs := [6]) (by kernel_rfl) (by simp) ?_
              refine AllReady.cons rfl (fun K hK => ?_) AllReady.nil
              · skip
                go_simp
                refine hK _ _ ?_
                clear hK K
                refine wpAny_done (by kernel_rfl) ?_ _
                go_wp2
                exact bodyPost_ret (results_cell3 rfl _ _ (w.heap.size + 1 + 1) 0 (by rfl) cs _ HR4.out Try.underlying26 rfl hsz1) rfl (by
                  show Ans w _ (.returned (.tuple #[.agg cs.toArray, (.slice none 0 0), .int .i64 0])) _
                  exact HAN.out)
      · skip
        go_simp
        refine hK _ _ ?_
        clear hK K
        refine wpAny_ready (rs := [1]) (by kernel_rfl) (by simp) ?_
        refine AllReady.cons rfl (fun K hK => ?_) AllReady.nil
        · skip
          refine step_load (by rfl) 26 _ rfl w1.heap.size 0 (by rfl) cs _ HR1.out Try.underlying26 rfl hsz1 ?_
          refine hK _ _ ?_
          clear hK K
          refine wpAny_ready (rs := [4]) (by kernel_rfl) (by simp) ?_
          refine AllReady.cons rfl (fun K hK => ?_) AllReady.nil
          · skip
            refine step_store (by rfl) 26 _ _ rfl (w.heap.size + 1 + 1) 0 cs.toArray (by rfl) (by rfl) r2 hsz2 r3 ?_
            refine hK _ _ ?_
            clear hK K
            refine wpAny_ready (rs := [5]) (by kernel_rfl) (by simp) ?_
            refine AllReady.cons rfl (fun K hK => ?_) AllReady.nil
            · skip
              go_simp
              refine hK _ _ ?_
              clear hK K
              refine wpAny_ready (rs := [6]) (by kernel_rfl) (by simp) ?_
              refine AllReady.cons rfl (fun K hK => ?_) AllReady.nil
              · skip
                go_simp
                refine hK _ _ ?_
                clear hK K
                refine wpAny_done (by kernel_rfl) ?_ _
                go_wp2
                exact bodyPost_ret (results_cell3 rfl _ _ (w.heap.size + 1 + 1) 0 (by rfl) cs _ HR4.out Try.underlying26 rfl hsz1) rfl (by
                  show Ans w _ (.returned (.tuple #[.agg cs.toArray, (.slice none 0 0), .int .i64 0])) _
                  exact HAN.out)
  · skip
    go_simp
    refine hK _ _ ?_
    clear hK K
    refine wpAny_ready (rs := [0, 3]) (by kernel_rfl) (by simp) ?_
    refine AllReady.cons rfl (fun K hK => ?_) (AllReady.cons rfl (fun K hK => ?_) AllReady.nil)
    · skip
      go_simp
      refine hK _ _ ?_
      clear hK K
      refine wpAny_ready (rs := [1, 3]) (by kernel_rfl) (by simp) ?_
      refine AllReady.cons rfl (fun K hK => ?_) (AllReady.cons rfl (fun K hK => ?_) AllReady.nil)
      · skip
        refine step_load (by rfl) 26 _ rfl w1.heap.size 0 (by rfl) cs _ HR1.out Try.underlying26 rfl hsz1 ?_
        refine hK _ _ ?_
        clear hK K
        refine wpAny_ready (rs := [3, 4]) (by kernel_rfl) (by simp) ?_
        refine AllReady.cons rfl (fun K hK => ?_) (AllReady.cons rfl (fun K hK => ?_) AllReady.nil)
        · skip
          go_simp
          refine hK _ _ ?_
          clear hK K
          refine wpAny_ready (rs := [4]) (by kernel_rfl) (by simp) ?_
          refine AllReady.cons rfl (fun K hK => ?_) AllReady.nil
          · skip
            refine step_store (by rfl) 26 _ _ rfl (w.heap.size + 1 + 1) 0 cs.toArray (by rfl) (by rfl) r2 hsz2 r3 ?_
            refine hK _ _ ?_
            clear hK K
            refine wpAny_ready (rs := [5]) (by kernel_rfl) (by simp) ?_
            refine AllReady.cons rfl (fun K hK => ?_) AllReady.nil
            · skip
              go_simp
              refine hK _ _ ?_
              clear hK K
              refine wpAny_ready (rs := [6]) (by kernel_rfl) (by simp) ?_
              refine AllReady.cons rfl (fun K hK => ?_) AllReady.nil
              · skip
                go_simp
                refine hK _ _ ?_
                clear hK K
                refine wpAny_done (by kernel_rfl) ?_ _
                go_wp2
                exact bodyPost_ret (results_cell3 rfl _ _ (w.heap.size + 1 + 1) 0 (by rfl) cs _ HR4.out Try.underlying26 rfl hsz1) rfl (by
                  show Ans w _ (.returned (.tuple #[.agg cs.toArray, (.slice none 0 0), .int .i64 0])) _
                  exact HAN.out)
        · skip
          refine step_store (by rfl) 26 _ _ rfl (w.heap.size + 1 + 1) 0 cs.toArray (by rfl) (by rfl) r2 hsz2 r3 ?_
          refine hK _ _ ?_
          clear hK K
          refine wpAny_ready (rs := [3]) (by kernel_rfl) (by simp) ?_
          refine AllReady.cons rfl (fun K hK => ?_) AllReady.nil
          · skip
            go_simp
            refine hK _ _ ?_
            clear hK K
            refine wpAny_ready (rs := [5]) (by kernel_rfl) (by simp) ?_
            refine AllReady.cons rfl (fun K hK => ?_) AllReady.nil
            · skip
              go_simp
              refine hK _ _ ?_
              clear hK K
              refine wpAny_ready (rs := [6]) (by kernel_rfl) (by simp) ?_
              refine AllReady.cons rfl (fun K hK => ?_) AllReady.nil
              · skip
                go_simp
                refine hK _ _ ?_
                clear hK K
                refine wpAny_done (by kernel_rfl) ?_ _
                go_wp2
                exact bodyPost_ret (results_cell3 rfl _ _ (w.heap.size + 1 + 1) 0 (by rfl) cs _ HR4.out Try.underlying26 rfl hsz1) rfl (by
                  show Ans w _ (.returned (.tuple #[.agg cs.toArray, (.slice none 0 0), .int .i64 0])) _
                  exact HAN.out)
      · skip
        go_simp
        refine hK _ _ ?_
        clear hK K
        refine wpAny_ready (rs := [1]) (by kernel_rfl) (by simp) ?_
        refine AllReady.cons rfl (fun K hK => ?_) AllReady.nil
        · skip
          refine step_load (by rfl) 26 _ rfl w1.heap.size 0 (by rfl) cs _ HR1.out Try.underlying26 rfl hsz1 ?_
          refine hK _ _ ?_
          clear hK K
          refine wpAny_ready (rs := [4]) (by kernel_rfl) (by simp) ?_
          refine AllReady.cons rfl (fun K hK => ?_) AllReady.nil
          · skip
            refine step_store (by rfl) 26 _ _ rfl (w.heap.size + 1 + 1) 0 cs.toArray (by rfl) (by rfl) r2 hsz2 r3 ?_
            refine hK _ _ ?_
            clear hK K
            refine wpAny_ready (rs := [5]) (by kernel_rfl) (by simp) ?_
            refine AllReady.cons rfl (fun K hK => ?_) AllReady.nil
            · skip
              go_simp
              refine hK _ _ ?_
              clear hK K
              refine wpAny_ready (rs := [6]) (by kernel_rfl) (by simp) ?_
              refine AllReady.cons rfl (fun K hK => ?_) AllReady.nil
              · skip
                go_simp
                refine hK _ _ ?_
                clear hK K
                refine wpAny_done (by kernel_rfl) ?_ _
                go_wp2
                exact bodyPost_ret (results_cell3 rfl _ _ (w.heap.size + 1 + 1) 0 (by rfl) cs _ HR4.out Try.underlying26 rfl hsz1) rfl (by
                  show Ans w _ (.returned (.tuple #[.agg cs.toArray, (.slice none 0 0), .int .i64 0])) _
                  exact HAN.out)
    · skip
      go_simp
      refine hK _ _ ?_
      clear hK K
      refine wpAny_ready (rs := [0]) (by kernel_rfl) (by simp) ?_
      refine AllReady.cons rfl (fun K hK => ?_) AllReady.nil
      · skip
        go_simp
        refine hK _ _ ?_
        clear hK K
        refine wpAny_ready (rs := [1]) (by kernel_rfl) (by simp) ?_
        refine AllReady.cons rfl (fun K hK => ?_) AllReady.nil
        · skip
          refine step_load (by rfl) 26 _ rfl w1.heap.size 0 (by rfl) cs _ HR1.out Try.underlying26 rfl hsz1 ?_
          refine hK _ _ ?_
          clear hK K
          refine wpAny_ready (rs := [4]) (by kernel_rfl) (by simp) ?_
          refine AllReady.cons rfl (fun K hK => ?_) AllReady.nil
          · skip
            refine step_store (by rfl) 26 _ _ rfl (w.heap.size + 1 + 1) 0 cs.toArray (by rfl) (by rfl) r2 hsz2 r3 ?_
            refine hK _ _ ?_
            clear hK K
            refine wpAny_ready (rs := [5]) (by kernel_rfl) (by simp) ?_
            refine AllReady.cons rfl (fun K hK => ?_) AllReady.nil
            · skip
              go_simp
              refine hK _ _ ?_
              clear hK K
              refine wpAny_ready (rs := [6]) (by kernel_rfl) (by simp) ?_
              refine AllReady.cons rfl (fun K hK => ?_) AllReady.nil
              · skip
                go_simp
                refine hK _ _ ?_
                clear hK K
                refine wpAny_done (by kernel_rfl) ?_ _
                go_wp2
                exact bodyPost_ret (results_cell3 rfl _ _ (w.heap.size + 1 + 1) 0 (by rfl) cs _ HR4.out Try.underlying26 rfl hsz1) rfl (by
                  show Ans w _ (.returned (.tuple #[.agg cs.toArray, (.slice none 0 0), .int .i64 0])) _
                  exact HAN.out)
end Go.Proofs.Ythmolodkaboakaa
