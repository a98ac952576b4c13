/- A turn of the receiver, as data; receiver.begin. -/
import Derived.Test.YthmolodkaboakaaVCopy
namespace Go.Proofs.Ythmolodkaboakaa
open Go.RowKit
set_option linter.unusedVariables false
/-- a turn: a session and what is sent. -/
abbrev tcs (s : Tk) (a : Option Addr) (c : Nat) (g : Option Addr) (d : Nat) (v : Value) : List Value := [.int .i64 s.src, .int .u32 (s.ses : Nat), .int .i64 s.tot, .slice a s.byt.length c, .slice g s.got.length d, .int .u32 (s.ser : Nat), .int .i64 s.sta, .int .i64 s.lif, .int .i64 s.due, v]
abbrev tc (s : Tk) (a : Option Addr) (c : Nat) (g : Option Addr) (d : Nat) (v : Value) : Obj := .cells #[.int .i64 s.src, .int .u32 (s.ses : Nat), .int .i64 s.tot, .slice a s.byt.length c, .slice g s.got.length d, .int .u32 (s.ser : Nat), .int .i64 s.sta, .int .i64 s.lif, .int .i64 s.due, v] 64
theorem tc_get {W : World} {b : Nat} {s : Tk} {a : Option Addr} {c : Nat} {g : Option Addr} {d : Nat} {v : Value} (h : W.heap[b]? = some (tc s a c g d v)) :
    W.cell? ⟨b, 0, none⟩ = some (.int .i64 s.src) ∧ W.cell? ⟨b, 1, none⟩ = some (.int .u32 (s.ses : Nat)) ∧ W.cell? ⟨b, 2, none⟩ = some (.int .i64 s.tot) ∧ W.cell? ⟨b, 3, none⟩ = some (.slice a s.byt.length c) ∧ W.cell? ⟨b, 4, none⟩ = some (.slice g s.got.length d) ∧ W.cell? ⟨b, 5, none⟩ = some (.int .u32 (s.ser : Nat)) ∧ W.cell? ⟨b, 6, none⟩ = some (.int .i64 s.sta) ∧ W.cell? ⟨b, 7, none⟩ = some (.int .i64 s.lif) ∧ W.cell? ⟨b, 8, none⟩ = some (.int .i64 s.due) ∧ W.cell? ⟨b, 9, none⟩ = some v := by
  refine ⟨?_, ?_, ?_, ?_, ?_, ?_, ?_, ?_, ?_, ?_⟩
  all_goals (rw [cell_of h]; rfl)
theorem t_range {W : World} {b : Nat} {s : Tk} {a : Option Addr} {c : Nat} {g : Option Addr} {d : Nat} {v : Value} (h : W.heap[b]? = some (tc s a c g d v)) : W.rangeAt b 0 (tcs s a c g d v) := by
  intro j u hu
  rw [Nat.zero_add, cell_of h]
  rw [← List.getElem?_toArray] at hu
  exact hu
theorem t_range9 {W : World} {b : Nat} {s : Tk} {a : Option Addr} {c : Nat} {g : Option Addr} {d : Nat} {v : Value} (h : W.heap[b]? = some (tc s a c g d v)) : W.rangeAt b 0 (kcells s a c g d) := by
  intro j u hu
  refine t_range h j u ?_
  have hj : j < 9 := (List.getElem?_eq_some_iff.1 hu).1
  rw [← hu, show tcs s a c g d v = kcells s a c g d ++ [v] from rfl, List.getElem?_append_left (by simpa using hj)]
theorem t_there {W : World} {b : Nat} {s : Tk} {a : Option Addr} {c : Nat} {g : Option Addr} {d : Nat} {v : Value} (h : W.heap[b]? = some (tc s a c g d v)) : W.there b 0 10 := by
  intro j hj
  rw [Nat.zero_add]
  refine ⟨?_, frozen_of h j⟩
  rw [cell_of h, Array.getElem?_eq_getElem (by simpa using hj)]
  rfl
theorem t_one (s : Tk) (a : Option Addr) (c : Nat) (g : Option Addr) (d : Nat) (b : Option Addr) (n e : Nat) : (tcs s a c g d (.slice b n e)).toArray.all (·.oneCell') = true := by simp [Value.oneCell']
theorem heap_setCells {q : Nat} {t : TypeId} : ∀ (vs pre zs : List Value) (W : World), zs.length = vs.length → W.heap[q]? = some (.cells (pre ++ zs).toArray t (0, 0)) → (W.setCells q pre.length vs).heap[q]? = some (.cells (pre ++ vs).toArray t (0, 0))
  | [], pre, zs, W, hl, h => by
    obtain rfl : zs = [] := List.eq_nil_of_length_eq_zero hl
    exact h
  | v :: vs, pre, [], W, hl, h => by cases hl
  | v :: vs, pre, z :: zs, W, hl, h => by
    have h1 : (W.setCell ⟨q, pre.length, none⟩ v).heap[q]? = _ := heap_setCell_same _ _ _ _ _ _ h
    have h2 := heap_setCells (q := q) (t := t) vs (pre ++ [v]) zs (W.setCell ⟨q, pre.length, none⟩ v) (by simpa using hl) (by rw [h1]; simp)
    rw [List.length_append, List.length_singleton, List.append_assoc, List.singleton_append] at h2
    exact h2
/-- a whole block is stored. -/
theorem block_stored {W : World} {q : Nat} {t : TypeId} {zs vs : List Value} (h : W.heap[q]? = some (.cells zs.toArray t (0, 0))) (hl : zs.length = vs.length) : (W.setCells q 0 vs).heap[q]? = some (.cells vs.toArray t (0, 0)) := heap_setCells vs [] zs W hl h
theorem RowC.off {w w' : World} {S : Nat → Prop} {a : Option Addr} {l : List (Int × Int)} (h : RowC w a l) (ho : Off S w w') (hS : 0 < l.length → ∀ b, a = some b → ¬ S b.block) : RowC w' a l := by
  obtain ⟨h2, h3⟩ := h
  refine ⟨h2, fun h0 => ?_⟩
  obtain ⟨b, off, rfl, hc⟩ := h3 h0
  exact ⟨b, off, rfl, fun i hi => ⟨ho.cell (hc i hi).1 (hS h0 ⟨b, off, none⟩ rfl), ho.cell (hc i hi).2 (hS h0 ⟨b, off, none⟩ rfl)⟩⟩
/-- a block's result, and a slot's. -/
theorem results_cell2 {P : Program} {fn : Func} {k t : Tmp} {ty : TypeId} (h : fn.results = #[.cell k ty, .tmp t]) (tmps : Array Value) (w : World) (b o : Nat) (hk : tmps.getD k undef = .pointer (some ⟨b, o, none⟩)) (cs : List Value) (d : TypeDesc) (hc : w.rangeAt b o cs)
    (hu : P.underlying ty = some d) (hd : d.isRow = true) (hi : (P.info? ty).map (·.size) = some cs.length) : (results fn tmps).run P w = .ok (.tuple #[.agg cs.toArray, tmps.getD t undef]) w := by
  have hl : (loadVar ty ⟨b, o, none⟩).run P w = .ok (.agg cs.toArray) w := run_loadVar_mid w b o ty cs d hc hu hd hi
  unfold results
  rw [h]
  simp only [List.mapM_toArray, List.mapM_cons, List.mapM_nil]
  rw [hk]
  simp only [asAddr, pure_bind]
  simp [hl]
theorem clsOk_len (u : Int) : ∀ (l : List (Int × Int)) (least : Int), 0 ≤ least → clsOk u least l = true → (l.length : Int) ≤ u - least ∨ l = []
  | [], _, _, _ => .inr rfl
  | c :: r, least, h0, h => by
    simp only [clsOk, Bool.and_eq_true, Bool.not_eq_true', decide_eq_false_iff_not] at h
    obtain ⟨h1, h2, h3⟩ := h
    have h4 := inB_of h2
    left
    rcases clsOk_len u r _ (by omega) h3 with h5 | rfl
    · simp only [List.length_cons]
      omega
    · simp only [List.length_cons, List.length_nil]
      omega
theorem setC_off (W : World) (q o : Nat) (vs : List Value) : Off (fun i => i = q) W (W.setCells q o vs) := Off.setCells (S := fun i => i = q) (.inr rfl) _ _ _ (Off.refl _ _)
theorem smallK {s : Tk} (h : okK s = true) : (1 ≤ s.tot ∧ s.tot ≤ 512) ∧ (s.byt.length : Int) = s.tot ∧ s.got.length ≤ 512 ∧ (1 ≤ s.lif ∧ s.lif ≤ 65536) ∧ clsOk s.tot 0 s.got = true ∧ stateK s = true := by
  simp only [okK, numsK, Bool.and_eq_true, decide_eq_true_eq] at h
  obtain ⟨⟨_, _, h1, h2, h3, _⟩, h4, h5⟩ := h
  have k1 := inB_of h1
  have k3 := inB_of h3
  refine ⟨k1, h2, ?_, k3, h4, h5⟩
  rcases clsOk_len _ s.got 0 (by omega) h4 with h6 | h6
  · omega
  · rw [h6]; simp
/-- the result's block with noughts laid over it. -/
theorem zero_store {w w1 : World} (h : w1.heap[w.heap.size + 1]? = some (tc zeroK none 0 none 0 (.slice none 0 0))) (hb : Below w.heap.size w w1) :
    Hid (w1.there (w.heap.size + 1) 0 (tcs zeroK none 0 none 0 (.slice none 0 0)).toArray.size) ∧ Hid ((tcs zeroK none 0 none 0 (.slice none 0 0)).toArray.all (·.oneCell') = true) ∧ Hid ((w1.setCells (w.heap.size + 1) 0 (tcs zeroK none 0 none 0 (.slice none 0 0))).rangeAt (w.heap.size + 1) 0 (tcs zeroK none 0 none 0 (.slice none 0 0))) ∧ Hid (Below w.heap.size w (w1.setCells (w.heap.size + 1) 0 (tcs zeroK none 0 none 0 (.slice none 0 0)))) := by
  refine ⟨t_there h, by show _ = _; simp [Value.oneCell'], t_range (block_stored (zs := tcs zeroK none 0 none 0 (.slice none 0 0)) h rfl), hb.trans ((setC_off w1 (w.heap.size + 1) 0 _).below hb.size (fun i e => by have : i = w.heap.size + 1 := e; omega))⟩
set_option maxRecDepth 20000 in
set_option maxHeartbeats 8000000 in
theorem vbegin_no (s : Tk) (a : Option Addr) (c : Nat) (g : Option Addr) (d : Nat) (now : Int) (w : World) (hc : CameK w s a c g d) (hok : okK s = false) : Calls Try.prog 31 #[kv s a c g d, .int .i64 now] w fun e w' => e = .returned (.tuple #[.agg (tcs zeroK none 0 none 0 (.slice none 0 0)).toArray, .int .i64 250]) ∧ Hid (Below w.heap.size w w') := by
  obtain ⟨cs, hcs⟩ : ∃ cs, Hid (cs = kcells s a c g d) := ⟨_, rfl⟩
  have hs9 : Hid ((Try.prog.info? 26).map (·.size) = some 9) := by show _ = _; kernel_rfl
  have hs10 : (Try.prog.info? 64).map (·.size) = some 10 := by kernel_rfl
  have hsz1 : (Try.prog.info? 26).map (·.size) = some cs.length := by rw [show cs.length = 9 by rw [hcs.out]; rfl]; exact hs9.out
  have HB0 : Hid (Below w.heap.size w ((w.alloc (kc s a c g d)).alloc (tc zeroK none 0 none 0 (.slice none 0 0)))) := ((Below.refl _ w).alloc (Nat.le_refl _) _).alloc (by simp) _
  have HP0 : Hid (((w.alloc (kc s a c g d)).alloc (tc zeroK none 0 none 0 (.slice none 0 0))).heap[w.heap.size]? = some (kc s a c g d) ∧ ((w.alloc (kc s a c g d)).alloc (tc zeroK none 0 none 0 (.slice none 0 0))).heap[w.heap.size + 1]? = some (tc zeroK none 0 none 0 (.slice none 0 0))) := by
    refine ⟨old_block ((Below.refl _ (w.alloc (kc s a c g d))).alloc (Nat.le_refl _) _) (heap_alloc_new w _), ?_⟩
    have := heap_alloc_new (w.alloc (kc s a c g d)) (tc zeroK none 0 none 0 (.slice none 0 0))
    rw [show (w.alloc (kc s a c g d)).heap.size = w.heap.size + 1 by simp] at this
    exact this
  have HCK : Hid (∀ W, Below w.heap.size w W → Calls Try.prog 25 #[.agg cs.toArray] W fun e w' => e = .returned (.int .i64 250) ∧ Hid (Below W.heap.size W w')) := fun W hb => by
    have := vcheck_any s a c g d W (hc.later hb)
    rw [chkK_no hok] at this
    rw [hcs.out]
    exact this
  have HR0 : Hid (((w.alloc (kc s a c g d)).alloc (tc zeroK none 0 none 0 (.slice none 0 0))).rangeAt w.heap.size 0 cs) := by rw [hcs.out]; exact k_range HP0.out.1
  clear hc hok
  go_enter Try.func31, Try.ntmps31
  go_wp2_with (first | (refine wpList_load_mid rfl 26 _ rfl w.heap.size 0 (by rfl) cs _ HR0.out Try.underlying26 rfl hsz1 ?_) | (go_at_call 25; refine (HCK.out _ HB0.out).mono ?_; rintro e w1 ⟨rfl, hb1⟩; have HZ := zero_store (old_block hb1.out HP0.out.2) (below_of HB0.out hb1.out)) | (refine wpList_store_mid rfl 64 _ _ rfl (w.heap.size + 1) 0 (tcs zeroK none 0 none 0 (.slice none 0 0)).toArray (by rfl) (by rfl) HZ.1.out hs10 HZ.2.1.out ?_))
  exact bodyPost_ret (results_cell2 rfl _ _ (w.heap.size + 1) 0 (by rfl) (tcs zeroK none 0 none 0 (.slice none 0 0)) _ HZ.2.2.1.out Try.underlying64 rfl hs10) rfl ⟨rfl, HZ.2.2.2⟩
set_option maxRecDepth 20000 in
set_option maxHeartbeats 8000000 in
theorem vbegin_arg (s : Tk) (a : Option Addr) (c : Nat) (g : Option Addr) (d : Nat) (now : Int) (w : World) (hc : CameK w s a c g d) (hok : okK s = true) (hn : inB now 0 1048576 = false) : Calls Try.prog 31 #[kv s a c g d, .int .i64 now] w fun e w' => e = .returned (.tuple #[.agg (tcs zeroK none 0 none 0 (.slice none 0 0)).toArray, .int .i64 2]) ∧ Hid (Below w.heap.size w w') := by
  obtain ⟨cs, hcs⟩ : ∃ cs, Hid (cs = kcells s a c g d) := ⟨_, rfl⟩
  have hs9 : Hid ((Try.prog.info? 26).map (·.size) = some 9) := by show _ = _; kernel_rfl
  have hs10 : (Try.prog.info? 64).map (·.size) = some 10 := by kernel_rfl
  have hsz1 : (Try.prog.info? 26).map (·.size) = some cs.length := by rw [show cs.length = 9 by rw [hcs.out]; rfl]; exact hs9.out
  have HB0 : Hid (Below w.heap.size w ((w.alloc (kc s a c g d)).alloc (tc zeroK none 0 none 0 (.slice none 0 0)))) := ((Below.refl _ w).alloc (Nat.le_refl _) _).alloc (by simp) _
  have HP0 : Hid (((w.alloc (kc s a c g d)).alloc (tc zeroK none 0 none 0 (.slice none 0 0))).heap[w.heap.size]? = some (kc s a c g d) ∧ ((w.alloc (kc s a c g d)).alloc (tc zeroK none 0 none 0 (.slice none 0 0))).heap[w.heap.size + 1]? = some (tc zeroK none 0 none 0 (.slice none 0 0))) := by
    refine ⟨old_block ((Below.refl _ (w.alloc (kc s a c g d))).alloc (Nat.le_refl _) _) (heap_alloc_new w _), ?_⟩
    have := heap_alloc_new (w.alloc (kc s a c g d)) (tc zeroK none 0 none 0 (.slice none 0 0))
    rw [show (w.alloc (kc s a c g d)).heap.size = w.heap.size + 1 by simp] at this
    exact this
  have HCK : Hid (∀ W, Below w.heap.size w W → Calls Try.prog 25 #[.agg cs.toArray] W fun e w' => e = .returned (.int .i64 0) ∧ Hid (Below W.heap.size W w')) := fun W hb => by
    have := vcheck_any s a c g d W (hc.later hb)
    rw [chkK_ok hok] at this
    rw [hcs.out]
    exact this
  have HR0 : Hid (((w.alloc (kc s a c g d)).alloc (tc zeroK none 0 none 0 (.slice none 0 0))).rangeAt w.heap.size 0 cs) := by rw [hcs.out]; exact k_range HP0.out.1
  clear hc hok
  go_enter Try.func31, Try.ntmps31
  go_wp2_with (first | (refine wpList_load_mid rfl 26 _ rfl w.heap.size 0 (by rfl) cs _ HR0.out Try.underlying26 rfl hsz1 ?_) | (go_at_call 25; refine (HCK.out _ HB0.out).mono ?_; rintro e w1 ⟨rfl, hb1⟩; have HZ := zero_store (old_block hb1.out HP0.out.2) (below_of HB0.out hb1.out)) | (go_at_call 39; refine (vwithin_any _ _ _ _).mono ?_; rintro e w2 ⟨rfl, rfl⟩) | (refine wpList_store_mid rfl 64 _ _ rfl (w.heap.size + 1) 0 (tcs zeroK none 0 none 0 (.slice none 0 0)).toArray (by rfl) (by rfl) HZ.1.out hs10 HZ.2.1.out ?_))
  exact bodyPost_ret (results_cell2 rfl _ _ (w.heap.size + 1) 0 (by rfl) (tcs zeroK none 0 none 0 (.slice none 0 0)) _ HZ.2.2.1.out Try.underlying64 rfl hs10) rfl ⟨rfl, HZ.2.2.2⟩
/-- a session's rows, new and the call's own. -/
structure KN (n : Nat) (w : World) (s : Tk) (a : Option Addr) (c : Nat) (g : Option Addr) (d : Nat) : Prop where
  byt : w.ownsRow n 5 1 (.slice a s.byt.length c) s.byt.length (cells s.byt)
  got : w.ownsRow n 60 2 (.slice g s.got.length d) s.got.length (ccells s.got)
  bok : ∀ x ∈ s.byt, x < 256
theorem KN.off {n : Nat} {w w' : World} {s : Tk} {a : Option Addr} {c : Nat} {g : Option Addr} {d : Nat} {S : Nat → Prop} (h : KN n w s a c g d) (ho : Off S w w') (hS : ∀ k, S k → k < n) : KN n w' s a c g d :=
  ⟨ho.owns h.byt (fun k e t => by have := own_ge h.byt k e; have := hS k t; omega), ho.owns h.got (fun k e t => by have := own_ge h.got k e; have := hS k t; omega), h.bok⟩
theorem KN.base {n m : Nat} {w : World} {s : Tk} {a : Option Addr} {c : Nat} {g : Option Addr} {d : Nat} (h : KN n w s a c g d) (hm : m ≤ n) : KN m w s a c g d := ⟨own_base h.byt hm, own_base h.got hm, h.bok⟩
theorem KN.later {n : Nat} {w w' : World} {s : Tk} {a : Option Addr} {c : Nat} {g : Option Addr} {d : Nat} (h : KN n w s a c g d) (hb : Below w.heap.size w w') : KN n w' s a c g d := h.off (S := fun _ => False) (Off.of_below hb) (fun _ t => t.elim)
structure DK (w wd : World) (s : Tk) (a : Option Addr) (c : Nat) (g : Option Addr) (d : Nat) : Prop where
  one : wd.heap[w.heap.size]? = some (kc s a c g d)
  two : wd.heap[w.heap.size + 1]? = some (tc zeroK none 0 none 0 (.slice none 0 0))
  bel : Below w.heap.size w wd
  kn : KN (w.heap.size + 2) wd s a c g d
theorem size_two {W : World} {n : Nat} {o : Obj} (h : W.heap[n + 1]? = some o) : n + 2 ≤ W.heap.size := by
  have := (Array.getElem?_eq_some_iff.1 h).1
  omega
theorem dk_set {w W : World} {s : Tk} {a : Option Addr} {c : Nat} {g : Option Addr} {d : Nat} {a1 : Option Addr} {c1 : Nat} {g1 : Option Addr} {d1 : Nat} (hb : Below w.heap.size w W) (h1 : W.heap[w.heap.size]? = some (kc s a c g d)) (h2 : W.heap[w.heap.size + 1]? = some (tc zeroK none 0 none 0 (.slice none 0 0))) (hk : KN (w.heap.size + 2) W s a1 c1 g1 d1) :
    DK w ((W.setCell ⟨w.heap.size, 3, none⟩ (.slice a1 s.byt.length c1)).setCell ⟨w.heap.size, 4, none⟩ (.slice g1 s.got.length d1)) s a1 c1 g1 d1 := by
  have ho : Off (fun i => i = w.heap.size) W ((W.setCell ⟨w.heap.size, 3, none⟩ (.slice a1 s.byt.length c1)).setCell ⟨w.heap.size, 4, none⟩ (.slice g1 s.got.length d1)) := ((Off.refl (fun i => i = w.heap.size) W).setCell (p := ⟨w.heap.size, 3, none⟩) (.inr rfl) _).setCell (p := ⟨w.heap.size, 4, none⟩) (.inr rfl) _
  refine ⟨?_, ?_, hb.trans (ho.below hb.size (fun i e => by have : i = w.heap.size := e; omega)), hk.off ho (fun k e => by have : k = w.heap.size := e; omega)⟩
  · rw [heap_setCell_same _ _ _ _ _ _ (heap_setCell_same _ _ _ _ _ _ h1)]
    rfl
  · rw [ho.block _ (by have := size_two h2; omega) (by show ¬ (_ = _); omega)]
    exact h2
theorem full_store {w w3 : World} {s : Tk} {a : Option Addr} {c : Nat} {g : Option Addr} {d : Nat} (h : DK w w3 s a c g d) :
    Hid (w3.there (w.heap.size + 1) 0 (tcs s a c g d (.slice none 0 0)).toArray.size) ∧ Hid ((tcs s a c g d (.slice none 0 0)).toArray.all (·.oneCell') = true) ∧ Hid ((w3.setCells (w.heap.size + 1) 0 (tcs s a c g d (.slice none 0 0))).rangeAt (w.heap.size + 1) 0 (tcs s a c g d (.slice none 0 0))) ∧ Hid (Below w.heap.size w (w3.setCells (w.heap.size + 1) 0 (tcs s a c g d (.slice none 0 0))) ∧ KN w.heap.size (w3.setCells (w.heap.size + 1) 0 (tcs s a c g d (.slice none 0 0))) s a c g d) := by
  have ho := setC_off w3 (w.heap.size + 1) 0 (tcs s a c g d (.slice none 0 0))
  exact ⟨t_there h.two, t_one _ _ _ _ _ _ _ _, t_range (block_stored (zs := tcs zeroK none 0 none 0 (.slice none 0 0)) h.two rfl), h.bel.trans (ho.below h.bel.size (fun i e => by have : i = w.heap.size + 1 := e; omega)), (h.kn.off ho (fun i e => by have : i = w.heap.size + 1 := e; omega)).base (by omega)⟩
theorem kn_of {n : Nat} {w2 w3 : World} {s : Tk} {a : Option Addr} {c : Nat} {g : Option Addr} {d : Nat} {n1 n2 : Nat} (h1 : w2.ownsRow n1 5 1 (.slice a s.byt.length c) s.byt.length (cells s.byt)) (hb : Below w2.heap.size w2 w3) (h2 : w3.ownsRow n2 60 2 (.slice g s.got.length d) s.got.length (ccells s.got)) (hn1 : n ≤ n1) (hn2 : n ≤ n2) (hx : ∀ x ∈ s.byt, x < 256) : KN n w3 s a c g d :=
  ⟨own_base ((Off.of_below (S := fun _ => False) hb).owns h1 (fun _ _ t => t)) hn1, own_base h2 hn2, hx⟩
set_option maxRecDepth 20000 in
set_option maxHeartbeats 8000000 in
theorem vbegin_ok (s : Tk) (a : Option Addr) (c : Nat) (g : Option Addr) (d : Nat) (now : Int) (w : World) (hc : CameK w s a c g d) (hok : okK s = true) (hn : inB now 0 1048576 = true) : Calls Try.prog 31 #[kv s a c g d, .int .i64 now] w fun e w' => ∃ a' c' g' d', e = .returned (.tuple #[.agg (tcs s a' c' g' d' (.slice none 0 0)).toArray, .int .i64 0]) ∧ Hid (Below w.heap.size w w' ∧ KN w.heap.size w' s a' c' g' d') := by
  obtain ⟨cs, hcs⟩ : ∃ cs, Hid (cs = kcells s a c g d) := ⟨_, rfl⟩
  have hs9 : Hid ((Try.prog.info? 26).map (·.size) = some 9) := by show _ = _; kernel_rfl
  have hs10 : (Try.prog.info? 64).map (·.size) = some 10 := by kernel_rfl
  have hsz1 : (Try.prog.info? 26).map (·.size) = some cs.length := by rw [show cs.length = 9 by rw [hcs.out]; rfl]; exact hs9.out
  have HB0 : Hid (Below w.heap.size w ((w.alloc (kc s a c g d)).alloc (tc zeroK none 0 none 0 (.slice none 0 0)))) := ((Below.refl _ w).alloc (Nat.le_refl _) _).alloc (by simp) _
  have HP0 : Hid (((w.alloc (kc s a c g d)).alloc (tc zeroK none 0 none 0 (.slice none 0 0))).heap[w.heap.size]? = some (kc s a c g d) ∧ ((w.alloc (kc s a c g d)).alloc (tc zeroK none 0 none 0 (.slice none 0 0))).heap[w.heap.size + 1]? = some (tc zeroK none 0 none 0 (.slice none 0 0))) := by
    refine ⟨old_block ((Below.refl _ (w.alloc (kc s a c g d))).alloc (Nat.le_refl _) _) (heap_alloc_new w _), ?_⟩
    have := heap_alloc_new (w.alloc (kc s a c g d)) (tc zeroK none 0 none 0 (.slice none 0 0))
    rw [show (w.alloc (kc s a c g d)).heap.size = w.heap.size + 1 by simp] at this
    exact this
  have HCK : Hid (∀ W, Below w.heap.size w W → Calls Try.prog 25 #[.agg cs.toArray] W fun e w' => e = .returned (.int .i64 0) ∧ Hid (Below W.heap.size W w')) := fun W hb => by
    have := vcheck_any s a c g d W (hc.later hb)
    rw [chkK_ok hok] at this
    rw [hcs.out]
    exact this
  have HR0 : Hid (((w.alloc (kc s a c g d)).alloc (tc zeroK none 0 none 0 (.slice none 0 0))).rangeAt w.heap.size 0 cs) := by rw [hcs.out]; exact k_range HP0.out.1
  have HCB : Hid (∀ W, Below w.heap.size w W → Calls Try.prog 44 #[.slice a s.byt.length c] W fun e w' => ∃ a' c', e = .returned (.slice a' s.byt.length c') ∧ Hid (Below W.heap.size W w' ∧ w'.ownsRow W.heap.size 5 1 (.slice a' s.byt.length c') s.byt.length (cells s.byt))) := fun W hb => vcopiedB_any W a c s.byt (hc.byt.later hb) (by have := smallK hok; omega)
  have HCC : Hid (∀ W, Below w.heap.size w W → Calls Try.prog 53 #[.slice g s.got.length d] W fun e w' => ∃ a' c', e = .returned (.slice a' s.got.length c') ∧ Hid (Below W.heap.size W w' ∧ w'.ownsRow W.heap.size 60 2 (.slice a' s.got.length c') s.got.length (ccells s.got))) := fun W hb => vcopiedC_any W g d s.got (hc.got.later hb) (by have := smallK hok; omega)
  have HBY : Hid (∀ x ∈ s.byt, x < 256) := hc.byt.1
  clear hc hok
  go_enter Try.func31, Try.ntmps31
  go_wp2_with (first | (refine wpList_load_mid rfl 26 _ rfl w.heap.size 0 (by rfl) cs _ HR0.out Try.underlying26 rfl hsz1 ?_) | (go_at_call 25; refine (HCK.out _ HB0.out).mono ?_; rintro e w1 ⟨rfl, hb1⟩; have HP1 : Hid (w1.heap[w.heap.size]? = some (kc s a c g d) ∧ w1.heap[w.heap.size + 1]? = some (tc zeroK none 0 none 0 (.slice none 0 0))) := ⟨old_block hb1.out HP0.out.1, old_block hb1.out HP0.out.2⟩) | (go_at_call 39; refine (vwithin_any _ _ _ _).mono ?_; rintro e w2 ⟨rfl, rfl⟩))
  have HB1 : Hid (Below w.heap.size w w1) := below_of HB0.out hb1.out
  have n3 := (kcells_get HP1.out.1).2.2.2.1
  have n4 := (kcells_get HP1.out.1).2.2.2.2.1
  clear HB0 HP0 HCK HR0 hb1 hcs hsz1
  go_cut [] from 17 (fun wd => ∃ a' c' g' d', Hid (DK w wd s a' c' g' d'))
  case first =>
    go_region_with (first
      | (go_at_call 44; refine (HCB.out _ (by repeat (first | exact HB1.out | apply Below.drew))).mono ?_; rintro e w2 ⟨b, e1, rfl, hq2⟩; have HX2 : Hid (Below w.heap.size w w2) := below_of (by repeat (first | exact HB1.out | apply Below.drew)) hq2.out.1; have HP2 : Hid (w2.heap[w.heap.size]? = some (kc s a c g d) ∧ w2.heap[w.heap.size + 1]? = some (tc zeroK none 0 none 0 (.slice none 0 0))) := ⟨old_block hq2.out.1 HP1.out.1, old_block hq2.out.1 HP1.out.2⟩; have k4 := (kcells_get HP2.out.1).2.2.2.2.1)
      | (go_at_call 53; refine (HCC.out _ HX2.out).mono ?_; rintro e w3 ⟨b2, e2, rfl, hq3⟩; have HX3 : Hid (Below w.heap.size w w3) := below_of HX2.out hq3.out.1; have HP3 : Hid (w3.heap[w.heap.size]? = some (kc s a c g d) ∧ w3.heap[w.heap.size + 1]? = some (tc zeroK none 0 none 0 (.slice none 0 0))) := ⟨old_block hq3.out.1 HP2.out.1, old_block hq3.out.1 HP2.out.2⟩; have m3 := (kcells_get HP3.out.1).2.2.2.1; have m4 := (kcells_get HP3.out.1).2.2.2.2.1; have ff := frozen_of HP3.out.1))
    all_goals
      go_wp2
      go_meet
      case rel => exact ⟨b, e1, b2, e2, dk_set HX3.out HP3.out.1 HP3.out.2 (kn_of hq2.out.2 hq3.out.1 hq3.out.2 (by have := size_two HP1.out.2; simp; omega) (size_two HP2.out.2) HBY.out)⟩
  case rest =>
    obtain ⟨a', c', g', d', HD⟩ := hcut
    have hsz1 : (Try.prog.info? 26).map (·.size) = some (kcells s a' c' g' d').length := hs9.out
    have HR1 := k_range HD.out.one
    have HZ := full_store HD.out
    clear HCB HCC HP1 n3 n4 HB1 HBY
    go_wp2_with (first | (refine wpList_load_mid rfl 26 _ rfl w.heap.size 0 (by rfl) (kcells s a' c' g' d') _ HR1 Try.underlying26 rfl hsz1 ?_) | (refine wpList_store_mid rfl 64 _ _ rfl (w.heap.size + 1) 0 (tcs s a' c' g' d' (.slice none 0 0)).toArray (by rfl) (by rfl) HZ.1.out hs10 HZ.2.1.out ?_))
    exact bodyPost_ret (results_cell2 rfl _ _ (w.heap.size + 1) 0 (by rfl) (tcs s a' c' g' d' (.slice none 0 0)) _ HZ.2.2.1.out Try.underlying64 rfl hs10) rfl ⟨a', c', g', d', rfl, HZ.2.2.2⟩
end Go.Proofs.Ythmolodkaboakaa
