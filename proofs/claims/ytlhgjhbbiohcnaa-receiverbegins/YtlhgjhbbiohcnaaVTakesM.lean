/- ReceiverTakes: whatever session takes whatever segment as the document says. -/
import Derived.Test.YtlhgjhbbiohcnaaVWakes
import Derived.Test.YtlhgjhbbiohcnaaVCopied
import Derived.Test.YtlhgjhbbiohcnaaVRSame
import Derived.Test.YtlhgjhbbiohcnaaVRRight2
import Derived.Test.YtlhgjhbbiohcnaaVSmAll
import Derived.Test.YtlhgjhbbiohcnaaR10Right
import Derived.Test.YtlhgjhbbiohcnaaVTake4
import Derived.Test.YtlhgjhbbiohcnaaVRTkAM
import Derived.Deep.RegionHeld3
import Derived.Deep.CutRange
namespace Go.Proofs.Ytlhgjhbbiohcnaa
open Go.RowKit
set_option linter.unusedVariables false
theorem rrightAll_any (s : Tk) (a : Option Addr) (c : Nat) (g : Option Addr) (d : Nat) (w : World) (hc : CameK w s a c g d) :
    Calls Try.prog 12 #[kv s a c g d] w fun e w' => e = .returned (.bool (okK s)) ∧ Hid (Below w.heap.size w w') := by
  cases hk : numsK s with
  | false => exact rrightK_no s a c g d w hc hk
  | true => exact rrightK_yes s a c g d w hc hk
theorem take_no {s : Tk} {x : Sg} {now : Int} (hok : okK s = true) (h : goesK s x = false ∨ inB now 0 1048576 = false) : takeK s x now = (zeroK, [], 2) := by
  unfold takeK
  rw [if_pos hok]
  rcases h with h | h
  · rw [h]
    split <;> rfl
  · rw [h]
    rfl
theorem tk_cls (s : Tk) (x : Sg) (now : Int) : ∀ X ∈ (tkK s x now).2, X.cls.length ≤ 20 := by
  intro X hX
  unfold tkK datK at hX
  split at hX
  · split at hX
    · simp at hX
    · split at hX
      · simp only [List.mem_singleton] at hX; subst hX; simp
      · split at hX
        · simp only [List.mem_singleton] at hX; subst hX; simp
        · split at hX
          · simp only [List.mem_singleton] at hX; subst hX; simp [repK]; omega
          · simp at hX
  · split at hX
    · simp only [List.mem_singleton] at hX; subst hX; simp
    · simp at hX
theorem sent_later {n : Nat} {W W' : World} {v : Value} {L : List Sg} (h : Sent n W v L) (hb : Below W.heap.size W W') : Sent n W' v L := h.off (S := fun _ => False) (Off.of_below hb) (fun _ t => t.elim)
theorem sent_same {n m : Nat} {W : World} {v v' : Value} {L : List Sg} (h : Sent n W v L) (h' : Sent m W v' L) (hc : ∀ X ∈ L, X.cls.length ≤ 20) : Calls Try.prog 17 #[v, v'] W fun e w' => e = .returned (.bool true) ∧ Hid (Below W.heap.size W w') := by
  match L, h, h', hc with
  | [], h, h', _ =>
    rw [show v = .slice none 0 0 from h, show v' = .slice none 0 0 from h']
    exact sameAll0_any 0 0 W
  | X :: r, h, h', hc =>
    obtain ⟨_, g1, c1, a2, c2, rfl, _, r1, d1, k1, _⟩ := h
    obtain ⟨_, g3, c3, a4, c4, rfl, _, r3, d3, k3, _⟩ := h'
    have hl := hc X (by simp)
    have := sameAll1_any g1 c1 g3 c3 X X none 0 a2 c2 none 0 a4 c4 W r1 r3 (by rw [d1]; exact row_nil _ _) k1 (by rw [d1]; exact row_nil _ _) k3 (by omega) (by omega)
    rw [same_self] at this
    exact this
/-- where the law stands behind Take: the session lies at tb, what is sent is v. -/
structure TkP (W0 wd : World) (tb : Nat) (r : Tk × List Sg × Int) (a : Option Addr) (c : Nat) (g : Option Addr) (d : Nat) (v : Value) : Prop where
  bel : Below W0.heap.size W0 wd
  box : wd.heap[tb]? = some (kc r.1 a c g d)
  byt : Row wd a r.1.byt
  got : RowC wd g r.1.got
  sent : Sent W0.heap.size wd v r.2.1
theorem ends_same {W0 wc w9 : World} {tb : Nat} {R : Tk × List Sg × Int} {T : Tk} {L : List Sg} {a : Option Addr} {c : Nat} {g : Option Addr} {d : Nat} {v : Value} {a9 : Option Addr} {c9 : Nat} {g9 : Option Addr} {d9 : Nat} {cu : List Value} {X : Obj} (h : TkP W0 wc tb R a c g d v) (hcu : cu = kcells R.1 a c g d) (hR : R = (T, L, 0)) (hb : Below wc.heap.size wc (w9.alloc X)) (h1 : Row w9 a9 T.byt) (h2 : RowC w9 g9 T.got) (h3 : T.got.length ≤ 140737488351232) :
    Calls Try.prog 13 #[.agg cu.toArray, kv T a9 c9 g9 d9] (w9.alloc X) fun e w' => e = .returned (.bool true) ∧ Hid (Below (w9.alloc X).heap.size (w9.alloc X) w') := by
  have hb9 : Below w9.heap.size w9 (w9.alloc X) := (Below.refl _ _).alloc (Nat.le_refl _) _
  subst hR
  have := rsameK_any T T a c g d a9 c9 g9 d9 (w9.alloc X) (h.byt.later hb) (h.got.later hb) (h1.later hb9) (h2.later hb9) h3 h3
  rw [sameK_refl] at this
  rw [hcu]
  exact this
theorem ends_all {W0 wc w8 w9 : World} {tb : Nat} {R : Tk × List Sg × Int} {T : Tk} {L : List Sg} {a : Option Addr} {c : Nat} {g : Option Addr} {d : Nat} {v v9 : Value} {X : Obj} {W : World} (h : TkP W0 wc tb R a c g d v) (hR : R = (T, L, 0)) (hb : Below wc.heap.size wc (w9.alloc X)) (hW : Below (w9.alloc X).heap.size (w9.alloc X) W) (hs : Sent w8.heap.size w9 v9 L) (hc : ∀ X ∈ L, X.cls.length ≤ 20) :
    Calls Try.prog 17 #[v, v9] W fun e w' => e = .returned (.bool true) ∧ Hid (Below W.heap.size W w') := by
  have hb9 : Below w9.heap.size w9 (w9.alloc X) := (Below.refl _ _).alloc (Nat.le_refl _) _
  subst hR
  exact sent_same (sent_later h.sent (below_of hb hW)) (sent_later (sent_later hs hb9) hW) hc
theorem tkp_new {W0 w5 : World} {n : Nat} {R : Tk × List Sg × Int} {a : Option Addr} {c : Nat} {g : Option Addr} {d : Nat} {v : Value} (hb : Below W0.heap.size W0 w5) (hk : KN n w5 R.1 a c g d) (hs : Sent n w5 v R.2.1) (hn : W0.heap.size ≤ n) : TkP W0 (w5.alloc (kc R.1 a c g d)) w5.heap.size R a c g d v := by
  obtain ⟨_, _, e, h1, h2⟩ := own_form hk.byt
  cases e
  obtain ⟨p1, p2, _, _⟩ := kn_rows hk (Nat.le_trans h1 h2)
  have hb2 : Below w5.heap.size w5 (w5.alloc (kc R.1 a c g d)) := (Below.refl _ _).alloc (Nat.le_refl _) _
  exact ⟨below_of hb hb2, heap_alloc_new w5 _, p1.later hb2, p2.later hb2, (hs.off (S := fun _ => False) (Off.of_below hb2) (fun _ t => t.elim)).base hn⟩
theorem tkp_set {W0 w5 : World} {n tb : Nat} {R : Tk × List Sg × Int} {a : Option Addr} {c : Nat} {g : Option Addr} {d : Nat} {v : Value} (hb : Below W0.heap.size W0 w5) (hz : w5.heap[tb]? = some (kc zeroK none 0 none 0)) (ht : W0.heap.size ≤ tb) (hk : KN n w5 R.1 a c g d) (hs : Sent n w5 v R.2.1) (hn : tb < n) : TkP W0 (w5.setCells tb 0 [.int .i64 R.1.src, .int .u32 (R.1.ses : Nat), .int .i64 R.1.tot, .slice a R.1.byt.length c, .slice g R.1.got.length d, .int .u32 (R.1.ser : Nat), .int .i64 R.1.sta, .int .i64 R.1.lif, .int .i64 R.1.due]) tb R a c g d v := by
  have ho := setC_off w5 tb 0 [.int .i64 R.1.src, .int .u32 (R.1.ses : Nat), .int .i64 R.1.tot, .slice a R.1.byt.length c, .slice g R.1.got.length d, .int .u32 (R.1.ser : Nat), .int .i64 R.1.sta, .int .i64 R.1.lif, .int .i64 R.1.due]
  have hk2 := hk.off ho (fun k e => by have : k = tb := e; omega)
  obtain ⟨_, _, e, h1, h2⟩ := own_form hk.byt
  cases e
  obtain ⟨p1, p2, _, _⟩ := kn_rows hk2 (Nat.le_trans h1 h2)
  exact ⟨hb.trans (ho.below hb.size (fun i e => by have : i = tb := e; omega)), block_stored (zs := kcells zeroK none 0 none 0) hz rfl, p1, p2, (hs.off ho (fun k e => by have : k = tb := e; omega)).base (by omega)⟩
theorem bel_set {W0 W : World} {b : Nat} (h : Below W0.heap.size W0 W) (hb : W0.heap.size ≤ b) (i : Nat) (u : Value) : Below W0.heap.size W0 (W.setCell ⟨b, i, none⟩ u) := by
  have ho : Off (fun j => j = b) W (W.setCell ⟨b, i, none⟩ u) := (Off.refl (fun j => j = b) W).setCell (p := ⟨b, i, none⟩) (.inr rfl) u
  exact h.trans (ho.below h.size (fun j e => by have : j = b := e; omega))
set_option maxRecDepth 20000 in
set_option maxHeartbeats 4000000 in
theorem takes_any (s : Tk) (a : Option Addr) (c : Nat) (g : Option Addr) (d : Nat) (x : Sg) (xa : Option Addr) (xc : Nat) (a2 : Option Addr) (c2 : Nat) (now : Int) (w : World) (hc : CameK w s a c g d) (hx : Came w x xa xc a2 c2) (hnow : in64 now) :
    Calls Try.prog 3 #[kv s a c g d, sv x xa xc a2 c2, .int .i64 now] w fun e w' => e = .returned (.bool true) ∧ Hid (Below w.heap.size w w') := by
  have HC : Hid (CameK w s a c g d) := hc
  have HX : Hid (Came w x xa xc a2 c2) := hx
  clear hc hx
  obtain ⟨W0, hW0⟩ : ∃ W0, (w.alloc (kc s a c g d)).alloc (sc x xa xc a2 c2) = W0 := ⟨_, rfl⟩
  have HB : Hid (Below w.heap.size w W0) := by rw [← hW0]; exact ((Below.refl _ w).alloc (Nat.le_refl _) _).alloc (by simp) _
  have HPS : Hid (W0.heap[w.heap.size]? = some (kc s a c g d)) := by rw [← hW0]; exact old_block ((Below.refl _ (w.alloc (kc s a c g d))).alloc (Nat.le_refl _) _) (heap_alloc_new w _)
  have HPT : Hid (W0.heap[w.heap.size + 1]? = some (sc x xa xc a2 c2)) := by rw [← hW0]; exact second_new w _ _
  obtain ⟨cs, hcs⟩ : ∃ cs, Hid (cs = kcells s a c g d) := ⟨_, rfl⟩
  obtain ⟨ct, hct⟩ : ∃ ct, Hid (ct = sgcells x xa xc a2 c2) := ⟨_, rfl⟩
  have hs9 : (Try.prog.info? 26).map (·.size) = some 9 := by kernel_rfl
  have hsz : (Try.prog.info? 26).map (·.size) = some cs.length := by rw [show cs.length = 9 by rw [hcs.out]; rfl]; exact hs9
  have htz : (Try.prog.info? 28).map (·.size) = some ct.length := by rw [show ct.length = 13 by rw [hct.out]; rfl]; kernel_rfl
  have HRS : Hid (∀ W, Below W0.heap.size W0 W → W.rangeAt w.heap.size 0 cs) := fun W hb => by rw [hcs.out]; exact k_range (old_block hb HPS.out)
  have HRT : Hid (∀ W, Below W0.heap.size W0 W → W.rangeAt (w.heap.size + 1) 0 ct) := fun W hb => by rw [hct.out]; exact sg_range (old_block hb HPT.out)
  have HLS : Hid (∀ W, Calls Try.prog 9 #[.agg cs.toArray, .agg ct.toArray] W fun e w' => e = .returned (.bool (largeK s x)) ∧ Hid (Below W.heap.size W w')) := fun W => by rw [hcs.out, hct.out]; exact vlarge_any s a c g d x xa xc a2 c2 W
  cases hlg : largeK s x with
  | true =>
    rw [hlg] at HLS
    go_enter Try.func3, Try.ntmps3
    go_wp2_with (first | (go_at_call 8; refine (wakes_any _).mono ?_; rintro e w1 ⟨rfl, hb1⟩; have HBN : Hid (Below W0.heap.size W0 w1) := hb1) | (refine wpList_load_want (by rfl) 26 _ rfl w.heap.size 0 (by rfl) cs _ (HRS.out _ HBN.out) Try.underlying26 rfl hsz ?_) | (refine wpList_load_want (by rfl) 28 _ rfl (w.heap.size + 1) 0 (by rfl) ct _ (HRT.out _ HBN.out) Try.underlying28 rfl htz ?_) | (go_at_call 9; refine (HLS.out _).mono ?_; rintro e w2 ⟨rfl, hb2⟩; have HBN : Hid (Below W0.heap.size W0 w2) := below_of HBN.out hb2.out))
    go_ret
    exact ⟨rfl, below_of HB.out HBN.out⟩
  | false =>
    rw [hlg] at HLS
    go_enter Try.func3, Try.ntmps3
    go_wp2_with (first | (go_at_call 8; refine (wakes_any _).mono ?_; rintro e w1 ⟨rfl, hb1⟩; have HBN : Hid (Below W0.heap.size W0 w1) := hb1) | (refine wpList_load_want (by rfl) 26 _ rfl w.heap.size 0 (by rfl) cs _ (HRS.out _ HBN.out) Try.underlying26 rfl hsz ?_) | (refine wpList_load_want (by rfl) 28 _ rfl (w.heap.size + 1) 0 (by rfl) ct _ (HRT.out _ HBN.out) Try.underlying28 rfl htz ?_) | (go_at_call 9; refine (HLS.out _).mono ?_; rintro e w2 ⟨rfl, hb2⟩; have HBN : Hid (Below W0.heap.size W0 w2) := below_of HBN.out hb2.out))
    have hln : s.byt.length ≤ 5000 ∧ s.got.length ≤ 5000 := by
      unfold largeK at hlg
      simp only [Bool.or_eq_false_iff, decide_eq_false_iff_not] at hlg
      omega
    have HCP : Hid (∀ W, Below W0.heap.size W0 W → Calls Try.prog 11 #[kv s a c g d] W fun e w' => ∃ a' c' g' d', e = .returned (kv s a' c' g' d') ∧ Hid (Below W.heap.size W w' ∧ CameK w' s a' c' g' d')) := fun W hb => vcop_any s a c g d W (HC.out.later (below_of HB.out hb)) hln.1 hln.2
    have HTK : Hid (∀ W a' c' g' d', Below W0.heap.size W0 W → CameK W s a' c' g' d' → Calls Try.prog 10 #[kv s a' c' g' d', sv x xa xc a2 c2, .int .i64 now] W fun e w' => Ans W w' e (takeK s x now)) := fun W a' c' g' d' hb hk => vtake_any s a' c' g' d' x xa xc a2 c2 now W hk (HX.out.later (below_of HB.out hb))
    have HSS : Hid (∀ W', Below W0.heap.size W0 W' → W'.cell? ⟨w.heap.size, 0, none⟩ = some (.int .i64 s.src) ∧ W'.cell? ⟨w.heap.size, 1, none⟩ = some (.int .u32 (s.ses : Nat)) ∧ W'.cell? ⟨w.heap.size, 2, none⟩ = some (.int .i64 s.tot) ∧ W'.cell? ⟨w.heap.size, 3, none⟩ = some (.slice a s.byt.length c) ∧ W'.cell? ⟨w.heap.size, 4, none⟩ = some (.slice g s.got.length d) ∧ W'.cell? ⟨w.heap.size, 5, none⟩ = some (.int .u32 (s.ser : Nat)) ∧ W'.cell? ⟨w.heap.size, 6, none⟩ = some (.int .i64 s.sta) ∧ W'.cell? ⟨w.heap.size, 7, none⟩ = some (.int .i64 s.lif) ∧ W'.cell? ⟨w.heap.size, 8, none⟩ = some (.int .i64 s.due) ∧ W'.cell? ⟨w.heap.size + 1, 0, none⟩ = some (.int .i64 x.knd) ∧ W'.cell? ⟨w.heap.size + 1, 1, none⟩ = some (.int .i64 x.src) ∧ W'.cell? ⟨w.heap.size + 1, 2, none⟩ = some (.int .u32 (x.ses : Nat)) ∧ W'.cell? ⟨w.heap.size + 1, 3, none⟩ = some (.int .u32 (x.ser : Nat)) ∧ W'.cell? ⟨w.heap.size + 1, 4, none⟩ = some (.int .u32 (x.cks : Nat)) ∧ W'.cell? ⟨w.heap.size + 1, 5, none⟩ = some (.int .i64 x.off) ∧ W'.cell? ⟨w.heap.size + 1, 6, none⟩ = some (.int .i64 x.tot) ∧ W'.cell? ⟨w.heap.size + 1, 7, none⟩ = some (.int .i64 x.low) ∧ W'.cell? ⟨w.heap.size + 1, 8, none⟩ = some (.int .i64 x.upp) ∧ W'.cell? ⟨w.heap.size + 1, 9, none⟩ = some (.int .i64 x.rea) ∧ W'.cell? ⟨w.heap.size + 1, 10, none⟩ = some (.bool x.chk) ∧ W'.cell? ⟨w.heap.size + 1, 11, none⟩ = some (.slice xa x.dat.length xc) ∧ W'.cell? ⟨w.heap.size + 1, 12, none⟩ = some (.slice a2 x.cls.length c2)) := fun W' hb => by
      obtain ⟨e0, e1, e2, e3, e4, e5, e6, e7, e8⟩ := kcells_get (old_block hb HPS.out)
      obtain ⟨f0, f1, f2, f3, f4, f5, f6, f7, f8, f9, f10, f11, f12⟩ := scells (old_block hb HPT.out)
      exact ⟨e0, e1, e2, e3, e4, e5, e6, e7, e8, f0, f1, f2, f3, f4, f5, f6, f7, f8, f9, f10, f11, f12⟩
    obtain ⟨R, hR⟩ : ∃ R, takeK s x now = R := ⟨_, rfl⟩
    have HRE : Hid (takeK s x now = R) := hR
    rw [hR] at HTK
    clear hlg hln HLS hR
    go_cut [7, 8, 9] from 17 (fun u7 u8 u9 wd => ∃ tb a5 c5 g5 d5 v5, u7 = .pointer (some ⟨tb, 0, none⟩) ∧ u8 = v5 ∧ u9 = .int .i64 R.2.2 ∧ Hid (TkP W0 wd tb R a5 c5 g5 d5 v5))
    case first =>
      have HX0 : Hid (Below W0.heap.size W0 w2.drew) := HBN.out.drew
      have HX1 : Hid (∀ X, Below W0.heap.size W0 (w2.alloc X).drew) := fun X => (HBN.out.alloc HBN.out.size X).drew
      go_region_held3 (fun W' => W'.cell? ⟨w.heap.size, 0, none⟩ = some (.int .i64 s.src) ∧ W'.cell? ⟨w.heap.size, 1, none⟩ = some (.int .u32 (s.ses : Nat)) ∧ W'.cell? ⟨w.heap.size, 2, none⟩ = some (.int .i64 s.tot) ∧ W'.cell? ⟨w.heap.size, 3, none⟩ = some (.slice a s.byt.length c) ∧ W'.cell? ⟨w.heap.size, 4, none⟩ = some (.slice g s.got.length d) ∧ W'.cell? ⟨w.heap.size, 5, none⟩ = some (.int .u32 (s.ser : Nat)) ∧ W'.cell? ⟨w.heap.size, 6, none⟩ = some (.int .i64 s.sta) ∧ W'.cell? ⟨w.heap.size, 7, none⟩ = some (.int .i64 s.lif) ∧ W'.cell? ⟨w.heap.size, 8, none⟩ = some (.int .i64 s.due) ∧ W'.cell? ⟨w.heap.size + 1, 0, none⟩ = some (.int .i64 x.knd) ∧ W'.cell? ⟨w.heap.size + 1, 1, none⟩ = some (.int .i64 x.src) ∧ W'.cell? ⟨w.heap.size + 1, 2, none⟩ = some (.int .u32 (x.ses : Nat)) ∧ W'.cell? ⟨w.heap.size + 1, 3, none⟩ = some (.int .u32 (x.ser : Nat)) ∧ W'.cell? ⟨w.heap.size + 1, 4, none⟩ = some (.int .u32 (x.cks : Nat)) ∧ W'.cell? ⟨w.heap.size + 1, 5, none⟩ = some (.int .i64 x.off) ∧ W'.cell? ⟨w.heap.size + 1, 6, none⟩ = some (.int .i64 x.tot) ∧ W'.cell? ⟨w.heap.size + 1, 7, none⟩ = some (.int .i64 x.low) ∧ W'.cell? ⟨w.heap.size + 1, 8, none⟩ = some (.int .i64 x.upp) ∧ W'.cell? ⟨w.heap.size + 1, 9, none⟩ = some (.int .i64 x.rea) ∧ W'.cell? ⟨w.heap.size + 1, 10, none⟩ = some (.bool x.chk) ∧ W'.cell? ⟨w.heap.size + 1, 11, none⟩ = some (.slice xa x.dat.length xc) ∧ W'.cell? ⟨w.heap.size + 1, 12, none⟩ = some (.slice a2 x.cls.length c2)) ((refine HSS.out _ ?_; repeat (with_reducible first | exact HX0.out | exact HX1.out _ | exact HX2.out | exact HX3.out _ | exact HX4.out | exact HX5.out _ | refine bel_set ?_ HBN.out.size _ _ | refine bel_set ?_ HX2.out.size _ _))) (first
        | (go_at_call 11; refine (HCP.out _ (by first | exact HX0.out | exact HX1.out _)).mono ?_; rintro e w4 ⟨a4, c4, g4, d4, rfl, hq4⟩; have HX2 : Hid (Below W0.heap.size W0 w4) := below_of (by first | exact HX0.out | exact HX1.out _) hq4.out.1; have HX3 : Hid (∀ X, Below W0.heap.size W0 (w4.alloc X)) := fun X => HX2.out.alloc HX2.out.size X; first | (have ZB1 : Hid (w4.heap[w2.heap.size]? = some (kc zeroK none 0 none 0)) := old_block hq4.out.1 (old_block (Below.refl _ _).drew (heap_alloc_new w2 _))) | skip)
        | (go_at_call 10; refine (HTK.out _ a4 c4 g4 d4 (by first | exact HX2.out | exact HX3.out _) (by first | exact hq4.out.2 | exact hq4.out.2.later ((Below.refl _ _).alloc (Nat.le_refl _) _))).mono ?_; rintro e w5 ⟨a5, c5, g5, d5, v5, rfl, hb5, hk5, hs5⟩; have HX4 : Hid (Below W0.heap.size W0 w5) := below_of (by first | exact HX2.out | exact HX3.out _) hb5; have HX5 : Hid (∀ X, Below W0.heap.size W0 (w5.alloc X)) := fun X => HX4.out.alloc HX4.out.size X; first | (have ZB : Hid (w5.heap[w2.heap.size]? = some (kc zeroK none 0 none 0)) := old_block hb5 ZB1.out; obtain ⟨z0, z1, z2, z3, z4, z5, z6, z7, z8⟩ := kcells_get ZB.out; have zf := frozen_of ZB.out) | (have ZB : Hid (w5.heap[w4.heap.size]? = some (kc zeroK none 0 none 0)) := old_block hb5 (heap_alloc_new w4 _); obtain ⟨z0, z1, z2, z3, z4, z5, z6, z7, z8⟩ := kcells_get ZB.out; have zf := frozen_of ZB.out) | skip))
      · go_wp2
        go_meet
        case rel => exact ⟨_, a5, c5, g5, d5, v5, rfl, rfl, rfl, tkp_new HX4.out hk5 hs5 HX2.out.size⟩
      · go_wp2
        go_meet
        case rel => exact ⟨_, a5, c5, g5, d5, v5, rfl, rfl, rfl, tkp_set HX4.out ZB.out HX2.out.size hk5 hs5 (by simp)⟩
      · go_wp2
        go_meet
        case rel => exact ⟨_, a5, c5, g5, d5, v5, rfl, rfl, rfl, tkp_set HX4.out ZB.out HBN.out.size hk5 hs5 (Array.getElem?_eq_some_iff.1 ZB1.out).1⟩
    case rest =>
      obtain ⟨tb, a5, c5, g5, d5, v5, rfl, rfl, rfl, HT0⟩ := hcut
      have HT : Hid (TkP W0 wc tb R a5 c5 g5 d5 u8) := HT0
      clear HT0 HTK HCP HBN hb1 hb2 HSS
      have HRI : Hid (∀ W, Below W0.heap.size W0 W → Calls Try.prog 12 #[.agg cs.toArray] W fun e w' => e = .returned (.bool (okK s)) ∧ Hid (Below W.heap.size W w')) := fun W hb => by rw [hcs.out]; exact rrightAll_any s a c g d W (HC.out.later (below_of HB.out hb))
      obtain ⟨cu, hcu⟩ : ∃ cu, Hid (cu = kcells R.1 a5 c5 g5 d5) := ⟨_, rfl⟩
      have huz : (Try.prog.info? 26).map (·.size) = some cu.length := by rw [show cu.length = 9 by rw [hcu.out]; rfl]; exact hs9
      have HRU : Hid (∀ W, Below wc.heap.size wc W → W.rangeAt tb 0 cu) := fun W hb => by rw [hcu.out]; exact k_range (old_block hb HT.out.box)
      have HSZ : Hid (R.1 = zeroK → ∀ W, Below wc.heap.size wc W → Calls Try.prog 13 #[.agg cu.toArray, .agg #[.int .i64 0, .int .u32 0, .int .i64 0, .slice none 0 0, .slice none 0 0, .int .u32 0, .int .i64 0, .int .i64 0, .int .i64 0]] W fun e w' => e = .returned (.bool true) ∧ Hid (Below W.heap.size W w')) := fun he W hb => by
        have := rsameK_any zeroK zeroK a5 c5 g5 d5 none 0 none 0 W (by rw [← he]; exact HT.out.byt.later hb) (by rw [← he]; exact HT.out.got.later hb) (row_nil _ _) (rowC_nil _ _) (by simp [zeroK]) (by simp [zeroK])
        rw [sameK_refl] at this
        rw [hcu.out, he]
        exact this
      cases hok : okK s with
      | false =>
        have hR : R = (zeroK, [], 250) := by rw [← HRE.out]; unfold takeK; rw [if_neg (by simp [hok])]
        have hv5 : u8 = .slice none 0 0 := by have := HT.out.sent; rw [hR] at this; exact this
        have HSY : Hid (∀ W, Below wc.heap.size wc W → Calls Try.prog 13 #[.agg cu.toArray, .agg #[.int .i64 0, .int .u32 0, .int .i64 0, .slice none 0 0, .slice none 0 0, .int .u32 0, .int .i64 0, .int .i64 0, .int .i64 0]] W fun e w' => e = .returned (.bool true) ∧ Hid (Below W.heap.size W w')) := HSZ.out (by rw [hR])
        have he2 : R.2.2 = 250 := by rw [hR]
        rw [he2]
        subst hv5
        rw [hok] at HRI
        clear HSZ hR he2
        go_wp2_with (first | (go_at_call 12; refine (HRI.out _ HT.out.bel).mono ?_; rintro e w6 ⟨rfl, hb6⟩) | (go_at_call 13; refine (HSY.out _ hb6.out).mono ?_; rintro e w7 ⟨rfl, hb7⟩) | (refine wpList_load_want (by rfl) 26 _ rfl w.heap.size 0 (by rfl) cs _ (HRS.out _ HT.out.bel) Try.underlying26 rfl hsz ?_) | (refine wpList_load_want (by rfl) 26 _ rfl tb 0 (by rfl) cu _ (HRU.out _ hb6.out) Try.underlying26 rfl huz ?_))
        go_ret
        exact ⟨rfl, below_of HB.out (below_of (below_of HT.out.bel hb6.out) hb7.out)⟩
      | true =>
        rw [hok] at HRI
        have HTR : Hid (∀ W, Below W0.heap.size W0 W → Calls Try.prog 14 #[.agg ct.toArray] W fun e w' => e = .returned (.bool (okS x)) ∧ Hid (Below W.heap.size W w')) := fun W hb => by rw [hct.out]; exact rrightS_any x xa xc a2 c2 W (HX.out.later (below_of HB.out hb))
        have HTF : Hid (∀ W, Below W0.heap.size W0 W → Calls Try.prog 15 #[.agg ct.toArray] W fun e w' => e = .returned (.bool (fwdS x)) ∧ Hid (Below W.heap.size W w')) := fun W hb => by rw [hct.out]; exact forward_any x xa xc a2 c2 W
        cases h1 : okS x with
        | false =>
          rw [h1] at HTR
          have hR : R = (zeroK, [], 2) := by rw [← HRE.out]; exact take_no hok (by left; unfold goesK; rw [h1]; rfl)
          have hv5 : u8 = .slice none 0 0 := by have := HT.out.sent; rw [hR] at this; exact this
          have HSY : Hid (∀ W, Below wc.heap.size wc W → Calls Try.prog 13 #[.agg cu.toArray, .agg #[.int .i64 0, .int .u32 0, .int .i64 0, .slice none 0 0, .slice none 0 0, .int .u32 0, .int .i64 0, .int .i64 0, .int .i64 0]] W fun e w' => e = .returned (.bool true) ∧ Hid (Below W.heap.size W w')) := HSZ.out (by rw [hR])
          have he2 : R.2.2 = 2 := by rw [hR]
          rw [he2]
          subst hv5
          clear HSZ hR he2
          go_wp2_with (first | (go_at_call 12; refine (HRI.out _ HT.out.bel).mono ?_; rintro e w6 ⟨rfl, hb6⟩; have HBC : Hid (Below wc.heap.size wc w6) := hb6) | (go_at_call 14; refine (HTR.out _ (below_of HT.out.bel HBC.out)).mono ?_; rintro e w7 ⟨rfl, hb7⟩; have HBC : Hid (Below wc.heap.size wc w7) := below_of HBC.out hb7.out; obtain ⟨e1, e2, _⟩ := kcells_get (old_block (below_of HT.out.bel HBC.out) HPS.out); obtain ⟨_, f1, f2, _⟩ := scells (old_block (below_of HT.out.bel HBC.out) HPT.out)) | (go_at_call 15; refine (HTF.out _ (below_of HT.out.bel HBC.out)).mono ?_; rintro e w8 ⟨rfl, hb8⟩; have HBC : Hid (Below wc.heap.size wc w8) := below_of HBC.out hb8.out) | (refine wpList_load_want (by rfl) 26 _ rfl w.heap.size 0 (by rfl) cs _ (HRS.out _ (by first | exact HT.out.bel | exact below_of HT.out.bel HBC.out)) Try.underlying26 rfl hsz ?_) | (refine wpList_load_want (by rfl) 28 _ rfl (w.heap.size + 1) 0 (by rfl) ct _ (HRT.out _ (below_of HT.out.bel HBC.out)) Try.underlying28 rfl htz ?_) | (go_at_call 13; refine (HSY.out _ HBC.out).mono ?_; rintro e w9 ⟨rfl, hb9⟩) | (refine wpList_load_want (by rfl) 26 _ rfl tb 0 (by rfl) cu _ (HRU.out _ HBC.out) Try.underlying26 rfl huz ?_))
          go_ret
          exact ⟨rfl, below_of HB.out (below_of (below_of HT.out.bel HBC.out) hb9.out)⟩
        | true =>
          rw [h1] at HTR
          cases h2 : (x.src != s.src) with
          | true =>
            have hR : R = (zeroK, [], 2) := by rw [← HRE.out]; exact take_no hok (by left; unfold goesK; simp at h2; simp [h2])
            have hv5 : u8 = .slice none 0 0 := by have := HT.out.sent; rw [hR] at this; exact this
            have HSY : Hid (∀ W, Below wc.heap.size wc W → Calls Try.prog 13 #[.agg cu.toArray, .agg #[.int .i64 0, .int .u32 0, .int .i64 0, .slice none 0 0, .slice none 0 0, .int .u32 0, .int .i64 0, .int .i64 0, .int .i64 0]] W fun e w' => e = .returned (.bool true) ∧ Hid (Below W.heap.size W w')) := HSZ.out (by rw [hR])
            have he2 : R.2.2 = 2 := by rw [hR]
            rw [he2]
            subst hv5
            clear HSZ hR he2
            go_wp2_with (first | (go_at_call 12; refine (HRI.out _ HT.out.bel).mono ?_; rintro e w6 ⟨rfl, hb6⟩; have HBC : Hid (Below wc.heap.size wc w6) := hb6) | (go_at_call 14; refine (HTR.out _ (below_of HT.out.bel HBC.out)).mono ?_; rintro e w7 ⟨rfl, hb7⟩; have HBC : Hid (Below wc.heap.size wc w7) := below_of HBC.out hb7.out; obtain ⟨e1, e2, _⟩ := kcells_get (old_block (below_of HT.out.bel HBC.out) HPS.out); obtain ⟨_, f1, f2, _⟩ := scells (old_block (below_of HT.out.bel HBC.out) HPT.out)) | (go_at_call 15; refine (HTF.out _ (below_of HT.out.bel HBC.out)).mono ?_; rintro e w8 ⟨rfl, hb8⟩; have HBC : Hid (Below wc.heap.size wc w8) := below_of HBC.out hb8.out) | (refine wpList_load_want (by rfl) 26 _ rfl w.heap.size 0 (by rfl) cs _ (HRS.out _ (by first | exact HT.out.bel | exact below_of HT.out.bel HBC.out)) Try.underlying26 rfl hsz ?_) | (refine wpList_load_want (by rfl) 28 _ rfl (w.heap.size + 1) 0 (by rfl) ct _ (HRT.out _ (below_of HT.out.bel HBC.out)) Try.underlying28 rfl htz ?_) | (go_at_call 13; refine (HSY.out _ HBC.out).mono ?_; rintro e w9 ⟨rfl, hb9⟩) | (refine wpList_load_want (by rfl) 26 _ rfl tb 0 (by rfl) cu _ (HRU.out _ HBC.out) Try.underlying26 rfl huz ?_))
            go_ret
            exact ⟨rfl, below_of HB.out (below_of (below_of HT.out.bel HBC.out) hb9.out)⟩
          | false =>
            cases h3 : ((x.ses : Int) != (s.ses : Int)) with
            | true =>
              have hR : R = (zeroK, [], 2) := by rw [← HRE.out]; exact take_no hok (by left; unfold goesK; have hne : ¬ x.ses = s.ses := (by intro e; rw [e] at h3; simp at h3); simp [hne])
              have hv5 : u8 = .slice none 0 0 := by have := HT.out.sent; rw [hR] at this; exact this
              have HSY : Hid (∀ W, Below wc.heap.size wc W → Calls Try.prog 13 #[.agg cu.toArray, .agg #[.int .i64 0, .int .u32 0, .int .i64 0, .slice none 0 0, .slice none 0 0, .int .u32 0, .int .i64 0, .int .i64 0, .int .i64 0]] W fun e w' => e = .returned (.bool true) ∧ Hid (Below W.heap.size W w')) := HSZ.out (by rw [hR])
              have he2 : R.2.2 = 2 := by rw [hR]
              rw [he2]
              subst hv5
              clear HSZ hR he2
              go_wp2_with (first | (go_at_call 12; refine (HRI.out _ HT.out.bel).mono ?_; rintro e w6 ⟨rfl, hb6⟩; have HBC : Hid (Below wc.heap.size wc w6) := hb6) | (go_at_call 14; refine (HTR.out _ (below_of HT.out.bel HBC.out)).mono ?_; rintro e w7 ⟨rfl, hb7⟩; have HBC : Hid (Below wc.heap.size wc w7) := below_of HBC.out hb7.out; obtain ⟨e1, e2, _⟩ := kcells_get (old_block (below_of HT.out.bel HBC.out) HPS.out); obtain ⟨_, f1, f2, _⟩ := scells (old_block (below_of HT.out.bel HBC.out) HPT.out)) | (go_at_call 15; refine (HTF.out _ (below_of HT.out.bel HBC.out)).mono ?_; rintro e w8 ⟨rfl, hb8⟩; have HBC : Hid (Below wc.heap.size wc w8) := below_of HBC.out hb8.out) | (refine wpList_load_want (by rfl) 26 _ rfl w.heap.size 0 (by rfl) cs _ (HRS.out _ (by first | exact HT.out.bel | exact below_of HT.out.bel HBC.out)) Try.underlying26 rfl hsz ?_) | (refine wpList_load_want (by rfl) 28 _ rfl (w.heap.size + 1) 0 (by rfl) ct _ (HRT.out _ (below_of HT.out.bel HBC.out)) Try.underlying28 rfl htz ?_) | (go_at_call 13; refine (HSY.out _ HBC.out).mono ?_; rintro e w9 ⟨rfl, hb9⟩) | (refine wpList_load_want (by rfl) 26 _ rfl tb 0 (by rfl) cu _ (HRU.out _ HBC.out) Try.underlying26 rfl huz ?_))
              go_ret
              exact ⟨rfl, below_of HB.out (below_of (below_of HT.out.bel HBC.out) hb9.out)⟩
            | false =>
              cases h4 : fwdS x with
              | false =>
                rw [h4] at HTF
                have hR : R = (zeroK, [], 2) := by rw [← HRE.out]; exact take_no hok (by left; unfold goesK; rw [h4]; simp)
                have hv5 : u8 = .slice none 0 0 := by have := HT.out.sent; rw [hR] at this; exact this
                have HSY : Hid (∀ W, Below wc.heap.size wc W → Calls Try.prog 13 #[.agg cu.toArray, .agg #[.int .i64 0, .int .u32 0, .int .i64 0, .slice none 0 0, .slice none 0 0, .int .u32 0, .int .i64 0, .int .i64 0, .int .i64 0]] W fun e w' => e = .returned (.bool true) ∧ Hid (Below W.heap.size W w')) := HSZ.out (by rw [hR])
                have he2 : R.2.2 = 2 := by rw [hR]
                rw [he2]
                subst hv5
                clear HSZ hR he2
                go_wp2_with (first | (go_at_call 12; refine (HRI.out _ HT.out.bel).mono ?_; rintro e w6 ⟨rfl, hb6⟩; have HBC : Hid (Below wc.heap.size wc w6) := hb6) | (go_at_call 14; refine (HTR.out _ (below_of HT.out.bel HBC.out)).mono ?_; rintro e w7 ⟨rfl, hb7⟩; have HBC : Hid (Below wc.heap.size wc w7) := below_of HBC.out hb7.out; obtain ⟨e1, e2, _⟩ := kcells_get (old_block (below_of HT.out.bel HBC.out) HPS.out); obtain ⟨_, f1, f2, _⟩ := scells (old_block (below_of HT.out.bel HBC.out) HPT.out)) | (go_at_call 15; refine (HTF.out _ (below_of HT.out.bel HBC.out)).mono ?_; rintro e w8 ⟨rfl, hb8⟩; have HBC : Hid (Below wc.heap.size wc w8) := below_of HBC.out hb8.out) | (refine wpList_load_want (by rfl) 26 _ rfl w.heap.size 0 (by rfl) cs _ (HRS.out _ (by first | exact HT.out.bel | exact below_of HT.out.bel HBC.out)) Try.underlying26 rfl hsz ?_) | (refine wpList_load_want (by rfl) 28 _ rfl (w.heap.size + 1) 0 (by rfl) ct _ (HRT.out _ (below_of HT.out.bel HBC.out)) Try.underlying28 rfl htz ?_) | (go_at_call 13; refine (HSY.out _ HBC.out).mono ?_; rintro e w9 ⟨rfl, hb9⟩) | (refine wpList_load_want (by rfl) 26 _ rfl tb 0 (by rfl) cu _ (HRU.out _ HBC.out) Try.underlying26 rfl huz ?_))
                go_ret
                exact ⟨rfl, below_of HB.out (below_of (below_of HT.out.bel HBC.out) hb9.out)⟩
              | true =>
                rw [h4] at HTF
                cases h5 : decide (now < 0) with
                | true =>
                  have hR : R = (zeroK, [], 2) := by rw [← HRE.out]; exact take_no hok (by right; unfold inB; rw [decide_eq_false (show ¬ (0 : Int) ≤ now by simp at h5; omega)]; rfl)
                  have hv5 : u8 = .slice none 0 0 := by have := HT.out.sent; rw [hR] at this; exact this
                  have HSY : Hid (∀ W, Below wc.heap.size wc W → Calls Try.prog 13 #[.agg cu.toArray, .agg #[.int .i64 0, .int .u32 0, .int .i64 0, .slice none 0 0, .slice none 0 0, .int .u32 0, .int .i64 0, .int .i64 0, .int .i64 0]] W fun e w' => e = .returned (.bool true) ∧ Hid (Below W.heap.size W w')) := HSZ.out (by rw [hR])
                  have he2 : R.2.2 = 2 := by rw [hR]
                  rw [he2]
                  subst hv5
                  clear HSZ hR he2
                  go_wp2_with (first | (go_at_call 12; refine (HRI.out _ HT.out.bel).mono ?_; rintro e w6 ⟨rfl, hb6⟩; have HBC : Hid (Below wc.heap.size wc w6) := hb6) | (go_at_call 14; refine (HTR.out _ (below_of HT.out.bel HBC.out)).mono ?_; rintro e w7 ⟨rfl, hb7⟩; have HBC : Hid (Below wc.heap.size wc w7) := below_of HBC.out hb7.out; obtain ⟨e1, e2, _⟩ := kcells_get (old_block (below_of HT.out.bel HBC.out) HPS.out); obtain ⟨_, f1, f2, _⟩ := scells (old_block (below_of HT.out.bel HBC.out) HPT.out)) | (go_at_call 15; refine (HTF.out _ (below_of HT.out.bel HBC.out)).mono ?_; rintro e w8 ⟨rfl, hb8⟩; have HBC : Hid (Below wc.heap.size wc w8) := below_of HBC.out hb8.out) | (refine wpList_load_want (by rfl) 26 _ rfl w.heap.size 0 (by rfl) cs _ (HRS.out _ (by first | exact HT.out.bel | exact below_of HT.out.bel HBC.out)) Try.underlying26 rfl hsz ?_) | (refine wpList_load_want (by rfl) 28 _ rfl (w.heap.size + 1) 0 (by rfl) ct _ (HRT.out _ (below_of HT.out.bel HBC.out)) Try.underlying28 rfl htz ?_) | (go_at_call 13; refine (HSY.out _ HBC.out).mono ?_; rintro e w9 ⟨rfl, hb9⟩) | (refine wpList_load_want (by rfl) 26 _ rfl tb 0 (by rfl) cu _ (HRU.out _ HBC.out) Try.underlying26 rfl huz ?_))
                  go_ret
                  exact ⟨rfl, below_of HB.out (below_of (below_of HT.out.bel HBC.out) hb9.out)⟩
                | false =>
                  cases h6 : decide (1048576 < now) with
                  | true =>
                    have hR : R = (zeroK, [], 2) := by rw [← HRE.out]; exact take_no hok (by right; unfold inB; rw [decide_eq_false (show ¬ now ≤ (1048576 : Int) by simp at h6; omega)]; simp)
                    have hv5 : u8 = .slice none 0 0 := by have := HT.out.sent; rw [hR] at this; exact this
                    have HSY : Hid (∀ W, Below wc.heap.size wc W → Calls Try.prog 13 #[.agg cu.toArray, .agg #[.int .i64 0, .int .u32 0, .int .i64 0, .slice none 0 0, .slice none 0 0, .int .u32 0, .int .i64 0, .int .i64 0, .int .i64 0]] W fun e w' => e = .returned (.bool true) ∧ Hid (Below W.heap.size W w')) := HSZ.out (by rw [hR])
                    have he2 : R.2.2 = 2 := by rw [hR]
                    rw [he2]
                    subst hv5
                    clear HSZ hR he2
                    go_wp2_with (first | (go_at_call 12; refine (HRI.out _ HT.out.bel).mono ?_; rintro e w6 ⟨rfl, hb6⟩; have HBC : Hid (Below wc.heap.size wc w6) := hb6) | (go_at_call 14; refine (HTR.out _ (below_of HT.out.bel HBC.out)).mono ?_; rintro e w7 ⟨rfl, hb7⟩; have HBC : Hid (Below wc.heap.size wc w7) := below_of HBC.out hb7.out; obtain ⟨e1, e2, _⟩ := kcells_get (old_block (below_of HT.out.bel HBC.out) HPS.out); obtain ⟨_, f1, f2, _⟩ := scells (old_block (below_of HT.out.bel HBC.out) HPT.out)) | (go_at_call 15; refine (HTF.out _ (below_of HT.out.bel HBC.out)).mono ?_; rintro e w8 ⟨rfl, hb8⟩; have HBC : Hid (Below wc.heap.size wc w8) := below_of HBC.out hb8.out) | (refine wpList_load_want (by rfl) 26 _ rfl w.heap.size 0 (by rfl) cs _ (HRS.out _ (by first | exact HT.out.bel | exact below_of HT.out.bel HBC.out)) Try.underlying26 rfl hsz ?_) | (refine wpList_load_want (by rfl) 28 _ rfl (w.heap.size + 1) 0 (by rfl) ct _ (HRT.out _ (below_of HT.out.bel HBC.out)) Try.underlying28 rfl htz ?_) | (go_at_call 13; refine (HSY.out _ HBC.out).mono ?_; rintro e w9 ⟨rfl, hb9⟩) | (refine wpList_load_want (by rfl) 26 _ rfl tb 0 (by rfl) cu _ (HRU.out _ HBC.out) Try.underlying26 rfl huz ?_))
                    go_ret
                    exact ⟨rfl, below_of HB.out (below_of (below_of HT.out.bel HBC.out) hb9.out)⟩
                  | false =>
                    have hgo : goesK s x = true := by (unfold goesK; have e3 : x.ses = s.ses := (by simp at h3; omega); have e2 : x.src = s.src := (by simpa using h2); rw [h1, h4, e2, e3]; simp)
                    have hin : inB now 0 1048576 = true := by unfold inB; simp at h5 h6; simp; omega
                    have hR : R = ((tkK s x now).1, (tkK s x now).2, 0) := by rw [← HRE.out]; unfold takeK; rw [if_pos hok, if_pos hin, if_pos hgo]
                    have HR : Hid (R = ((tkK s x now).1, (tkK s x now).2, 0)) := hR
                    have he2 : R.2.2 = 0 := by rw [hR]
                    rw [he2]
                    obtain ⟨T, hT⟩ : ∃ T, (tkK s x now).1 = T := ⟨_, rfl⟩
                    obtain ⟨L, hL⟩ : ∃ L, (tkK s x now).2 = L := ⟨_, rfl⟩
                    have HCL : Hid (∀ X ∈ L, X.cls.length ≤ 20) := by rw [← hL]; exact tk_cls s x now
                    rw [hT, hL] at HR
                    have HTA : Hid (∀ W, Below W0.heap.size W0 W → Calls Try.prog 16 #[.agg cs.toArray, .agg ct.toArray, .int .i64 now] W fun e w' => RAns W w' e (T, L)) := fun W hb => by
                      have := rtake_any s a c g d x xa xc a2 c2 now W (HC.out.later (below_of HB.out hb)) (HX.out.later (below_of HB.out hb)) hok h1 hin
                      rw [show tkK s x now = (T, L) by rw [← hT, ← hL]] at this
                      rw [hcs.out, hct.out]
                      exact this
                    clear HSZ hR he2 hgo hin hT hL
                    go_wp2_with (first | (go_at_call 12; refine (HRI.out _ HT.out.bel).mono ?_; rintro e w6 ⟨rfl, hb6⟩; have HBC : Hid (Below wc.heap.size wc w6) := hb6) | (go_at_call 14; refine (HTR.out _ (below_of HT.out.bel HBC.out)).mono ?_; rintro e w7 ⟨rfl, hb7⟩; have HBC : Hid (Below wc.heap.size wc w7) := below_of HBC.out hb7.out; obtain ⟨e1, e2, _⟩ := kcells_get (old_block (below_of HT.out.bel HBC.out) HPS.out); obtain ⟨_, f1, f2, _⟩ := scells (old_block (below_of HT.out.bel HBC.out) HPT.out)) | (go_at_call 15; refine (HTF.out _ (below_of HT.out.bel HBC.out)).mono ?_; rintro e w8 ⟨rfl, hb8⟩; have HBC : Hid (Below wc.heap.size wc w8) := below_of HBC.out hb8.out) | (refine wpList_load_want (by rfl) 26 _ rfl w.heap.size 0 (by rfl) cs _ (HRS.out _ (by first | exact HT.out.bel | exact below_of HT.out.bel HBC.out)) Try.underlying26 rfl hsz ?_) | (refine wpList_load_want (by rfl) 28 _ rfl (w.heap.size + 1) 0 (by rfl) ct _ (HRT.out _ (below_of HT.out.bel HBC.out)) Try.underlying28 rfl htz ?_) | (go_at_call 16; refine (HTA.out _ (below_of HT.out.bel HBC.out)).mono ?_; rintro e w9 ⟨a9, c9, g9, d9, v9, rfl, hq9⟩; have HQ9 : Hid _ := hq9; clear hq9; have HBD : Hid (Below wc.heap.size wc w9) := below_of HBC.out HQ9.out.1; have HBE : Hid (∀ X, Below wc.heap.size wc (w9.alloc X)) := fun X => HBD.out.alloc HBD.out.size X; have HSW : Hid (∀ X, Calls Try.prog 13 #[.agg cu.toArray, kv T a9 c9 g9 d9] (w9.alloc X) fun e w' => e = .returned (.bool true) ∧ Hid (Below (w9.alloc X).heap.size (w9.alloc X) w')) := fun X => ends_same HT.out hcu.out HR.out (HBE.out X) HQ9.out.2.1 HQ9.out.2.2.1 HQ9.out.2.2.2.1; have HSL : Hid (∀ X W, Below (w9.alloc X).heap.size (w9.alloc X) W → Calls Try.prog 17 #[u8, v9] W fun e w' => e = .returned (.bool true) ∧ Hid (Below W.heap.size W w')) := fun X W hb => ends_all HT.out HR.out (HBE.out X) hb HQ9.out.2.2.2.2 HCL.out) | (go_at_call 13; refine (HSW.out _).mono ?_; rintro e w10 ⟨rfl, hb10⟩) | (go_at_call 17; refine (HSL.out _ _ hb10.out).mono ?_; rintro e w11 ⟨rfl, hb11⟩) | (refine wpList_load_want (by rfl) 26 _ rfl tb 0 (by rfl) cu _ (HRU.out _ (HBE.out _)) Try.underlying26 rfl huz ?_))
                    go_ret
                    exact ⟨rfl, below_of HB.out (below_of (below_of (below_of HT.out.bel (HBE.out _)) hb10.out) hb11.out)⟩
end Go.Proofs.Ytlhgjhbbiohcnaa
