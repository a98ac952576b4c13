/- The reference's Take: what stands where it returns a session and a segment. -/
import Derived.Test.YtlhgjhbbiohcnaaVTake2
import Derived.Test.YtlhgjhbbiohcnaaVRPut
import Derived.Test.YtlhgjhbbiohcnaaVNew2
import Derived.Deep.CutRange
import Derived.Deep.RegionHeld3
import Derived.Test.YtlhgjhbbiohcnaaVSmall
import Derived.Deep.AppendSrc
namespace Go.Proofs.Ytlhgjhbbiohcnaa
open Go.RowKit
set_option linter.unusedVariables false
theorem off_set {r : Nat} {a w : World} (h : Off (fun i => i = r) a w) (i : Nat) (u : Value) : Off (fun i => i = r) a (w.setCell ⟨r, i, none⟩ u) := h.setCell (.inr rfl) u
theorem range_cells {W : World} {b : Nat} {cs : List Value} {t : TypeId} (h : W.heap[b]? = some (.cells cs.toArray t (0, 0))) : W.rangeAt b 0 cs := by
  intro j v hv
  rw [Nat.zero_add, cell_of h]
  rw [← List.getElem?_toArray] at hv
  exact hv
theorem setCells_size : ∀ (W : World) (b o : Nat) (cs : List Value), (W.setCells b o cs).heap.size = W.heap.size
  | W, b, o, [] => rfl
  | W, b, o, v :: vs => by
    rw [World.setCells, setCells_size]
    simp
/-- where a session is returned that lies at tb. -/
structure Rt (w W : World) (tb : Nat) (t : Tk) (a : Option Addr) (c : Nat) (g : Option Addr) (d : Nat) : Prop where
  bel : Below w.heap.size w W
  box : W.heap[tb]? = some (kc t a c g d)
  res : W.heap[w.heap.size + 1 + 1]? = some (kc zeroK none 0 none 0)
  ne : tb ≠ w.heap.size + 1 + 1
section
variable {w W W' : World} {tb : Nat} {t : Tk} {a : Option Addr} {c : Nat} {g : Option Addr} {d : Nat}
theorem Rt.later (h : Rt w W tb t a c g d) (hb : Below W.heap.size W W') : Rt w W' tb t a c g d := ⟨below_of h.bel hb, old_block hb h.box, old_block hb h.res, h.ne⟩
theorem Rt.cells (h : Rt w W tb t a c g d) (ho : Off (fun i => i = w.heap.size + 1 + 1) W W') : W'.cell? ⟨tb, 0, none⟩ = some (.int .i64 t.src) ∧ W'.cell? ⟨tb, 1, none⟩ = some (.int .u32 (t.ses : Nat)) ∧ W'.cell? ⟨tb, 2, none⟩ = some (.int .i64 t.tot) ∧ W'.cell? ⟨tb, 3, none⟩ = some (.slice a t.byt.length c) ∧ W'.cell? ⟨tb, 4, none⟩ = some (.slice g t.got.length d) ∧ W'.cell? ⟨tb, 5, none⟩ = some (.int .u32 (t.ser : Nat)) ∧ W'.cell? ⟨tb, 6, none⟩ = some (.int .i64 t.sta) ∧ W'.cell? ⟨tb, 7, none⟩ = some (.int .i64 t.lif) ∧ W'.cell? ⟨tb, 8, none⟩ = some (.int .i64 t.due) :=
  kcells_get (ho.at h.box (fun e => h.ne e))
theorem Rt.there (h : Rt w W tb t a c g d) (hb : Below W.heap.size W W') : W'.cell? ⟨w.heap.size + 1 + 1, 0, none⟩ = some (.int .i64 0) ∧ W'.cell? ⟨w.heap.size + 1 + 1, 1, none⟩ = some (.int .u32 0) ∧ W'.cell? ⟨w.heap.size + 1 + 1, 2, none⟩ = some (.int .i64 0) ∧ W'.cell? ⟨w.heap.size + 1 + 1, 3, none⟩ = some (.slice none 0 0) ∧ W'.cell? ⟨w.heap.size + 1 + 1, 4, none⟩ = some (.slice none 0 0) ∧ W'.cell? ⟨w.heap.size + 1 + 1, 5, none⟩ = some (.int .u32 0) ∧ W'.cell? ⟨w.heap.size + 1 + 1, 6, none⟩ = some (.int .i64 0) ∧ W'.cell? ⟨w.heap.size + 1 + 1, 7, none⟩ = some (.int .i64 0) ∧ W'.cell? ⟨w.heap.size + 1 + 1, 8, none⟩ = some (.int .i64 0) :=
  kcells_get (old_block hb h.res)
theorem Rt.frozen (h : Rt w W tb t a c g d) (hb : Below W.heap.size W W') (i : Nat) : W'.frozen? ⟨w.heap.size + 1 + 1, i, none⟩ = false := frozen_of (old_block hb h.res) i
theorem Rt.fin0 (h : Rt w W tb t a c g d) (cs : List Value) (hl : cs.length = 9) : Below w.heap.size w (W.setCells (w.heap.size + 1 + 1) 0 cs) ∧ (W.setCells (w.heap.size + 1 + 1) 0 cs).rangeAt (w.heap.size + 1 + 1) 0 cs ∧ Off (fun i => i = w.heap.size + 1 + 1) W (W.setCells (w.heap.size + 1 + 1) 0 cs) := by
  have ho := setC_off W (w.heap.size + 1 + 1) 0 cs
  refine ⟨h.bel.trans (ho.below h.bel.size (fun i e => by have : i = w.heap.size + 1 + 1 := e; omega)), ?_, ho⟩
  exact range_cells (block_stored (W := W) (zs := kcells zeroK none 0 none 0) h.res (by rw [hl]; rfl))
theorem Rt.fin1 (h : Rt w W tb t a c g d) (X : Sg) (a2 : Option Addr) (c2 : Nat) (cs : List Value) (hl : cs.length = 9) : Below w.heap.size w ((W.alloc (sc X none 0 a2 c2)).setCells (w.heap.size + 1 + 1) 0 cs).drew ∧ ((W.alloc (sc X none 0 a2 c2)).setCells (w.heap.size + 1 + 1) 0 cs).drew.rangeAt (w.heap.size + 1 + 1) 0 cs ∧ ((W.alloc (sc X none 0 a2 c2)).setCells (w.heap.size + 1 + 1) 0 cs).drew.rangeAt W.heap.size 0 (sgcells X none 0 a2 c2) ∧ Off (fun i => i = w.heap.size + 1 + 1) W ((W.alloc (sc X none 0 a2 c2)).setCells (w.heap.size + 1 + 1) 0 cs).drew := by
  have hlt := (Array.getElem?_eq_some_iff.1 h.res).1
  have hb1 : Below W.heap.size W (W.alloc (sc X none 0 a2 c2)) := (Below.refl _ _).alloc (Nat.le_refl _) _
  have ho := setC_off (W.alloc (sc X none 0 a2 c2)) (w.heap.size + 1 + 1) 0 cs
  have ho2 : Off (fun i => i = w.heap.size + 1 + 1) W ((W.alloc (sc X none 0 a2 c2)).setCells (w.heap.size + 1 + 1) 0 cs).drew := ((Off.of_below (S := fun i => i = w.heap.size + 1 + 1) hb1).trans ho (fun i _ e => e)).drew
  refine ⟨h.bel.trans (ho2.below h.bel.size (fun i e => by have : i = w.heap.size + 1 + 1 := e; omega)), ?_, ?_, ho2⟩
  · exact range_cells (old_block (Below.refl _ _).drew (block_stored (W := W.alloc (sc X none 0 a2 c2)) (zs := kcells zeroK none 0 none 0) (old_block hb1 h.res) (by rw [hl]; rfl)))
  · exact sg_range (old_block ((Below.refl _ _).drew) (ho.at (heap_alloc_new W (sc X none 0 a2 c2)) (fun e => by have : W.heap.size = w.heap.size + 1 + 1 := e; omega)))
theorem Rt.fin2 (h : Rt w W tb t a c g d) (X : Sg) (a2 : Option Addr) (c2 : Nat) (cs : List Value) (hl : cs.length = 9) : Below w.heap.size w ((W.setCells (w.heap.size + 1 + 1) 0 cs).alloc (sc X none 0 a2 c2)).drew ∧ ((W.setCells (w.heap.size + 1 + 1) 0 cs).alloc (sc X none 0 a2 c2)).drew.rangeAt (w.heap.size + 1 + 1) 0 cs ∧ ((W.setCells (w.heap.size + 1 + 1) 0 cs).alloc (sc X none 0 a2 c2)).drew.rangeAt W.heap.size 0 (sgcells X none 0 a2 c2) ∧ Off (fun i => i = w.heap.size + 1 + 1) W ((W.setCells (w.heap.size + 1 + 1) 0 cs).alloc (sc X none 0 a2 c2)).drew := by
  have ho := setC_off W (w.heap.size + 1 + 1) 0 cs
  have hz : (W.setCells (w.heap.size + 1 + 1) 0 cs).heap.size = W.heap.size := setCells_size _ _ _ _
  have hb1 : Below (W.setCells (w.heap.size + 1 + 1) 0 cs).heap.size (W.setCells (w.heap.size + 1 + 1) 0 cs) ((W.setCells (w.heap.size + 1 + 1) 0 cs).alloc (sc X none 0 a2 c2)).drew := ((Below.refl _ _).alloc (Nat.le_refl _) _).drew
  have ho2 : Off (fun i => i = w.heap.size + 1 + 1) W ((W.setCells (w.heap.size + 1 + 1) 0 cs).alloc (sc X none 0 a2 c2)).drew := ho.trans (Off.of_below (S := fun i => i = w.heap.size + 1 + 1) hb1) (fun i _ e => e)
  refine ⟨h.bel.trans (ho2.below h.bel.size (fun i e => by have : i = w.heap.size + 1 + 1 := e; omega)), ?_, ?_, ho2⟩
  · exact range_cells (old_block hb1 (block_stored (W := W) (zs := kcells zeroK none 0 none 0) h.res (by rw [hl]; rfl)))
  · have := heap_alloc_new (W.setCells (w.heap.size + 1 + 1) 0 cs) (sc X none 0 a2 c2)
    rw [hz] at this
    exact sg_range (old_block ((Below.refl _ _).drew) this)
end
end Go.Proofs.Ytlhgjhbbiohcnaa
/- The reference's Take, of data that does not go with what has come in. -/
namespace Go.Proofs.Ytlhgjhbbiohcnaa
open Go.RowKit
set_option linter.unusedVariables false
theorem okK_due {s : Tk} (h : okK s = true) {q : Int} (h0 : 0 ≤ q) (h1 : q ≤ 1114112) : okK { s with due := q } = true := by
  unfold okK numsK stateK at h ⊢
  simp only [Bool.and_eq_true] at h ⊢
  refine ⟨⟨h.1.1, h.1.2.1, h.1.2.2.1, h.1.2.2.2.1, h.1.2.2.2.2.1, ?_⟩, h.2.1, h.2.2⟩
  unfold inB; simp; omega
/-- what Put answers, whatever the Total. -/
def rpK (s : Tk) (x : Sg) : Tk × Bool := if x.tot = s.tot then rputK s x else (s, false)
set_option maxRecDepth 20000 in
set_option maxHeartbeats 4000000 in
theorem rput_t (s : Tk) (a : Option Addr) (c : Nat) (g : Option Addr) (d : Nat) (x : Sg) (xa : Option Addr) (xc : Nat) (a2 : Option Addr) (c2 : Nat) (w : World) (hn : (x.tot != s.tot) = true) :
    Calls Try.prog 38 #[kv s a c g d, sv x xa xc a2 c2] w fun e w' => e = .returned (.tuple #[.agg (kcells s a c g d).toArray, .bool false]) ∧ Hid (Below w.heap.size w w') := by
  have HB : Hid (∀ X Y Z : Obj, Below w.heap.size w (((w.alloc X).alloc Y).alloc Z)) := fun X Y Z => (((Below.refl _ w).alloc (Nat.le_refl _) X).alloc (by simp) Y).alloc (by simp; omega) Z
  go_enter Try.func38, Try.ntmps38
  go_wp2
  all_goals
    refine bodyPost_ret (v := .tuple #[.agg (kcells s a c g d).toArray, .bool false]) (by simp [results, Try.results38, go_sem]) rfl ⟨rfl, ?_⟩
    first | exact HB.out _ _ _ | exact below_drewN (HB.out _ _ _) _ | exact (HB.out _ _ _).drew
theorem rpK_len (s : Tk) (x : Sg) (h : (rpK s x).2 = false) : (rpK s x).1 = s := by
  unfold rpK rputK at h ⊢
  split at h
  · split at h
    · rename_i h1 h2
      rw [if_pos h1, if_pos h2]
    · cases h
  · rename_i h1
    rw [if_neg h1]
theorem rputA_any (s : Tk) (a : Option Addr) (c : Nat) (g : Option Addr) (d : Nat) (x : Sg) (xa : Option Addr) (xc : Nat) (a2 : Option Addr) (c2 : Nat) (w : World) (hc : CameK w s a c g d) (hx : Came w x xa xc a2 c2) (hok : okK s = true) (hd : dataS x = true) :
    Calls Try.prog 38 #[kv s a c g d, sv x xa xc a2 c2] w fun e w' => ∃ a' c' g' d', e = .returned (.tuple #[.agg (kcells (rpK s x).1 a' c' g' d').toArray, .bool (rpK s x).2]) ∧ Hid (Below w.heap.size w w' ∧ CameK w' (rpK s x).1 a' c' g' d') := by
  unfold rpK
  by_cases h : x.tot = s.tot
  · rw [if_pos h]
    exact rput_any s a c g d x xa xc a2 c2 w hc hx hok hd h
  · rw [if_neg h]
    refine (rput_t s a c g d x xa xc a2 c2 w (by simp [h])).mono ?_
    rintro e w' ⟨rfl, hb⟩
    exact ⟨a, c, g, d, rfl, hb.out, hc.later hb.out⟩
/-- a session's cells changed, one by one. -/
theorem k_sta {W : World} {b : Nat} {s : Tk} {a : Option Addr} {c : Nat} {g : Option Addr} {d : Nat} (h : W.heap[b]? = some (kc s a c g d)) (q : Int) : (W.setCell ⟨b, 6, none⟩ (.int .i64 q)).heap[b]? = some (kc { s with sta := q } a c g d) := by
  rw [heap_setCell_same _ _ _ _ _ _ h]
  rfl
theorem k_got {W : World} {b : Nat} {s : Tk} {a : Option Addr} {c : Nat} {g : Option Addr} {d : Nat} (h : W.heap[b]? = some (kc s a c g d)) : (W.setCell ⟨b, 4, none⟩ (.slice none 0 0)).heap[b]? = some (kc { s with got := [] } a c none 0) := by
  rw [heap_setCell_same _ _ _ _ _ _ h]
  rfl
theorem k_byt {W : World} {b : Nat} {s : Tk} {a : Option Addr} {c : Nat} {g : Option Addr} {d : Nat} (h : W.heap[b]? = some (kc s a c g d)) (B : List Nat) (a2 : Option Addr) (c2 : Nat) : (W.setCell ⟨b, 3, none⟩ (.slice a2 B.length c2)).heap[b]? = some (kc { s with byt := B } a2 c2 g d) := by
  rw [heap_setCell_same _ _ _ _ _ _ h]
  rfl
theorem n_end {w W V : World} {tb : Nat} {t : Tk} {a : Option Addr} {c : Nat} {g : Option Addr} {d : Nat} {k n : Nat} {X : Sg} (h : Rt w W tb t a c g d) (hr : Row W (some ⟨k + 1, 0, none⟩) (List.replicate n 0)) (hk : w.heap.size + 3 ≤ k) (m1 : Below w.heap.size w V) (m3 : V.rangeAt W.heap.size 0 (sgcells X none 0 none 0)) (m4 : Off (fun i => i = w.heap.size + 1 + 1) W V) (hd : X.dat = [] := by rfl) (hc : X.cls = [] := by rfl) : Hid (Below w.heap.size w V ∧ Row V (some ⟨k + 1, 0, none⟩) (List.replicate n 0) ∧ Sent w.heap.size V (.slice (some ⟨W.heap.size, 0, none⟩) 1 1) [X]) := by
  refine ⟨m1, ⟨hr.1, hr.2.1, fun h0 => ?_⟩, rfl, _, _, none, 0, rfl, h.bel.size, m3, hd, by rw [hc]; exact rowC_nil _ _, by simp, by rw [hc]; simp, by simp [maxLen], by omega, by simp [maxLen]⟩
  obtain ⟨b, o, e, hx⟩ := hr.2.2 h0
  refine ⟨b, o, e, fun i hi => m4.cell (hx i hi) (fun e2 => ?_)⟩
  cases e
  have : k + 1 = w.heap.size + 1 + 1 := e2
  omega
theorem n_rt {w w1 : World} {s : Tk} {a : Option Addr} {c : Nat} {g : Option Addr} {d : Nat} {x : Sg} {xa : Option Addr} {xc : Nat} {a2 : Option Addr} {c2 : Nat} {now : Int} (hE1 : En w w1 { s with due := now + s.lif } a c g d x xa xc a2 c2) (hl : s.byt.length ≤ 512) (X : Obj) :
    Hid (Rt w (((((w1.alloc X).setCell ⟨w.heap.size, 6, none⟩ (.int .i64 4)).setCell ⟨w.heap.size, 4, none⟩ (.slice none 0 0)).alloc (.cells (cells (List.replicate s.byt.length 0)).toArray 5)).setCell ⟨w.heap.size, 3, none⟩ (.slice (some ⟨w1.heap.size + 1, 0, none⟩) s.byt.length s.byt.length)) w.heap.size (goneK { s with due := now + s.lif }) (some ⟨w1.heap.size + 1, 0, none⟩) s.byt.length none 0 ∧ Row (((((w1.alloc X).setCell ⟨w.heap.size, 6, none⟩ (.int .i64 4)).setCell ⟨w.heap.size, 4, none⟩ (.slice none 0 0)).alloc (.cells (cells (List.replicate s.byt.length 0)).toArray 5)).setCell ⟨w.heap.size, 3, none⟩ (.slice (some ⟨w1.heap.size + 1, 0, none⟩) s.byt.length s.byt.length)) (some ⟨w1.heap.size + 1, 0, none⟩) (List.replicate s.byt.length 0) ∧ w.heap.size + 3 ≤ w1.heap.size) := by
  have hsz := hE1.size
  have hB6 := k_byt (old_block (((Below.refl _ _).alloc (Nat.le_refl _) (.cells (cells (List.replicate s.byt.length 0)).toArray 5))) (k_got (k_sta (hE1.later ((Below.refl _ w1).alloc (Nat.le_refl _) X)).one 4))) (List.replicate s.byt.length 0) (some ⟨w1.heap.size + 1, 0, none⟩) s.byt.length
  rw [List.length_replicate] at hB6
  obtain ⟨W1, hW1⟩ : ∃ W1, w1.alloc X = W1 := ⟨_, rfl⟩
  have hbW : Below w1.heap.size w1 W1 := by rw [← hW1]; exact (Below.refl _ _).alloc (Nat.le_refl _) _
  have hsW : W1.heap.size = w1.heap.size + 1 := by rw [← hW1]; simp
  rw [hW1] at hB6 ⊢
  have hE := hE1.later hbW
  obtain ⟨W2, hW2⟩ : ∃ W2, (W1.setCell ⟨w.heap.size, 6, none⟩ (.int .i64 4)).setCell ⟨w.heap.size, 4, none⟩ (.slice none 0 0) = W2 := ⟨_, rfl⟩
  rw [hW2] at hB6 ⊢
  have o2 : Off (fun i => i = w.heap.size) W1 W2 := by rw [← hW2]; exact off_set (off_set (Off.refl _ _) _ _) _ _
  have hs2 : W2.heap.size = W1.heap.size := by rw [← hW2]; simp
  obtain ⟨W3, hW3⟩ : ∃ W3, W2.alloc (.cells (cells (List.replicate s.byt.length 0)).toArray 5) = W3 := ⟨_, rfl⟩
  have hZ := heap_alloc_new W2 (.cells (cells (List.replicate s.byt.length 0)).toArray 5)
  rw [hW3, hs2, hsW] at hZ
  rw [hW3] at hB6 ⊢
  have o3 : Off (fun i => i = w.heap.size) W1 W3 := by rw [← hW3]; exact o2.alloc _
  have o4 : Off (fun i => i = w.heap.size) W1 (W3.setCell ⟨w.heap.size, 3, none⟩ (.slice (some ⟨w1.heap.size + 1, 0, none⟩) s.byt.length s.byt.length)) := off_set o3 _ _
  have o5 := off_set (Off.refl (fun i => i = w.heap.size) W3) 3 (.slice (some ⟨w1.heap.size + 1, 0, none⟩) s.byt.length s.byt.length)
  have hbs : Bs (W3.setCell ⟨w.heap.size, 3, none⟩ (.slice (some ⟨w1.heap.size + 1, 0, none⟩) s.byt.length s.byt.length)) (w1.heap.size + 1) (List.replicate s.byt.length 0) := ⟨o5.at hZ (fun e => by have : w1.heap.size + 1 = w.heap.size := e; omega), fun y hy => by rw [List.eq_of_mem_replicate hy]; omega, by simp [maxLen]; omega⟩
  refine ⟨⟨hE.bel.trans (o4.below hE.bel.size (fun i e => by have : i = w.heap.size := e; omega)), ?_, o4.at hE.res (fun e => by have : w.heap.size + 1 + 1 = w.heap.size := e; omega), by omega⟩, hbs.row, hsz⟩
  rw [hB6]
  simp [goneK]
set_option maxRecDepth 20000 in
set_option maxHeartbeats 4000000 in
theorem rtake_n (s : Tk) (a : Option Addr) (c : Nat) (g : Option Addr) (d : Nat) (x : Sg) (xa : Option Addr) (xc : Nat) (a2 : Option Addr) (c2 : Nat) (now : Int) (w : World) (hc : CameK w s a c g d) (hx : Came w x xa xc a2 c2) (hok : okK s = true) (hd : dataS x = true) (hn : inB now 0 1048576 = true) (k4 : (x.knd == 4) = false) (k1 : (x.knd != 1) = false) (h4 : (s.sta == 4) = false) (hp : (rpK { s with due := now + s.lif } x).2 = false) :
    Calls Try.prog 16 #[kv s a c g d, sv x xa xc a2 c2, .int .i64 now] w fun e w' => ∃ a' c' v, e = .returned (.tuple #[.agg (kcells (goneK { s with due := now + s.lif }) a' c' none 0).toArray, v]) ∧ Hid (Below w.heap.size w w' ∧ Row w' a' (List.replicate s.byt.length 0) ∧ Sent w.heap.size w' v [⟨6, s.src, s.ses, 0, 0, 0, 0, 0, 0, 3, false, [], []⟩]) := by
  have hnow := inB_of hn
  have hl := (smallK hok).2.2.2.1
  have HC1 : Hid (CameK w { s with due := now + s.lif } a c g d) := ⟨hc.byt, hc.got, hc.lb, hc.lg, hc.zb, hc.zg, hc.gin, hc.src, hc.ses, hc.tot, hc.ser, hc.sta, hc.lif, by show in64 (now + s.lif); unfold in64; omega⟩
  have HOK : Hid (okK { s with due := now + s.lif } = true) := okK_due hok (by omega) (by omega)
  have HPU : Hid (∀ W, Below w.heap.size w W → Calls Try.prog 38 #[.agg #[.int .i64 s.src, .int .u32 (s.ses : Nat), .int .i64 s.tot, .slice a s.byt.length c, .slice g s.got.length d, .int .u32 (s.ser : Nat), .int .i64 s.sta, .int .i64 s.lif, .int .i64 (now + s.lif)], sv x xa xc a2 c2] W fun e w' => ∃ a' c' g' d', e = .returned (.tuple #[.agg #[.int .i64 s.src, .int .u32 (s.ses : Nat), .int .i64 s.tot, .slice a' s.byt.length c', .slice g' s.got.length d', .int .u32 (s.ser : Nat), .int .i64 s.sta, .int .i64 s.lif, .int .i64 (now + s.lif)], .bool false]) ∧ Hid (Below W.heap.size W w')) := fun W hb => by
    have := rputA_any { s with due := now + s.lif } a c g d x xa xc a2 c2 W (HC1.out.later hb) (hx.later hb) HOK.out hd
    rw [rpK_len _ _ hp, hp] at this
    refine this.mono ?_
    rintro e w' ⟨a', c', g', d', rfl, hq⟩
    exact ⟨a', c', g', d', rfl, hq.out.1⟩
  have HTL : Hid (s.tot = (s.byt.length : Int) ∧ s.byt.length ≤ 512) := by have := smallK hok; exact ⟨by omega, by omega⟩
  have HMK : ∀ W : World, (Instr.makeSlice 23 (.int .i64 s.tot) (.int .i64 s.tot)).run Try.prog W = .ok (.slice (some ⟨W.heap.size, 0, none⟩) s.byt.length s.byt.length) (W.alloc (.cells (cells (List.replicate s.byt.length 0)).toArray 5)) := fun W => by rw [HTL.out.1]; exact make_n _ (by have := HTL.out.2; omega) W
  have HEN : Hid (En w (((w.alloc (.cells #[.int .i64 s.src, .int .u32 (s.ses : Nat), .int .i64 s.tot, .slice a s.byt.length c, .slice g s.got.length d, .int .u32 (s.ser : Nat), .int .i64 s.sta, .int .i64 s.lif, .int .i64 (now + s.lif)] 26)).alloc (.cells #[.int .i64 x.knd, .int .i64 x.src, .int .u32 (x.ses : Nat), .int .u32 (x.ser : Nat), .int .u32 (x.cks : Nat), .int .i64 x.off, .int .i64 x.tot, .int .i64 x.low, .int .i64 x.upp, .int .i64 x.rea, .bool x.chk, .slice xa x.dat.length xc, .slice a2 x.cls.length c2] 28)).alloc (.cells #[.int .i64 0, .int .u32 0, .int .i64 0, .slice none 0 0, .slice none 0 0, .int .u32 0, .int .i64 0, .int .i64 0, .int .i64 0] 26)) { s with due := now + s.lif } a c g d x xa xc a2 c2) := En.start w { s with due := now + s.lif } _ _ _ _ _ _ _ _ _
  clear hc hx hok hd hn hp HOK
  go_enter Try.func16, Try.ntmps16
  go_wp2_with fail
  go_at_call 38
  refine (HPU.out _ HEN.out.bel).mono ?_
  rintro e w1 ⟨a', c', g', d', rfl, hq⟩
  have HE2 : Hid (∀ X, En w (w1.alloc X) { s with due := now + s.lif } a c g d x xa xc a2 c2) := fun X => (HEN.out.later hq.out).later ((Below.refl _ w1).alloc (Nat.le_refl _) X)
  have HB3 : Hid (∀ X, ((w1.alloc X).setCell ⟨w.heap.size, 6, none⟩ (.int .i64 4)).heap[w.heap.size]? = some (kc { s with sta := 4, due := now + s.lif } a c g d)) := fun X => k_sta (HE2.out X).one 4
  have HB4 : Hid (∀ X, (((w1.alloc X).setCell ⟨w.heap.size, 6, none⟩ (.int .i64 4)).setCell ⟨w.heap.size, 4, none⟩ (.slice none 0 0)).heap[w.heap.size]? = some (kc { s with sta := 4, got := [], due := now + s.lif } a c none 0)) := fun X => k_got (HB3.out X)
  have HB5 : Hid (∀ X Y, ((((w1.alloc X).setCell ⟨w.heap.size, 6, none⟩ (.int .i64 4)).setCell ⟨w.heap.size, 4, none⟩ (.slice none 0 0)).alloc Y).heap[w.heap.size]? = some (kc { s with sta := 4, got := [], due := now + s.lif } a c none 0)) := fun X Y => old_block ((Below.refl _ _).alloc (Nat.le_refl _) Y) (HB4.out X)
  have f1 : ∀ X, (w1.alloc X).frozen? ⟨w.heap.size, 6, none⟩ = false := fun X => frozen_of (HE2.out X).one 6
  have f2 : ∀ X, ((w1.alloc X).setCell ⟨w.heap.size, 6, none⟩ (.int .i64 4)).frozen? ⟨w.heap.size, 4, none⟩ = false := fun X => frozen_of (HB3.out X) 4
  have f3 : ∀ X Y, ((((w1.alloc X).setCell ⟨w.heap.size, 6, none⟩ (.int .i64 4)).setCell ⟨w.heap.size, 4, none⟩ (.slice none 0 0)).alloc Y).frozen? ⟨w.heap.size, 3, none⟩ = false := fun X Y => frozen_of (HB5.out X Y) 3
  have y6 : ∀ X, (w1.alloc X).cell? ⟨w.heap.size, 6, none⟩ = some (.int .i64 s.sta) := fun X => (kcells_get (HE2.out X).one).2.2.2.2.2.2.1
  have y4 : ∀ X, ((w1.alloc X).setCell ⟨w.heap.size, 6, none⟩ (.int .i64 4)).cell? ⟨w.heap.size, 4, none⟩ = some (.slice g s.got.length d) := fun X => (kcells_get (HB3.out X)).2.2.2.2.1
  have y2 : ∀ X, (((w1.alloc X).setCell ⟨w.heap.size, 6, none⟩ (.int .i64 4)).setCell ⟨w.heap.size, 4, none⟩ (.slice none 0 0)).cell? ⟨w.heap.size, 2, none⟩ = some (.int .i64 s.tot) := fun X => (kcells_get (HB4.out X)).2.2.1
  have y3 : ∀ X Y, ((((w1.alloc X).setCell ⟨w.heap.size, 6, none⟩ (.int .i64 4)).setCell ⟨w.heap.size, 4, none⟩ (.slice none 0 0)).alloc Y).cell? ⟨w.heap.size, 3, none⟩ = some (.slice a s.byt.length c) := fun X Y => (kcells_get (HB5.out X Y)).2.2.2.1
  have HEN0 := HEN
  clear HPU HEN HC1
  go_wp2_with fail
  obtain ⟨WX, hWX⟩ : ∃ WX : World, (((((w1.alloc (.cells #[.int .i64 s.src, .int .u32 (s.ses : Nat), .int .i64 s.tot, .slice a' s.byt.length c', .slice g' s.got.length d', .int .u32 (s.ser : Nat), .int .i64 s.sta, .int .i64 s.lif, .int .i64 (now + s.lif)] 26)).setCell ⟨w.heap.size, 6, none⟩ (.int .i64 4)).setCell ⟨w.heap.size, 4, none⟩ (.slice none 0 0)).alloc (.cells (cells (List.replicate s.byt.length 0)).toArray 5)).setCell ⟨w.heap.size, 3, none⟩ (.slice (some ⟨w1.heap.size + 1, 0, none⟩) s.byt.length s.byt.length)) = WX := ⟨_, rfl⟩
  rw [hWX]
  have HRT : Hid (Rt w WX w.heap.size (goneK { s with due := now + s.lif }) (some ⟨w1.heap.size + 1, 0, none⟩) s.byt.length none 0 ∧ Row WX (some ⟨w1.heap.size + 1, 0, none⟩) (List.replicate s.byt.length 0) ∧ w.heap.size + 3 ≤ w1.heap.size) := by
    rw [← hWX]
    exact n_rt (HEN0.out.later hq.out) HTL.out.2 _
  have HS : Hid (∀ W', Off (fun i => i = w.heap.size + 1 + 1) WX W' → W'.cell? ⟨w.heap.size, 0, none⟩ = some (.int .i64 s.src) ∧ W'.cell? ⟨w.heap.size, 1, none⟩ = some (.int .u32 (s.ses : Nat)) ∧ W'.cell? ⟨w.heap.size, 2, none⟩ = some (.int .i64 s.tot) ∧ W'.cell? ⟨w.heap.size, 3, none⟩ = some (.slice (some ⟨w1.heap.size + 1, 0, none⟩) s.byt.length s.byt.length) ∧ W'.cell? ⟨w.heap.size, 4, none⟩ = some (.slice none 0 0) ∧ W'.cell? ⟨w.heap.size, 5, none⟩ = some (.int .u32 (s.ser : Nat)) ∧ W'.cell? ⟨w.heap.size, 6, none⟩ = some (.int .i64 4) ∧ W'.cell? ⟨w.heap.size, 7, none⟩ = some (.int .i64 s.lif) ∧ W'.cell? ⟨w.heap.size, 8, none⟩ = some (.int .i64 (now + s.lif))) := fun W' ho => by
    have := HRT.out.1.cells ho
    simpa [goneK] using this
  obtain ⟨r0, r1, r2, r3, r4, r5, r6, r7, r8⟩ := HRT.out.1.there (Below.refl _ _)
  have rf := HRT.out.1.frozen (Below.refl _ _)
  have q0 := fun X => (HRT.out.1.there ((Below.refl _ _).alloc (Nat.le_refl _) X)).1
  have q1 := fun X => (HRT.out.1.there ((Below.refl _ _).alloc (Nat.le_refl _) X)).2.1
  have q2 := fun X => (HRT.out.1.there ((Below.refl _ _).alloc (Nat.le_refl _) X)).2.2.1
  have q3 := fun X => (HRT.out.1.there ((Below.refl _ _).alloc (Nat.le_refl _) X)).2.2.2.1
  have q4 := fun X => (HRT.out.1.there ((Below.refl _ _).alloc (Nat.le_refl _) X)).2.2.2.2.1
  have q5 := fun X => (HRT.out.1.there ((Below.refl _ _).alloc (Nat.le_refl _) X)).2.2.2.2.2.1
  have q6 := fun X => (HRT.out.1.there ((Below.refl _ _).alloc (Nat.le_refl _) X)).2.2.2.2.2.2.1
  have q7 := fun X => (HRT.out.1.there ((Below.refl _ _).alloc (Nat.le_refl _) X)).2.2.2.2.2.2.2.1
  have q8 := fun X => (HRT.out.1.there ((Below.refl _ _).alloc (Nat.le_refl _) X)).2.2.2.2.2.2.2.2
  have qf := fun X => HRT.out.1.frozen ((Below.refl _ _).alloc (Nat.le_refl _) X)
  clear hWX f1 f2 f3 y6 y4 y2 y3 HB3 HB4 HB5 HE2
  have hs9 : (Try.prog.info? 26).map (·.size) = some 9 := by kernel_rfl
  have HCS : Hid ((kcells (goneK { s with due := now + s.lif }) (some ⟨w1.heap.size + 1, 0, none⟩) s.byt.length none 0).toArray = #[.int .i64 s.src, .int .u32 (s.ses : Nat), .int .i64 s.tot, .slice (some ⟨w1.heap.size + 1, 0, none⟩) s.byt.length s.byt.length, .slice none 0 0, .int .u32 (s.ser : Nat), .int .i64 4, .int .i64 s.lif, .int .i64 (now + s.lif)]) := by show _ = _; simp [goneK]
  go_region_held3 (fun W' => W'.cell? ⟨w.heap.size, 0, none⟩ = some (.int .i64 s.src) ∧ W'.cell? ⟨w.heap.size, 1, none⟩ = some (.int .u32 (s.ses : Nat)) ∧ W'.cell? ⟨w.heap.size, 2, none⟩ = some (.int .i64 s.tot) ∧ W'.cell? ⟨w.heap.size, 3, none⟩ = some (.slice (some ⟨w1.heap.size + 1, 0, none⟩) s.byt.length s.byt.length) ∧ W'.cell? ⟨w.heap.size, 4, none⟩ = some (.slice none 0 0) ∧ W'.cell? ⟨w.heap.size, 5, none⟩ = some (.int .u32 (s.ser : Nat)) ∧ W'.cell? ⟨w.heap.size, 6, none⟩ = some (.int .i64 4) ∧ W'.cell? ⟨w.heap.size, 7, none⟩ = some (.int .i64 s.lif) ∧ W'.cell? ⟨w.heap.size, 8, none⟩ = some (.int .i64 (now + s.lif))) ((refine HS.out _ ?_; repeat (with_reducible first | exact Off.refl _ _ | refine Off.drew ?_ | refine Off.alloc ?_ _ | refine off_set ?_ _ _))) (fail)
  · clear HS q0 q1 q2 q3 q4 q5 q6 q7 q8 qf r0 r1 r2 r3 r4 r5 r6 r7 r8 rf HTL HMK
    have HM : Hid _ := HRT.out.1.fin1 ⟨6, s.src, s.ses, 0, 0, 0, 0, 0, 0, 3, false, [], []⟩ none 0 [.int .i64 s.src, .int .u32 (s.ses : Nat), .int .i64 s.tot, .slice (some ⟨w1.heap.size + 1, 0, none⟩) s.byt.length s.byt.length, .slice none 0 0, .int .u32 (s.ser : Nat), .int .i64 4, .int .i64 s.lif, .int .i64 (now + s.lif)] rfl
    have HN : Hid (Hid _) := n_end HRT.out.1 HRT.out.2.1 HRT.out.2.2 HM.out.1 HM.out.2.2.1 HM.out.2.2.2
    go_wp2
    refine bodyPost_ret (results_cell2 rfl _ _ (w.heap.size + 1 + 1) 0 (by rfl) [.int .i64 s.src, .int .u32 (s.ses : Nat), .int .i64 s.tot, .slice (some ⟨w1.heap.size + 1, 0, none⟩) s.byt.length s.byt.length, .slice none 0 0, .int .u32 (s.ser : Nat), .int .i64 4, .int .i64 s.lif, .int .i64 (now + s.lif)] _ HM.out.2.1 Try.underlying26 rfl hs9) rfl ⟨some ⟨w1.heap.size + 1, 0, none⟩, s.byt.length, .slice (some ⟨WX.heap.size, 0, none⟩) 1 1, ?_, HN.out⟩
    rw [HCS.out]
    rfl
  · clear HS q0 q1 q2 q3 q4 q5 q6 q7 q8 qf r0 r1 r2 r3 r4 r5 r6 r7 r8 rf HTL HMK
    have HM : Hid _ := HRT.out.1.fin2 ⟨6, s.src, s.ses, 0, 0, 0, 0, 0, 0, 3, false, [], []⟩ none 0 [.int .i64 s.src, .int .u32 (s.ses : Nat), .int .i64 s.tot, .slice (some ⟨w1.heap.size + 1, 0, none⟩) s.byt.length s.byt.length, .slice none 0 0, .int .u32 (s.ser : Nat), .int .i64 4, .int .i64 s.lif, .int .i64 (now + s.lif)] rfl
    have HN : Hid (Hid _) := n_end HRT.out.1 HRT.out.2.1 HRT.out.2.2 HM.out.1 HM.out.2.2.1 HM.out.2.2.2
    go_wp2
    refine bodyPost_ret (results_cell2 rfl _ _ (w.heap.size + 1 + 1) 0 (by rfl) [.int .i64 s.src, .int .u32 (s.ses : Nat), .int .i64 s.tot, .slice (some ⟨w1.heap.size + 1, 0, none⟩) s.byt.length s.byt.length, .slice none 0 0, .int .u32 (s.ser : Nat), .int .i64 4, .int .i64 s.lif, .int .i64 (now + s.lif)] _ HM.out.2.1 Try.underlying26 rfl hs9) rfl ⟨some ⟨w1.heap.size + 1, 0, none⟩, s.byt.length, .slice (some ⟨WX.heap.size, 0, none⟩) 1 1, ?_, HN.out⟩
    rw [HCS.out]
    rfl
end Go.Proofs.Ytlhgjhbbiohcnaa
/- The reference's Take, of data that goes with what has come in and asks for no report. -/
namespace Go.Proofs.Ytlhgjhbbiohcnaa
open Go.RowKit
set_option linter.unusedVariables false
theorem came_sta {w : World} {s : Tk} {a : Option Addr} {c : Nat} {g : Option Addr} {d : Nat} (h : CameK w s a c g d) (q : Int) (h1 : in64 q) : CameK w { s with sta := q } a c g d := { h with sta := h1 }
theorem rt_t {w w0 w1 w3 : World} {s : Tk} {a : Option Addr} {c : Nat} {g : Option Addr} {d : Nat} {x : Sg} {xa : Option Addr} {xc : Nat} {a2 : Option Addr} {c2 : Nat} {p : Tk} {a' : Option Addr} {c' : Nat} {g' : Option Addr} {d' : Nat} (he : En w w0 s a c g d x xa xc a2 c2) (hb : Below w0.heap.size w0 w1) (hk : CameK w1 p a' c' g' d') (hb3 : Below (w1.alloc (kc p a' c' g' d')).heap.size (w1.alloc (kc p a' c' g' d')) w3) :
    Hid (Rt w w3 w1.heap.size p a' c' g' d' ∧ CameK w3 p a' c' g' d' ∧ En w w3 s a c g d x xa xc a2 c2 ∧ w.heap.size + 3 ≤ w1.heap.size) := by
  have hb2 : Below w1.heap.size w1 (w1.alloc (kc p a' c' g' d')) := (Below.refl _ _).alloc (Nat.le_refl _) _
  have he1 := he.later hb
  have he3 := he1.later (below_of hb2 hb3)
  have := he1.size
  exact ⟨⟨he3.bel, old_block hb3 (heap_alloc_new w1 _), he3.res, by omega⟩, (hk.later hb2).later hb3, he3, this⟩
theorem rowC_lt {w : World} {a : Option Addr} {l : List (Int × Int)} (h : RowC w a l) (h0 : 0 < l.length) : ∀ b, a = some b → b.block < w.heap.size := by
  rintro b rfl
  obtain ⟨g, o, e, hc⟩ := h.2 h0
  cases e
  have h2 := (hc 0 h0).1
  by_cases hlt : g < w.heap.size
  · exact hlt
  · rw [World.cell?] at h2
    simp [Array.getElem?_eq_none (Nat.le_of_not_lt hlt)] at h2
/-- rows that lay ahead of a block are not written by what writes it. -/
theorem came_off {w1 W W' : World} {tb : Nat} {p : Tk} {a' : Option Addr} {c' : Nat} {g' : Option Addr} {d' : Nat} (h1 : CameK w1 p a' c' g' d') (ht : w1.heap.size ≤ tb) (hk : CameK W p a' c' g' d') (ho : Off (fun i => i = tb) W W') : CameK W' p a' c' g' d' :=
  { hk with
    byt := hk.byt.off ho (fun h0 b e t => by have := h1.byt.lt h0 b e; have : b.block = tb := t; omega)
    got := hk.got.off ho (fun h0 b e t => by have := rowC_lt h1.got h0 b e; have : b.block = tb := t; omega) }
/-- the session's State set. -/
theorem rt_sta {w w1 W : World} {s : Tk} {a : Option Addr} {c : Nat} {g : Option Addr} {d : Nat} {x : Sg} {xa : Option Addr} {xc : Nat} {a2 : Option Addr} {c2 : Nat} {p : Tk} {a' : Option Addr} {c' : Nat} {g' : Option Addr} {d' : Nat} (h1 : CameK w1 p a' c' g' d') (h : Rt w W w1.heap.size p a' c' g' d') (hk : CameK W p a' c' g' d') (he : En w W s a c g d x xa xc a2 c2) (ht : w.heap.size + 3 ≤ w1.heap.size) (q : Int) (hq : in64 q) :
    Hid (Rt w (W.setCell ⟨w1.heap.size, 6, none⟩ (.int .i64 q)) w1.heap.size { p with sta := q } a' c' g' d' ∧ CameK (W.setCell ⟨w1.heap.size, 6, none⟩ (.int .i64 q)) { p with sta := q } a' c' g' d' ∧ En w (W.setCell ⟨w1.heap.size, 6, none⟩ (.int .i64 q)) s a c g d x xa xc a2 c2 ∧ w.heap.size + 3 ≤ w1.heap.size) := by
  have ho := off_set (Off.refl (fun i => i = w1.heap.size) W) 6 (.int .i64 q)
  have he2 := he.off ho (fun i e => by have : i = w1.heap.size := e; omega)
  exact ⟨⟨he2.bel, k_sta h.box q, he2.res, h.ne⟩, came_sta (came_off h1 (Nat.le_refl _) hk ho) q hq, he2, ht⟩
theorem cls_pos {u : Int} : ∀ {l : List (Int × Int)} {least : Int}, clsOk u least l = true → ∀ c ∈ l, 1 ≤ c.2
  | [], _, _, c, hm => absurd hm (by simp)
  | r :: rs, least, h, c, hm => by
    obtain ⟨_, p2, _, p4⟩ := cls_parts h
    rcases List.mem_cons.1 hm with rfl | hm
    · exact p2
    · exact cls_pos p4 c hm
/-- rows do not lie in a block of noughts for a session. -/
theorem res_byt {W : World} {r : Nat} (h : W.heap[r]? = some (kc zeroK none 0 none 0)) {a : Option Addr} {l : List Nat} (hr : Row W a l) (h0 : 0 < l.length) : ∀ b, a = some b → ¬ b.block = r := by
  rintro b rfl e
  obtain ⟨g, o, e2, hc⟩ := hr.2.2 h0
  cases e2
  have e' : g = r := e
  subst e'
  have := hc 0 h0
  rw [cell_of h] at this
  match o, this with
  | 0, t | 1, t | 2, t | 3, t | 4, t | 5, t | 6, t | 7, t | 8, t => simp [zeroK] at t
  | n + 9, t => simp at t
theorem res_got {W : World} {r : Nat} (h : W.heap[r]? = some (kc zeroK none 0 none 0)) {a : Option Addr} {l : List (Int × Int)} (hr : RowC W a l) (h0 : 0 < l.length) (hp : ∀ c ∈ l, 1 ≤ c.2) : ∀ b, a = some b → ¬ b.block = r := by
  rintro b rfl e
  obtain ⟨g, o, e2, hc⟩ := hr.2 h0
  cases e2
  have e' : g = r := e
  subst e'
  have h2 := (hc 0 h0).2
  have h3 := hp l[0] (List.getElem_mem h0)
  generalize l[0].2 = y at h2 h3
  rw [cell_of h] at h2
  match o, h2 with
  | 0, t | 1, t | 2, t | 3, t | 4, t | 5, t | 6, t | 7, t => simp [zeroK] at t; try omega
  | n + 8, t => simp at t
theorem came_res {W W' : World} {n : Nat} {p : Tk} {a' : Option Addr} {c' : Nat} {g' : Option Addr} {d' : Nat} (hk : CameK W p a' c' g' d') (h : W.heap[n]? = some (kc zeroK none 0 none 0)) (hp : ∀ c ∈ p.got, 1 ≤ c.2) (ho : Off (fun i => i = n) W W') : CameK W' p a' c' g' d' :=
  { hk with
    byt := hk.byt.off ho (fun h0 b e t => res_byt h hk.byt h0 b e t)
    got := hk.got.off ho (fun h0 b e t => res_got h hk.got h0 hp b e t) }
set_option maxRecDepth 20000 in
set_option maxHeartbeats 4000000 in
theorem rtake_d (s : Tk) (a : Option Addr) (c : Nat) (g : Option Addr) (d : Nat) (x : Sg) (xa : Option Addr) (xc : Nat) (a2 : Option Addr) (c2 : Nat) (now : Int) (w : World) (hc : CameK w s a c g d) (hx : Came w x xa xc a2 c2) (hok : okK s = true) (hd : dataS x = true) (hn : inB now 0 1048576 = true) (k4 : (x.knd == 4) = false) (k1 : (x.knd != 1) = false) (h4 : (s.sta == 4) = false) (hp : (rpK { s with due := now + s.lif } x).2 = true) (hk : x.chk = false) :
    Calls Try.prog 16 #[kv s a c g d, sv x xa xc a2 c2, .int .i64 now] w fun e w' => ∃ a' c' g' d', e = .returned (.tuple #[.agg (kcells (putK { s with due := now + s.lif } x) a' c' g' d').toArray, .slice none 0 0]) ∧ Hid (Below w.heap.size w w' ∧ CameK w' (putK { s with due := now + s.lif } x) a' c' g' d') := by
  have hnow := inB_of hn
  have hl := (smallK hok).2.2.2.1
  have HC1 : Hid (CameK w { s with due := now + s.lif } a c g d) := ⟨hc.byt, hc.got, hc.lb, hc.lg, hc.zb, hc.zg, hc.gin, hc.src, hc.ses, hc.tot, hc.ser, hc.sta, hc.lif, by show in64 (now + s.lif); unfold in64; omega⟩
  have HOK : Hid (okK { s with due := now + s.lif } = true) := okK_due hok (by omega) (by omega)
  obtain ⟨p, hpe⟩ : ∃ p, putG { s with due := now + s.lif } x = p := ⟨_, rfl⟩
  have HPE : Hid (putG { s with due := now + s.lif } x = p) := hpe
  have hrp : rpK { s with due := now + s.lif } x = (p, true) := by
    unfold rpK rputK at hp ⊢
    split at hp
    · split at hp
      · cases hp
      · rename_i h1 h2
        rw [if_pos h1, if_neg h2, hpe]
    · cases hp
  have HPU : Hid (∀ W, Below w.heap.size w W → Calls Try.prog 38 #[kv { s with due := now + s.lif } a c g d, sv x xa xc a2 c2] W fun e w' => ∃ a' c' g' d', e = .returned (.tuple #[.agg (kcells p a' c' g' d').toArray, .bool true]) ∧ Hid (Below W.heap.size W w' ∧ CameK w' p a' c' g' d')) := fun W hb => by
    have := rputA_any { s with due := now + s.lif } a c g d x xa xc a2 c2 W (HC1.out.later hb) (hx.later hb) HOK.out hd
    rw [hrp] at this
    exact this
  have HPOS : Hid (∀ c ∈ p.got, 1 ≤ c.2) := by
    show ∀ c ∈ p.got, 1 ≤ c.2
    rw [← hpe]
    have ht : x.tot = s.tot := by
      unfold rpK at hp
      split at hp
      · assumption
      · cases hp
    exact cls_pos (put_rows HOK.out hd ht).2.2
  clear hpe hrp
  have HEN : Hid (En w (((w.alloc (.cells #[.int .i64 s.src, .int .u32 (s.ses : Nat), .int .i64 s.tot, .slice a s.byt.length c, .slice g s.got.length d, .int .u32 (s.ser : Nat), .int .i64 s.sta, .int .i64 s.lif, .int .i64 (now + s.lif)] 26)).alloc (.cells #[.int .i64 x.knd, .int .i64 x.src, .int .u32 (x.ses : Nat), .int .u32 (x.ser : Nat), .int .u32 (x.cks : Nat), .int .i64 x.off, .int .i64 x.tot, .int .i64 x.low, .int .i64 x.upp, .int .i64 x.rea, .bool x.chk, .slice xa x.dat.length xc, .slice a2 x.cls.length c2] 28)).alloc (.cells #[.int .i64 0, .int .u32 0, .int .i64 0, .slice none 0 0, .slice none 0 0, .int .u32 0, .int .i64 0, .int .i64 0, .int .i64 0] 26)) { s with due := now + s.lif } a c g d x xa xc a2 c2) := En.start w { s with due := now + s.lif } _ _ _ _ _ _ _ _ _
  have HK : Hid (x.chk = false) := hk
  clear hc hx hok hd hn hp hk HOK HC1
  unfold putK
  rw [HPE.out]
  cases hw : wholeK p with
  | false =>
    rw [if_neg (by simp)]
    go_enter Try.func16, Try.ntmps16
    go_wp2_with fail
    go_at_call 38
    refine (HPU.out _ HEN.out.bel).mono ?_
    rintro e w1 ⟨a', c', g', d', rfl, hq⟩
    have HEN0 := HEN
    have HWH : Hid (∀ W, Below w1.heap.size w1 W → Calls Try.prog 34 #[kv p a' c' g' d'] W fun e w' => e = .returned (.bool (wholeK p)) ∧ Hid (Below W.heap.size W w')) := fun W hb => rwhole_any p a' c' g' d' W (hq.out.2.got.later hb)
    rw [hw] at HWH
    clear HPU HEN hw
    go_wp2_with fail
    go_at_call 34
    refine (HWH.out _ ((Below.refl _ _).alloc (Nat.le_refl _) _)).mono ?_
    rintro e w3 ⟨rfl, hb3⟩
    have HRT : Hid (Hid _) := rt_t HEN0.out hq.out.1 hq.out.2 hb3.out
    obtain ⟨r0, r1, r2, r3, r4, r5, r6, r7, r8⟩ := HRT.out.out.1.there (Below.refl _ _)
    have rf := HRT.out.out.1.frozen (Below.refl _ _)
    obtain ⟨k0, k1, k2, k3, k4, k5, k6, k7, k8⟩ := kcells_get HRT.out.out.1.box
    have y10 : w3.cell? ⟨w.heap.size + 1, 10, none⟩ = some (.bool false) := by rw [(scells HRT.out.out.2.2.1.two).2.2.2.2.2.2.2.2.2.2.1, HK.out]
    have hs9 : (Try.prog.info? 26).map (·.size) = some 9 := by kernel_rfl
    have HM : Hid _ := HRT.out.out.1.fin0 [.int .i64 p.src, .int .u32 (p.ses : Nat), .int .i64 p.tot, .slice a' p.byt.length c', .slice g' p.got.length d', .int .u32 (p.ser : Nat), .int .i64 p.sta, .int .i64 p.lif, .int .i64 p.due] rfl
    have HN : Hid _ := came_res HRT.out.out.2.1 HRT.out.out.1.res HPOS.out HM.out.2.2
    clear HWH HEN0
    go_wp2
    exact bodyPost_ret (results_cell2 rfl _ _ (w.heap.size + 1 + 1) 0 (by rfl) [.int .i64 p.src, .int .u32 (p.ses : Nat), .int .i64 p.tot, .slice a' p.byt.length c', .slice g' p.got.length d', .int .u32 (p.ser : Nat), .int .i64 p.sta, .int .i64 p.lif, .int .i64 p.due] _ HM.out.2.1 Try.underlying26 rfl hs9) rfl ⟨a', c', g', d', rfl, HM.out.1, HN.out⟩
  | true =>
    rw [if_pos rfl]
    go_enter Try.func16, Try.ntmps16
    go_wp2_with fail
    go_at_call 38
    refine (HPU.out _ HEN.out.bel).mono ?_
    rintro e w1 ⟨a', c', g', d', rfl, hq⟩
    have HEN0 := HEN
    have HWH : Hid (∀ W, Below w1.heap.size w1 W → Calls Try.prog 34 #[kv p a' c' g' d'] W fun e w' => e = .returned (.bool (wholeK p)) ∧ Hid (Below W.heap.size W w')) := fun W hb => rwhole_any p a' c' g' d' W (hq.out.2.got.later hb)
    rw [hw] at HWH
    clear HPU HEN hw
    go_wp2_with fail
    go_at_call 34
    refine (HWH.out _ ((Below.refl _ _).alloc (Nat.le_refl _) _)).mono ?_
    rintro e w3 ⟨rfl, hb3⟩
    have HR0 : Hid (Hid _) := rt_t HEN0.out hq.out.1 hq.out.2 hb3.out
    have HRT : Hid (Hid _) := rt_sta hq.out.2 HR0.out.out.1 HR0.out.out.2.1 HR0.out.out.2.2.1 HR0.out.out.2.2.2 2 ⟨by omega, by omega⟩
    have kf := frozen_of HR0.out.out.1.box 6
    have k6a := (kcells_get HR0.out.out.1.box).2.2.2.2.2.2.1
    obtain ⟨r0, r1, r2, r3, r4, r5, r6, r7, r8⟩ := HRT.out.out.1.there (Below.refl _ _)
    have rf := HRT.out.out.1.frozen (Below.refl _ _)
    obtain ⟨k0, k1, k2, k3, k4, k5, k6, k7, k8⟩ := kcells_get HRT.out.out.1.box
    have y10 : (w3.setCell ⟨w1.heap.size, 6, none⟩ (.int .i64 2)).cell? ⟨w.heap.size + 1, 10, none⟩ = some (.bool false) := by rw [(scells HRT.out.out.2.2.1.two).2.2.2.2.2.2.2.2.2.2.1, HK.out]
    have hs9 : (Try.prog.info? 26).map (·.size) = some 9 := by kernel_rfl
    have HM : Hid _ := HRT.out.out.1.fin0 [.int .i64 p.src, .int .u32 (p.ses : Nat), .int .i64 p.tot, .slice a' p.byt.length c', .slice g' p.got.length d', .int .u32 (p.ser : Nat), .int .i64 2, .int .i64 p.lif, .int .i64 p.due] rfl
    have HN : Hid _ := came_res HRT.out.out.2.1 HRT.out.out.1.res HPOS.out HM.out.2.2
    clear HWH HEN0
    go_wp2
    exact bodyPost_ret (results_cell2 rfl _ _ (w.heap.size + 1 + 1) 0 (by rfl) [.int .i64 p.src, .int .u32 (p.ses : Nat), .int .i64 p.tot, .slice a' p.byt.length c', .slice g' p.got.length d', .int .u32 (p.ser : Nat), .int .i64 2, .int .i64 p.lif, .int .i64 p.due] _ HM.out.2.1 Try.underlying26 rfl hs9) rfl ⟨a', c', g', d', rfl, HM.out.1, HN.out⟩
end Go.Proofs.Ytlhgjhbbiohcnaa
/- The reference's Take: the report's claims. -/
namespace Go.Proofs.Ytlhgjhbbiohcnaa
open Go.RowKit
set_option linter.unusedVariables false
/-- in a region that draws: append of one claim, which lies in a block of its own, onto claims that the call owns. -/
theorem step_append_one {ops : Array Oper} {o : Oper} {a : Act} {w : World} {K : Act → World → Prop} {Q : Exit → Act → World → Prop} {E : Prop} (hgd : o.guard = none) (s x : Operand)
    (ho : o.op = .call { callee := .builtin .append, args := #[s, x], argTypes := #[24, 24] }) (base : Nat) (v : Value) (l : List (Int × Int)) (hs : a.eval s = v) (hown : w.ownsRow base 60 2 v l.length (ccells l))
    (b : Nat) (p q : Int) (hx : a.eval x = .slice (some ⟨b, 0, none⟩) 1 1) (hb : w.heap[b]? = some (.cells #[.int .i64 p, .int .i64 q] 60 (0, 0))) (hz : l.length ≤ 100000) (hbase : base ≤ w.heap.size)
    (h : ∀ g' c' w', w'.ownsRow base 60 2 (.slice (some ⟨g', 0, none⟩) (l.length + 1) c') (l ++ [(p, q)]).length (ccells (l ++ [(p, q)])) → Off (fun k => v.ownBlock = some k) w w' → K (a.put o.dst (.slice (some ⟨g', 0, none⟩) (l.length + 1) c')) w') : if Region.wanted o (yielded ops a.tmps) = true then Oper.wp Try.prog o a w K Q else E := by
  obtain ⟨i0, hi, hz0, hz1, hz2⟩ := info_parts Try.info60
  have hcells : ∀ j u, (ccells [(p, q)])[j]? = some u → w.cell? ((⟨b, 0, none⟩ : Addr).add j) = some u := by
    intro j u hu
    rw [Go.WideShapes.add_plain, Nat.zero_add, cell_of hb, ← List.getElem?_toArray] at *
    exact hu
  refine step_append_lies _ hgd s x 24 ho base 60 i0 _ 2 16 Try.underlying24 hi hz0 hz1 hz2 rfl (by decide) v l.length (ccells l) hs hown ⟨b, 0, none⟩ 1 1 (ccells [(p, q)]) hx rfl hcells (ccells_one _) (by decide) (by unfold maxLen; omega) (by omega) hbase w.heap.size rfl ?_
  intro g2 cap2 w' h1 h2 h3 _
  obtain ⟨_, _, hv2, hle2, _⟩ := own_form h1
  cases hv2
  exact h g2 cap2 w' (by rw [ccells_append, List.length_append]; exact h1) ((Off.refl (fun k => v.ownBlock = some k) w).grown h2 (fun k e => .inr e))
/-- a segment whose claims are v. -/
abbrev scv (X : Sg) (v : Value) : Obj := .cells #[.int .i64 X.knd, .int .i64 X.src, .int .u32 (X.ses : Nat), .int .u32 (X.ser : Nat), .int .u32 (X.cks : Nat), .int .i64 X.off, .int .i64 X.tot, .int .i64 X.low, .int .i64 X.upp, .int .i64 X.rea, .bool X.chk, .slice none 0 0, v] 28
/-- a report whose claims are gathered. -/
structure RpI (W wr : World) (X : Sg) (L : List (Int × Int)) (v : Value) : Prop where
  bel : Below W.heap.size W wr
  box : wr.heap[W.heap.size]? = some (scv X v)
  own : wr.ownsRow (W.heap.size + 1) 60 2 v L.length (ccells L)
theorem RpI.start (W : World) (X : Sg) (hd : X.dat = []) (hc : X.cls = []) : RpI W (W.alloc (sc X none 0 none 0)) X [] (.slice none 0 0) := by
  refine ⟨(Below.refl _ _).alloc (Nat.le_refl _) _, ?_, ⟨rfl, .inl ⟨rfl, rfl⟩⟩⟩
  rw [heap_alloc_new]
  simp [hd, hc]
theorem RpI.get {W wr : World} {X : Sg} {L : List (Int × Int)} {v : Value} (h : RpI W wr X L v) (wx : World) (hb : Below wr.heap.size wr wx) : wx.cell? ⟨W.heap.size, 12, none⟩ = some v ∧ wx.frozen? ⟨W.heap.size, 12, none⟩ = false := by
  have := old_block hb h.box
  exact ⟨by rw [cell_of this]; rfl, frozen_of this 12⟩
theorem RpI.lt {W wr : World} {X : Sg} {L : List (Int × Int)} {v : Value} (h : RpI W wr X L v) : W.heap.size < wr.heap.size := (Array.getElem?_eq_some_iff.1 h.box).1
theorem RpI.ext {W wr wx w' : World} {X : Sg} {L M : List (Int × Int)} {v v' : Value} (h : RpI W wr X L v) (hb : Below wr.heap.size wr wx) (hf : Off (fun k => v.ownBlock = some k) wx w') (ho : w'.ownsRow (W.heap.size + 1) 60 2 v' M.length (ccells M)) : w'.cell? ⟨W.heap.size, 12, none⟩ = some v ∧ w'.frozen? ⟨W.heap.size, 12, none⟩ = false ∧ RpI W (w'.setCell ⟨W.heap.size, 12, none⟩ v') X M v' := by
  have hv : ∀ k, v.ownBlock = some k → W.heap.size + 1 ≤ k := own_ge h.own
  have h2 : w'.heap[W.heap.size]? = some (scv X v) := hf.at (old_block hb h.box) (fun e => by have := hv _ e; omega)
  have hs : Off (fun i => i = W.heap.size) w' (w'.setCell ⟨W.heap.size, 12, none⟩ v') := (Off.refl (fun i => i = W.heap.size) w').setCell (p := ⟨W.heap.size, 12, none⟩) (.inr rfl) _
  refine ⟨by rw [cell_of h2]; rfl, frozen_of h2 12, ?_, ?_, hs.owns ho (fun k e t => by have := own_ge ho k e; have : k = W.heap.size := t; omega)⟩
  · have hb2 : Below W.heap.size W wx := below_of h.bel hb
    exact (hb2.trans (hf.below hb2.size (fun i e => by have := hv i e; omega))).trans (hs.below (by have := hf.size; have := hb2.size; omega) (fun i e => by have : i = W.heap.size := e; omega))
  · rw [heap_setCell_same _ _ _ _ _ _ h2]
    rfl
theorem RpI.fin {W wr : World} {X : Sg} {L : List (Int × Int)} {v : Value} (h : RpI W wr X L v) (hd : X.dat = []) : ∃ a2 c2, v = .slice a2 L.length c2 ∧ wr.heap[W.heap.size]? = some (sc { X with cls := L } none 0 a2 c2) ∧ RowC wr a2 L ∧ L.length ≤ c2 ∧ c2 ≤ maxLen ∧ ∀ bb, a2 = some bb → W.heap.size + 1 ≤ bb.block := by
  obtain ⟨g', d', f1, f2, f3, f4, f5, f6⟩ := ownC_row h.own
  subst f1
  refine ⟨g', d', rfl, ?_, f5, f3, f4, f6⟩
  rw [h.box]
  simp [hd]
end Go.Proofs.Ytlhgjhbbiohcnaa
/- The reference's Take: a session's Serial set. -/
namespace Go.Proofs.Ytlhgjhbbiohcnaa
open Go.RowKit
set_option linter.unusedVariables false
theorem k_ser {W : World} {b : Nat} {s : Tk} {a : Option Addr} {c : Nat} {g : Option Addr} {d : Nat} (h : W.heap[b]? = some (kc s a c g d)) (q : Nat) : (W.setCell ⟨b, 5, none⟩ (.int .u32 (q : Nat))).heap[b]? = some (kc { s with ser := q } a c g d) := by
  rw [heap_setCell_same _ _ _ _ _ _ h]
  rfl
/-- the session's Serial set. -/
theorem rt_ser {w w1 W : World} {s : Tk} {a : Option Addr} {c : Nat} {g : Option Addr} {d : Nat} {x : Sg} {xa : Option Addr} {xc : Nat} {a2 : Option Addr} {c2 : Nat} {p : Tk} {a' : Option Addr} {c' : Nat} {g' : Option Addr} {d' : Nat} (hb1 : ∀ b, a' = some b → 0 < p.byt.length → b.block < w1.heap.size) (hg1 : ∀ b, g' = some b → 0 < p.got.length → b.block < w1.heap.size) (h : Rt w W w1.heap.size p a' c' g' d') (hk : CameK W p a' c' g' d') (he : En w W s a c g d x xa xc a2 c2) (ht : w.heap.size + 3 ≤ w1.heap.size) (q : Nat) (hq : q < 4294967296) :
    Hid (Rt w (W.setCell ⟨w1.heap.size, 5, none⟩ (.int .u32 (q : Nat))) w1.heap.size { p with ser := q } a' c' g' d' ∧ CameK (W.setCell ⟨w1.heap.size, 5, none⟩ (.int .u32 (q : Nat))) { p with ser := q } a' c' g' d' ∧ En w (W.setCell ⟨w1.heap.size, 5, none⟩ (.int .u32 (q : Nat))) s a c g d x xa xc a2 c2 ∧ w.heap.size + 3 ≤ w1.heap.size) := by
  have ho := off_set (Off.refl (fun i => i = w1.heap.size) W) 5 (.int .u32 (q : Nat))
  have he2 := he.off ho (fun i e => by have : i = w1.heap.size := e; omega)
  refine ⟨⟨he2.bel, k_ser h.box q, he2.res, h.ne⟩, ?_, he2, ht⟩
  exact { hk with
    byt := hk.byt.off ho (fun h0 b e t => by have := hb1 b e h0; have : b.block = w1.heap.size := t; omega)
    got := hk.got.off ho (fun h0 b e t => by have := hg1 b e h0; have : b.block = w1.heap.size := t; omega)
    ser := hq }
end Go.Proofs.Ytlhgjhbbiohcnaa
/- The reference's Take, of data that goes with what has come in and asks for a report: one case. -/
namespace Go.Proofs.Ytlhgjhbbiohcnaa
open Go.RowKit
set_option linter.unusedVariables false
set_option maxRecDepth 20000 in
set_option maxHeartbeats 4000000 in
theorem rtake_c00 (s : Tk) (a : Option Addr) (c : Nat) (g : Option Addr) (d : Nat) (x : Sg) (xa : Option Addr) (xc : Nat) (a2 : Option Addr) (c2 : Nat) (now : Int) (w : World) (hc : CameK w s a c g d) (hx : Came w x xa xc a2 c2) (hok : okK s = true) (hd : dataS x = true) (hn : inB now 0 1048576 = true) (k4 : (x.knd == 4) = false) (k1 : (x.knd != 1) = false) (h4 : (s.sta == 4) = false) (hp : (rpK { s with due := now + s.lif } x).2 = true) (hk : x.chk = true) (hw : wholeK (putG { s with due := now + s.lif } x) = false) (hs : ¬ s.ser = 4294967295) :
    Calls Try.prog 16 #[kv s a c g d, sv x xa xc a2 c2, .int .i64 now] w fun e w' => ∃ a' c' g' d' v, e = .returned (.tuple #[.agg (kcells (serK (putG { s with due := now + s.lif } x)) a' c' g' d').toArray, v]) ∧ Hid (Below w.heap.size w w' ∧ CameK w' (serK (putG { s with due := now + s.lif } x)) a' c' g' d' ∧ Sent w.heap.size w' v [repK (putG { s with due := now + s.lif } x) x.ser]) := by
  have hnow := inB_of hn
  have hl := (smallK hok).2.2.2.1
  have HC1 : Hid (CameK w { s with due := now + s.lif } a c g d) := ⟨hc.byt, hc.got, hc.lb, hc.lg, hc.zb, hc.zg, hc.gin, hc.src, hc.ses, hc.tot, hc.ser, hc.sta, hc.lif, by show in64 (now + s.lif); unfold in64; omega⟩
  have HOK : Hid (okK { s with due := now + s.lif } = true) := okK_due hok (by omega) (by omega)
  obtain ⟨p, hpe⟩ : ∃ p, putG { s with due := now + s.lif } x = p := ⟨_, rfl⟩
  have HPE : Hid (putG { s with due := now + s.lif } x = p) := hpe
  have hrp : rpK { s with due := now + s.lif } x = (p, true) := by
    unfold rpK rputK at hp ⊢
    split at hp
    · split at hp
      · cases hp
      · rename_i h1 h2
        rw [if_pos h1, if_neg h2, hpe]
    · cases hp
  have HPU : Hid (∀ W, Below w.heap.size w W → Calls Try.prog 38 #[kv { s with due := now + s.lif } a c g d, sv x xa xc a2 c2] W fun e w' => ∃ a' c' g' d', e = .returned (.tuple #[.agg (kcells p a' c' g' d').toArray, .bool true]) ∧ Hid (Below W.heap.size W w' ∧ CameK w' p a' c' g' d')) := fun W hb => by
    have := rputA_any { s with due := now + s.lif } a c g d x xa xc a2 c2 W (HC1.out.later hb) (hx.later hb) HOK.out hd
    rw [hrp] at this
    exact this
  have HPOS : Hid (∀ c ∈ p.got, 1 ≤ c.2) := by
    show ∀ c ∈ p.got, 1 ≤ c.2
    rw [← hpe]
    have ht : x.tot = s.tot := by
      unfold rpK at hp
      split at hp
      · assumption
      · cases hp
    exact cls_pos (put_rows HOK.out hd ht).2.2
  have HSER : Hid (p.ser = s.ser) := by
    show _ = _
    rw [← hpe]
    rfl
  have HPS : Hid (p.src = s.src ∧ p.ses = s.ses ∧ p.tot = s.tot) := by
    show _ ∧ _
    rw [← hpe]
    exact ⟨rfl, rfl, rfl⟩
  clear hpe hrp
  have HEN : Hid (En w (((w.alloc (.cells #[.int .i64 s.src, .int .u32 (s.ses : Nat), .int .i64 s.tot, .slice a s.byt.length c, .slice g s.got.length d, .int .u32 (s.ser : Nat), .int .i64 s.sta, .int .i64 s.lif, .int .i64 (now + s.lif)] 26)).alloc (.cells #[.int .i64 x.knd, .int .i64 x.src, .int .u32 (x.ses : Nat), .int .u32 (x.ser : Nat), .int .u32 (x.cks : Nat), .int .i64 x.off, .int .i64 x.tot, .int .i64 x.low, .int .i64 x.upp, .int .i64 x.rea, .bool x.chk, .slice xa x.dat.length xc, .slice a2 x.cls.length c2] 28)).alloc (.cells #[.int .i64 0, .int .u32 0, .int .i64 0, .slice none 0 0, .slice none 0 0, .int .u32 0, .int .i64 0, .int .i64 0, .int .i64 0] 26)) { s with due := now + s.lif } a c g d x xa xc a2 c2) := En.start w { s with due := now + s.lif } _ _ _ _ _ _ _ _ _
  have HK : Hid (x.chk = true) := hk
  clear hc hx hok hd hn hp hk HOK HC1
  rw [HPE.out] at hw ⊢
  go_enter Try.func16, Try.ntmps16
  go_wp2_with fail
  go_at_call 38
  refine (HPU.out _ HEN.out.bel).mono ?_
  rintro e w1 ⟨a', c', g', d', rfl, hq⟩
  have HEN0 := HEN
  have HWH : Hid (∀ W, Below w1.heap.size w1 W → Calls Try.prog 34 #[kv p a' c' g' d'] W fun e w' => e = .returned (.bool (wholeK p)) ∧ Hid (Below W.heap.size W w')) := fun W hb => rwhole_any p a' c' g' d' W (hq.out.2.got.later hb)
  rw [hw] at HWH
  clear HPU HEN hw
  go_wp2_with fail
  go_at_call 34
  refine (HWH.out _ ((Below.refl _ _).alloc (Nat.le_refl _) _)).mono ?_
  rintro e w3 ⟨rfl, hb3⟩
  have HR0 : Hid (Hid _) := rt_t HEN0.out hq.out.1 hq.out.2 hb3.out
  obtain ⟨k0, k1, k2, k3, k4, k5, k6, k7, k8⟩ := kcells_get HR0.out.out.1.box
  have y10 : w3.cell? ⟨w.heap.size + 1, 10, none⟩ = some (.bool true) := by rw [(scells HR0.out.out.2.2.1.two).2.2.2.2.2.2.2.2.2.2.1, HK.out]
  have kf := frozen_of HR0.out.out.1.box 5
  have hs : ¬ p.ser = 4294967295 := by have := HSER.out; omega
  have hsb : ((p.ser : Int) == 4294967295) = false := by simp; omega
  obtain ⟨N, hN⟩ : ∃ N : Nat, nextN p.ser = N := ⟨_, rfl⟩
  have hN2 : N = p.ser + 1 ∧ N < 4294967296 := by have := HR0.out.out.2.1.ser; unfold nextN at hN; rw [if_neg hs] at hN; omega
  have hsw : IntKind.u32.wrap ((p.ser : Int) + 1) = (N : Int) := by rw [IntKind.wrap_u32]; omega
  have HNX : Hid (nextN p.ser = N ∧ N < 4294967296) := ⟨hN, hN2.2⟩
  clear hN hN2 hs
  have HR5 : Hid (Hid _) := rt_ser (fun b e h0 => hq.out.2.byt.lt h0 b e) (fun b e h0 => rowC_lt hq.out.2.got h0 b e) HR0.out.out.1 HR0.out.out.2.1 HR0.out.out.2.2.1 HR0.out.out.2.2.2 N HNX.out.2
  obtain ⟨y0, y1, y2, _⟩ := kcells_get HR5.out.out.2.2.1.one
  have y3 := (scells HR5.out.out.2.2.1.two).2.2.2.1
  have t5 := (kcells_get HR5.out.out.1.box).2.2.2.2.2.1
  have t4 := (kcells_get HR5.out.out.1.box).2.2.2.2.1
  obtain ⟨W5, hW5⟩ : ∃ W5, w3.setCell ⟨w1.heap.size, 5, none⟩ (.int .u32 (N : Int)) = W5 := ⟨_, rfl⟩
  rw [hW5] at HR5 y0 y1 y2 y3 t5 t4
  clear HWH HEN0
  go_wp2_with fail
  have HI0 : Hid (RpI W5 (W5.alloc (sc ⟨2, s.src, s.ses, N, x.ser, 0, 0, 0, s.tot, 0, false, [], []⟩ none 0 none 0)) ⟨2, s.src, s.ses, N, x.ser, 0, 0, 0, s.tot, 0, false, [], []⟩ [] (.slice none 0 0)) := RpI.start W5 _ rfl rfl
  clear hW5 kf k0 k1 k2 k3 k4 k5 k6 k7 k8 y0 y1 y2 y3 y10 t5
  have HGL : Hid (p.got.length ≤ 140737488351232) := hq.out.2.zg
  go_loopw [11] (fun i wr => ∃ k : Nat, k ≤ p.got.length ∧ (k : Int) ≤ 20 ∧ i = .int .i64 k ∧ Hid (∃ v, RpI W5 wr ⟨2, s.src, s.ses, N, x.ser, 0, 0, 0, s.tot, 0, false, [], []⟩ (p.got.take k) v)) (fun i _ => p.got.length - (intOf i).toNat)
  case atStart => exact ⟨0, by omega, by omega, rfl, ⟨_, HI0.out⟩⟩
  case round =>
    obtain ⟨k, hk, hk20, rfl, HQ0⟩ := hrel
    obtain ⟨v, hv⟩ := HQ0.out
    have HQ : Hid (RpI W5 wr ⟨2, s.src, s.ses, N, x.ser, 0, 0, 0, s.tot, 0, false, [], []⟩ (p.got.take k) v) := hv
    clear hv HQ0
    have u4 : wr.cell? ⟨w1.heap.size, 4, none⟩ = some (.slice g' p.got.length d') := cell_later HQ.out.bel t4
    by_cases hlt : k < p.got.length
    · by_cases h20 : (k : Int) < 20
      · have u4b : ∀ X, (wr.alloc X).cell? ⟨w1.heap.size, 4, none⟩ = some (.slice g' p.got.length d') := fun X => cell_later (below_of HQ.out.bel ((Below.refl _ _).alloc (Nat.le_refl _) X)) t4
        obtain ⟨rc0, rf0⟩ := HQ.out.get wr (Below.refl _ _)
        have rc1 := fun X => (HQ.out.get (wr.alloc X) ((Below.refl _ _).alloc (Nat.le_refl _) X)).1
        obtain ⟨b1, o1, hb1, hc1⟩ := (HR5.out.out.2.1.got.later HQ.out.bel).2 (by show 0 < p.got.length; omega)
        subst hb1
        obtain ⟨p1, p2⟩ := hc1 k hlt
        have HNX2 : Hid (p.got.take (k + 1) = p.got.take k ++ [p.got[k]]) := (List.take_succ_eq_append_getElem hlt)
        have hi1 : (k : Int) < (p.got.length : Int) := by omega
        have HGT : Hid (p.got[k] = (p.got[k].1, p.got[k].2)) := rfl
        rw [HGT.out] at HNX2
        clear hc1 HGT
        change wr.cell? _ = some (.int .i64 p.got[k].1) at p1
        change wr.cell? _ = some (.int .i64 p.got[k].2) at p2
        generalize p.got[k].1 = x1 at p1 HNX2
        generalize p.got[k].2 = x2 at p2 HNX2
        have HOW : Hid (∀ wx, Below wr.heap.size wr wx → wx.ownsRow (W5.heap.size + 1) 60 2 v (p.got.take k).length (ccells (p.got.take k))) := fun wx hb => (Off.of_below (S := fun _ => False) hb).owns HQ.out.own (fun _ _ t => t)
        have HLE : Hid ((p.got.take k).length ≤ 100000 ∧ W5.heap.size < wr.heap.size ∧ (p.got.take k).length = k) := ⟨by rw [List.length_take]; omega, HQ.out.lt, by rw [List.length_take]; omega⟩
        go_wp2_with fail
        go_region_law (refine step_append_one rfl _ _ rfl (W5.heap.size + 1) v (p.got.take k) rfl (HOW.out _ (by first | exact ((Below.refl _ _).drew.alloc (by simp) _) | exact ((Below.refl _ _).alloc (by simp) _).drew)) wr.heap.size x1 x2 rfl (by first | exact heap_alloc_new wr _ | exact old_block (Below.refl _ _).drew (heap_alloc_new wr _)) HLE.out.1 (by have := HLE.out.2.1; simp; omega) ?_; intro gn cn wn hon hfn; obtain ⟨m1, m2, m3⟩ := HQ.out.ext (M := p.got.take k ++ [(x1, x2)]) (by first | exact ((Below.refl _ _).drew.alloc (by simp) _) | exact ((Below.refl _ _).alloc (by simp) _).drew) hfn hon; rw [HLE.out.2.2] at m3; have HM3 : Hid _ := m3; clear m3 hon hfn)
        all_goals
          go_wp2
          go_roundw
          case rel => repeat (first | exact ⟨k + 1, by omega, by omega, by go_num, ⟨_, by rw [HNX2.out]; exact HM3.out⟩⟩ | refine ⟨_, ?_⟩)
          case measure => simp [intOf]; omega
      · have h20b : k = 20 := by omega
        have HT20 : Hid (p.got.take k = p.got.take 20) := by rw [h20b]; rfl
        clear h20b
        have HRT : Hid (Rt w wr w1.heap.size { p with ser := N } a' c' g' d' ∧ CameK wr { p with ser := N } a' c' g' d') := ⟨HR5.out.out.1.later HQ.out.bel, HR5.out.out.2.1.later HQ.out.bel⟩
        obtain ⟨a6, c6, hv6, hb6, hr6, hl6, hm6, hn6⟩ := HQ.out.fin rfl
        rw [HT20.out] at hv6 hb6 hr6 hl6
        obtain ⟨L6, hL6⟩ : ∃ L6, p.got.take 20 = L6 := ⟨_, rfl⟩
        rw [hL6] at hv6 hb6 hr6 hl6
        have HB6 : Hid (wr.heap[W5.heap.size]? = some (sc ⟨2, s.src, s.ses, N, x.ser, 0, 0, 0, s.tot, 0, false, [], L6⟩ none 0 a6 c6)) := hb6
        have HLT : Hid (w.heap.size + 3 ≤ W5.heap.size) := Nat.le_trans HR5.out.out.2.2.2 (by have := (Array.getElem?_eq_some_iff.1 HR5.out.out.1.box).1; omega)
        have HS : Hid (∀ W', Off (fun i => i = w.heap.size + 1 + 1) wr W' → W'.cell? ⟨w1.heap.size, 0, none⟩ = some (.int .i64 p.src) ∧ W'.cell? ⟨w1.heap.size, 1, none⟩ = some (.int .u32 (p.ses : Nat)) ∧ W'.cell? ⟨w1.heap.size, 2, none⟩ = some (.int .i64 p.tot) ∧ W'.cell? ⟨w1.heap.size, 3, none⟩ = some (.slice a' p.byt.length c') ∧ W'.cell? ⟨w1.heap.size, 4, none⟩ = some (.slice g' p.got.length d') ∧ W'.cell? ⟨w1.heap.size, 5, none⟩ = some (.int .u32 (N : Nat)) ∧ W'.cell? ⟨w1.heap.size, 6, none⟩ = some (.int .i64 p.sta) ∧ W'.cell? ⟨w1.heap.size, 7, none⟩ = some (.int .i64 p.lif) ∧ W'.cell? ⟨w1.heap.size, 8, none⟩ = some (.int .i64 p.due) ∧ W'.cell? ⟨W5.heap.size, 0, none⟩ = some (.int .i64 2) ∧ W'.cell? ⟨W5.heap.size, 1, none⟩ = some (.int .i64 s.src) ∧ W'.cell? ⟨W5.heap.size, 2, none⟩ = some (.int .u32 (s.ses : Nat)) ∧ W'.cell? ⟨W5.heap.size, 3, none⟩ = some (.int .u32 (N : Nat)) ∧ W'.cell? ⟨W5.heap.size, 4, none⟩ = some (.int .u32 (x.ser : Nat)) ∧ W'.cell? ⟨W5.heap.size, 5, none⟩ = some (.int .i64 0) ∧ W'.cell? ⟨W5.heap.size, 6, none⟩ = some (.int .i64 0) ∧ W'.cell? ⟨W5.heap.size, 7, none⟩ = some (.int .i64 0) ∧ W'.cell? ⟨W5.heap.size, 8, none⟩ = some (.int .i64 s.tot) ∧ W'.cell? ⟨W5.heap.size, 9, none⟩ = some (.int .i64 0) ∧ W'.cell? ⟨W5.heap.size, 10, none⟩ = some (.bool false) ∧ W'.cell? ⟨W5.heap.size, 11, none⟩ = some (.slice none 0 0) ∧ W'.cell? ⟨W5.heap.size, 12, none⟩ = some (.slice a6 L6.length c6)) := fun W' ho => by
          obtain ⟨e0, e1, e2, e3, e4, e5, e6, e7, e8⟩ := HRT.out.1.cells ho
          obtain ⟨f0, f1, f2, f3, f4, f5, f6, f7, f8, f9, f10, f11, f12⟩ := scells (ho.at HB6.out (fun e => by have := HLT.out; have : W5.heap.size = w.heap.size + 1 + 1 := e; omega))
          exact ⟨e0, e1, e2, e3, e4, e5, e6, e7, e8, f0, f1, f2, f3, f4, f5, f6, f7, f8, f9, f10, f11, f12⟩
        have HEND : Hid (∀ V, Below w.heap.size w V → V.rangeAt wr.heap.size 0 (sgcells ⟨2, s.src, s.ses, N, x.ser, 0, 0, 0, s.tot, 0, false, [], L6⟩ none 0 a6 c6) → Off (fun i => i = w.heap.size + 1 + 1) wr V → Hid (Below w.heap.size w V ∧ CameK V (serK p) a' c' g' d' ∧ Sent w.heap.size V (.slice (some ⟨wr.heap.size, 0, none⟩) 1 1) [repK p x.ser])) := fun V m1 m3 m4 => by
          have e1 : serK p = { p with ser := N } := by unfold serK; rw [HNX.out.1]
          have e2 : repK p x.ser = ⟨2, s.src, s.ses, N, x.ser, 0, 0, 0, s.tot, 0, false, [], L6⟩ := by unfold repK; rw [HNX.out.1, hL6, HPS.out.1, HPS.out.2.1, HPS.out.2.2]
          rw [e1, e2]
          refine ⟨m1, came_res HRT.out.2 HRT.out.1.res HPOS.out m4, rfl, _, _, a6, c6, rfl, HRT.out.1.bel.size, m3, rfl, hr6.off m4 (fun h0 b e t => by have := hn6 b e; have := HLT.out; have : b.block = w.heap.size + 1 + 1 := t; omega), fun b e => by have := hn6 b e; have := HLT.out; omega, hl6, hm6, by omega, by simp [maxLen]⟩
        have HCS : Hid ((kcells (serK p) a' c' g' d').toArray = #[.int .i64 p.src, .int .u32 (p.ses : Nat), .int .i64 p.tot, .slice a' p.byt.length c', .slice g' p.got.length d', .int .u32 (N : Nat), .int .i64 p.sta, .int .i64 p.lif, .int .i64 p.due]) := by show _ = _; unfold serK; rw [HNX.out.1]
        have hs9 : (Try.prog.info? 26).map (·.size) = some 9 := by kernel_rfl
        subst hv6
        obtain ⟨r0, r1, r2, r3, r4, r5, r6, r7, r8⟩ := HRT.out.1.there (Below.refl _ _)
        have rf := HRT.out.1.frozen (Below.refl _ _)
        have q0 := fun X => (HRT.out.1.there ((Below.refl _ _).alloc (Nat.le_refl _) X)).1
        have q1 := fun X => (HRT.out.1.there ((Below.refl _ _).alloc (Nat.le_refl _) X)).2.1
        have q2 := fun X => (HRT.out.1.there ((Below.refl _ _).alloc (Nat.le_refl _) X)).2.2.1
        have q3 := fun X => (HRT.out.1.there ((Below.refl _ _).alloc (Nat.le_refl _) X)).2.2.2.1
        have q4 := fun X => (HRT.out.1.there ((Below.refl _ _).alloc (Nat.le_refl _) X)).2.2.2.2.1
        have q5 := fun X => (HRT.out.1.there ((Below.refl _ _).alloc (Nat.le_refl _) X)).2.2.2.2.2.1
        have q6 := fun X => (HRT.out.1.there ((Below.refl _ _).alloc (Nat.le_refl _) X)).2.2.2.2.2.2.1
        have q7 := fun X => (HRT.out.1.there ((Below.refl _ _).alloc (Nat.le_refl _) X)).2.2.2.2.2.2.2.1
        have q8 := fun X => (HRT.out.1.there ((Below.refl _ _).alloc (Nat.le_refl _) X)).2.2.2.2.2.2.2.2
        have qf := fun X => HRT.out.1.frozen ((Below.refl _ _).alloc (Nat.le_refl _) X)
        clear hL6 hb6
        go_wp2_with fail
        go_region_held3 (fun W' => W'.cell? ⟨w1.heap.size, 0, none⟩ = some (.int .i64 p.src) ∧ W'.cell? ⟨w1.heap.size, 1, none⟩ = some (.int .u32 (p.ses : Nat)) ∧ W'.cell? ⟨w1.heap.size, 2, none⟩ = some (.int .i64 p.tot) ∧ W'.cell? ⟨w1.heap.size, 3, none⟩ = some (.slice a' p.byt.length c') ∧ W'.cell? ⟨w1.heap.size, 4, none⟩ = some (.slice g' p.got.length d') ∧ W'.cell? ⟨w1.heap.size, 5, none⟩ = some (.int .u32 (N : Nat)) ∧ W'.cell? ⟨w1.heap.size, 6, none⟩ = some (.int .i64 p.sta) ∧ W'.cell? ⟨w1.heap.size, 7, none⟩ = some (.int .i64 p.lif) ∧ W'.cell? ⟨w1.heap.size, 8, none⟩ = some (.int .i64 p.due) ∧ W'.cell? ⟨W5.heap.size, 0, none⟩ = some (.int .i64 2) ∧ W'.cell? ⟨W5.heap.size, 1, none⟩ = some (.int .i64 s.src) ∧ W'.cell? ⟨W5.heap.size, 2, none⟩ = some (.int .u32 (s.ses : Nat)) ∧ W'.cell? ⟨W5.heap.size, 3, none⟩ = some (.int .u32 (N : Nat)) ∧ W'.cell? ⟨W5.heap.size, 4, none⟩ = some (.int .u32 (x.ser : Nat)) ∧ W'.cell? ⟨W5.heap.size, 5, none⟩ = some (.int .i64 0) ∧ W'.cell? ⟨W5.heap.size, 6, none⟩ = some (.int .i64 0) ∧ W'.cell? ⟨W5.heap.size, 7, none⟩ = some (.int .i64 0) ∧ W'.cell? ⟨W5.heap.size, 8, none⟩ = some (.int .i64 s.tot) ∧ W'.cell? ⟨W5.heap.size, 9, none⟩ = some (.int .i64 0) ∧ W'.cell? ⟨W5.heap.size, 10, none⟩ = some (.bool false) ∧ W'.cell? ⟨W5.heap.size, 11, none⟩ = some (.slice none 0 0) ∧ W'.cell? ⟨W5.heap.size, 12, none⟩ = some (.slice a6 L6.length c6)) ((refine HS.out _ ?_; repeat (with_reducible first | exact Off.refl _ _ | refine Off.drew ?_ | refine Off.alloc ?_ _ | refine off_set ?_ _ _))) (fail)
        · clear HS q0 q1 q2 q3 q4 q5 q6 q7 q8 qf r0 r1 r2 r3 r4 r5 r6 r7 r8 rf
          have HM : Hid _ := HRT.out.1.fin1 ⟨2, s.src, s.ses, N, x.ser, 0, 0, 0, s.tot, 0, false, [], L6⟩ a6 c6 [.int .i64 p.src, .int .u32 (p.ses : Nat), .int .i64 p.tot, .slice a' p.byt.length c', .slice g' p.got.length d', .int .u32 (N : Nat), .int .i64 p.sta, .int .i64 p.lif, .int .i64 p.due] rfl
          have HN : Hid _ := HEND.out _ HM.out.1 HM.out.2.2.1 HM.out.2.2.2
          clear HEND
          go_wp2
          refine bodyPost_ret (results_cell2 rfl _ _ (w.heap.size + 1 + 1) 0 (by rfl) [.int .i64 p.src, .int .u32 (p.ses : Nat), .int .i64 p.tot, .slice a' p.byt.length c', .slice g' p.got.length d', .int .u32 (N : Nat), .int .i64 p.sta, .int .i64 p.lif, .int .i64 p.due] _ HM.out.2.1 Try.underlying26 rfl hs9) rfl ⟨a', c', g', d', .slice (some ⟨wr.heap.size, 0, none⟩) 1 1, ?_, HN.out⟩
          rw [HCS.out]
          rfl
        · clear HS q0 q1 q2 q3 q4 q5 q6 q7 q8 qf r0 r1 r2 r3 r4 r5 r6 r7 r8 rf
          have HM : Hid _ := HRT.out.1.fin2 ⟨2, s.src, s.ses, N, x.ser, 0, 0, 0, s.tot, 0, false, [], L6⟩ a6 c6 [.int .i64 p.src, .int .u32 (p.ses : Nat), .int .i64 p.tot, .slice a' p.byt.length c', .slice g' p.got.length d', .int .u32 (N : Nat), .int .i64 p.sta, .int .i64 p.lif, .int .i64 p.due] rfl
          have HN : Hid _ := HEND.out _ HM.out.1 HM.out.2.2.1 HM.out.2.2.2
          clear HEND
          go_wp2
          refine bodyPost_ret (results_cell2 rfl _ _ (w.heap.size + 1 + 1) 0 (by rfl) [.int .i64 p.src, .int .u32 (p.ses : Nat), .int .i64 p.tot, .slice a' p.byt.length c', .slice g' p.got.length d', .int .u32 (N : Nat), .int .i64 p.sta, .int .i64 p.lif, .int .i64 p.due] _ HM.out.2.1 Try.underlying26 rfl hs9) rfl ⟨a', c', g', d', .slice (some ⟨wr.heap.size, 0, none⟩) 1 1, ?_, HN.out⟩
          rw [HCS.out]
          rfl
    · have HT20 : Hid (p.got.take k = p.got.take 20) := by
        show _ = _
        rw [List.take_of_length_le (by omega), List.take_of_length_le (by omega)]
      have HRT : Hid (Rt w wr w1.heap.size { p with ser := N } a' c' g' d' ∧ CameK wr { p with ser := N } a' c' g' d') := ⟨HR5.out.out.1.later HQ.out.bel, HR5.out.out.2.1.later HQ.out.bel⟩
      obtain ⟨a6, c6, hv6, hb6, hr6, hl6, hm6, hn6⟩ := HQ.out.fin rfl
      rw [HT20.out] at hv6 hb6 hr6 hl6
      obtain ⟨L6, hL6⟩ : ∃ L6, p.got.take 20 = L6 := ⟨_, rfl⟩
      rw [hL6] at hv6 hb6 hr6 hl6
      have HB6 : Hid (wr.heap[W5.heap.size]? = some (sc ⟨2, s.src, s.ses, N, x.ser, 0, 0, 0, s.tot, 0, false, [], L6⟩ none 0 a6 c6)) := hb6
      have HLT : Hid (w.heap.size + 3 ≤ W5.heap.size) := Nat.le_trans HR5.out.out.2.2.2 (by have := (Array.getElem?_eq_some_iff.1 HR5.out.out.1.box).1; omega)
      have HS : Hid (∀ W', Off (fun i => i = w.heap.size + 1 + 1) wr W' → W'.cell? ⟨w1.heap.size, 0, none⟩ = some (.int .i64 p.src) ∧ W'.cell? ⟨w1.heap.size, 1, none⟩ = some (.int .u32 (p.ses : Nat)) ∧ W'.cell? ⟨w1.heap.size, 2, none⟩ = some (.int .i64 p.tot) ∧ W'.cell? ⟨w1.heap.size, 3, none⟩ = some (.slice a' p.byt.length c') ∧ W'.cell? ⟨w1.heap.size, 4, none⟩ = some (.slice g' p.got.length d') ∧ W'.cell? ⟨w1.heap.size, 5, none⟩ = some (.int .u32 (N : Nat)) ∧ W'.cell? ⟨w1.heap.size, 6, none⟩ = some (.int .i64 p.sta) ∧ W'.cell? ⟨w1.heap.size, 7, none⟩ = some (.int .i64 p.lif) ∧ W'.cell? ⟨w1.heap.size, 8, none⟩ = some (.int .i64 p.due) ∧ W'.cell? ⟨W5.heap.size, 0, none⟩ = some (.int .i64 2) ∧ W'.cell? ⟨W5.heap.size, 1, none⟩ = some (.int .i64 s.src) ∧ W'.cell? ⟨W5.heap.size, 2, none⟩ = some (.int .u32 (s.ses : Nat)) ∧ W'.cell? ⟨W5.heap.size, 3, none⟩ = some (.int .u32 (N : Nat)) ∧ W'.cell? ⟨W5.heap.size, 4, none⟩ = some (.int .u32 (x.ser : Nat)) ∧ W'.cell? ⟨W5.heap.size, 5, none⟩ = some (.int .i64 0) ∧ W'.cell? ⟨W5.heap.size, 6, none⟩ = some (.int .i64 0) ∧ W'.cell? ⟨W5.heap.size, 7, none⟩ = some (.int .i64 0) ∧ W'.cell? ⟨W5.heap.size, 8, none⟩ = some (.int .i64 s.tot) ∧ W'.cell? ⟨W5.heap.size, 9, none⟩ = some (.int .i64 0) ∧ W'.cell? ⟨W5.heap.size, 10, none⟩ = some (.bool false) ∧ W'.cell? ⟨W5.heap.size, 11, none⟩ = some (.slice none 0 0) ∧ W'.cell? ⟨W5.heap.size, 12, none⟩ = some (.slice a6 L6.length c6)) := fun W' ho => by
        obtain ⟨e0, e1, e2, e3, e4, e5, e6, e7, e8⟩ := HRT.out.1.cells ho
        obtain ⟨f0, f1, f2, f3, f4, f5, f6, f7, f8, f9, f10, f11, f12⟩ := scells (ho.at HB6.out (fun e => by have := HLT.out; have : W5.heap.size = w.heap.size + 1 + 1 := e; omega))
        exact ⟨e0, e1, e2, e3, e4, e5, e6, e7, e8, f0, f1, f2, f3, f4, f5, f6, f7, f8, f9, f10, f11, f12⟩
      have HEND : Hid (∀ V, Below w.heap.size w V → V.rangeAt wr.heap.size 0 (sgcells ⟨2, s.src, s.ses, N, x.ser, 0, 0, 0, s.tot, 0, false, [], L6⟩ none 0 a6 c6) → Off (fun i => i = w.heap.size + 1 + 1) wr V → Hid (Below w.heap.size w V ∧ CameK V (serK p) a' c' g' d' ∧ Sent w.heap.size V (.slice (some ⟨wr.heap.size, 0, none⟩) 1 1) [repK p x.ser])) := fun V m1 m3 m4 => by
        have e1 : serK p = { p with ser := N } := by unfold serK; rw [HNX.out.1]
        have e2 : repK p x.ser = ⟨2, s.src, s.ses, N, x.ser, 0, 0, 0, s.tot, 0, false, [], L6⟩ := by unfold repK; rw [HNX.out.1, hL6, HPS.out.1, HPS.out.2.1, HPS.out.2.2]
        rw [e1, e2]
        refine ⟨m1, came_res HRT.out.2 HRT.out.1.res HPOS.out m4, rfl, _, _, a6, c6, rfl, HRT.out.1.bel.size, m3, rfl, hr6.off m4 (fun h0 b e t => by have := hn6 b e; have := HLT.out; have : b.block = w.heap.size + 1 + 1 := t; omega), fun b e => by have := hn6 b e; have := HLT.out; omega, hl6, hm6, by omega, by simp [maxLen]⟩
      have HCS : Hid ((kcells (serK p) a' c' g' d').toArray = #[.int .i64 p.src, .int .u32 (p.ses : Nat), .int .i64 p.tot, .slice a' p.byt.length c', .slice g' p.got.length d', .int .u32 (N : Nat), .int .i64 p.sta, .int .i64 p.lif, .int .i64 p.due]) := by show _ = _; unfold serK; rw [HNX.out.1]
      have hs9 : (Try.prog.info? 26).map (·.size) = some 9 := by kernel_rfl
      subst hv6
      obtain ⟨r0, r1, r2, r3, r4, r5, r6, r7, r8⟩ := HRT.out.1.there (Below.refl _ _)
      have rf := HRT.out.1.frozen (Below.refl _ _)
      have q0 := fun X => (HRT.out.1.there ((Below.refl _ _).alloc (Nat.le_refl _) X)).1
      have q1 := fun X => (HRT.out.1.there ((Below.refl _ _).alloc (Nat.le_refl _) X)).2.1
      have q2 := fun X => (HRT.out.1.there ((Below.refl _ _).alloc (Nat.le_refl _) X)).2.2.1
      have q3 := fun X => (HRT.out.1.there ((Below.refl _ _).alloc (Nat.le_refl _) X)).2.2.2.1
      have q4 := fun X => (HRT.out.1.there ((Below.refl _ _).alloc (Nat.le_refl _) X)).2.2.2.2.1
      have q5 := fun X => (HRT.out.1.there ((Below.refl _ _).alloc (Nat.le_refl _) X)).2.2.2.2.2.1
      have q6 := fun X => (HRT.out.1.there ((Below.refl _ _).alloc (Nat.le_refl _) X)).2.2.2.2.2.2.1
      have q7 := fun X => (HRT.out.1.there ((Below.refl _ _).alloc (Nat.le_refl _) X)).2.2.2.2.2.2.2.1
      have q8 := fun X => (HRT.out.1.there ((Below.refl _ _).alloc (Nat.le_refl _) X)).2.2.2.2.2.2.2.2
      have qf := fun X => HRT.out.1.frozen ((Below.refl _ _).alloc (Nat.le_refl _) X)
      clear hL6 hb6
      go_wp2_with fail
      go_region_held3 (fun W' => W'.cell? ⟨w1.heap.size, 0, none⟩ = some (.int .i64 p.src) ∧ W'.cell? ⟨w1.heap.size, 1, none⟩ = some (.int .u32 (p.ses : Nat)) ∧ W'.cell? ⟨w1.heap.size, 2, none⟩ = some (.int .i64 p.tot) ∧ W'.cell? ⟨w1.heap.size, 3, none⟩ = some (.slice a' p.byt.length c') ∧ W'.cell? ⟨w1.heap.size, 4, none⟩ = some (.slice g' p.got.length d') ∧ W'.cell? ⟨w1.heap.size, 5, none⟩ = some (.int .u32 (N : Nat)) ∧ W'.cell? ⟨w1.heap.size, 6, none⟩ = some (.int .i64 p.sta) ∧ W'.cell? ⟨w1.heap.size, 7, none⟩ = some (.int .i64 p.lif) ∧ W'.cell? ⟨w1.heap.size, 8, none⟩ = some (.int .i64 p.due) ∧ W'.cell? ⟨W5.heap.size, 0, none⟩ = some (.int .i64 2) ∧ W'.cell? ⟨W5.heap.size, 1, none⟩ = some (.int .i64 s.src) ∧ W'.cell? ⟨W5.heap.size, 2, none⟩ = some (.int .u32 (s.ses : Nat)) ∧ W'.cell? ⟨W5.heap.size, 3, none⟩ = some (.int .u32 (N : Nat)) ∧ W'.cell? ⟨W5.heap.size, 4, none⟩ = some (.int .u32 (x.ser : Nat)) ∧ W'.cell? ⟨W5.heap.size, 5, none⟩ = some (.int .i64 0) ∧ W'.cell? ⟨W5.heap.size, 6, none⟩ = some (.int .i64 0) ∧ W'.cell? ⟨W5.heap.size, 7, none⟩ = some (.int .i64 0) ∧ W'.cell? ⟨W5.heap.size, 8, none⟩ = some (.int .i64 s.tot) ∧ W'.cell? ⟨W5.heap.size, 9, none⟩ = some (.int .i64 0) ∧ W'.cell? ⟨W5.heap.size, 10, none⟩ = some (.bool false) ∧ W'.cell? ⟨W5.heap.size, 11, none⟩ = some (.slice none 0 0) ∧ W'.cell? ⟨W5.heap.size, 12, none⟩ = some (.slice a6 L6.length c6)) ((refine HS.out _ ?_; repeat (with_reducible first | exact Off.refl _ _ | refine Off.drew ?_ | refine Off.alloc ?_ _ | refine off_set ?_ _ _))) (fail)
      · clear HS q0 q1 q2 q3 q4 q5 q6 q7 q8 qf r0 r1 r2 r3 r4 r5 r6 r7 r8 rf
        have HM : Hid _ := HRT.out.1.fin1 ⟨2, s.src, s.ses, N, x.ser, 0, 0, 0, s.tot, 0, false, [], L6⟩ a6 c6 [.int .i64 p.src, .int .u32 (p.ses : Nat), .int .i64 p.tot, .slice a' p.byt.length c', .slice g' p.got.length d', .int .u32 (N : Nat), .int .i64 p.sta, .int .i64 p.lif, .int .i64 p.due] rfl
        have HN : Hid _ := HEND.out _ HM.out.1 HM.out.2.2.1 HM.out.2.2.2
        clear HEND
        go_wp2
        refine bodyPost_ret (results_cell2 rfl _ _ (w.heap.size + 1 + 1) 0 (by rfl) [.int .i64 p.src, .int .u32 (p.ses : Nat), .int .i64 p.tot, .slice a' p.byt.length c', .slice g' p.got.length d', .int .u32 (N : Nat), .int .i64 p.sta, .int .i64 p.lif, .int .i64 p.due] _ HM.out.2.1 Try.underlying26 rfl hs9) rfl ⟨a', c', g', d', .slice (some ⟨wr.heap.size, 0, none⟩) 1 1, ?_, HN.out⟩
        rw [HCS.out]
        rfl
      · clear HS q0 q1 q2 q3 q4 q5 q6 q7 q8 qf r0 r1 r2 r3 r4 r5 r6 r7 r8 rf
        have HM : Hid _ := HRT.out.1.fin2 ⟨2, s.src, s.ses, N, x.ser, 0, 0, 0, s.tot, 0, false, [], L6⟩ a6 c6 [.int .i64 p.src, .int .u32 (p.ses : Nat), .int .i64 p.tot, .slice a' p.byt.length c', .slice g' p.got.length d', .int .u32 (N : Nat), .int .i64 p.sta, .int .i64 p.lif, .int .i64 p.due] rfl
        have HN : Hid _ := HEND.out _ HM.out.1 HM.out.2.2.1 HM.out.2.2.2
        clear HEND
        go_wp2
        refine bodyPost_ret (results_cell2 rfl _ _ (w.heap.size + 1 + 1) 0 (by rfl) [.int .i64 p.src, .int .u32 (p.ses : Nat), .int .i64 p.tot, .slice a' p.byt.length c', .slice g' p.got.length d', .int .u32 (N : Nat), .int .i64 p.sta, .int .i64 p.lif, .int .i64 p.due] _ HM.out.2.1 Try.underlying26 rfl hs9) rfl ⟨a', c', g', d', .slice (some ⟨wr.heap.size, 0, none⟩) 1 1, ?_, HN.out⟩
        rw [HCS.out]
        rfl
end Go.Proofs.Ytlhgjhbbiohcnaa
/- The reference's Take, of data that goes with what has come in and asks for a report: one case. -/
namespace Go.Proofs.Ytlhgjhbbiohcnaa
open Go.RowKit
set_option linter.unusedVariables false
set_option maxRecDepth 20000 in
set_option maxHeartbeats 4000000 in
theorem rtake_c01 (s : Tk) (a : Option Addr) (c : Nat) (g : Option Addr) (d : Nat) (x : Sg) (xa : Option Addr) (xc : Nat) (a2 : Option Addr) (c2 : Nat) (now : Int) (w : World) (hc : CameK w s a c g d) (hx : Came w x xa xc a2 c2) (hok : okK s = true) (hd : dataS x = true) (hn : inB now 0 1048576 = true) (k4 : (x.knd == 4) = false) (k1 : (x.knd != 1) = false) (h4 : (s.sta == 4) = false) (hp : (rpK { s with due := now + s.lif } x).2 = true) (hk : x.chk = true) (hw : wholeK (putG { s with due := now + s.lif } x) = false) (hs : s.ser = 4294967295) :
    Calls Try.prog 16 #[kv s a c g d, sv x xa xc a2 c2, .int .i64 now] w fun e w' => ∃ a' c' g' d' v, e = .returned (.tuple #[.agg (kcells (serK (putG { s with due := now + s.lif } x)) a' c' g' d').toArray, v]) ∧ Hid (Below w.heap.size w w' ∧ CameK w' (serK (putG { s with due := now + s.lif } x)) a' c' g' d' ∧ Sent w.heap.size w' v [repK (putG { s with due := now + s.lif } x) x.ser]) := by
  have hnow := inB_of hn
  have HS0 : Hid (s.ser = 4294967295) := hs
  clear hs
  have hl := (smallK hok).2.2.2.1
  have HC1 : Hid (CameK w { s with due := now + s.lif } a c g d) := ⟨hc.byt, hc.got, hc.lb, hc.lg, hc.zb, hc.zg, hc.gin, hc.src, hc.ses, hc.tot, hc.ser, hc.sta, hc.lif, by show in64 (now + s.lif); unfold in64; omega⟩
  have HOK : Hid (okK { s with due := now + s.lif } = true) := okK_due hok (by omega) (by omega)
  obtain ⟨p, hpe⟩ : ∃ p, putG { s with due := now + s.lif } x = p := ⟨_, rfl⟩
  have HPE : Hid (putG { s with due := now + s.lif } x = p) := hpe
  have hrp : rpK { s with due := now + s.lif } x = (p, true) := by
    unfold rpK rputK at hp ⊢
    split at hp
    · split at hp
      · cases hp
      · rename_i h1 h2
        rw [if_pos h1, if_neg h2, hpe]
    · cases hp
  have HPU : Hid (∀ W, Below w.heap.size w W → Calls Try.prog 38 #[kv { s with due := now + s.lif } a c g d, sv x xa xc a2 c2] W fun e w' => ∃ a' c' g' d', e = .returned (.tuple #[.agg (kcells p a' c' g' d').toArray, .bool true]) ∧ Hid (Below W.heap.size W w' ∧ CameK w' p a' c' g' d')) := fun W hb => by
    have := rputA_any { s with due := now + s.lif } a c g d x xa xc a2 c2 W (HC1.out.later hb) (hx.later hb) HOK.out hd
    rw [hrp] at this
    exact this
  have HPOS : Hid (∀ c ∈ p.got, 1 ≤ c.2) := by
    show ∀ c ∈ p.got, 1 ≤ c.2
    rw [← hpe]
    have ht : x.tot = s.tot := by
      unfold rpK at hp
      split at hp
      · assumption
      · cases hp
    exact cls_pos (put_rows HOK.out hd ht).2.2
  have HSER : Hid (p.ser = s.ser) := by
    show _ = _
    rw [← hpe]
    rfl
  have HPS : Hid (p.src = s.src ∧ p.ses = s.ses ∧ p.tot = s.tot) := by
    show _ ∧ _
    rw [← hpe]
    exact ⟨rfl, rfl, rfl⟩
  clear hpe hrp
  have HEN : Hid (En w (((w.alloc (.cells #[.int .i64 s.src, .int .u32 (s.ses : Nat), .int .i64 s.tot, .slice a s.byt.length c, .slice g s.got.length d, .int .u32 (s.ser : Nat), .int .i64 s.sta, .int .i64 s.lif, .int .i64 (now + s.lif)] 26)).alloc (.cells #[.int .i64 x.knd, .int .i64 x.src, .int .u32 (x.ses : Nat), .int .u32 (x.ser : Nat), .int .u32 (x.cks : Nat), .int .i64 x.off, .int .i64 x.tot, .int .i64 x.low, .int .i64 x.upp, .int .i64 x.rea, .bool x.chk, .slice xa x.dat.length xc, .slice a2 x.cls.length c2] 28)).alloc (.cells #[.int .i64 0, .int .u32 0, .int .i64 0, .slice none 0 0, .slice none 0 0, .int .u32 0, .int .i64 0, .int .i64 0, .int .i64 0] 26)) { s with due := now + s.lif } a c g d x xa xc a2 c2) := En.start w { s with due := now + s.lif } _ _ _ _ _ _ _ _ _
  have HK : Hid (x.chk = true) := hk
  clear hc hx hok hd hn hp hk HOK HC1
  rw [HPE.out] at hw ⊢
  go_enter Try.func16, Try.ntmps16
  go_wp2_with fail
  go_at_call 38
  refine (HPU.out _ HEN.out.bel).mono ?_
  rintro e w1 ⟨a', c', g', d', rfl, hq⟩
  have HEN0 := HEN
  have HWH : Hid (∀ W, Below w1.heap.size w1 W → Calls Try.prog 34 #[kv p a' c' g' d'] W fun e w' => e = .returned (.bool (wholeK p)) ∧ Hid (Below W.heap.size W w')) := fun W hb => rwhole_any p a' c' g' d' W (hq.out.2.got.later hb)
  rw [hw] at HWH
  clear HPU HEN hw
  go_wp2_with fail
  go_at_call 34
  refine (HWH.out _ ((Below.refl _ _).alloc (Nat.le_refl _) _)).mono ?_
  rintro e w3 ⟨rfl, hb3⟩
  have HR0 : Hid (Hid _) := rt_t HEN0.out hq.out.1 hq.out.2 hb3.out
  obtain ⟨k0, k1, k2, k3, k4, k5, k6, k7, k8⟩ := kcells_get HR0.out.out.1.box
  have y10 : w3.cell? ⟨w.heap.size + 1, 10, none⟩ = some (.bool true) := by rw [(scells HR0.out.out.2.2.1.two).2.2.2.2.2.2.2.2.2.2.1, HK.out]
  have kf := frozen_of HR0.out.out.1.box 5
  have hs : p.ser = 4294967295 := by have := HSER.out; have := HS0.out; omega
  have hsb : ((p.ser : Int) == 4294967295) = true := by simp; omega
  obtain ⟨N, hN⟩ : ∃ N : Nat, nextN p.ser = N := ⟨_, rfl⟩
  have hN2 : N = 1 ∧ N < 4294967296 := by unfold nextN at hN; rw [if_pos hs] at hN; omega
  have hN1 : (N : Int) = 1 := by omega
  have HNX : Hid (nextN p.ser = N ∧ N < 4294967296) := ⟨hN, hN2.2⟩
  clear hN hN2 hs
  have HR5 : Hid (Hid _) := rt_ser (fun b e h0 => hq.out.2.byt.lt h0 b e) (fun b e h0 => rowC_lt hq.out.2.got h0 b e) HR0.out.out.1 HR0.out.out.2.1 HR0.out.out.2.2.1 HR0.out.out.2.2.2 N HNX.out.2
  rw [hN1] at HR5
  obtain ⟨y0, y1, y2, _⟩ := kcells_get HR5.out.out.2.2.1.one
  have y3 := (scells HR5.out.out.2.2.1.two).2.2.2.1
  have t5 := (kcells_get HR5.out.out.1.box).2.2.2.2.2.1
  have t4 := (kcells_get HR5.out.out.1.box).2.2.2.2.1
  obtain ⟨W5, hW5⟩ : ∃ W5, w3.setCell ⟨w1.heap.size, 5, none⟩ (.int .u32 1) = W5 := ⟨_, rfl⟩
  rw [hW5] at HR5 y0 y1 y2 y3 t5 t4
  clear HWH HEN0 hN1
  go_wp2_with fail
  have HI0 : Hid (RpI W5 (W5.alloc (sc ⟨2, s.src, s.ses, N, x.ser, 0, 0, 0, s.tot, 0, false, [], []⟩ none 0 none 0)) ⟨2, s.src, s.ses, N, x.ser, 0, 0, 0, s.tot, 0, false, [], []⟩ [] (.slice none 0 0)) := RpI.start W5 _ rfl rfl
  clear hW5 kf k0 k1 k2 k3 k4 k5 k6 k7 k8 y0 y1 y2 y3 y10 t5
  have HGL : Hid (p.got.length ≤ 140737488351232) := hq.out.2.zg
  go_loopw [11] (fun i wr => ∃ k : Nat, k ≤ p.got.length ∧ (k : Int) ≤ 20 ∧ i = .int .i64 k ∧ Hid (∃ v, RpI W5 wr ⟨2, s.src, s.ses, N, x.ser, 0, 0, 0, s.tot, 0, false, [], []⟩ (p.got.take k) v)) (fun i _ => p.got.length - (intOf i).toNat)
  case atStart => exact ⟨0, by omega, by omega, rfl, ⟨_, HI0.out⟩⟩
  case round =>
    obtain ⟨k, hk, hk20, rfl, HQ0⟩ := hrel
    obtain ⟨v, hv⟩ := HQ0.out
    have HQ : Hid (RpI W5 wr ⟨2, s.src, s.ses, N, x.ser, 0, 0, 0, s.tot, 0, false, [], []⟩ (p.got.take k) v) := hv
    clear hv HQ0
    have u4 : wr.cell? ⟨w1.heap.size, 4, none⟩ = some (.slice g' p.got.length d') := cell_later HQ.out.bel t4
    by_cases hlt : k < p.got.length
    · by_cases h20 : (k : Int) < 20
      · have u4b : ∀ X, (wr.alloc X).cell? ⟨w1.heap.size, 4, none⟩ = some (.slice g' p.got.length d') := fun X => cell_later (below_of HQ.out.bel ((Below.refl _ _).alloc (Nat.le_refl _) X)) t4
        obtain ⟨rc0, rf0⟩ := HQ.out.get wr (Below.refl _ _)
        have rc1 := fun X => (HQ.out.get (wr.alloc X) ((Below.refl _ _).alloc (Nat.le_refl _) X)).1
        obtain ⟨b1, o1, hb1, hc1⟩ := (HR5.out.out.2.1.got.later HQ.out.bel).2 (by show 0 < p.got.length; omega)
        subst hb1
        obtain ⟨p1, p2⟩ := hc1 k hlt
        have HNX2 : Hid (p.got.take (k + 1) = p.got.take k ++ [p.got[k]]) := (List.take_succ_eq_append_getElem hlt)
        have hi1 : (k : Int) < (p.got.length : Int) := by omega
        have HGT : Hid (p.got[k] = (p.got[k].1, p.got[k].2)) := rfl
        rw [HGT.out] at HNX2
        clear hc1 HGT
        change wr.cell? _ = some (.int .i64 p.got[k].1) at p1
        change wr.cell? _ = some (.int .i64 p.got[k].2) at p2
        generalize p.got[k].1 = x1 at p1 HNX2
        generalize p.got[k].2 = x2 at p2 HNX2
        have HOW : Hid (∀ wx, Below wr.heap.size wr wx → wx.ownsRow (W5.heap.size + 1) 60 2 v (p.got.take k).length (ccells (p.got.take k))) := fun wx hb => (Off.of_below (S := fun _ => False) hb).owns HQ.out.own (fun _ _ t => t)
        have HLE : Hid ((p.got.take k).length ≤ 100000 ∧ W5.heap.size < wr.heap.size ∧ (p.got.take k).length = k) := ⟨by rw [List.length_take]; omega, HQ.out.lt, by rw [List.length_take]; omega⟩
        go_wp2_with fail
        go_region_law (refine step_append_one rfl _ _ rfl (W5.heap.size + 1) v (p.got.take k) rfl (HOW.out _ (by first | exact ((Below.refl _ _).drew.alloc (by simp) _) | exact ((Below.refl _ _).alloc (by simp) _).drew)) wr.heap.size x1 x2 rfl (by first | exact heap_alloc_new wr _ | exact old_block (Below.refl _ _).drew (heap_alloc_new wr _)) HLE.out.1 (by have := HLE.out.2.1; simp; omega) ?_; intro gn cn wn hon hfn; obtain ⟨m1, m2, m3⟩ := HQ.out.ext (M := p.got.take k ++ [(x1, x2)]) (by first | exact ((Below.refl _ _).drew.alloc (by simp) _) | exact ((Below.refl _ _).alloc (by simp) _).drew) hfn hon; rw [HLE.out.2.2] at m3; have HM3 : Hid _ := m3; clear m3 hon hfn)
        all_goals
          go_wp2
          go_roundw
          case rel => repeat (first | exact ⟨k + 1, by omega, by omega, by go_num, ⟨_, by rw [HNX2.out]; exact HM3.out⟩⟩ | refine ⟨_, ?_⟩)
          case measure => simp [intOf]; omega
      · have h20b : k = 20 := by omega
        have HT20 : Hid (p.got.take k = p.got.take 20) := by rw [h20b]; rfl
        clear h20b
        have HRT : Hid (Rt w wr w1.heap.size { p with ser := N } a' c' g' d' ∧ CameK wr { p with ser := N } a' c' g' d') := ⟨HR5.out.out.1.later HQ.out.bel, HR5.out.out.2.1.later HQ.out.bel⟩
        obtain ⟨a6, c6, hv6, hb6, hr6, hl6, hm6, hn6⟩ := HQ.out.fin rfl
        rw [HT20.out] at hv6 hb6 hr6 hl6
        obtain ⟨L6, hL6⟩ : ∃ L6, p.got.take 20 = L6 := ⟨_, rfl⟩
        rw [hL6] at hv6 hb6 hr6 hl6
        have HB6 : Hid (wr.heap[W5.heap.size]? = some (sc ⟨2, s.src, s.ses, N, x.ser, 0, 0, 0, s.tot, 0, false, [], L6⟩ none 0 a6 c6)) := hb6
        have HLT : Hid (w.heap.size + 3 ≤ W5.heap.size) := Nat.le_trans HR5.out.out.2.2.2 (by have := (Array.getElem?_eq_some_iff.1 HR5.out.out.1.box).1; omega)
        have HS : Hid (∀ W', Off (fun i => i = w.heap.size + 1 + 1) wr W' → W'.cell? ⟨w1.heap.size, 0, none⟩ = some (.int .i64 p.src) ∧ W'.cell? ⟨w1.heap.size, 1, none⟩ = some (.int .u32 (p.ses : Nat)) ∧ W'.cell? ⟨w1.heap.size, 2, none⟩ = some (.int .i64 p.tot) ∧ W'.cell? ⟨w1.heap.size, 3, none⟩ = some (.slice a' p.byt.length c') ∧ W'.cell? ⟨w1.heap.size, 4, none⟩ = some (.slice g' p.got.length d') ∧ W'.cell? ⟨w1.heap.size, 5, none⟩ = some (.int .u32 (N : Nat)) ∧ W'.cell? ⟨w1.heap.size, 6, none⟩ = some (.int .i64 p.sta) ∧ W'.cell? ⟨w1.heap.size, 7, none⟩ = some (.int .i64 p.lif) ∧ W'.cell? ⟨w1.heap.size, 8, none⟩ = some (.int .i64 p.due) ∧ W'.cell? ⟨W5.heap.size, 0, none⟩ = some (.int .i64 2) ∧ W'.cell? ⟨W5.heap.size, 1, none⟩ = some (.int .i64 s.src) ∧ W'.cell? ⟨W5.heap.size, 2, none⟩ = some (.int .u32 (s.ses : Nat)) ∧ W'.cell? ⟨W5.heap.size, 3, none⟩ = some (.int .u32 (N : Nat)) ∧ W'.cell? ⟨W5.heap.size, 4, none⟩ = some (.int .u32 (x.ser : Nat)) ∧ W'.cell? ⟨W5.heap.size, 5, none⟩ = some (.int .i64 0) ∧ W'.cell? ⟨W5.heap.size, 6, none⟩ = some (.int .i64 0) ∧ W'.cell? ⟨W5.heap.size, 7, none⟩ = some (.int .i64 0) ∧ W'.cell? ⟨W5.heap.size, 8, none⟩ = some (.int .i64 s.tot) ∧ W'.cell? ⟨W5.heap.size, 9, none⟩ = some (.int .i64 0) ∧ W'.cell? ⟨W5.heap.size, 10, none⟩ = some (.bool false) ∧ W'.cell? ⟨W5.heap.size, 11, none⟩ = some (.slice none 0 0) ∧ W'.cell? ⟨W5.heap.size, 12, none⟩ = some (.slice a6 L6.length c6)) := fun W' ho => by
          obtain ⟨e0, e1, e2, e3, e4, e5, e6, e7, e8⟩ := HRT.out.1.cells ho
          obtain ⟨f0, f1, f2, f3, f4, f5, f6, f7, f8, f9, f10, f11, f12⟩ := scells (ho.at HB6.out (fun e => by have := HLT.out; have : W5.heap.size = w.heap.size + 1 + 1 := e; omega))
          exact ⟨e0, e1, e2, e3, e4, e5, e6, e7, e8, f0, f1, f2, f3, f4, f5, f6, f7, f8, f9, f10, f11, f12⟩
        have HEND : Hid (∀ V, Below w.heap.size w V → V.rangeAt wr.heap.size 0 (sgcells ⟨2, s.src, s.ses, N, x.ser, 0, 0, 0, s.tot, 0, false, [], L6⟩ none 0 a6 c6) → Off (fun i => i = w.heap.size + 1 + 1) wr V → Hid (Below w.heap.size w V ∧ CameK V (serK p) a' c' g' d' ∧ Sent w.heap.size V (.slice (some ⟨wr.heap.size, 0, none⟩) 1 1) [repK p x.ser])) := fun V m1 m3 m4 => by
          have e1 : serK p = { p with ser := N } := by unfold serK; rw [HNX.out.1]
          have e2 : repK p x.ser = ⟨2, s.src, s.ses, N, x.ser, 0, 0, 0, s.tot, 0, false, [], L6⟩ := by unfold repK; rw [HNX.out.1, hL6, HPS.out.1, HPS.out.2.1, HPS.out.2.2]
          rw [e1, e2]
          refine ⟨m1, came_res HRT.out.2 HRT.out.1.res HPOS.out m4, rfl, _, _, a6, c6, rfl, HRT.out.1.bel.size, m3, rfl, hr6.off m4 (fun h0 b e t => by have := hn6 b e; have := HLT.out; have : b.block = w.heap.size + 1 + 1 := t; omega), fun b e => by have := hn6 b e; have := HLT.out; omega, hl6, hm6, by omega, by simp [maxLen]⟩
        have HCS : Hid ((kcells (serK p) a' c' g' d').toArray = #[.int .i64 p.src, .int .u32 (p.ses : Nat), .int .i64 p.tot, .slice a' p.byt.length c', .slice g' p.got.length d', .int .u32 (N : Nat), .int .i64 p.sta, .int .i64 p.lif, .int .i64 p.due]) := by show _ = _; unfold serK; rw [HNX.out.1]
        have hs9 : (Try.prog.info? 26).map (·.size) = some 9 := by kernel_rfl
        subst hv6
        obtain ⟨r0, r1, r2, r3, r4, r5, r6, r7, r8⟩ := HRT.out.1.there (Below.refl _ _)
        have rf := HRT.out.1.frozen (Below.refl _ _)
        have q0 := fun X => (HRT.out.1.there ((Below.refl _ _).alloc (Nat.le_refl _) X)).1
        have q1 := fun X => (HRT.out.1.there ((Below.refl _ _).alloc (Nat.le_refl _) X)).2.1
        have q2 := fun X => (HRT.out.1.there ((Below.refl _ _).alloc (Nat.le_refl _) X)).2.2.1
        have q3 := fun X => (HRT.out.1.there ((Below.refl _ _).alloc (Nat.le_refl _) X)).2.2.2.1
        have q4 := fun X => (HRT.out.1.there ((Below.refl _ _).alloc (Nat.le_refl _) X)).2.2.2.2.1
        have q5 := fun X => (HRT.out.1.there ((Below.refl _ _).alloc (Nat.le_refl _) X)).2.2.2.2.2.1
        have q6 := fun X => (HRT.out.1.there ((Below.refl _ _).alloc (Nat.le_refl _) X)).2.2.2.2.2.2.1
        have q7 := fun X => (HRT.out.1.there ((Below.refl _ _).alloc (Nat.le_refl _) X)).2.2.2.2.2.2.2.1
        have q8 := fun X => (HRT.out.1.there ((Below.refl _ _).alloc (Nat.le_refl _) X)).2.2.2.2.2.2.2.2
        have qf := fun X => HRT.out.1.frozen ((Below.refl _ _).alloc (Nat.le_refl _) X)
        clear hL6 hb6
        go_wp2_with fail
        go_region_held3 (fun W' => W'.cell? ⟨w1.heap.size, 0, none⟩ = some (.int .i64 p.src) ∧ W'.cell? ⟨w1.heap.size, 1, none⟩ = some (.int .u32 (p.ses : Nat)) ∧ W'.cell? ⟨w1.heap.size, 2, none⟩ = some (.int .i64 p.tot) ∧ W'.cell? ⟨w1.heap.size, 3, none⟩ = some (.slice a' p.byt.length c') ∧ W'.cell? ⟨w1.heap.size, 4, none⟩ = some (.slice g' p.got.length d') ∧ W'.cell? ⟨w1.heap.size, 5, none⟩ = some (.int .u32 (N : Nat)) ∧ W'.cell? ⟨w1.heap.size, 6, none⟩ = some (.int .i64 p.sta) ∧ W'.cell? ⟨w1.heap.size, 7, none⟩ = some (.int .i64 p.lif) ∧ W'.cell? ⟨w1.heap.size, 8, none⟩ = some (.int .i64 p.due) ∧ W'.cell? ⟨W5.heap.size, 0, none⟩ = some (.int .i64 2) ∧ W'.cell? ⟨W5.heap.size, 1, none⟩ = some (.int .i64 s.src) ∧ W'.cell? ⟨W5.heap.size, 2, none⟩ = some (.int .u32 (s.ses : Nat)) ∧ W'.cell? ⟨W5.heap.size, 3, none⟩ = some (.int .u32 (N : Nat)) ∧ W'.cell? ⟨W5.heap.size, 4, none⟩ = some (.int .u32 (x.ser : Nat)) ∧ W'.cell? ⟨W5.heap.size, 5, none⟩ = some (.int .i64 0) ∧ W'.cell? ⟨W5.heap.size, 6, none⟩ = some (.int .i64 0) ∧ W'.cell? ⟨W5.heap.size, 7, none⟩ = some (.int .i64 0) ∧ W'.cell? ⟨W5.heap.size, 8, none⟩ = some (.int .i64 s.tot) ∧ W'.cell? ⟨W5.heap.size, 9, none⟩ = some (.int .i64 0) ∧ W'.cell? ⟨W5.heap.size, 10, none⟩ = some (.bool false) ∧ W'.cell? ⟨W5.heap.size, 11, none⟩ = some (.slice none 0 0) ∧ W'.cell? ⟨W5.heap.size, 12, none⟩ = some (.slice a6 L6.length c6)) ((refine HS.out _ ?_; repeat (with_reducible first | exact Off.refl _ _ | refine Off.drew ?_ | refine Off.alloc ?_ _ | refine off_set ?_ _ _))) (fail)
        · clear HS q0 q1 q2 q3 q4 q5 q6 q7 q8 qf r0 r1 r2 r3 r4 r5 r6 r7 r8 rf
          have HM : Hid _ := HRT.out.1.fin1 ⟨2, s.src, s.ses, N, x.ser, 0, 0, 0, s.tot, 0, false, [], L6⟩ a6 c6 [.int .i64 p.src, .int .u32 (p.ses : Nat), .int .i64 p.tot, .slice a' p.byt.length c', .slice g' p.got.length d', .int .u32 (N : Nat), .int .i64 p.sta, .int .i64 p.lif, .int .i64 p.due] rfl
          have HN : Hid _ := HEND.out _ HM.out.1 HM.out.2.2.1 HM.out.2.2.2
          clear HEND
          go_wp2
          refine bodyPost_ret (results_cell2 rfl _ _ (w.heap.size + 1 + 1) 0 (by rfl) [.int .i64 p.src, .int .u32 (p.ses : Nat), .int .i64 p.tot, .slice a' p.byt.length c', .slice g' p.got.length d', .int .u32 (N : Nat), .int .i64 p.sta, .int .i64 p.lif, .int .i64 p.due] _ HM.out.2.1 Try.underlying26 rfl hs9) rfl ⟨a', c', g', d', .slice (some ⟨wr.heap.size, 0, none⟩) 1 1, ?_, HN.out⟩
          rw [HCS.out]
          rfl
        · clear HS q0 q1 q2 q3 q4 q5 q6 q7 q8 qf r0 r1 r2 r3 r4 r5 r6 r7 r8 rf
          have HM : Hid _ := HRT.out.1.fin2 ⟨2, s.src, s.ses, N, x.ser, 0, 0, 0, s.tot, 0, false, [], L6⟩ a6 c6 [.int .i64 p.src, .int .u32 (p.ses : Nat), .int .i64 p.tot, .slice a' p.byt.length c', .slice g' p.got.length d', .int .u32 (N : Nat), .int .i64 p.sta, .int .i64 p.lif, .int .i64 p.due] rfl
          have HN : Hid _ := HEND.out _ HM.out.1 HM.out.2.2.1 HM.out.2.2.2
          clear HEND
          go_wp2
          refine bodyPost_ret (results_cell2 rfl _ _ (w.heap.size + 1 + 1) 0 (by rfl) [.int .i64 p.src, .int .u32 (p.ses : Nat), .int .i64 p.tot, .slice a' p.byt.length c', .slice g' p.got.length d', .int .u32 (N : Nat), .int .i64 p.sta, .int .i64 p.lif, .int .i64 p.due] _ HM.out.2.1 Try.underlying26 rfl hs9) rfl ⟨a', c', g', d', .slice (some ⟨wr.heap.size, 0, none⟩) 1 1, ?_, HN.out⟩
          rw [HCS.out]
          rfl
    · have HT20 : Hid (p.got.take k = p.got.take 20) := by
        show _ = _
        rw [List.take_of_length_le (by omega), List.take_of_length_le (by omega)]
      have HRT : Hid (Rt w wr w1.heap.size { p with ser := N } a' c' g' d' ∧ CameK wr { p with ser := N } a' c' g' d') := ⟨HR5.out.out.1.later HQ.out.bel, HR5.out.out.2.1.later HQ.out.bel⟩
      obtain ⟨a6, c6, hv6, hb6, hr6, hl6, hm6, hn6⟩ := HQ.out.fin rfl
      rw [HT20.out] at hv6 hb6 hr6 hl6
      obtain ⟨L6, hL6⟩ : ∃ L6, p.got.take 20 = L6 := ⟨_, rfl⟩
      rw [hL6] at hv6 hb6 hr6 hl6
      have HB6 : Hid (wr.heap[W5.heap.size]? = some (sc ⟨2, s.src, s.ses, N, x.ser, 0, 0, 0, s.tot, 0, false, [], L6⟩ none 0 a6 c6)) := hb6
      have HLT : Hid (w.heap.size + 3 ≤ W5.heap.size) := Nat.le_trans HR5.out.out.2.2.2 (by have := (Array.getElem?_eq_some_iff.1 HR5.out.out.1.box).1; omega)
      have HS : Hid (∀ W', Off (fun i => i = w.heap.size + 1 + 1) wr W' → W'.cell? ⟨w1.heap.size, 0, none⟩ = some (.int .i64 p.src) ∧ W'.cell? ⟨w1.heap.size, 1, none⟩ = some (.int .u32 (p.ses : Nat)) ∧ W'.cell? ⟨w1.heap.size, 2, none⟩ = some (.int .i64 p.tot) ∧ W'.cell? ⟨w1.heap.size, 3, none⟩ = some (.slice a' p.byt.length c') ∧ W'.cell? ⟨w1.heap.size, 4, none⟩ = some (.slice g' p.got.length d') ∧ W'.cell? ⟨w1.heap.size, 5, none⟩ = some (.int .u32 (N : Nat)) ∧ W'.cell? ⟨w1.heap.size, 6, none⟩ = some (.int .i64 p.sta) ∧ W'.cell? ⟨w1.heap.size, 7, none⟩ = some (.int .i64 p.lif) ∧ W'.cell? ⟨w1.heap.size, 8, none⟩ = some (.int .i64 p.due) ∧ W'.cell? ⟨W5.heap.size, 0, none⟩ = some (.int .i64 2) ∧ W'.cell? ⟨W5.heap.size, 1, none⟩ = some (.int .i64 s.src) ∧ W'.cell? ⟨W5.heap.size, 2, none⟩ = some (.int .u32 (s.ses : Nat)) ∧ W'.cell? ⟨W5.heap.size, 3, none⟩ = some (.int .u32 (N : Nat)) ∧ W'.cell? ⟨W5.heap.size, 4, none⟩ = some (.int .u32 (x.ser : Nat)) ∧ W'.cell? ⟨W5.heap.size, 5, none⟩ = some (.int .i64 0) ∧ W'.cell? ⟨W5.heap.size, 6, none⟩ = some (.int .i64 0) ∧ W'.cell? ⟨W5.heap.size, 7, none⟩ = some (.int .i64 0) ∧ W'.cell? ⟨W5.heap.size, 8, none⟩ = some (.int .i64 s.tot) ∧ W'.cell? ⟨W5.heap.size, 9, none⟩ = some (.int .i64 0) ∧ W'.cell? ⟨W5.heap.size, 10, none⟩ = some (.bool false) ∧ W'.cell? ⟨W5.heap.size, 11, none⟩ = some (.slice none 0 0) ∧ W'.cell? ⟨W5.heap.size, 12, none⟩ = some (.slice a6 L6.length c6)) := fun W' ho => by
        obtain ⟨e0, e1, e2, e3, e4, e5, e6, e7, e8⟩ := HRT.out.1.cells ho
        obtain ⟨f0, f1, f2, f3, f4, f5, f6, f7, f8, f9, f10, f11, f12⟩ := scells (ho.at HB6.out (fun e => by have := HLT.out; have : W5.heap.size = w.heap.size + 1 + 1 := e; omega))
        exact ⟨e0, e1, e2, e3, e4, e5, e6, e7, e8, f0, f1, f2, f3, f4, f5, f6, f7, f8, f9, f10, f11, f12⟩
      have HEND : Hid (∀ V, Below w.heap.size w V → V.rangeAt wr.heap.size 0 (sgcells ⟨2, s.src, s.ses, N, x.ser, 0, 0, 0, s.tot, 0, false, [], L6⟩ none 0 a6 c6) → Off (fun i => i = w.heap.size + 1 + 1) wr V → Hid (Below w.heap.size w V ∧ CameK V (serK p) a' c' g' d' ∧ Sent w.heap.size V (.slice (some ⟨wr.heap.size, 0, none⟩) 1 1) [repK p x.ser])) := fun V m1 m3 m4 => by
        have e1 : serK p = { p with ser := N } := by unfold serK; rw [HNX.out.1]
        have e2 : repK p x.ser = ⟨2, s.src, s.ses, N, x.ser, 0, 0, 0, s.tot, 0, false, [], L6⟩ := by unfold repK; rw [HNX.out.1, hL6, HPS.out.1, HPS.out.2.1, HPS.out.2.2]
        rw [e1, e2]
        refine ⟨m1, came_res HRT.out.2 HRT.out.1.res HPOS.out m4, rfl, _, _, a6, c6, rfl, HRT.out.1.bel.size, m3, rfl, hr6.off m4 (fun h0 b e t => by have := hn6 b e; have := HLT.out; have : b.block = w.heap.size + 1 + 1 := t; omega), fun b e => by have := hn6 b e; have := HLT.out; omega, hl6, hm6, by omega, by simp [maxLen]⟩
      have HCS : Hid ((kcells (serK p) a' c' g' d').toArray = #[.int .i64 p.src, .int .u32 (p.ses : Nat), .int .i64 p.tot, .slice a' p.byt.length c', .slice g' p.got.length d', .int .u32 (N : Nat), .int .i64 p.sta, .int .i64 p.lif, .int .i64 p.due]) := by show _ = _; unfold serK; rw [HNX.out.1]
      have hs9 : (Try.prog.info? 26).map (·.size) = some 9 := by kernel_rfl
      subst hv6
      obtain ⟨r0, r1, r2, r3, r4, r5, r6, r7, r8⟩ := HRT.out.1.there (Below.refl _ _)
      have rf := HRT.out.1.frozen (Below.refl _ _)
      have q0 := fun X => (HRT.out.1.there ((Below.refl _ _).alloc (Nat.le_refl _) X)).1
      have q1 := fun X => (HRT.out.1.there ((Below.refl _ _).alloc (Nat.le_refl _) X)).2.1
      have q2 := fun X => (HRT.out.1.there ((Below.refl _ _).alloc (Nat.le_refl _) X)).2.2.1
      have q3 := fun X => (HRT.out.1.there ((Below.refl _ _).alloc (Nat.le_refl _) X)).2.2.2.1
      have q4 := fun X => (HRT.out.1.there ((Below.refl _ _).alloc (Nat.le_refl _) X)).2.2.2.2.1
      have q5 := fun X => (HRT.out.1.there ((Below.refl _ _).alloc (Nat.le_refl _) X)).2.2.2.2.2.1
      have q6 := fun X => (HRT.out.1.there ((Below.refl _ _).alloc (Nat.le_refl _) X)).2.2.2.2.2.2.1
      have q7 := fun X => (HRT.out.1.there ((Below.refl _ _).alloc (Nat.le_refl _) X)).2.2.2.2.2.2.2.1
      have q8 := fun X => (HRT.out.1.there ((Below.refl _ _).alloc (Nat.le_refl _) X)).2.2.2.2.2.2.2.2
      have qf := fun X => HRT.out.1.frozen ((Below.refl _ _).alloc (Nat.le_refl _) X)
      clear hL6 hb6
      go_wp2_with fail
      go_region_held3 (fun W' => W'.cell? ⟨w1.heap.size, 0, none⟩ = some (.int .i64 p.src) ∧ W'.cell? ⟨w1.heap.size, 1, none⟩ = some (.int .u32 (p.ses : Nat)) ∧ W'.cell? ⟨w1.heap.size, 2, none⟩ = some (.int .i64 p.tot) ∧ W'.cell? ⟨w1.heap.size, 3, none⟩ = some (.slice a' p.byt.length c') ∧ W'.cell? ⟨w1.heap.size, 4, none⟩ = some (.slice g' p.got.length d') ∧ W'.cell? ⟨w1.heap.size, 5, none⟩ = some (.int .u32 (N : Nat)) ∧ W'.cell? ⟨w1.heap.size, 6, none⟩ = some (.int .i64 p.sta) ∧ W'.cell? ⟨w1.heap.size, 7, none⟩ = some (.int .i64 p.lif) ∧ W'.cell? ⟨w1.heap.size, 8, none⟩ = some (.int .i64 p.due) ∧ W'.cell? ⟨W5.heap.size, 0, none⟩ = some (.int .i64 2) ∧ W'.cell? ⟨W5.heap.size, 1, none⟩ = some (.int .i64 s.src) ∧ W'.cell? ⟨W5.heap.size, 2, none⟩ = some (.int .u32 (s.ses : Nat)) ∧ W'.cell? ⟨W5.heap.size, 3, none⟩ = some (.int .u32 (N : Nat)) ∧ W'.cell? ⟨W5.heap.size, 4, none⟩ = some (.int .u32 (x.ser : Nat)) ∧ W'.cell? ⟨W5.heap.size, 5, none⟩ = some (.int .i64 0) ∧ W'.cell? ⟨W5.heap.size, 6, none⟩ = some (.int .i64 0) ∧ W'.cell? ⟨W5.heap.size, 7, none⟩ = some (.int .i64 0) ∧ W'.cell? ⟨W5.heap.size, 8, none⟩ = some (.int .i64 s.tot) ∧ W'.cell? ⟨W5.heap.size, 9, none⟩ = some (.int .i64 0) ∧ W'.cell? ⟨W5.heap.size, 10, none⟩ = some (.bool false) ∧ W'.cell? ⟨W5.heap.size, 11, none⟩ = some (.slice none 0 0) ∧ W'.cell? ⟨W5.heap.size, 12, none⟩ = some (.slice a6 L6.length c6)) ((refine HS.out _ ?_; repeat (with_reducible first | exact Off.refl _ _ | refine Off.drew ?_ | refine Off.alloc ?_ _ | refine off_set ?_ _ _))) (fail)
      · clear HS q0 q1 q2 q3 q4 q5 q6 q7 q8 qf r0 r1 r2 r3 r4 r5 r6 r7 r8 rf
        have HM : Hid _ := HRT.out.1.fin1 ⟨2, s.src, s.ses, N, x.ser, 0, 0, 0, s.tot, 0, false, [], L6⟩ a6 c6 [.int .i64 p.src, .int .u32 (p.ses : Nat), .int .i64 p.tot, .slice a' p.byt.length c', .slice g' p.got.length d', .int .u32 (N : Nat), .int .i64 p.sta, .int .i64 p.lif, .int .i64 p.due] rfl
        have HN : Hid _ := HEND.out _ HM.out.1 HM.out.2.2.1 HM.out.2.2.2
        clear HEND
        go_wp2
        refine bodyPost_ret (results_cell2 rfl _ _ (w.heap.size + 1 + 1) 0 (by rfl) [.int .i64 p.src, .int .u32 (p.ses : Nat), .int .i64 p.tot, .slice a' p.byt.length c', .slice g' p.got.length d', .int .u32 (N : Nat), .int .i64 p.sta, .int .i64 p.lif, .int .i64 p.due] _ HM.out.2.1 Try.underlying26 rfl hs9) rfl ⟨a', c', g', d', .slice (some ⟨wr.heap.size, 0, none⟩) 1 1, ?_, HN.out⟩
        rw [HCS.out]
        rfl
      · clear HS q0 q1 q2 q3 q4 q5 q6 q7 q8 qf r0 r1 r2 r3 r4 r5 r6 r7 r8 rf
        have HM : Hid _ := HRT.out.1.fin2 ⟨2, s.src, s.ses, N, x.ser, 0, 0, 0, s.tot, 0, false, [], L6⟩ a6 c6 [.int .i64 p.src, .int .u32 (p.ses : Nat), .int .i64 p.tot, .slice a' p.byt.length c', .slice g' p.got.length d', .int .u32 (N : Nat), .int .i64 p.sta, .int .i64 p.lif, .int .i64 p.due] rfl
        have HN : Hid _ := HEND.out _ HM.out.1 HM.out.2.2.1 HM.out.2.2.2
        clear HEND
        go_wp2
        refine bodyPost_ret (results_cell2 rfl _ _ (w.heap.size + 1 + 1) 0 (by rfl) [.int .i64 p.src, .int .u32 (p.ses : Nat), .int .i64 p.tot, .slice a' p.byt.length c', .slice g' p.got.length d', .int .u32 (N : Nat), .int .i64 p.sta, .int .i64 p.lif, .int .i64 p.due] _ HM.out.2.1 Try.underlying26 rfl hs9) rfl ⟨a', c', g', d', .slice (some ⟨wr.heap.size, 0, none⟩) 1 1, ?_, HN.out⟩
        rw [HCS.out]
        rfl
end Go.Proofs.Ytlhgjhbbiohcnaa
/- The reference's Take, of data that goes with what has come in and asks for a report: one case. -/
namespace Go.Proofs.Ytlhgjhbbiohcnaa
open Go.RowKit
set_option linter.unusedVariables false
set_option maxRecDepth 20000 in
set_option maxHeartbeats 4000000 in
theorem rtake_c10 (s : Tk) (a : Option Addr) (c : Nat) (g : Option Addr) (d : Nat) (x : Sg) (xa : Option Addr) (xc : Nat) (a2 : Option Addr) (c2 : Nat) (now : Int) (w : World) (hc : CameK w s a c g d) (hx : Came w x xa xc a2 c2) (hok : okK s = true) (hd : dataS x = true) (hn : inB now 0 1048576 = true) (k4 : (x.knd == 4) = false) (k1 : (x.knd != 1) = false) (h4 : (s.sta == 4) = false) (hp : (rpK { s with due := now + s.lif } x).2 = true) (hk : x.chk = true) (hw : wholeK (putG { s with due := now + s.lif } x) = true) (hs : ¬ s.ser = 4294967295) :
    Calls Try.prog 16 #[kv s a c g d, sv x xa xc a2 c2, .int .i64 now] w fun e w' => ∃ a' c' g' d' v, e = .returned (.tuple #[.agg (kcells (serK { putG { s with due := now + s.lif } x with sta := 2 }) a' c' g' d').toArray, v]) ∧ Hid (Below w.heap.size w w' ∧ CameK w' (serK { putG { s with due := now + s.lif } x with sta := 2 }) a' c' g' d' ∧ Sent w.heap.size w' v [repK { putG { s with due := now + s.lif } x with sta := 2 } x.ser]) := by
  have hnow := inB_of hn
  have hl := (smallK hok).2.2.2.1
  have HC1 : Hid (CameK w { s with due := now + s.lif } a c g d) := ⟨hc.byt, hc.got, hc.lb, hc.lg, hc.zb, hc.zg, hc.gin, hc.src, hc.ses, hc.tot, hc.ser, hc.sta, hc.lif, by show in64 (now + s.lif); unfold in64; omega⟩
  have HOK : Hid (okK { s with due := now + s.lif } = true) := okK_due hok (by omega) (by omega)
  obtain ⟨p, hpe⟩ : ∃ p, putG { s with due := now + s.lif } x = p := ⟨_, rfl⟩
  have HPE : Hid (putG { s with due := now + s.lif } x = p) := hpe
  have hrp : rpK { s with due := now + s.lif } x = (p, true) := by
    unfold rpK rputK at hp ⊢
    split at hp
    · split at hp
      · cases hp
      · rename_i h1 h2
        rw [if_pos h1, if_neg h2, hpe]
    · cases hp
  have HPU : Hid (∀ W, Below w.heap.size w W → Calls Try.prog 38 #[kv { s with due := now + s.lif } a c g d, sv x xa xc a2 c2] W fun e w' => ∃ a' c' g' d', e = .returned (.tuple #[.agg (kcells p a' c' g' d').toArray, .bool true]) ∧ Hid (Below W.heap.size W w' ∧ CameK w' p a' c' g' d')) := fun W hb => by
    have := rputA_any { s with due := now + s.lif } a c g d x xa xc a2 c2 W (HC1.out.later hb) (hx.later hb) HOK.out hd
    rw [hrp] at this
    exact this
  have HPOS : Hid (∀ c ∈ p.got, 1 ≤ c.2) := by
    show ∀ c ∈ p.got, 1 ≤ c.2
    rw [← hpe]
    have ht : x.tot = s.tot := by
      unfold rpK at hp
      split at hp
      · assumption
      · cases hp
    exact cls_pos (put_rows HOK.out hd ht).2.2
  have HSER : Hid (p.ser = s.ser) := by
    show _ = _
    rw [← hpe]
    rfl
  have HPS : Hid (p.src = s.src ∧ p.ses = s.ses ∧ p.tot = s.tot) := by
    show _ ∧ _
    rw [← hpe]
    exact ⟨rfl, rfl, rfl⟩
  clear hpe hrp
  have HEN : Hid (En w (((w.alloc (.cells #[.int .i64 s.src, .int .u32 (s.ses : Nat), .int .i64 s.tot, .slice a s.byt.length c, .slice g s.got.length d, .int .u32 (s.ser : Nat), .int .i64 s.sta, .int .i64 s.lif, .int .i64 (now + s.lif)] 26)).alloc (.cells #[.int .i64 x.knd, .int .i64 x.src, .int .u32 (x.ses : Nat), .int .u32 (x.ser : Nat), .int .u32 (x.cks : Nat), .int .i64 x.off, .int .i64 x.tot, .int .i64 x.low, .int .i64 x.upp, .int .i64 x.rea, .bool x.chk, .slice xa x.dat.length xc, .slice a2 x.cls.length c2] 28)).alloc (.cells #[.int .i64 0, .int .u32 0, .int .i64 0, .slice none 0 0, .slice none 0 0, .int .u32 0, .int .i64 0, .int .i64 0, .int .i64 0] 26)) { s with due := now + s.lif } a c g d x xa xc a2 c2) := En.start w { s with due := now + s.lif } _ _ _ _ _ _ _ _ _
  have HK : Hid (x.chk = true) := hk
  clear hc hx hok hd hn hp hk HOK HC1
  rw [HPE.out] at hw ⊢
  go_enter Try.func16, Try.ntmps16
  go_wp2_with fail
  go_at_call 38
  refine (HPU.out _ HEN.out.bel).mono ?_
  rintro e w1 ⟨a', c', g', d', rfl, hq⟩
  have HEN0 := HEN
  have HWH : Hid (∀ W, Below w1.heap.size w1 W → Calls Try.prog 34 #[kv p a' c' g' d'] W fun e w' => e = .returned (.bool (wholeK p)) ∧ Hid (Below W.heap.size W w')) := fun W hb => rwhole_any p a' c' g' d' W (hq.out.2.got.later hb)
  rw [hw] at HWH
  clear HPU HEN hw
  go_wp2_with fail
  go_at_call 34
  refine (HWH.out _ ((Below.refl _ _).alloc (Nat.le_refl _) _)).mono ?_
  rintro e w3 ⟨rfl, hb3⟩
  have HRA : Hid (Hid _) := rt_t HEN0.out hq.out.1 hq.out.2 hb3.out
  have HR0 : Hid (Hid _) := rt_sta hq.out.2 HRA.out.out.1 HRA.out.out.2.1 HRA.out.out.2.2.1 HRA.out.out.2.2.2 2 ⟨by omega, by omega⟩
  have kf6 := frozen_of HRA.out.out.1.box 6
  have k6a := (kcells_get HRA.out.out.1.box).2.2.2.2.2.2.1
  have HQ2 : Hid (CameK w1 { p with sta := 2 } a' c' g' d') := came_sta hq.out.2 2 ⟨by omega, by omega⟩
  have HPOS2 : Hid (∀ c ∈ ({ p with sta := 2 } : Tk).got, 1 ≤ c.2) := HPOS.out
  have HPS2 : Hid (({ p with sta := 2 } : Tk).src = s.src ∧ ({ p with sta := 2 } : Tk).ses = s.ses ∧ ({ p with sta := 2 } : Tk).tot = s.tot) := HPS.out
  have HSER2 : Hid (({ p with sta := 2 } : Tk).ser = s.ser) := HSER.out
  obtain ⟨pz, hp2⟩ : ∃ pz : Tk, { p with sta := 2 } = pz := ⟨_, rfl⟩
  rw [hp2] at HR0 HQ2 HPOS2 HPS2 HSER2
  obtain ⟨k0, k1, k2, k3, k4, k5, k6, k7, k8⟩ := kcells_get HR0.out.out.1.box
  have y10 : (w3.setCell ⟨w1.heap.size, 6, none⟩ (.int .i64 2)).cell? ⟨w.heap.size + 1, 10, none⟩ = some (.bool true) := by rw [(scells HR0.out.out.2.2.1.two).2.2.2.2.2.2.2.2.2.2.1, HK.out]
  have kf := frozen_of HR0.out.out.1.box 5
  have hs : ¬ pz.ser = 4294967295 := by have := HSER2.out; omega
  have hsb : ((pz.ser : Int) == 4294967295) = false := by simp; omega
  obtain ⟨N, hN⟩ : ∃ N : Nat, nextN pz.ser = N := ⟨_, rfl⟩
  have hN2 : N = pz.ser + 1 ∧ N < 4294967296 := by have := HR0.out.out.2.1.ser; unfold nextN at hN; rw [if_neg hs] at hN; omega
  have hsw : IntKind.u32.wrap ((pz.ser : Int) + 1) = (N : Int) := by rw [IntKind.wrap_u32]; omega
  have HNX : Hid (nextN pz.ser = N ∧ N < 4294967296) := ⟨hN, hN2.2⟩
  clear hN hN2 hs
  have HR5 : Hid (Hid _) := rt_ser (fun b e h0 => HQ2.out.byt.lt h0 b e) (fun b e h0 => rowC_lt HQ2.out.got h0 b e) HR0.out.out.1 HR0.out.out.2.1 HR0.out.out.2.2.1 HR0.out.out.2.2.2 N HNX.out.2
  obtain ⟨y0, y1, y2, _⟩ := kcells_get HR5.out.out.2.2.1.one
  have y3 := (scells HR5.out.out.2.2.1.two).2.2.2.1
  have t5 := (kcells_get HR5.out.out.1.box).2.2.2.2.2.1
  have t4 := (kcells_get HR5.out.out.1.box).2.2.2.2.1
  obtain ⟨W5, hW5⟩ : ∃ W5, (w3.setCell ⟨w1.heap.size, 6, none⟩ (.int .i64 2)).setCell ⟨w1.heap.size, 5, none⟩ (.int .u32 (N : Int)) = W5 := ⟨_, rfl⟩
  rw [hW5] at HR5 y0 y1 y2 y3 t5 t4
  clear HWH HEN0
  go_wp2_with fail
  have HI0 : Hid (RpI W5 (W5.alloc (sc ⟨2, s.src, s.ses, N, x.ser, 0, 0, 0, s.tot, 0, false, [], []⟩ none 0 none 0)) ⟨2, s.src, s.ses, N, x.ser, 0, 0, 0, s.tot, 0, false, [], []⟩ [] (.slice none 0 0)) := RpI.start W5 _ rfl rfl
  clear hW5 kf k0 k1 k2 k3 k4 k5 k6 k7 k8 y0 y1 y2 y3 y10 t5
  have HGL : Hid (pz.got.length ≤ 140737488351232) := HQ2.out.zg
  go_loopw [11] (fun i wr => ∃ k : Nat, k ≤ pz.got.length ∧ (k : Int) ≤ 20 ∧ i = .int .i64 k ∧ Hid (∃ v, RpI W5 wr ⟨2, s.src, s.ses, N, x.ser, 0, 0, 0, s.tot, 0, false, [], []⟩ (pz.got.take k) v)) (fun i _ => pz.got.length - (intOf i).toNat)
  case atStart => exact ⟨0, by omega, by omega, rfl, ⟨_, HI0.out⟩⟩
  case round =>
    obtain ⟨k, hk, hk20, rfl, HQ0⟩ := hrel
    obtain ⟨v, hv⟩ := HQ0.out
    have HQ : Hid (RpI W5 wr ⟨2, s.src, s.ses, N, x.ser, 0, 0, 0, s.tot, 0, false, [], []⟩ (pz.got.take k) v) := hv
    clear hv HQ0
    have u4 : wr.cell? ⟨w1.heap.size, 4, none⟩ = some (.slice g' pz.got.length d') := cell_later HQ.out.bel t4
    by_cases hlt : k < pz.got.length
    · by_cases h20 : (k : Int) < 20
      · have u4b : ∀ X, (wr.alloc X).cell? ⟨w1.heap.size, 4, none⟩ = some (.slice g' pz.got.length d') := fun X => cell_later (below_of HQ.out.bel ((Below.refl _ _).alloc (Nat.le_refl _) X)) t4
        obtain ⟨rc0, rf0⟩ := HQ.out.get wr (Below.refl _ _)
        have rc1 := fun X => (HQ.out.get (wr.alloc X) ((Below.refl _ _).alloc (Nat.le_refl _) X)).1
        obtain ⟨b1, o1, hb1, hc1⟩ := (HR5.out.out.2.1.got.later HQ.out.bel).2 (by show 0 < pz.got.length; omega)
        subst hb1
        obtain ⟨p1, p2⟩ := hc1 k hlt
        have HNX2 : Hid (pz.got.take (k + 1) = pz.got.take k ++ [pz.got[k]]) := (List.take_succ_eq_append_getElem hlt)
        have hi1 : (k : Int) < (pz.got.length : Int) := by omega
        have HGT : Hid (pz.got[k] = (pz.got[k].1, pz.got[k].2)) := rfl
        rw [HGT.out] at HNX2
        clear hc1 HGT
        change wr.cell? _ = some (.int .i64 pz.got[k].1) at p1
        change wr.cell? _ = some (.int .i64 pz.got[k].2) at p2
        generalize pz.got[k].1 = x1 at p1 HNX2
        generalize pz.got[k].2 = x2 at p2 HNX2
        have HOW : Hid (∀ wx, Below wr.heap.size wr wx → wx.ownsRow (W5.heap.size + 1) 60 2 v (pz.got.take k).length (ccells (pz.got.take k))) := fun wx hb => (Off.of_below (S := fun _ => False) hb).owns HQ.out.own (fun _ _ t => t)
        have HLE : Hid ((pz.got.take k).length ≤ 100000 ∧ W5.heap.size < wr.heap.size ∧ (pz.got.take k).length = k) := ⟨by rw [List.length_take]; omega, HQ.out.lt, by rw [List.length_take]; omega⟩
        go_wp2_with fail
        go_region_law (refine step_append_one rfl _ _ rfl (W5.heap.size + 1) v (pz.got.take k) rfl (HOW.out _ (by first | exact ((Below.refl _ _).drew.alloc (by simp) _) | exact ((Below.refl _ _).alloc (by simp) _).drew)) wr.heap.size x1 x2 rfl (by first | exact heap_alloc_new wr _ | exact old_block (Below.refl _ _).drew (heap_alloc_new wr _)) HLE.out.1 (by have := HLE.out.2.1; simp; omega) ?_; intro gn cn wn hon hfn; obtain ⟨m1, m2, m3⟩ := HQ.out.ext (M := pz.got.take k ++ [(x1, x2)]) (by first | exact ((Below.refl _ _).drew.alloc (by simp) _) | exact ((Below.refl _ _).alloc (by simp) _).drew) hfn hon; rw [HLE.out.2.2] at m3; have HM3 : Hid _ := m3; clear m3 hon hfn)
        all_goals
          go_wp2
          go_roundw
          case rel => repeat (first | exact ⟨k + 1, by omega, by omega, by go_num, ⟨_, by rw [HNX2.out]; exact HM3.out⟩⟩ | refine ⟨_, ?_⟩)
          case measure => simp [intOf]; omega
      · have h20b : k = 20 := by omega
        have HT20 : Hid (pz.got.take k = pz.got.take 20) := by rw [h20b]; rfl
        clear h20b
        have HRT : Hid (Rt w wr w1.heap.size { pz with ser := N } a' c' g' d' ∧ CameK wr { pz with ser := N } a' c' g' d') := ⟨HR5.out.out.1.later HQ.out.bel, HR5.out.out.2.1.later HQ.out.bel⟩
        obtain ⟨a6, c6, hv6, hb6, hr6, hl6, hm6, hn6⟩ := HQ.out.fin rfl
        rw [HT20.out] at hv6 hb6 hr6 hl6
        obtain ⟨L6, hL6⟩ : ∃ L6, pz.got.take 20 = L6 := ⟨_, rfl⟩
        rw [hL6] at hv6 hb6 hr6 hl6
        have HB6 : Hid (wr.heap[W5.heap.size]? = some (sc ⟨2, s.src, s.ses, N, x.ser, 0, 0, 0, s.tot, 0, false, [], L6⟩ none 0 a6 c6)) := hb6
        have HLT : Hid (w.heap.size + 3 ≤ W5.heap.size) := Nat.le_trans HR5.out.out.2.2.2 (by have := (Array.getElem?_eq_some_iff.1 HR5.out.out.1.box).1; omega)
        have HS : Hid (∀ W', Off (fun i => i = w.heap.size + 1 + 1) wr W' → W'.cell? ⟨w1.heap.size, 0, none⟩ = some (.int .i64 pz.src) ∧ W'.cell? ⟨w1.heap.size, 1, none⟩ = some (.int .u32 (pz.ses : Nat)) ∧ W'.cell? ⟨w1.heap.size, 2, none⟩ = some (.int .i64 pz.tot) ∧ W'.cell? ⟨w1.heap.size, 3, none⟩ = some (.slice a' pz.byt.length c') ∧ W'.cell? ⟨w1.heap.size, 4, none⟩ = some (.slice g' pz.got.length d') ∧ W'.cell? ⟨w1.heap.size, 5, none⟩ = some (.int .u32 (N : Nat)) ∧ W'.cell? ⟨w1.heap.size, 6, none⟩ = some (.int .i64 pz.sta) ∧ W'.cell? ⟨w1.heap.size, 7, none⟩ = some (.int .i64 pz.lif) ∧ W'.cell? ⟨w1.heap.size, 8, none⟩ = some (.int .i64 pz.due) ∧ W'.cell? ⟨W5.heap.size, 0, none⟩ = some (.int .i64 2) ∧ W'.cell? ⟨W5.heap.size, 1, none⟩ = some (.int .i64 s.src) ∧ W'.cell? ⟨W5.heap.size, 2, none⟩ = some (.int .u32 (s.ses : Nat)) ∧ W'.cell? ⟨W5.heap.size, 3, none⟩ = some (.int .u32 (N : Nat)) ∧ W'.cell? ⟨W5.heap.size, 4, none⟩ = some (.int .u32 (x.ser : Nat)) ∧ W'.cell? ⟨W5.heap.size, 5, none⟩ = some (.int .i64 0) ∧ W'.cell? ⟨W5.heap.size, 6, none⟩ = some (.int .i64 0) ∧ W'.cell? ⟨W5.heap.size, 7, none⟩ = some (.int .i64 0) ∧ W'.cell? ⟨W5.heap.size, 8, none⟩ = some (.int .i64 s.tot) ∧ W'.cell? ⟨W5.heap.size, 9, none⟩ = some (.int .i64 0) ∧ W'.cell? ⟨W5.heap.size, 10, none⟩ = some (.bool false) ∧ W'.cell? ⟨W5.heap.size, 11, none⟩ = some (.slice none 0 0) ∧ W'.cell? ⟨W5.heap.size, 12, none⟩ = some (.slice a6 L6.length c6)) := fun W' ho => by
          obtain ⟨e0, e1, e2, e3, e4, e5, e6, e7, e8⟩ := HRT.out.1.cells ho
          obtain ⟨f0, f1, f2, f3, f4, f5, f6, f7, f8, f9, f10, f11, f12⟩ := scells (ho.at HB6.out (fun e => by have := HLT.out; have : W5.heap.size = w.heap.size + 1 + 1 := e; omega))
          exact ⟨e0, e1, e2, e3, e4, e5, e6, e7, e8, f0, f1, f2, f3, f4, f5, f6, f7, f8, f9, f10, f11, f12⟩
        have HEND : Hid (∀ V, Below w.heap.size w V → V.rangeAt wr.heap.size 0 (sgcells ⟨2, s.src, s.ses, N, x.ser, 0, 0, 0, s.tot, 0, false, [], L6⟩ none 0 a6 c6) → Off (fun i => i = w.heap.size + 1 + 1) wr V → Hid (Below w.heap.size w V ∧ CameK V (serK pz) a' c' g' d' ∧ Sent w.heap.size V (.slice (some ⟨wr.heap.size, 0, none⟩) 1 1) [repK pz x.ser])) := fun V m1 m3 m4 => by
          have e1 : serK pz = { pz with ser := N } := by unfold serK; rw [HNX.out.1]
          have e2 : repK pz x.ser = ⟨2, s.src, s.ses, N, x.ser, 0, 0, 0, s.tot, 0, false, [], L6⟩ := by unfold repK; rw [HNX.out.1, hL6, HPS2.out.1, HPS2.out.2.1, HPS2.out.2.2]
          rw [e1, e2]
          refine ⟨m1, came_res HRT.out.2 HRT.out.1.res HPOS2.out m4, rfl, _, _, a6, c6, rfl, HRT.out.1.bel.size, m3, rfl, hr6.off m4 (fun h0 b e t => by have := hn6 b e; have := HLT.out; have : b.block = w.heap.size + 1 + 1 := t; omega), fun b e => by have := hn6 b e; have := HLT.out; omega, hl6, hm6, by omega, by simp [maxLen]⟩
        have HCS : Hid ((kcells (serK pz) a' c' g' d').toArray = #[.int .i64 pz.src, .int .u32 (pz.ses : Nat), .int .i64 pz.tot, .slice a' pz.byt.length c', .slice g' pz.got.length d', .int .u32 (N : Nat), .int .i64 pz.sta, .int .i64 pz.lif, .int .i64 pz.due]) := by show _ = _; unfold serK; rw [HNX.out.1]
        have hs9 : (Try.prog.info? 26).map (·.size) = some 9 := by kernel_rfl
        subst hv6
        obtain ⟨r0, r1, r2, r3, r4, r5, r6, r7, r8⟩ := HRT.out.1.there (Below.refl _ _)
        have rf := HRT.out.1.frozen (Below.refl _ _)
        have q0 := fun X => (HRT.out.1.there ((Below.refl _ _).alloc (Nat.le_refl _) X)).1
        have q1 := fun X => (HRT.out.1.there ((Below.refl _ _).alloc (Nat.le_refl _) X)).2.1
        have q2 := fun X => (HRT.out.1.there ((Below.refl _ _).alloc (Nat.le_refl _) X)).2.2.1
        have q3 := fun X => (HRT.out.1.there ((Below.refl _ _).alloc (Nat.le_refl _) X)).2.2.2.1
        have q4 := fun X => (HRT.out.1.there ((Below.refl _ _).alloc (Nat.le_refl _) X)).2.2.2.2.1
        have q5 := fun X => (HRT.out.1.there ((Below.refl _ _).alloc (Nat.le_refl _) X)).2.2.2.2.2.1
        have q6 := fun X => (HRT.out.1.there ((Below.refl _ _).alloc (Nat.le_refl _) X)).2.2.2.2.2.2.1
        have q7 := fun X => (HRT.out.1.there ((Below.refl _ _).alloc (Nat.le_refl _) X)).2.2.2.2.2.2.2.1
        have q8 := fun X => (HRT.out.1.there ((Below.refl _ _).alloc (Nat.le_refl _) X)).2.2.2.2.2.2.2.2
        have qf := fun X => HRT.out.1.frozen ((Below.refl _ _).alloc (Nat.le_refl _) X)
        clear hL6 hb6
        go_wp2_with fail
        go_region_held3 (fun W' => W'.cell? ⟨w1.heap.size, 0, none⟩ = some (.int .i64 pz.src) ∧ W'.cell? ⟨w1.heap.size, 1, none⟩ = some (.int .u32 (pz.ses : Nat)) ∧ W'.cell? ⟨w1.heap.size, 2, none⟩ = some (.int .i64 pz.tot) ∧ W'.cell? ⟨w1.heap.size, 3, none⟩ = some (.slice a' pz.byt.length c') ∧ W'.cell? ⟨w1.heap.size, 4, none⟩ = some (.slice g' pz.got.length d') ∧ W'.cell? ⟨w1.heap.size, 5, none⟩ = some (.int .u32 (N : Nat)) ∧ W'.cell? ⟨w1.heap.size, 6, none⟩ = some (.int .i64 pz.sta) ∧ W'.cell? ⟨w1.heap.size, 7, none⟩ = some (.int .i64 pz.lif) ∧ W'.cell? ⟨w1.heap.size, 8, none⟩ = some (.int .i64 pz.due) ∧ W'.cell? ⟨W5.heap.size, 0, none⟩ = some (.int .i64 2) ∧ W'.cell? ⟨W5.heap.size, 1, none⟩ = some (.int .i64 s.src) ∧ W'.cell? ⟨W5.heap.size, 2, none⟩ = some (.int .u32 (s.ses : Nat)) ∧ W'.cell? ⟨W5.heap.size, 3, none⟩ = some (.int .u32 (N : Nat)) ∧ W'.cell? ⟨W5.heap.size, 4, none⟩ = some (.int .u32 (x.ser : Nat)) ∧ W'.cell? ⟨W5.heap.size, 5, none⟩ = some (.int .i64 0) ∧ W'.cell? ⟨W5.heap.size, 6, none⟩ = some (.int .i64 0) ∧ W'.cell? ⟨W5.heap.size, 7, none⟩ = some (.int .i64 0) ∧ W'.cell? ⟨W5.heap.size, 8, none⟩ = some (.int .i64 s.tot) ∧ W'.cell? ⟨W5.heap.size, 9, none⟩ = some (.int .i64 0) ∧ W'.cell? ⟨W5.heap.size, 10, none⟩ = some (.bool false) ∧ W'.cell? ⟨W5.heap.size, 11, none⟩ = some (.slice none 0 0) ∧ W'.cell? ⟨W5.heap.size, 12, none⟩ = some (.slice a6 L6.length c6)) ((refine HS.out _ ?_; repeat (with_reducible first | exact Off.refl _ _ | refine Off.drew ?_ | refine Off.alloc ?_ _ | refine off_set ?_ _ _))) (fail)
        · clear HS q0 q1 q2 q3 q4 q5 q6 q7 q8 qf r0 r1 r2 r3 r4 r5 r6 r7 r8 rf
          have HM : Hid _ := HRT.out.1.fin1 ⟨2, s.src, s.ses, N, x.ser, 0, 0, 0, s.tot, 0, false, [], L6⟩ a6 c6 [.int .i64 pz.src, .int .u32 (pz.ses : Nat), .int .i64 pz.tot, .slice a' pz.byt.length c', .slice g' pz.got.length d', .int .u32 (N : Nat), .int .i64 pz.sta, .int .i64 pz.lif, .int .i64 pz.due] rfl
          have HN : Hid _ := HEND.out _ HM.out.1 HM.out.2.2.1 HM.out.2.2.2
          clear HEND
          go_wp2
          refine bodyPost_ret (results_cell2 rfl _ _ (w.heap.size + 1 + 1) 0 (by rfl) [.int .i64 pz.src, .int .u32 (pz.ses : Nat), .int .i64 pz.tot, .slice a' pz.byt.length c', .slice g' pz.got.length d', .int .u32 (N : Nat), .int .i64 pz.sta, .int .i64 pz.lif, .int .i64 pz.due] _ HM.out.2.1 Try.underlying26 rfl hs9) rfl ⟨a', c', g', d', .slice (some ⟨wr.heap.size, 0, none⟩) 1 1, ?_, ?_⟩
          · subst hp2
            rw [HCS.out]
            rfl
          · subst hp2
            exact HN.out
        · clear HS q0 q1 q2 q3 q4 q5 q6 q7 q8 qf r0 r1 r2 r3 r4 r5 r6 r7 r8 rf
          have HM : Hid _ := HRT.out.1.fin2 ⟨2, s.src, s.ses, N, x.ser, 0, 0, 0, s.tot, 0, false, [], L6⟩ a6 c6 [.int .i64 pz.src, .int .u32 (pz.ses : Nat), .int .i64 pz.tot, .slice a' pz.byt.length c', .slice g' pz.got.length d', .int .u32 (N : Nat), .int .i64 pz.sta, .int .i64 pz.lif, .int .i64 pz.due] rfl
          have HN : Hid _ := HEND.out _ HM.out.1 HM.out.2.2.1 HM.out.2.2.2
          clear HEND
          go_wp2
          refine bodyPost_ret (results_cell2 rfl _ _ (w.heap.size + 1 + 1) 0 (by rfl) [.int .i64 pz.src, .int .u32 (pz.ses : Nat), .int .i64 pz.tot, .slice a' pz.byt.length c', .slice g' pz.got.length d', .int .u32 (N : Nat), .int .i64 pz.sta, .int .i64 pz.lif, .int .i64 pz.due] _ HM.out.2.1 Try.underlying26 rfl hs9) rfl ⟨a', c', g', d', .slice (some ⟨wr.heap.size, 0, none⟩) 1 1, ?_, ?_⟩
          · subst hp2
            rw [HCS.out]
            rfl
          · subst hp2
            exact HN.out
    · have HT20 : Hid (pz.got.take k = pz.got.take 20) := by
        show _ = _
        rw [List.take_of_length_le (by omega), List.take_of_length_le (by omega)]
      have HRT : Hid (Rt w wr w1.heap.size { pz with ser := N } a' c' g' d' ∧ CameK wr { pz with ser := N } a' c' g' d') := ⟨HR5.out.out.1.later HQ.out.bel, HR5.out.out.2.1.later HQ.out.bel⟩
      obtain ⟨a6, c6, hv6, hb6, hr6, hl6, hm6, hn6⟩ := HQ.out.fin rfl
      rw [HT20.out] at hv6 hb6 hr6 hl6
      obtain ⟨L6, hL6⟩ : ∃ L6, pz.got.take 20 = L6 := ⟨_, rfl⟩
      rw [hL6] at hv6 hb6 hr6 hl6
      have HB6 : Hid (wr.heap[W5.heap.size]? = some (sc ⟨2, s.src, s.ses, N, x.ser, 0, 0, 0, s.tot, 0, false, [], L6⟩ none 0 a6 c6)) := hb6
      have HLT : Hid (w.heap.size + 3 ≤ W5.heap.size) := Nat.le_trans HR5.out.out.2.2.2 (by have := (Array.getElem?_eq_some_iff.1 HR5.out.out.1.box).1; omega)
      have HS : Hid (∀ W', Off (fun i => i = w.heap.size + 1 + 1) wr W' → W'.cell? ⟨w1.heap.size, 0, none⟩ = some (.int .i64 pz.src) ∧ W'.cell? ⟨w1.heap.size, 1, none⟩ = some (.int .u32 (pz.ses : Nat)) ∧ W'.cell? ⟨w1.heap.size, 2, none⟩ = some (.int .i64 pz.tot) ∧ W'.cell? ⟨w1.heap.size, 3, none⟩ = some (.slice a' pz.byt.length c') ∧ W'.cell? ⟨w1.heap.size, 4, none⟩ = some (.slice g' pz.got.length d') ∧ W'.cell? ⟨w1.heap.size, 5, none⟩ = some (.int .u32 (N : Nat)) ∧ W'.cell? ⟨w1.heap.size, 6, none⟩ = some (.int .i64 pz.sta) ∧ W'.cell? ⟨w1.heap.size, 7, none⟩ = some (.int .i64 pz.lif) ∧ W'.cell? ⟨w1.heap.size, 8, none⟩ = some (.int .i64 pz.due) ∧ W'.cell? ⟨W5.heap.size, 0, none⟩ = some (.int .i64 2) ∧ W'.cell? ⟨W5.heap.size, 1, none⟩ = some (.int .i64 s.src) ∧ W'.cell? ⟨W5.heap.size, 2, none⟩ = some (.int .u32 (s.ses : Nat)) ∧ W'.cell? ⟨W5.heap.size, 3, none⟩ = some (.int .u32 (N : Nat)) ∧ W'.cell? ⟨W5.heap.size, 4, none⟩ = some (.int .u32 (x.ser : Nat)) ∧ W'.cell? ⟨W5.heap.size, 5, none⟩ = some (.int .i64 0) ∧ W'.cell? ⟨W5.heap.size, 6, none⟩ = some (.int .i64 0) ∧ W'.cell? ⟨W5.heap.size, 7, none⟩ = some (.int .i64 0) ∧ W'.cell? ⟨W5.heap.size, 8, none⟩ = some (.int .i64 s.tot) ∧ W'.cell? ⟨W5.heap.size, 9, none⟩ = some (.int .i64 0) ∧ W'.cell? ⟨W5.heap.size, 10, none⟩ = some (.bool false) ∧ W'.cell? ⟨W5.heap.size, 11, none⟩ = some (.slice none 0 0) ∧ W'.cell? ⟨W5.heap.size, 12, none⟩ = some (.slice a6 L6.length c6)) := fun W' ho => by
        obtain ⟨e0, e1, e2, e3, e4, e5, e6, e7, e8⟩ := HRT.out.1.cells ho
        obtain ⟨f0, f1, f2, f3, f4, f5, f6, f7, f8, f9, f10, f11, f12⟩ := scells (ho.at HB6.out (fun e => by have := HLT.out; have : W5.heap.size = w.heap.size + 1 + 1 := e; omega))
        exact ⟨e0, e1, e2, e3, e4, e5, e6, e7, e8, f0, f1, f2, f3, f4, f5, f6, f7, f8, f9, f10, f11, f12⟩
      have HEND : Hid (∀ V, Below w.heap.size w V → V.rangeAt wr.heap.size 0 (sgcells ⟨2, s.src, s.ses, N, x.ser, 0, 0, 0, s.tot, 0, false, [], L6⟩ none 0 a6 c6) → Off (fun i => i = w.heap.size + 1 + 1) wr V → Hid (Below w.heap.size w V ∧ CameK V (serK pz) a' c' g' d' ∧ Sent w.heap.size V (.slice (some ⟨wr.heap.size, 0, none⟩) 1 1) [repK pz x.ser])) := fun V m1 m3 m4 => by
        have e1 : serK pz = { pz with ser := N } := by unfold serK; rw [HNX.out.1]
        have e2 : repK pz x.ser = ⟨2, s.src, s.ses, N, x.ser, 0, 0, 0, s.tot, 0, false, [], L6⟩ := by unfold repK; rw [HNX.out.1, hL6, HPS2.out.1, HPS2.out.2.1, HPS2.out.2.2]
        rw [e1, e2]
        refine ⟨m1, came_res HRT.out.2 HRT.out.1.res HPOS2.out m4, rfl, _, _, a6, c6, rfl, HRT.out.1.bel.size, m3, rfl, hr6.off m4 (fun h0 b e t => by have := hn6 b e; have := HLT.out; have : b.block = w.heap.size + 1 + 1 := t; omega), fun b e => by have := hn6 b e; have := HLT.out; omega, hl6, hm6, by omega, by simp [maxLen]⟩
      have HCS : Hid ((kcells (serK pz) a' c' g' d').toArray = #[.int .i64 pz.src, .int .u32 (pz.ses : Nat), .int .i64 pz.tot, .slice a' pz.byt.length c', .slice g' pz.got.length d', .int .u32 (N : Nat), .int .i64 pz.sta, .int .i64 pz.lif, .int .i64 pz.due]) := by show _ = _; unfold serK; rw [HNX.out.1]
      have hs9 : (Try.prog.info? 26).map (·.size) = some 9 := by kernel_rfl
      subst hv6
      obtain ⟨r0, r1, r2, r3, r4, r5, r6, r7, r8⟩ := HRT.out.1.there (Below.refl _ _)
      have rf := HRT.out.1.frozen (Below.refl _ _)
      have q0 := fun X => (HRT.out.1.there ((Below.refl _ _).alloc (Nat.le_refl _) X)).1
      have q1 := fun X => (HRT.out.1.there ((Below.refl _ _).alloc (Nat.le_refl _) X)).2.1
      have q2 := fun X => (HRT.out.1.there ((Below.refl _ _).alloc (Nat.le_refl _) X)).2.2.1
      have q3 := fun X => (HRT.out.1.there ((Below.refl _ _).alloc (Nat.le_refl _) X)).2.2.2.1
      have q4 := fun X => (HRT.out.1.there ((Below.refl _ _).alloc (Nat.le_refl _) X)).2.2.2.2.1
      have q5 := fun X => (HRT.out.1.there ((Below.refl _ _).alloc (Nat.le_refl _) X)).2.2.2.2.2.1
      have q6 := fun X => (HRT.out.1.there ((Below.refl _ _).alloc (Nat.le_refl _) X)).2.2.2.2.2.2.1
      have q7 := fun X => (HRT.out.1.there ((Below.refl _ _).alloc (Nat.le_refl _) X)).2.2.2.2.2.2.2.1
      have q8 := fun X => (HRT.out.1.there ((Below.refl _ _).alloc (Nat.le_refl _) X)).2.2.2.2.2.2.2.2
      have qf := fun X => HRT.out.1.frozen ((Below.refl _ _).alloc (Nat.le_refl _) X)
      clear hL6 hb6
      go_wp2_with fail
      go_region_held3 (fun W' => W'.cell? ⟨w1.heap.size, 0, none⟩ = some (.int .i64 pz.src) ∧ W'.cell? ⟨w1.heap.size, 1, none⟩ = some (.int .u32 (pz.ses : Nat)) ∧ W'.cell? ⟨w1.heap.size, 2, none⟩ = some (.int .i64 pz.tot) ∧ W'.cell? ⟨w1.heap.size, 3, none⟩ = some (.slice a' pz.byt.length c') ∧ W'.cell? ⟨w1.heap.size, 4, none⟩ = some (.slice g' pz.got.length d') ∧ W'.cell? ⟨w1.heap.size, 5, none⟩ = some (.int .u32 (N : Nat)) ∧ W'.cell? ⟨w1.heap.size, 6, none⟩ = some (.int .i64 pz.sta) ∧ W'.cell? ⟨w1.heap.size, 7, none⟩ = some (.int .i64 pz.lif) ∧ W'.cell? ⟨w1.heap.size, 8, none⟩ = some (.int .i64 pz.due) ∧ W'.cell? ⟨W5.heap.size, 0, none⟩ = some (.int .i64 2) ∧ W'.cell? ⟨W5.heap.size, 1, none⟩ = some (.int .i64 s.src) ∧ W'.cell? ⟨W5.heap.size, 2, none⟩ = some (.int .u32 (s.ses : Nat)) ∧ W'.cell? ⟨W5.heap.size, 3, none⟩ = some (.int .u32 (N : Nat)) ∧ W'.cell? ⟨W5.heap.size, 4, none⟩ = some (.int .u32 (x.ser : Nat)) ∧ W'.cell? ⟨W5.heap.size, 5, none⟩ = some (.int .i64 0) ∧ W'.cell? ⟨W5.heap.size, 6, none⟩ = some (.int .i64 0) ∧ W'.cell? ⟨W5.heap.size, 7, none⟩ = some (.int .i64 0) ∧ W'.cell? ⟨W5.heap.size, 8, none⟩ = some (.int .i64 s.tot) ∧ W'.cell? ⟨W5.heap.size, 9, none⟩ = some (.int .i64 0) ∧ W'.cell? ⟨W5.heap.size, 10, none⟩ = some (.bool false) ∧ W'.cell? ⟨W5.heap.size, 11, none⟩ = some (.slice none 0 0) ∧ W'.cell? ⟨W5.heap.size, 12, none⟩ = some (.slice a6 L6.length c6)) ((refine HS.out _ ?_; repeat (with_reducible first | exact Off.refl _ _ | refine Off.drew ?_ | refine Off.alloc ?_ _ | refine off_set ?_ _ _))) (fail)
      · clear HS q0 q1 q2 q3 q4 q5 q6 q7 q8 qf r0 r1 r2 r3 r4 r5 r6 r7 r8 rf
        have HM : Hid _ := HRT.out.1.fin1 ⟨2, s.src, s.ses, N, x.ser, 0, 0, 0, s.tot, 0, false, [], L6⟩ a6 c6 [.int .i64 pz.src, .int .u32 (pz.ses : Nat), .int .i64 pz.tot, .slice a' pz.byt.length c', .slice g' pz.got.length d', .int .u32 (N : Nat), .int .i64 pz.sta, .int .i64 pz.lif, .int .i64 pz.due] rfl
        have HN : Hid _ := HEND.out _ HM.out.1 HM.out.2.2.1 HM.out.2.2.2
        clear HEND
        go_wp2
        refine bodyPost_ret (results_cell2 rfl _ _ (w.heap.size + 1 + 1) 0 (by rfl) [.int .i64 pz.src, .int .u32 (pz.ses : Nat), .int .i64 pz.tot, .slice a' pz.byt.length c', .slice g' pz.got.length d', .int .u32 (N : Nat), .int .i64 pz.sta, .int .i64 pz.lif, .int .i64 pz.due] _ HM.out.2.1 Try.underlying26 rfl hs9) rfl ⟨a', c', g', d', .slice (some ⟨wr.heap.size, 0, none⟩) 1 1, ?_, ?_⟩
        · subst hp2
          rw [HCS.out]
          rfl
        · subst hp2
          exact HN.out
      · clear HS q0 q1 q2 q3 q4 q5 q6 q7 q8 qf r0 r1 r2 r3 r4 r5 r6 r7 r8 rf
        have HM : Hid _ := HRT.out.1.fin2 ⟨2, s.src, s.ses, N, x.ser, 0, 0, 0, s.tot, 0, false, [], L6⟩ a6 c6 [.int .i64 pz.src, .int .u32 (pz.ses : Nat), .int .i64 pz.tot, .slice a' pz.byt.length c', .slice g' pz.got.length d', .int .u32 (N : Nat), .int .i64 pz.sta, .int .i64 pz.lif, .int .i64 pz.due] rfl
        have HN : Hid _ := HEND.out _ HM.out.1 HM.out.2.2.1 HM.out.2.2.2
        clear HEND
        go_wp2
        refine bodyPost_ret (results_cell2 rfl _ _ (w.heap.size + 1 + 1) 0 (by rfl) [.int .i64 pz.src, .int .u32 (pz.ses : Nat), .int .i64 pz.tot, .slice a' pz.byt.length c', .slice g' pz.got.length d', .int .u32 (N : Nat), .int .i64 pz.sta, .int .i64 pz.lif, .int .i64 pz.due] _ HM.out.2.1 Try.underlying26 rfl hs9) rfl ⟨a', c', g', d', .slice (some ⟨wr.heap.size, 0, none⟩) 1 1, ?_, ?_⟩
        · subst hp2
          rw [HCS.out]
          rfl
        · subst hp2
          exact HN.out
end Go.Proofs.Ytlhgjhbbiohcnaa
/- The reference's Take, of data that goes with what has come in and asks for a report: one case. -/
namespace Go.Proofs.Ytlhgjhbbiohcnaa
open Go.RowKit
set_option linter.unusedVariables false
set_option maxRecDepth 20000 in
set_option maxHeartbeats 4000000 in
theorem rtake_c11 (s : Tk) (a : Option Addr) (c : Nat) (g : Option Addr) (d : Nat) (x : Sg) (xa : Option Addr) (xc : Nat) (a2 : Option Addr) (c2 : Nat) (now : Int) (w : World) (hc : CameK w s a c g d) (hx : Came w x xa xc a2 c2) (hok : okK s = true) (hd : dataS x = true) (hn : inB now 0 1048576 = true) (k4 : (x.knd == 4) = false) (k1 : (x.knd != 1) = false) (h4 : (s.sta == 4) = false) (hp : (rpK { s with due := now + s.lif } x).2 = true) (hk : x.chk = true) (hw : wholeK (putG { s with due := now + s.lif } x) = true) (hs : s.ser = 4294967295) :
    Calls Try.prog 16 #[kv s a c g d, sv x xa xc a2 c2, .int .i64 now] w fun e w' => ∃ a' c' g' d' v, e = .returned (.tuple #[.agg (kcells (serK { putG { s with due := now + s.lif } x with sta := 2 }) a' c' g' d').toArray, v]) ∧ Hid (Below w.heap.size w w' ∧ CameK w' (serK { putG { s with due := now + s.lif } x with sta := 2 }) a' c' g' d' ∧ Sent w.heap.size w' v [repK { putG { s with due := now + s.lif } x with sta := 2 } x.ser]) := by
  have hnow := inB_of hn
  have HS0 : Hid (s.ser = 4294967295) := hs
  clear hs
  have hl := (smallK hok).2.2.2.1
  have HC1 : Hid (CameK w { s with due := now + s.lif } a c g d) := ⟨hc.byt, hc.got, hc.lb, hc.lg, hc.zb, hc.zg, hc.gin, hc.src, hc.ses, hc.tot, hc.ser, hc.sta, hc.lif, by show in64 (now + s.lif); unfold in64; omega⟩
  have HOK : Hid (okK { s with due := now + s.lif } = true) := okK_due hok (by omega) (by omega)
  obtain ⟨p, hpe⟩ : ∃ p, putG { s with due := now + s.lif } x = p := ⟨_, rfl⟩
  have HPE : Hid (putG { s with due := now + s.lif } x = p) := hpe
  have hrp : rpK { s with due := now + s.lif } x = (p, true) := by
    unfold rpK rputK at hp ⊢
    split at hp
    · split at hp
      · cases hp
      · rename_i h1 h2
        rw [if_pos h1, if_neg h2, hpe]
    · cases hp
  have HPU : Hid (∀ W, Below w.heap.size w W → Calls Try.prog 38 #[kv { s with due := now + s.lif } a c g d, sv x xa xc a2 c2] W fun e w' => ∃ a' c' g' d', e = .returned (.tuple #[.agg (kcells p a' c' g' d').toArray, .bool true]) ∧ Hid (Below W.heap.size W w' ∧ CameK w' p a' c' g' d')) := fun W hb => by
    have := rputA_any { s with due := now + s.lif } a c g d x xa xc a2 c2 W (HC1.out.later hb) (hx.later hb) HOK.out hd
    rw [hrp] at this
    exact this
  have HPOS : Hid (∀ c ∈ p.got, 1 ≤ c.2) := by
    show ∀ c ∈ p.got, 1 ≤ c.2
    rw [← hpe]
    have ht : x.tot = s.tot := by
      unfold rpK at hp
      split at hp
      · assumption
      · cases hp
    exact cls_pos (put_rows HOK.out hd ht).2.2
  have HSER : Hid (p.ser = s.ser) := by
    show _ = _
    rw [← hpe]
    rfl
  have HPS : Hid (p.src = s.src ∧ p.ses = s.ses ∧ p.tot = s.tot) := by
    show _ ∧ _
    rw [← hpe]
    exact ⟨rfl, rfl, rfl⟩
  clear hpe hrp
  have HEN : Hid (En w (((w.alloc (.cells #[.int .i64 s.src, .int .u32 (s.ses : Nat), .int .i64 s.tot, .slice a s.byt.length c, .slice g s.got.length d, .int .u32 (s.ser : Nat), .int .i64 s.sta, .int .i64 s.lif, .int .i64 (now + s.lif)] 26)).alloc (.cells #[.int .i64 x.knd, .int .i64 x.src, .int .u32 (x.ses : Nat), .int .u32 (x.ser : Nat), .int .u32 (x.cks : Nat), .int .i64 x.off, .int .i64 x.tot, .int .i64 x.low, .int .i64 x.upp, .int .i64 x.rea, .bool x.chk, .slice xa x.dat.length xc, .slice a2 x.cls.length c2] 28)).alloc (.cells #[.int .i64 0, .int .u32 0, .int .i64 0, .slice none 0 0, .slice none 0 0, .int .u32 0, .int .i64 0, .int .i64 0, .int .i64 0] 26)) { s with due := now + s.lif } a c g d x xa xc a2 c2) := En.start w { s with due := now + s.lif } _ _ _ _ _ _ _ _ _
  have HK : Hid (x.chk = true) := hk
  clear hc hx hok hd hn hp hk HOK HC1
  rw [HPE.out] at hw ⊢
  go_enter Try.func16, Try.ntmps16
  go_wp2_with fail
  go_at_call 38
  refine (HPU.out _ HEN.out.bel).mono ?_
  rintro e w1 ⟨a', c', g', d', rfl, hq⟩
  have HEN0 := HEN
  have HWH : Hid (∀ W, Below w1.heap.size w1 W → Calls Try.prog 34 #[kv p a' c' g' d'] W fun e w' => e = .returned (.bool (wholeK p)) ∧ Hid (Below W.heap.size W w')) := fun W hb => rwhole_any p a' c' g' d' W (hq.out.2.got.later hb)
  rw [hw] at HWH
  clear HPU HEN hw
  go_wp2_with fail
  go_at_call 34
  refine (HWH.out _ ((Below.refl _ _).alloc (Nat.le_refl _) _)).mono ?_
  rintro e w3 ⟨rfl, hb3⟩
  have HRA : Hid (Hid _) := rt_t HEN0.out hq.out.1 hq.out.2 hb3.out
  have HR0 : Hid (Hid _) := rt_sta hq.out.2 HRA.out.out.1 HRA.out.out.2.1 HRA.out.out.2.2.1 HRA.out.out.2.2.2 2 ⟨by omega, by omega⟩
  have kf6 := frozen_of HRA.out.out.1.box 6
  have k6a := (kcells_get HRA.out.out.1.box).2.2.2.2.2.2.1
  have HQ2 : Hid (CameK w1 { p with sta := 2 } a' c' g' d') := came_sta hq.out.2 2 ⟨by omega, by omega⟩
  have HPOS2 : Hid (∀ c ∈ ({ p with sta := 2 } : Tk).got, 1 ≤ c.2) := HPOS.out
  have HPS2 : Hid (({ p with sta := 2 } : Tk).src = s.src ∧ ({ p with sta := 2 } : Tk).ses = s.ses ∧ ({ p with sta := 2 } : Tk).tot = s.tot) := HPS.out
  have HSER2 : Hid (({ p with sta := 2 } : Tk).ser = s.ser) := HSER.out
  obtain ⟨pz, hp2⟩ : ∃ pz : Tk, { p with sta := 2 } = pz := ⟨_, rfl⟩
  rw [hp2] at HR0 HQ2 HPOS2 HPS2 HSER2
  obtain ⟨k0, k1, k2, k3, k4, k5, k6, k7, k8⟩ := kcells_get HR0.out.out.1.box
  have y10 : (w3.setCell ⟨w1.heap.size, 6, none⟩ (.int .i64 2)).cell? ⟨w.heap.size + 1, 10, none⟩ = some (.bool true) := by rw [(scells HR0.out.out.2.2.1.two).2.2.2.2.2.2.2.2.2.2.1, HK.out]
  have kf := frozen_of HR0.out.out.1.box 5
  have hs : pz.ser = 4294967295 := by have := HSER2.out; have := HS0.out; omega
  have hsb : ((pz.ser : Int) == 4294967295) = true := by simp; omega
  obtain ⟨N, hN⟩ : ∃ N : Nat, nextN pz.ser = N := ⟨_, rfl⟩
  have hN2 : N = 1 ∧ N < 4294967296 := by unfold nextN at hN; rw [if_pos hs] at hN; omega
  have hN1 : (N : Int) = 1 := by omega
  have HNX : Hid (nextN pz.ser = N ∧ N < 4294967296) := ⟨hN, hN2.2⟩
  clear hN hN2 hs
  have HR5 : Hid (Hid _) := rt_ser (fun b e h0 => HQ2.out.byt.lt h0 b e) (fun b e h0 => rowC_lt HQ2.out.got h0 b e) HR0.out.out.1 HR0.out.out.2.1 HR0.out.out.2.2.1 HR0.out.out.2.2.2 N HNX.out.2
  rw [hN1] at HR5
  obtain ⟨y0, y1, y2, _⟩ := kcells_get HR5.out.out.2.2.1.one
  have y3 := (scells HR5.out.out.2.2.1.two).2.2.2.1
  have t5 := (kcells_get HR5.out.out.1.box).2.2.2.2.2.1
  have t4 := (kcells_get HR5.out.out.1.box).2.2.2.2.1
  obtain ⟨W5, hW5⟩ : ∃ W5, (w3.setCell ⟨w1.heap.size, 6, none⟩ (.int .i64 2)).setCell ⟨w1.heap.size, 5, none⟩ (.int .u32 1) = W5 := ⟨_, rfl⟩
  rw [hW5] at HR5 y0 y1 y2 y3 t5 t4
  clear HWH HEN0 hN1
  go_wp2_with fail
  have HI0 : Hid (RpI W5 (W5.alloc (sc ⟨2, s.src, s.ses, N, x.ser, 0, 0, 0, s.tot, 0, false, [], []⟩ none 0 none 0)) ⟨2, s.src, s.ses, N, x.ser, 0, 0, 0, s.tot, 0, false, [], []⟩ [] (.slice none 0 0)) := RpI.start W5 _ rfl rfl
  clear hW5 kf k0 k1 k2 k3 k4 k5 k6 k7 k8 y0 y1 y2 y3 y10 t5
  have HGL : Hid (pz.got.length ≤ 140737488351232) := HQ2.out.zg
  go_loopw [11] (fun i wr => ∃ k : Nat, k ≤ pz.got.length ∧ (k : Int) ≤ 20 ∧ i = .int .i64 k ∧ Hid (∃ v, RpI W5 wr ⟨2, s.src, s.ses, N, x.ser, 0, 0, 0, s.tot, 0, false, [], []⟩ (pz.got.take k) v)) (fun i _ => pz.got.length - (intOf i).toNat)
  case atStart => exact ⟨0, by omega, by omega, rfl, ⟨_, HI0.out⟩⟩
  case round =>
    obtain ⟨k, hk, hk20, rfl, HQ0⟩ := hrel
    obtain ⟨v, hv⟩ := HQ0.out
    have HQ : Hid (RpI W5 wr ⟨2, s.src, s.ses, N, x.ser, 0, 0, 0, s.tot, 0, false, [], []⟩ (pz.got.take k) v) := hv
    clear hv HQ0
    have u4 : wr.cell? ⟨w1.heap.size, 4, none⟩ = some (.slice g' pz.got.length d') := cell_later HQ.out.bel t4
    by_cases hlt : k < pz.got.length
    · by_cases h20 : (k : Int) < 20
      · have u4b : ∀ X, (wr.alloc X).cell? ⟨w1.heap.size, 4, none⟩ = some (.slice g' pz.got.length d') := fun X => cell_later (below_of HQ.out.bel ((Below.refl _ _).alloc (Nat.le_refl _) X)) t4
        obtain ⟨rc0, rf0⟩ := HQ.out.get wr (Below.refl _ _)
        have rc1 := fun X => (HQ.out.get (wr.alloc X) ((Below.refl _ _).alloc (Nat.le_refl _) X)).1
        obtain ⟨b1, o1, hb1, hc1⟩ := (HR5.out.out.2.1.got.later HQ.out.bel).2 (by show 0 < pz.got.length; omega)
        subst hb1
        obtain ⟨p1, p2⟩ := hc1 k hlt
        have HNX2 : Hid (pz.got.take (k + 1) = pz.got.take k ++ [pz.got[k]]) := (List.take_succ_eq_append_getElem hlt)
        have hi1 : (k : Int) < (pz.got.length : Int) := by omega
        have HGT : Hid (pz.got[k] = (pz.got[k].1, pz.got[k].2)) := rfl
        rw [HGT.out] at HNX2
        clear hc1 HGT
        change wr.cell? _ = some (.int .i64 pz.got[k].1) at p1
        change wr.cell? _ = some (.int .i64 pz.got[k].2) at p2
        generalize pz.got[k].1 = x1 at p1 HNX2
        generalize pz.got[k].2 = x2 at p2 HNX2
        have HOW : Hid (∀ wx, Below wr.heap.size wr wx → wx.ownsRow (W5.heap.size + 1) 60 2 v (pz.got.take k).length (ccells (pz.got.take k))) := fun wx hb => (Off.of_below (S := fun _ => False) hb).owns HQ.out.own (fun _ _ t => t)
        have HLE : Hid ((pz.got.take k).length ≤ 100000 ∧ W5.heap.size < wr.heap.size ∧ (pz.got.take k).length = k) := ⟨by rw [List.length_take]; omega, HQ.out.lt, by rw [List.length_take]; omega⟩
        go_wp2_with fail
        go_region_law (refine step_append_one rfl _ _ rfl (W5.heap.size + 1) v (pz.got.take k) rfl (HOW.out _ (by first | exact ((Below.refl _ _).drew.alloc (by simp) _) | exact ((Below.refl _ _).alloc (by simp) _).drew)) wr.heap.size x1 x2 rfl (by first | exact heap_alloc_new wr _ | exact old_block (Below.refl _ _).drew (heap_alloc_new wr _)) HLE.out.1 (by have := HLE.out.2.1; simp; omega) ?_; intro gn cn wn hon hfn; obtain ⟨m1, m2, m3⟩ := HQ.out.ext (M := pz.got.take k ++ [(x1, x2)]) (by first | exact ((Below.refl _ _).drew.alloc (by simp) _) | exact ((Below.refl _ _).alloc (by simp) _).drew) hfn hon; rw [HLE.out.2.2] at m3; have HM3 : Hid _ := m3; clear m3 hon hfn)
        all_goals
          go_wp2
          go_roundw
          case rel => repeat (first | exact ⟨k + 1, by omega, by omega, by go_num, ⟨_, by rw [HNX2.out]; exact HM3.out⟩⟩ | refine ⟨_, ?_⟩)
          case measure => simp [intOf]; omega
      · have h20b : k = 20 := by omega
        have HT20 : Hid (pz.got.take k = pz.got.take 20) := by rw [h20b]; rfl
        clear h20b
        have HRT : Hid (Rt w wr w1.heap.size { pz with ser := N } a' c' g' d' ∧ CameK wr { pz with ser := N } a' c' g' d') := ⟨HR5.out.out.1.later HQ.out.bel, HR5.out.out.2.1.later HQ.out.bel⟩
        obtain ⟨a6, c6, hv6, hb6, hr6, hl6, hm6, hn6⟩ := HQ.out.fin rfl
        rw [HT20.out] at hv6 hb6 hr6 hl6
        obtain ⟨L6, hL6⟩ : ∃ L6, pz.got.take 20 = L6 := ⟨_, rfl⟩
        rw [hL6] at hv6 hb6 hr6 hl6
        have HB6 : Hid (wr.heap[W5.heap.size]? = some (sc ⟨2, s.src, s.ses, N, x.ser, 0, 0, 0, s.tot, 0, false, [], L6⟩ none 0 a6 c6)) := hb6
        have HLT : Hid (w.heap.size + 3 ≤ W5.heap.size) := Nat.le_trans HR5.out.out.2.2.2 (by have := (Array.getElem?_eq_some_iff.1 HR5.out.out.1.box).1; omega)
        have HS : Hid (∀ W', Off (fun i => i = w.heap.size + 1 + 1) wr W' → W'.cell? ⟨w1.heap.size, 0, none⟩ = some (.int .i64 pz.src) ∧ W'.cell? ⟨w1.heap.size, 1, none⟩ = some (.int .u32 (pz.ses : Nat)) ∧ W'.cell? ⟨w1.heap.size, 2, none⟩ = some (.int .i64 pz.tot) ∧ W'.cell? ⟨w1.heap.size, 3, none⟩ = some (.slice a' pz.byt.length c') ∧ W'.cell? ⟨w1.heap.size, 4, none⟩ = some (.slice g' pz.got.length d') ∧ W'.cell? ⟨w1.heap.size, 5, none⟩ = some (.int .u32 (N : Nat)) ∧ W'.cell? ⟨w1.heap.size, 6, none⟩ = some (.int .i64 pz.sta) ∧ W'.cell? ⟨w1.heap.size, 7, none⟩ = some (.int .i64 pz.lif) ∧ W'.cell? ⟨w1.heap.size, 8, none⟩ = some (.int .i64 pz.due) ∧ W'.cell? ⟨W5.heap.size, 0, none⟩ = some (.int .i64 2) ∧ W'.cell? ⟨W5.heap.size, 1, none⟩ = some (.int .i64 s.src) ∧ W'.cell? ⟨W5.heap.size, 2, none⟩ = some (.int .u32 (s.ses : Nat)) ∧ W'.cell? ⟨W5.heap.size, 3, none⟩ = some (.int .u32 (N : Nat)) ∧ W'.cell? ⟨W5.heap.size, 4, none⟩ = some (.int .u32 (x.ser : Nat)) ∧ W'.cell? ⟨W5.heap.size, 5, none⟩ = some (.int .i64 0) ∧ W'.cell? ⟨W5.heap.size, 6, none⟩ = some (.int .i64 0) ∧ W'.cell? ⟨W5.heap.size, 7, none⟩ = some (.int .i64 0) ∧ W'.cell? ⟨W5.heap.size, 8, none⟩ = some (.int .i64 s.tot) ∧ W'.cell? ⟨W5.heap.size, 9, none⟩ = some (.int .i64 0) ∧ W'.cell? ⟨W5.heap.size, 10, none⟩ = some (.bool false) ∧ W'.cell? ⟨W5.heap.size, 11, none⟩ = some (.slice none 0 0) ∧ W'.cell? ⟨W5.heap.size, 12, none⟩ = some (.slice a6 L6.length c6)) := fun W' ho => by
          obtain ⟨e0, e1, e2, e3, e4, e5, e6, e7, e8⟩ := HRT.out.1.cells ho
          obtain ⟨f0, f1, f2, f3, f4, f5, f6, f7, f8, f9, f10, f11, f12⟩ := scells (ho.at HB6.out (fun e => by have := HLT.out; have : W5.heap.size = w.heap.size + 1 + 1 := e; omega))
          exact ⟨e0, e1, e2, e3, e4, e5, e6, e7, e8, f0, f1, f2, f3, f4, f5, f6, f7, f8, f9, f10, f11, f12⟩
        have HEND : Hid (∀ V, Below w.heap.size w V → V.rangeAt wr.heap.size 0 (sgcells ⟨2, s.src, s.ses, N, x.ser, 0, 0, 0, s.tot, 0, false, [], L6⟩ none 0 a6 c6) → Off (fun i => i = w.heap.size + 1 + 1) wr V → Hid (Below w.heap.size w V ∧ CameK V (serK pz) a' c' g' d' ∧ Sent w.heap.size V (.slice (some ⟨wr.heap.size, 0, none⟩) 1 1) [repK pz x.ser])) := fun V m1 m3 m4 => by
          have e1 : serK pz = { pz with ser := N } := by unfold serK; rw [HNX.out.1]
          have e2 : repK pz x.ser = ⟨2, s.src, s.ses, N, x.ser, 0, 0, 0, s.tot, 0, false, [], L6⟩ := by unfold repK; rw [HNX.out.1, hL6, HPS2.out.1, HPS2.out.2.1, HPS2.out.2.2]
          rw [e1, e2]
          refine ⟨m1, came_res HRT.out.2 HRT.out.1.res HPOS2.out m4, rfl, _, _, a6, c6, rfl, HRT.out.1.bel.size, m3, rfl, hr6.off m4 (fun h0 b e t => by have := hn6 b e; have := HLT.out; have : b.block = w.heap.size + 1 + 1 := t; omega), fun b e => by have := hn6 b e; have := HLT.out; omega, hl6, hm6, by omega, by simp [maxLen]⟩
        have HCS : Hid ((kcells (serK pz) a' c' g' d').toArray = #[.int .i64 pz.src, .int .u32 (pz.ses : Nat), .int .i64 pz.tot, .slice a' pz.byt.length c', .slice g' pz.got.length d', .int .u32 (N : Nat), .int .i64 pz.sta, .int .i64 pz.lif, .int .i64 pz.due]) := by show _ = _; unfold serK; rw [HNX.out.1]
        have hs9 : (Try.prog.info? 26).map (·.size) = some 9 := by kernel_rfl
        subst hv6
        obtain ⟨r0, r1, r2, r3, r4, r5, r6, r7, r8⟩ := HRT.out.1.there (Below.refl _ _)
        have rf := HRT.out.1.frozen (Below.refl _ _)
        have q0 := fun X => (HRT.out.1.there ((Below.refl _ _).alloc (Nat.le_refl _) X)).1
        have q1 := fun X => (HRT.out.1.there ((Below.refl _ _).alloc (Nat.le_refl _) X)).2.1
        have q2 := fun X => (HRT.out.1.there ((Below.refl _ _).alloc (Nat.le_refl _) X)).2.2.1
        have q3 := fun X => (HRT.out.1.there ((Below.refl _ _).alloc (Nat.le_refl _) X)).2.2.2.1
        have q4 := fun X => (HRT.out.1.there ((Below.refl _ _).alloc (Nat.le_refl _) X)).2.2.2.2.1
        have q5 := fun X => (HRT.out.1.there ((Below.refl _ _).alloc (Nat.le_refl _) X)).2.2.2.2.2.1
        have q6 := fun X => (HRT.out.1.there ((Below.refl _ _).alloc (Nat.le_refl _) X)).2.2.2.2.2.2.1
        have q7 := fun X => (HRT.out.1.there ((Below.refl _ _).alloc (Nat.le_refl _) X)).2.2.2.2.2.2.2.1
        have q8 := fun X => (HRT.out.1.there ((Below.refl _ _).alloc (Nat.le_refl _) X)).2.2.2.2.2.2.2.2
        have qf := fun X => HRT.out.1.frozen ((Below.refl _ _).alloc (Nat.le_refl _) X)
        clear hL6 hb6
        go_wp2_with fail
        go_region_held3 (fun W' => W'.cell? ⟨w1.heap.size, 0, none⟩ = some (.int .i64 pz.src) ∧ W'.cell? ⟨w1.heap.size, 1, none⟩ = some (.int .u32 (pz.ses : Nat)) ∧ W'.cell? ⟨w1.heap.size, 2, none⟩ = some (.int .i64 pz.tot) ∧ W'.cell? ⟨w1.heap.size, 3, none⟩ = some (.slice a' pz.byt.length c') ∧ W'.cell? ⟨w1.heap.size, 4, none⟩ = some (.slice g' pz.got.length d') ∧ W'.cell? ⟨w1.heap.size, 5, none⟩ = some (.int .u32 (N : Nat)) ∧ W'.cell? ⟨w1.heap.size, 6, none⟩ = some (.int .i64 pz.sta) ∧ W'.cell? ⟨w1.heap.size, 7, none⟩ = some (.int .i64 pz.lif) ∧ W'.cell? ⟨w1.heap.size, 8, none⟩ = some (.int .i64 pz.due) ∧ W'.cell? ⟨W5.heap.size, 0, none⟩ = some (.int .i64 2) ∧ W'.cell? ⟨W5.heap.size, 1, none⟩ = some (.int .i64 s.src) ∧ W'.cell? ⟨W5.heap.size, 2, none⟩ = some (.int .u32 (s.ses : Nat)) ∧ W'.cell? ⟨W5.heap.size, 3, none⟩ = some (.int .u32 (N : Nat)) ∧ W'.cell? ⟨W5.heap.size, 4, none⟩ = some (.int .u32 (x.ser : Nat)) ∧ W'.cell? ⟨W5.heap.size, 5, none⟩ = some (.int .i64 0) ∧ W'.cell? ⟨W5.heap.size, 6, none⟩ = some (.int .i64 0) ∧ W'.cell? ⟨W5.heap.size, 7, none⟩ = some (.int .i64 0) ∧ W'.cell? ⟨W5.heap.size, 8, none⟩ = some (.int .i64 s.tot) ∧ W'.cell? ⟨W5.heap.size, 9, none⟩ = some (.int .i64 0) ∧ W'.cell? ⟨W5.heap.size, 10, none⟩ = some (.bool false) ∧ W'.cell? ⟨W5.heap.size, 11, none⟩ = some (.slice none 0 0) ∧ W'.cell? ⟨W5.heap.size, 12, none⟩ = some (.slice a6 L6.length c6)) ((refine HS.out _ ?_; repeat (with_reducible first | exact Off.refl _ _ | refine Off.drew ?_ | refine Off.alloc ?_ _ | refine off_set ?_ _ _))) (fail)
        · clear HS q0 q1 q2 q3 q4 q5 q6 q7 q8 qf r0 r1 r2 r3 r4 r5 r6 r7 r8 rf
          have HM : Hid _ := HRT.out.1.fin1 ⟨2, s.src, s.ses, N, x.ser, 0, 0, 0, s.tot, 0, false, [], L6⟩ a6 c6 [.int .i64 pz.src, .int .u32 (pz.ses : Nat), .int .i64 pz.tot, .slice a' pz.byt.length c', .slice g' pz.got.length d', .int .u32 (N : Nat), .int .i64 pz.sta, .int .i64 pz.lif, .int .i64 pz.due] rfl
          have HN : Hid _ := HEND.out _ HM.out.1 HM.out.2.2.1 HM.out.2.2.2
          clear HEND
          go_wp2
          refine bodyPost_ret (results_cell2 rfl _ _ (w.heap.size + 1 + 1) 0 (by rfl) [.int .i64 pz.src, .int .u32 (pz.ses : Nat), .int .i64 pz.tot, .slice a' pz.byt.length c', .slice g' pz.got.length d', .int .u32 (N : Nat), .int .i64 pz.sta, .int .i64 pz.lif, .int .i64 pz.due] _ HM.out.2.1 Try.underlying26 rfl hs9) rfl ⟨a', c', g', d', .slice (some ⟨wr.heap.size, 0, none⟩) 1 1, ?_, ?_⟩
          · subst hp2
            rw [HCS.out]
            rfl
          · subst hp2
            exact HN.out
        · clear HS q0 q1 q2 q3 q4 q5 q6 q7 q8 qf r0 r1 r2 r3 r4 r5 r6 r7 r8 rf
          have HM : Hid _ := HRT.out.1.fin2 ⟨2, s.src, s.ses, N, x.ser, 0, 0, 0, s.tot, 0, false, [], L6⟩ a6 c6 [.int .i64 pz.src, .int .u32 (pz.ses : Nat), .int .i64 pz.tot, .slice a' pz.byt.length c', .slice g' pz.got.length d', .int .u32 (N : Nat), .int .i64 pz.sta, .int .i64 pz.lif, .int .i64 pz.due] rfl
          have HN : Hid _ := HEND.out _ HM.out.1 HM.out.2.2.1 HM.out.2.2.2
          clear HEND
          go_wp2
          refine bodyPost_ret (results_cell2 rfl _ _ (w.heap.size + 1 + 1) 0 (by rfl) [.int .i64 pz.src, .int .u32 (pz.ses : Nat), .int .i64 pz.tot, .slice a' pz.byt.length c', .slice g' pz.got.length d', .int .u32 (N : Nat), .int .i64 pz.sta, .int .i64 pz.lif, .int .i64 pz.due] _ HM.out.2.1 Try.underlying26 rfl hs9) rfl ⟨a', c', g', d', .slice (some ⟨wr.heap.size, 0, none⟩) 1 1, ?_, ?_⟩
          · subst hp2
            rw [HCS.out]
            rfl
          · subst hp2
            exact HN.out
    · have HT20 : Hid (pz.got.take k = pz.got.take 20) := by
        show _ = _
        rw [List.take_of_length_le (by omega), List.take_of_length_le (by omega)]
      have HRT : Hid (Rt w wr w1.heap.size { pz with ser := N } a' c' g' d' ∧ CameK wr { pz with ser := N } a' c' g' d') := ⟨HR5.out.out.1.later HQ.out.bel, HR5.out.out.2.1.later HQ.out.bel⟩
      obtain ⟨a6, c6, hv6, hb6, hr6, hl6, hm6, hn6⟩ := HQ.out.fin rfl
      rw [HT20.out] at hv6 hb6 hr6 hl6
      obtain ⟨L6, hL6⟩ : ∃ L6, pz.got.take 20 = L6 := ⟨_, rfl⟩
      rw [hL6] at hv6 hb6 hr6 hl6
      have HB6 : Hid (wr.heap[W5.heap.size]? = some (sc ⟨2, s.src, s.ses, N, x.ser, 0, 0, 0, s.tot, 0, false, [], L6⟩ none 0 a6 c6)) := hb6
      have HLT : Hid (w.heap.size + 3 ≤ W5.heap.size) := Nat.le_trans HR5.out.out.2.2.2 (by have := (Array.getElem?_eq_some_iff.1 HR5.out.out.1.box).1; omega)
      have HS : Hid (∀ W', Off (fun i => i = w.heap.size + 1 + 1) wr W' → W'.cell? ⟨w1.heap.size, 0, none⟩ = some (.int .i64 pz.src) ∧ W'.cell? ⟨w1.heap.size, 1, none⟩ = some (.int .u32 (pz.ses : Nat)) ∧ W'.cell? ⟨w1.heap.size, 2, none⟩ = some (.int .i64 pz.tot) ∧ W'.cell? ⟨w1.heap.size, 3, none⟩ = some (.slice a' pz.byt.length c') ∧ W'.cell? ⟨w1.heap.size, 4, none⟩ = some (.slice g' pz.got.length d') ∧ W'.cell? ⟨w1.heap.size, 5, none⟩ = some (.int .u32 (N : Nat)) ∧ W'.cell? ⟨w1.heap.size, 6, none⟩ = some (.int .i64 pz.sta) ∧ W'.cell? ⟨w1.heap.size, 7, none⟩ = some (.int .i64 pz.lif) ∧ W'.cell? ⟨w1.heap.size, 8, none⟩ = some (.int .i64 pz.due) ∧ W'.cell? ⟨W5.heap.size, 0, none⟩ = some (.int .i64 2) ∧ W'.cell? ⟨W5.heap.size, 1, none⟩ = some (.int .i64 s.src) ∧ W'.cell? ⟨W5.heap.size, 2, none⟩ = some (.int .u32 (s.ses : Nat)) ∧ W'.cell? ⟨W5.heap.size, 3, none⟩ = some (.int .u32 (N : Nat)) ∧ W'.cell? ⟨W5.heap.size, 4, none⟩ = some (.int .u32 (x.ser : Nat)) ∧ W'.cell? ⟨W5.heap.size, 5, none⟩ = some (.int .i64 0) ∧ W'.cell? ⟨W5.heap.size, 6, none⟩ = some (.int .i64 0) ∧ W'.cell? ⟨W5.heap.size, 7, none⟩ = some (.int .i64 0) ∧ W'.cell? ⟨W5.heap.size, 8, none⟩ = some (.int .i64 s.tot) ∧ W'.cell? ⟨W5.heap.size, 9, none⟩ = some (.int .i64 0) ∧ W'.cell? ⟨W5.heap.size, 10, none⟩ = some (.bool false) ∧ W'.cell? ⟨W5.heap.size, 11, none⟩ = some (.slice none 0 0) ∧ W'.cell? ⟨W5.heap.size, 12, none⟩ = some (.slice a6 L6.length c6)) := fun W' ho => by
        obtain ⟨e0, e1, e2, e3, e4, e5, e6, e7, e8⟩ := HRT.out.1.cells ho
        obtain ⟨f0, f1, f2, f3, f4, f5, f6, f7, f8, f9, f10, f11, f12⟩ := scells (ho.at HB6.out (fun e => by have := HLT.out; have : W5.heap.size = w.heap.size + 1 + 1 := e; omega))
        exact ⟨e0, e1, e2, e3, e4, e5, e6, e7, e8, f0, f1, f2, f3, f4, f5, f6, f7, f8, f9, f10, f11, f12⟩
      have HEND : Hid (∀ V, Below w.heap.size w V → V.rangeAt wr.heap.size 0 (sgcells ⟨2, s.src, s.ses, N, x.ser, 0, 0, 0, s.tot, 0, false, [], L6⟩ none 0 a6 c6) → Off (fun i => i = w.heap.size + 1 + 1) wr V → Hid (Below w.heap.size w V ∧ CameK V (serK pz) a' c' g' d' ∧ Sent w.heap.size V (.slice (some ⟨wr.heap.size, 0, none⟩) 1 1) [repK pz x.ser])) := fun V m1 m3 m4 => by
        have e1 : serK pz = { pz with ser := N } := by unfold serK; rw [HNX.out.1]
        have e2 : repK pz x.ser = ⟨2, s.src, s.ses, N, x.ser, 0, 0, 0, s.tot, 0, false, [], L6⟩ := by unfold repK; rw [HNX.out.1, hL6, HPS2.out.1, HPS2.out.2.1, HPS2.out.2.2]
        rw [e1, e2]
        refine ⟨m1, came_res HRT.out.2 HRT.out.1.res HPOS2.out m4, rfl, _, _, a6, c6, rfl, HRT.out.1.bel.size, m3, rfl, hr6.off m4 (fun h0 b e t => by have := hn6 b e; have := HLT.out; have : b.block = w.heap.size + 1 + 1 := t; omega), fun b e => by have := hn6 b e; have := HLT.out; omega, hl6, hm6, by omega, by simp [maxLen]⟩
      have HCS : Hid ((kcells (serK pz) a' c' g' d').toArray = #[.int .i64 pz.src, .int .u32 (pz.ses : Nat), .int .i64 pz.tot, .slice a' pz.byt.length c', .slice g' pz.got.length d', .int .u32 (N : Nat), .int .i64 pz.sta, .int .i64 pz.lif, .int .i64 pz.due]) := by show _ = _; unfold serK; rw [HNX.out.1]
      have hs9 : (Try.prog.info? 26).map (·.size) = some 9 := by kernel_rfl
      subst hv6
      obtain ⟨r0, r1, r2, r3, r4, r5, r6, r7, r8⟩ := HRT.out.1.there (Below.refl _ _)
      have rf := HRT.out.1.frozen (Below.refl _ _)
      have q0 := fun X => (HRT.out.1.there ((Below.refl _ _).alloc (Nat.le_refl _) X)).1
      have q1 := fun X => (HRT.out.1.there ((Below.refl _ _).alloc (Nat.le_refl _) X)).2.1
      have q2 := fun X => (HRT.out.1.there ((Below.refl _ _).alloc (Nat.le_refl _) X)).2.2.1
      have q3 := fun X => (HRT.out.1.there ((Below.refl _ _).alloc (Nat.le_refl _) X)).2.2.2.1
      have q4 := fun X => (HRT.out.1.there ((Below.refl _ _).alloc (Nat.le_refl _) X)).2.2.2.2.1
      have q5 := fun X => (HRT.out.1.there ((Below.refl _ _).alloc (Nat.le_refl _) X)).2.2.2.2.2.1
      have q6 := fun X => (HRT.out.1.there ((Below.refl _ _).alloc (Nat.le_refl _) X)).2.2.2.2.2.2.1
      have q7 := fun X => (HRT.out.1.there ((Below.refl _ _).alloc (Nat.le_refl _) X)).2.2.2.2.2.2.2.1
      have q8 := fun X => (HRT.out.1.there ((Below.refl _ _).alloc (Nat.le_refl _) X)).2.2.2.2.2.2.2.2
      have qf := fun X => HRT.out.1.frozen ((Below.refl _ _).alloc (Nat.le_refl _) X)
      clear hL6 hb6
      go_wp2_with fail
      go_region_held3 (fun W' => W'.cell? ⟨w1.heap.size, 0, none⟩ = some (.int .i64 pz.src) ∧ W'.cell? ⟨w1.heap.size, 1, none⟩ = some (.int .u32 (pz.ses : Nat)) ∧ W'.cell? ⟨w1.heap.size, 2, none⟩ = some (.int .i64 pz.tot) ∧ W'.cell? ⟨w1.heap.size, 3, none⟩ = some (.slice a' pz.byt.length c') ∧ W'.cell? ⟨w1.heap.size, 4, none⟩ = some (.slice g' pz.got.length d') ∧ W'.cell? ⟨w1.heap.size, 5, none⟩ = some (.int .u32 (N : Nat)) ∧ W'.cell? ⟨w1.heap.size, 6, none⟩ = some (.int .i64 pz.sta) ∧ W'.cell? ⟨w1.heap.size, 7, none⟩ = some (.int .i64 pz.lif) ∧ W'.cell? ⟨w1.heap.size, 8, none⟩ = some (.int .i64 pz.due) ∧ W'.cell? ⟨W5.heap.size, 0, none⟩ = some (.int .i64 2) ∧ W'.cell? ⟨W5.heap.size, 1, none⟩ = some (.int .i64 s.src) ∧ W'.cell? ⟨W5.heap.size, 2, none⟩ = some (.int .u32 (s.ses : Nat)) ∧ W'.cell? ⟨W5.heap.size, 3, none⟩ = some (.int .u32 (N : Nat)) ∧ W'.cell? ⟨W5.heap.size, 4, none⟩ = some (.int .u32 (x.ser : Nat)) ∧ W'.cell? ⟨W5.heap.size, 5, none⟩ = some (.int .i64 0) ∧ W'.cell? ⟨W5.heap.size, 6, none⟩ = some (.int .i64 0) ∧ W'.cell? ⟨W5.heap.size, 7, none⟩ = some (.int .i64 0) ∧ W'.cell? ⟨W5.heap.size, 8, none⟩ = some (.int .i64 s.tot) ∧ W'.cell? ⟨W5.heap.size, 9, none⟩ = some (.int .i64 0) ∧ W'.cell? ⟨W5.heap.size, 10, none⟩ = some (.bool false) ∧ W'.cell? ⟨W5.heap.size, 11, none⟩ = some (.slice none 0 0) ∧ W'.cell? ⟨W5.heap.size, 12, none⟩ = some (.slice a6 L6.length c6)) ((refine HS.out _ ?_; repeat (with_reducible first | exact Off.refl _ _ | refine Off.drew ?_ | refine Off.alloc ?_ _ | refine off_set ?_ _ _))) (fail)
      · clear HS q0 q1 q2 q3 q4 q5 q6 q7 q8 qf r0 r1 r2 r3 r4 r5 r6 r7 r8 rf
        have HM : Hid _ := HRT.out.1.fin1 ⟨2, s.src, s.ses, N, x.ser, 0, 0, 0, s.tot, 0, false, [], L6⟩ a6 c6 [.int .i64 pz.src, .int .u32 (pz.ses : Nat), .int .i64 pz.tot, .slice a' pz.byt.length c', .slice g' pz.got.length d', .int .u32 (N : Nat), .int .i64 pz.sta, .int .i64 pz.lif, .int .i64 pz.due] rfl
        have HN : Hid _ := HEND.out _ HM.out.1 HM.out.2.2.1 HM.out.2.2.2
        clear HEND
        go_wp2
        refine bodyPost_ret (results_cell2 rfl _ _ (w.heap.size + 1 + 1) 0 (by rfl) [.int .i64 pz.src, .int .u32 (pz.ses : Nat), .int .i64 pz.tot, .slice a' pz.byt.length c', .slice g' pz.got.length d', .int .u32 (N : Nat), .int .i64 pz.sta, .int .i64 pz.lif, .int .i64 pz.due] _ HM.out.2.1 Try.underlying26 rfl hs9) rfl ⟨a', c', g', d', .slice (some ⟨wr.heap.size, 0, none⟩) 1 1, ?_, ?_⟩
        · subst hp2
          rw [HCS.out]
          rfl
        · subst hp2
          exact HN.out
      · clear HS q0 q1 q2 q3 q4 q5 q6 q7 q8 qf r0 r1 r2 r3 r4 r5 r6 r7 r8 rf
        have HM : Hid _ := HRT.out.1.fin2 ⟨2, s.src, s.ses, N, x.ser, 0, 0, 0, s.tot, 0, false, [], L6⟩ a6 c6 [.int .i64 pz.src, .int .u32 (pz.ses : Nat), .int .i64 pz.tot, .slice a' pz.byt.length c', .slice g' pz.got.length d', .int .u32 (N : Nat), .int .i64 pz.sta, .int .i64 pz.lif, .int .i64 pz.due] rfl
        have HN : Hid _ := HEND.out _ HM.out.1 HM.out.2.2.1 HM.out.2.2.2
        clear HEND
        go_wp2
        refine bodyPost_ret (results_cell2 rfl _ _ (w.heap.size + 1 + 1) 0 (by rfl) [.int .i64 pz.src, .int .u32 (pz.ses : Nat), .int .i64 pz.tot, .slice a' pz.byt.length c', .slice g' pz.got.length d', .int .u32 (N : Nat), .int .i64 pz.sta, .int .i64 pz.lif, .int .i64 pz.due] _ HM.out.2.1 Try.underlying26 rfl hs9) rfl ⟨a', c', g', d', .slice (some ⟨wr.heap.size, 0, none⟩) 1 1, ?_, ?_⟩
        · subst hp2
          rw [HCS.out]
          rfl
        · subst hp2
          exact HN.out
end Go.Proofs.Ytlhgjhbbiohcnaa
/- The reference's Take, of a segment that brings nothing and asks for nothing, and of data where the session is over; the reference's Tick where nothing becomes of it. -/
namespace Go.Proofs.Ytlhgjhbbiohcnaa
open Go.RowKit
set_option linter.unusedVariables false
set_option maxRecDepth 20000 in
set_option maxHeartbeats 4000000 in
theorem rtake_0 (s : Tk) (a : Option Addr) (c : Nat) (g : Option Addr) (d : Nat) (x : Sg) (xa : Option Addr) (xc : Nat) (a2 : Option Addr) (c2 : Nat) (now : Int) (w : World) (hc : CameK w s a c g d) (hn : inB now 0 1048576 = true) (hl : 1 ≤ s.lif ∧ s.lif ≤ 65536) (k4 : (x.knd == 4) = false) (h1 : (x.knd != 1) = true) :
    Calls Try.prog 16 #[kv s a c g d, sv x xa xc a2 c2, .int .i64 now] w fun e w' => e = .returned (.tuple #[.agg (kcells { s with due := now + s.lif } a c g d).toArray, .slice none 0 0]) ∧ Hid (Below w.heap.size w w') := by
  have hnow := inB_of hn
  clear hn
  have HB : Hid (∀ X Y Z : Obj, Below w.heap.size w (((w.alloc X).alloc Y).alloc Z)) := fun X Y Z => (((Below.refl _ w).alloc (Nat.le_refl _) X).alloc (by simp) Y).alloc (by simp; omega) Z
  go_enter Try.func16, Try.ntmps16
  go_wp2
  all_goals
    refine bodyPost_ret (v := .tuple #[.agg (kcells { s with due := now + s.lif } a c g d).toArray, .slice none 0 0]) (by simp [results, Try.results16, go_sem]) rfl ⟨rfl, ?_⟩
    first | exact HB.out _ _ _ | exact below_drewN (HB.out _ _ _) _ | exact (HB.out _ _ _).drew
set_option maxRecDepth 20000 in
set_option maxHeartbeats 4000000 in
theorem rtake_o (s : Tk) (a : Option Addr) (c : Nat) (g : Option Addr) (d : Nat) (x : Sg) (xa : Option Addr) (xc : Nat) (a2 : Option Addr) (c2 : Nat) (now : Int) (w : World) (hc : CameK w s a c g d) (hn : inB now 0 1048576 = true) (hl : 1 ≤ s.lif ∧ s.lif ≤ 65536) (k4 : (x.knd == 4) = false) (h1 : (x.knd != 1) = false) (h2 : (s.sta == 4) = true) :
    Calls Try.prog 16 #[kv s a c g d, sv x xa xc a2 c2, .int .i64 now] w fun e w' => e = .returned (.tuple #[.agg (kcells { s with due := now + s.lif } a c g d).toArray, .slice none 0 0]) ∧ Hid (Below w.heap.size w w') := by
  have hnow := inB_of hn
  clear hn
  have HB : Hid (∀ X Y Z : Obj, Below w.heap.size w (((w.alloc X).alloc Y).alloc Z)) := fun X Y Z => (((Below.refl _ w).alloc (Nat.le_refl _) X).alloc (by simp) Y).alloc (by simp; omega) Z
  go_enter Try.func16, Try.ntmps16
  go_wp2
  all_goals
    refine bodyPost_ret (v := .tuple #[.agg (kcells { s with due := now + s.lif } a c g d).toArray, .slice none 0 0]) (by simp [results, Try.results16, go_sem]) rfl ⟨rfl, ?_⟩
    first | exact HB.out _ _ _ | exact below_drewN (HB.out _ _ _) _ | exact (HB.out _ _ _).drew
end Go.Proofs.Ytlhgjhbbiohcnaa
/- The reference's Take, of a cancel. -/
namespace Go.Proofs.Ytlhgjhbbiohcnaa
open Go.RowKit
set_option linter.unusedVariables false
set_option maxRecDepth 20000 in
set_option maxHeartbeats 4000000 in
theorem rtake_4a (s : Tk) (a : Option Addr) (c : Nat) (g : Option Addr) (d : Nat) (x : Sg) (xa : Option Addr) (xc : Nat) (a2 : Option Addr) (c2 : Nat) (now : Int) (w : World) (hc : CameK w s a c g d) (hn : inB now 0 1048576 = true) (hl : 1 ≤ s.lif ∧ s.lif ≤ 65536) (k4 : (x.knd == 4) = true) (h1 : (s.sta == 1) = true) :
    Calls Try.prog 16 #[kv s a c g d, sv x xa xc a2 c2, .int .i64 now] w fun e w' => ∃ v, e = .returned (.tuple #[.agg (kcells { s with due := now + s.lif, sta := 4 } a c g d).toArray, v]) ∧ Hid (Below w.heap.size w w' ∧ Sent w.heap.size w' v [⟨5, s.src, s.ses, 0, 0, 0, 0, 0, 0, 0, false, [], []⟩]) := by
  have hnow := inB_of hn
  clear hn
  go_enter Try.func16, Try.ntmps16
  go_wp2
  have HS : Hid (∀ X Y : Obj, (fun W' => W'.cell? ⟨w.heap.size, 0, none⟩ = some (.int .i64 s.src) ∧ W'.cell? ⟨w.heap.size, 1, none⟩ = some (.int .u32 (s.ses : Nat)) ∧ W'.cell? ⟨w.heap.size, 2, none⟩ = some (.int .i64 s.tot) ∧ W'.cell? ⟨w.heap.size, 3, none⟩ = some (.slice a s.byt.length c) ∧ W'.cell? ⟨w.heap.size, 4, none⟩ = some (.slice g s.got.length d) ∧ W'.cell? ⟨w.heap.size, 5, none⟩ = some (.int .u32 (s.ser : Nat)) ∧ W'.cell? ⟨w.heap.size, 6, none⟩ = some (.int .i64 4) ∧ W'.cell? ⟨w.heap.size, 7, none⟩ = some (.int .i64 s.lif) ∧ W'.cell? ⟨w.heap.size, 8, none⟩ = some (.int .i64 (now + s.lif))) ((w.alloc (.cells #[.int .i64 s.src, .int .u32 (s.ses : Nat), .int .i64 s.tot, .slice a s.byt.length c, .slice g s.got.length d, .int .u32 (s.ser : Nat), .int .i64 4, .int .i64 s.lif, .int .i64 (now + s.lif)] 26)).alloc X |>.alloc Y |>.drew)) := fun X Y => by
    refine kcells_get (s := { s with due := now + s.lif, sta := 4 }) (a := a) (c := c) (g := g) (d := d) (old_block (a := w.alloc (.cells #[.int .i64 s.src, .int .u32 (s.ses : Nat), .int .i64 s.tot, .slice a s.byt.length c, .slice g s.got.length d, .int .u32 (s.ser : Nat), .int .i64 4, .int .i64 s.lif, .int .i64 (now + s.lif)] 26)) ?_ (heap_alloc_new w _))
    exact (((Below.refl _ _).alloc (Nat.le_refl _) X).alloc (by simp) Y).drew
  have HS2 : Hid (∀ X Y Z : Obj, (fun W' => W'.cell? ⟨w.heap.size, 0, none⟩ = some (.int .i64 s.src) ∧ W'.cell? ⟨w.heap.size, 1, none⟩ = some (.int .u32 (s.ses : Nat)) ∧ W'.cell? ⟨w.heap.size, 2, none⟩ = some (.int .i64 s.tot) ∧ W'.cell? ⟨w.heap.size, 3, none⟩ = some (.slice a s.byt.length c) ∧ W'.cell? ⟨w.heap.size, 4, none⟩ = some (.slice g s.got.length d) ∧ W'.cell? ⟨w.heap.size, 5, none⟩ = some (.int .u32 (s.ser : Nat)) ∧ W'.cell? ⟨w.heap.size, 6, none⟩ = some (.int .i64 4) ∧ W'.cell? ⟨w.heap.size, 7, none⟩ = some (.int .i64 s.lif) ∧ W'.cell? ⟨w.heap.size, 8, none⟩ = some (.int .i64 (now + s.lif))) ((w.alloc (.cells #[.int .i64 s.src, .int .u32 (s.ses : Nat), .int .i64 s.tot, .slice a s.byt.length c, .slice g s.got.length d, .int .u32 (s.ser : Nat), .int .i64 4, .int .i64 s.lif, .int .i64 (now + s.lif)] 26)).alloc X |>.alloc Y |>.alloc Z |>.drew)) := fun X Y Z => by
    refine kcells_get (s := { s with due := now + s.lif, sta := 4 }) (a := a) (c := c) (g := g) (d := d) (old_block (a := w.alloc (.cells #[.int .i64 s.src, .int .u32 (s.ses : Nat), .int .i64 s.tot, .slice a s.byt.length c, .slice g s.got.length d, .int .u32 (s.ser : Nat), .int .i64 4, .int .i64 s.lif, .int .i64 (now + s.lif)] 26)) ?_ (heap_alloc_new w _))
    exact ((((Below.refl _ _).alloc (Nat.le_refl _) X).alloc (by simp) Y).alloc (by simp) Z).drew
  have HF : Hid (∀ K X Y : Obj, Below w.heap.size w ((((w.alloc K).alloc X).alloc Y).alloc (sc ⟨5, s.src, s.ses, 0, 0, 0, 0, 0, 0, 0, false, [], []⟩ none 0 none 0)).drew ∧ Sent w.heap.size ((((w.alloc K).alloc X).alloc Y).alloc (sc ⟨5, s.src, s.ses, 0, 0, 0, 0, 0, 0, 0, false, [], []⟩ none 0 none 0)).drew (.slice (some ⟨w.heap.size + 1 + 1 + 1, 0, none⟩) 1 1) [⟨5, s.src, s.ses, 0, 0, 0, 0, 0, 0, 0, false, [], []⟩]) := fun K X Y => by
    refine ⟨(((((Below.refl _ w).alloc (Nat.le_refl _) K).alloc (by simp) X).alloc (by simp; omega) Y).alloc (by simp; omega) _).drew, rfl, _, _, none, 0, rfl, by omega, ?_, rfl, rowC_nil _ _, by simp, by simp, by simp [maxLen], by omega, by simp [maxLen]⟩
    have h := heap_alloc_new (((w.alloc K).alloc X).alloc Y) (sc ⟨5, s.src, s.ses, 0, 0, 0, 0, 0, 0, 0, false, [], []⟩ none 0 none 0)
    rw [show (((w.alloc K).alloc X).alloc Y).heap.size = w.heap.size + 1 + 1 + 1 by simp] at h
    exact sg_range (old_block ((Below.refl _ _).drew) h)
  go_region_held3 (fun W' => W'.cell? ⟨w.heap.size, 0, none⟩ = some (.int .i64 s.src) ∧ W'.cell? ⟨w.heap.size, 1, none⟩ = some (.int .u32 (s.ses : Nat)) ∧ W'.cell? ⟨w.heap.size, 2, none⟩ = some (.int .i64 s.tot) ∧ W'.cell? ⟨w.heap.size, 3, none⟩ = some (.slice a s.byt.length c) ∧ W'.cell? ⟨w.heap.size, 4, none⟩ = some (.slice g s.got.length d) ∧ W'.cell? ⟨w.heap.size, 5, none⟩ = some (.int .u32 (s.ser : Nat)) ∧ W'.cell? ⟨w.heap.size, 6, none⟩ = some (.int .i64 4) ∧ W'.cell? ⟨w.heap.size, 7, none⟩ = some (.int .i64 s.lif) ∧ W'.cell? ⟨w.heap.size, 8, none⟩ = some (.int .i64 (now + s.lif))) (first | exact HS.out _ _ | exact HS2.out _ _ _) (fail)
  all_goals
    clear HS HS2
    go_wp2
    refine bodyPost_ret (v := .tuple #[.agg (kcells { s with due := now + s.lif, sta := 4 } a c g d).toArray, .slice (some ⟨w.heap.size + 1 + 1 + 1, 0, none⟩) 1 1]) (by simp [results, Try.results16, go_sem]) rfl ⟨_, rfl, ?_⟩
    exact HF.out _ _ _
set_option maxRecDepth 20000 in
set_option maxHeartbeats 4000000 in
theorem rtake_4b (s : Tk) (a : Option Addr) (c : Nat) (g : Option Addr) (d : Nat) (x : Sg) (xa : Option Addr) (xc : Nat) (a2 : Option Addr) (c2 : Nat) (now : Int) (w : World) (hc : CameK w s a c g d) (hn : inB now 0 1048576 = true) (hl : 1 ≤ s.lif ∧ s.lif ≤ 65536) (k4 : (x.knd == 4) = true) (h1 : (s.sta == 1) = false) :
    Calls Try.prog 16 #[kv s a c g d, sv x xa xc a2 c2, .int .i64 now] w fun e w' => ∃ v, e = .returned (.tuple #[.agg (kcells { s with due := now + s.lif } a c g d).toArray, v]) ∧ Hid (Below w.heap.size w w' ∧ Sent w.heap.size w' v [⟨5, s.src, s.ses, 0, 0, 0, 0, 0, 0, 0, false, [], []⟩]) := by
  have hnow := inB_of hn
  clear hn
  go_enter Try.func16, Try.ntmps16
  go_wp2
  have HS : Hid (∀ X Y : Obj, (fun W' => W'.cell? ⟨w.heap.size, 0, none⟩ = some (.int .i64 s.src) ∧ W'.cell? ⟨w.heap.size, 1, none⟩ = some (.int .u32 (s.ses : Nat)) ∧ W'.cell? ⟨w.heap.size, 2, none⟩ = some (.int .i64 s.tot) ∧ W'.cell? ⟨w.heap.size, 3, none⟩ = some (.slice a s.byt.length c) ∧ W'.cell? ⟨w.heap.size, 4, none⟩ = some (.slice g s.got.length d) ∧ W'.cell? ⟨w.heap.size, 5, none⟩ = some (.int .u32 (s.ser : Nat)) ∧ W'.cell? ⟨w.heap.size, 6, none⟩ = some (.int .i64 s.sta) ∧ W'.cell? ⟨w.heap.size, 7, none⟩ = some (.int .i64 s.lif) ∧ W'.cell? ⟨w.heap.size, 8, none⟩ = some (.int .i64 (now + s.lif))) ((w.alloc (.cells #[.int .i64 s.src, .int .u32 (s.ses : Nat), .int .i64 s.tot, .slice a s.byt.length c, .slice g s.got.length d, .int .u32 (s.ser : Nat), .int .i64 s.sta, .int .i64 s.lif, .int .i64 (now + s.lif)] 26)).alloc X |>.alloc Y |>.drew)) := fun X Y => by
    refine kcells_get (s := { s with due := now + s.lif }) (a := a) (c := c) (g := g) (d := d) (old_block (a := w.alloc (.cells #[.int .i64 s.src, .int .u32 (s.ses : Nat), .int .i64 s.tot, .slice a s.byt.length c, .slice g s.got.length d, .int .u32 (s.ser : Nat), .int .i64 s.sta, .int .i64 s.lif, .int .i64 (now + s.lif)] 26)) ?_ (heap_alloc_new w _))
    exact (((Below.refl _ _).alloc (Nat.le_refl _) X).alloc (by simp) Y).drew
  have HS2 : Hid (∀ X Y Z : Obj, (fun W' => W'.cell? ⟨w.heap.size, 0, none⟩ = some (.int .i64 s.src) ∧ W'.cell? ⟨w.heap.size, 1, none⟩ = some (.int .u32 (s.ses : Nat)) ∧ W'.cell? ⟨w.heap.size, 2, none⟩ = some (.int .i64 s.tot) ∧ W'.cell? ⟨w.heap.size, 3, none⟩ = some (.slice a s.byt.length c) ∧ W'.cell? ⟨w.heap.size, 4, none⟩ = some (.slice g s.got.length d) ∧ W'.cell? ⟨w.heap.size, 5, none⟩ = some (.int .u32 (s.ser : Nat)) ∧ W'.cell? ⟨w.heap.size, 6, none⟩ = some (.int .i64 s.sta) ∧ W'.cell? ⟨w.heap.size, 7, none⟩ = some (.int .i64 s.lif) ∧ W'.cell? ⟨w.heap.size, 8, none⟩ = some (.int .i64 (now + s.lif))) ((w.alloc (.cells #[.int .i64 s.src, .int .u32 (s.ses : Nat), .int .i64 s.tot, .slice a s.byt.length c, .slice g s.got.length d, .int .u32 (s.ser : Nat), .int .i64 s.sta, .int .i64 s.lif, .int .i64 (now + s.lif)] 26)).alloc X |>.alloc Y |>.alloc Z |>.drew)) := fun X Y Z => by
    refine kcells_get (s := { s with due := now + s.lif }) (a := a) (c := c) (g := g) (d := d) (old_block (a := w.alloc (.cells #[.int .i64 s.src, .int .u32 (s.ses : Nat), .int .i64 s.tot, .slice a s.byt.length c, .slice g s.got.length d, .int .u32 (s.ser : Nat), .int .i64 s.sta, .int .i64 s.lif, .int .i64 (now + s.lif)] 26)) ?_ (heap_alloc_new w _))
    exact ((((Below.refl _ _).alloc (Nat.le_refl _) X).alloc (by simp) Y).alloc (by simp) Z).drew
  have HF : Hid (∀ K X Y : Obj, Below w.heap.size w ((((w.alloc K).alloc X).alloc Y).alloc (sc ⟨5, s.src, s.ses, 0, 0, 0, 0, 0, 0, 0, false, [], []⟩ none 0 none 0)).drew ∧ Sent w.heap.size ((((w.alloc K).alloc X).alloc Y).alloc (sc ⟨5, s.src, s.ses, 0, 0, 0, 0, 0, 0, 0, false, [], []⟩ none 0 none 0)).drew (.slice (some ⟨w.heap.size + 1 + 1 + 1, 0, none⟩) 1 1) [⟨5, s.src, s.ses, 0, 0, 0, 0, 0, 0, 0, false, [], []⟩]) := fun K X Y => by
    refine ⟨(((((Below.refl _ w).alloc (Nat.le_refl _) K).alloc (by simp) X).alloc (by simp; omega) Y).alloc (by simp; omega) _).drew, rfl, _, _, none, 0, rfl, by omega, ?_, rfl, rowC_nil _ _, by simp, by simp, by simp [maxLen], by omega, by simp [maxLen]⟩
    have h := heap_alloc_new (((w.alloc K).alloc X).alloc Y) (sc ⟨5, s.src, s.ses, 0, 0, 0, 0, 0, 0, 0, false, [], []⟩ none 0 none 0)
    rw [show (((w.alloc K).alloc X).alloc Y).heap.size = w.heap.size + 1 + 1 + 1 by simp] at h
    exact sg_range (old_block ((Below.refl _ _).drew) h)
  go_region_held3 (fun W' => W'.cell? ⟨w.heap.size, 0, none⟩ = some (.int .i64 s.src) ∧ W'.cell? ⟨w.heap.size, 1, none⟩ = some (.int .u32 (s.ses : Nat)) ∧ W'.cell? ⟨w.heap.size, 2, none⟩ = some (.int .i64 s.tot) ∧ W'.cell? ⟨w.heap.size, 3, none⟩ = some (.slice a s.byt.length c) ∧ W'.cell? ⟨w.heap.size, 4, none⟩ = some (.slice g s.got.length d) ∧ W'.cell? ⟨w.heap.size, 5, none⟩ = some (.int .u32 (s.ser : Nat)) ∧ W'.cell? ⟨w.heap.size, 6, none⟩ = some (.int .i64 s.sta) ∧ W'.cell? ⟨w.heap.size, 7, none⟩ = some (.int .i64 s.lif) ∧ W'.cell? ⟨w.heap.size, 8, none⟩ = some (.int .i64 (now + s.lif))) (first | exact HS.out _ _ | exact HS2.out _ _ _) (fail)
  all_goals
    clear HS HS2
    go_wp2
    refine bodyPost_ret (v := .tuple #[.agg (kcells { s with due := now + s.lif } a c g d).toArray, .slice (some ⟨w.heap.size + 1 + 1 + 1, 0, none⟩) 1 1]) (by simp [results, Try.results16, go_sem]) rfl ⟨_, rfl, ?_⟩
    exact HF.out _ _ _
end Go.Proofs.Ytlhgjhbbiohcnaa
/- The reference's Take of whatever segment goes with a session. -/
namespace Go.Proofs.Ytlhgjhbbiohcnaa
open Go.RowKit
set_option linter.unusedVariables false
/-- how the reference's answer lies. -/
def RAns (w w' : World) (e : Ending) (r : Tk × List Sg) : Prop :=
  ∃ a c g d v, e = .returned (.tuple #[.agg (kcells r.1 a c g d).toArray, v]) ∧ Below w.heap.size w w' ∧ Row w' a r.1.byt ∧ RowC w' g r.1.got ∧ r.1.got.length ≤ 140737488351232 ∧ Sent w.heap.size w' v r.2
theorem rans_own {w w' : World} {s t : Tk} {a : Option Addr} {c : Nat} {g : Option Addr} {d : Nat} {e : Ending} {v : Value} {l : List Sg} (hc : CameK w s a c g d) (h1 : t.byt = s.byt) (h2 : t.got = s.got) (he : e = .returned (.tuple #[.agg (kcells t a c g d).toArray, v])) (hb : Below w.heap.size w w') (hs : Sent w.heap.size w' v l) : RAns w w' e (t, l) :=
  ⟨a, c, g, d, v, he, hb, by rw [h1]; exact hc.byt.later hb, by rw [h2]; exact hc.got.later hb, by rw [h2]; exact hc.zg, hs⟩
theorem rtake_any (s : Tk) (a : Option Addr) (c : Nat) (g : Option Addr) (d : Nat) (x : Sg) (xa : Option Addr) (xc : Nat) (a2 : Option Addr) (c2 : Nat) (now : Int) (w : World) (hc : CameK w s a c g d) (hx : Came w x xa xc a2 c2) (hok : okK s = true) (hox : okS x = true) (hn : inB now 0 1048576 = true) :
    Calls Try.prog 16 #[kv s a c g d, sv x xa xc a2 c2, .int .i64 now] w fun e w' => RAns w w' e (tkK s x now) := by
  have hl := (smallK hok).2.2.2.1
  cases k4 : (x.knd == 4) with
  | true =>
    rw [tkK_4 (by simpa using k4)]
    cases h1 : (s.sta == 1) with
    | true =>
      rw [if_pos (by simpa using h1)]
      refine (rtake_4a s a c g d x xa xc a2 c2 now w hc hn hl k4 h1).mono ?_
      rintro e w' ⟨v, rfl, hq⟩
      exact rans_own hc rfl rfl rfl hq.out.1 hq.out.2
    | false =>
      rw [if_neg (by simpa using h1)]
      refine (rtake_4b s a c g d x xa xc a2 c2 now w hc hn hl k4 h1).mono ?_
      rintro e w' ⟨v, rfl, hq⟩
      exact rans_own hc rfl rfl rfl hq.out.1 hq.out.2
  | false =>
    cases k1 : (x.knd != 1) with
    | true =>
      rw [tkK_0 (by simpa using k1) (by simpa using k4)]
      refine (rtake_0 s a c g d x xa xc a2 c2 now w hc hn hl k4 k1).mono ?_
      rintro e w' ⟨rfl, hq⟩
      exact rans_own hc rfl rfl rfl hq.out rfl
    | false =>
      have e1 : x.knd = 1 := by simpa using k1
      rw [tkK_1 e1]
      cases h4 : (s.sta == 4) with
      | true =>
        have : datK { s with due := now + s.lif } x = ({ s with due := now + s.lif }, []) := by
          unfold datK
          rw [if_pos (show ({ s with due := now + s.lif } : Tk).sta = 4 by simpa using h4)]
        rw [this]
        refine (rtake_o s a c g d x xa xc a2 c2 now w hc hn hl k4 k1 h4).mono ?_
        rintro e w' ⟨rfl, hq⟩
        exact rans_own hc rfl rfl rfl hq.out rfl
      | false =>
        have hd : dataS x = true := by
          obtain ⟨_, _, hf, _⟩ := okS_parts hox
          rcases kinds hf with ⟨_, h⟩ | ⟨h, _⟩ | ⟨h, _⟩ | ⟨h, _⟩ | h
          · exact h
          all_goals omega
        have h4' : ¬ ({ s with due := now + s.lif } : Tk).sta = 4 := by simpa using h4
        cases hp : (rpK { s with due := now + s.lif } x).2 with
        | false =>
          have : datK { s with due := now + s.lif } x = (goneK { s with due := now + s.lif }, [⟨6, s.src, s.ses, 0, 0, 0, 0, 0, 0, 3, false, [], []⟩]) := by
            unfold datK
            rw [if_neg h4']
            by_cases ht : x.tot = ({ s with due := now + s.lif } : Tk).tot
            · rw [if_neg (by simpa using ht)]
              unfold rpK rputK at hp
              rw [if_pos ht] at hp
              split at hp
              · rename_i h; rw [if_pos h]
              · cases hp
            · rw [if_pos ht]
          rw [this]
          refine (rtake_n s a c g d x xa xc a2 c2 now w hc hx hok hd hn k4 k1 h4 hp).mono ?_
          rintro e w' ⟨a', c', v, rfl, hq⟩
          exact ⟨a', c', none, 0, v, rfl, hq.out.1, hq.out.2.1, rowC_nil _ _, by simp [goneK], hq.out.2.2⟩
        | true =>
          have ht : x.tot = ({ s with due := now + s.lif } : Tk).tot ∧ ¬ difK { s with due := now + s.lif } x = true := by
            unfold rpK rputK at hp
            split at hp
            · rename_i h1
              split at hp
              · cases hp
              · rename_i h2; exact ⟨h1, h2⟩
            · cases hp
          have hdat : datK { s with due := now + s.lif } x = if x.chk = true then (serK (putK { s with due := now + s.lif } x), [repK (putK { s with due := now + s.lif } x) x.ser]) else (putK { s with due := now + s.lif } x, []) := by
            unfold datK
            rw [if_neg h4', if_neg (by simpa using ht.1), if_neg ht.2]
          rw [hdat]
          cases hk : x.chk with
          | false =>
            rw [if_neg (by simp)]
            refine (rtake_d s a c g d x xa xc a2 c2 now w hc hx hok hd hn k4 k1 h4 hp hk).mono ?_
            rintro e w' ⟨a', c', g', d', rfl, hq⟩
            exact ⟨a', c', g', d', _, rfl, hq.out.1, hq.out.2.byt, hq.out.2.got, hq.out.2.zg, rfl⟩
          | true =>
            rw [if_pos rfl]
            unfold putK
            cases hw : wholeK (putG { s with due := now + s.lif } x) with
            | false =>
              rw [if_neg (by simp)]
              by_cases hs : s.ser = 4294967295
              · refine (rtake_c01 s a c g d x xa xc a2 c2 now w hc hx hok hd hn k4 k1 h4 hp hk hw hs).mono ?_
                rintro e w' ⟨a', c', g', d', v, rfl, hq⟩
                exact ⟨a', c', g', d', v, rfl, hq.out.1, hq.out.2.1.byt, hq.out.2.1.got, hq.out.2.1.zg, hq.out.2.2⟩
              · refine (rtake_c00 s a c g d x xa xc a2 c2 now w hc hx hok hd hn k4 k1 h4 hp hk hw hs).mono ?_
                rintro e w' ⟨a', c', g', d', v, rfl, hq⟩
                exact ⟨a', c', g', d', v, rfl, hq.out.1, hq.out.2.1.byt, hq.out.2.1.got, hq.out.2.1.zg, hq.out.2.2⟩
            | true =>
              rw [if_pos rfl]
              by_cases hs : s.ser = 4294967295
              · refine (rtake_c11 s a c g d x xa xc a2 c2 now w hc hx hok hd hn k4 k1 h4 hp hk hw hs).mono ?_
                rintro e w' ⟨a', c', g', d', v, rfl, hq⟩
                exact ⟨a', c', g', d', v, rfl, hq.out.1, hq.out.2.1.byt, hq.out.2.1.got, hq.out.2.1.zg, hq.out.2.2⟩
              · refine (rtake_c10 s a c g d x xa xc a2 c2 now w hc hx hok hd hn k4 k1 h4 hp hk hw hs).mono ?_
                rintro e w' ⟨a', c', g', d', v, rfl, hq⟩
                exact ⟨a', c', g', d', v, rfl, hq.out.1, hq.out.2.1.byt, hq.out.2.1.got, hq.out.2.1.zg, hq.out.2.2⟩
end Go.Proofs.Ytlhgjhbbiohcnaa
