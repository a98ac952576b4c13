/- The walk of CborMakes. -/
import Derived.Test.YthjemjclpjmomaaDoorCTwo
import Derived.Test.YthjemjclpjmomaaDoorR07Same
namespace Go.Proofs.YthjemjclpjmomaaDoor
open Go.RowKit
set_option linter.unusedVariables false

theorem lit_items {w : World} {n h : Nat} (X : List IX) (he : w.heap.size = h) (hX : ∀ y ∈ X, Lie (fun _ => False) w n y.a1 y.x y.a2 ∧ (bs y.x).length ≤ y.c1) (hm : X.length ≤ 100) : LieL (fun _ => False) (w.alloc (.cells (icells X).toArray 28)) n (some ⟨h, 0, none⟩) (X.map IX.x) := by
  subst he
  have := World.ownsRow_lit (base := w.heap.size) (e := 28) (size := 4) w (icells X).toArray X.length (Nat.le_refl _) (by unfold maxLen; omega) (by simp [icells_length])
  exact (own_items this (fun y hy => ⟨(hX y hy).1.later ((Below.refl _ w).alloc (Nat.le_refl _) _), (hX y hy).2⟩) (by omega) (fun _ _ => id)).1
theorem box4 {w : World} {b : Nat} {x : T} {a1 a2 : Option Addr} {c1 c2 : Nat} (h : w.heap[b]? = some (ic x a1 c1 a2 c2)) : w.cell? ⟨b, 0, none⟩ = some (.int .i64 (kd x)) ∧ w.cell? ⟨b, 1, none⟩ = some (.int .u64 (nm x : Nat)) ∧ w.cell? ⟨b, 2, none⟩ = some (.slice a1 (bs x).length c1) ∧ w.cell? ⟨b, 3, none⟩ = some (.slice a2 (its x).length c2) :=
  ⟨by rw [cell_of h 0]; rfl, by rw [cell_of h 1]; rfl, by rw [cell_of h 2]; rfl, by rw [cell_of h 3]; rfl⟩
theorem same_self (m : Nat) (x : T) : sameT m x x = true := (same_iff m x x).2 rfl
theorem alloc2 {w : World} (X Y : Obj) : ((w.alloc X).alloc Y).heap[w.heap.size]? = (w.alloc X).heap[w.heap.size]? := Below.heap_alloc _ _ _ (by simp)
theorem three_lie {w : World} {X Y Z : T} {ay : Option Addr} {cy : Nat} {z1 : Option Addr} {zc1 : Nat} {z2 : Option Addr} {zc2 m h : Nat} (he : w.heap.size = h) (hX : Lie (fun _ => False) w m none X none ∧ (bs X).length ≤ 0) (hY : Lie (fun _ => False) w m ay Y none ∧ (bs Y).length ≤ cy) (hZ : Lie (fun _ => False) w m z1 Z z2 ∧ (bs Z).length ≤ zc1) :
    LieL (fun _ => False) (w.alloc (.cells #[.int .i64 (kd X), .int .u64 (nm X : Nat), .slice none (bs X).length 0, .slice none (its X).length 0, .int .i64 (kd Y), .int .u64 (nm Y : Nat), .slice ay (bs Y).length cy, .slice none (its Y).length 0, .int .i64 (kd Z), .int .u64 (nm Z : Nat), .slice z1 (bs Z).length zc1, .slice z2 (its Z).length zc2] 28)) m (some ⟨h, 0, none⟩) [X, Y, Z] :=
  lit_items [⟨X, none, 0, none, 0⟩, ⟨Y, ay, cy, none, 0⟩, ⟨Z, z1, zc1, z2, zc2⟩] he (fun y hy => by
    rcases List.mem_cons.1 hy with rfl | hy
    · exact hX
    rcases List.mem_cons.1 hy with rfl | hy
    · exact hY
    rcases List.mem_cons.1 hy with rfl | hy
    · exact hZ
    cases hy) (by simp)
theorem four_lie {w : World} {X Y Z V : T} {ay : Option Addr} {cy : Nat} {z1 : Option Addr} {zc1 : Nat} {z2 : Option Addr} {zc2 m h : Nat} {v2 : Option Addr} {vc2 : Nat} (he : w.heap.size = h) (hX : Lie (fun _ => False) w m none X none ∧ (bs X).length ≤ 0) (hY : Lie (fun _ => False) w m ay Y none ∧ (bs Y).length ≤ cy) (hZ : Lie (fun _ => False) w m z1 Z z2 ∧ (bs Z).length ≤ zc1) (hV : Lie (fun _ => False) w m none V v2 ∧ (bs V).length ≤ 0) :
    LieL (fun _ => False) (w.alloc (.cells #[.int .i64 (kd X), .int .u64 (nm X : Nat), .slice none (bs X).length 0, .slice none (its X).length 0, .int .i64 (kd Y), .int .u64 (nm Y : Nat), .slice ay (bs Y).length cy, .slice none (its Y).length 0, .int .i64 (kd Z), .int .u64 (nm Z : Nat), .slice z1 (bs Z).length zc1, .slice z2 (its Z).length zc2, .int .i64 (kd V), .int .u64 (nm V : Nat), .slice none (bs V).length 0, .slice v2 (its V).length vc2] 28)) m (some ⟨h, 0, none⟩) [X, Y, Z, V] :=
  lit_items [⟨X, none, 0, none, 0⟩, ⟨Y, ay, cy, none, 0⟩, ⟨Z, z1, zc1, z2, zc2⟩, ⟨V, none, 0, v2, vc2⟩] he (fun y hy => by
    rcases List.mem_cons.1 hy with rfl | hy
    · exact hX
    rcases List.mem_cons.1 hy with rfl | hy
    · exact hY
    rcases List.mem_cons.1 hy with rfl | hy
    · exact hZ
    rcases List.mem_cons.1 hy with rfl | hy
    · exact hV
    cases hy) (by simp)
/-- the four boxes. -/
structure Bx (w : World) (p7 p9 p10 : Nat) (X Y Z V : T) (ay : Option Addr) (cy : Nat) (z1 : Option Addr) (zc1 : Nat) (z2 : Option Addr) (zc2 : Nat) (v2 : Option Addr) (vc2 : Nat) : Prop where
  x : w.heap[p7]? = some (ic X none 0 none 0)
  y : w.heap[p7 + 1]? = some (ic Y ay cy none 0)
  z : w.heap[p9]? = some (ic Z z1 zc1 z2 zc2)
  v : w.heap[p10]? = some (ic V none 0 v2 vc2)
  lx : Lie (fun _ => False) w 9 none X none ∧ (bs X).length ≤ 0
  ly : Lie (fun _ => False) w 9 ay Y none ∧ (bs Y).length ≤ cy
  lz : Lie (fun _ => False) w 9 z1 Z z2 ∧ (bs Z).length ≤ zc1
  lv : Lie (fun _ => False) w 10 none V v2 ∧ (bs V).length ≤ 0
theorem Bx.later {w w' : World} {p7 p9 p10 : Nat} {X Y Z V : T} {ay : Option Addr} {cy : Nat} {z1 : Option Addr} {zc1 : Nat} {z2 : Option Addr} {zc2 : Nat} {v2 : Option Addr} {vc2 : Nat} (h : Bx w p7 p9 p10 X Y Z V ay cy z1 zc1 z2 zc2 v2 vc2) (hb : Below w.heap.size w w') : Bx w' p7 p9 p10 X Y Z V ay cy z1 zc1 z2 zc2 v2 vc2 :=
  ⟨old_block hb h.x, old_block hb h.y, old_block hb h.z, old_block hb h.v, ⟨h.lx.1.later hb, h.lx.2⟩, ⟨h.ly.1.later hb, h.ly.2⟩, ⟨h.lz.1.later hb, h.lz.2⟩, ⟨h.lv.1.later hb, h.lv.2⟩⟩
theorem Bx.four {w : World} {p7 p9 p10 h : Nat} {X Y Z V : T} {ay : Option Addr} {cy : Nat} {z1 : Option Addr} {zc1 : Nat} {z2 : Option Addr} {zc2 : Nat} {v2 : Option Addr} {vc2 : Nat} (hB : Bx w p7 p9 p10 X Y Z V ay cy z1 zc1 z2 zc2 v2 vc2) (he : w.heap.size = h) :
    LieL (fun _ => False) (w.alloc (.cells #[.int .i64 (kd X), .int .u64 (nm X : Nat), .slice none (bs X).length 0, .slice none (its X).length 0, .int .i64 (kd Y), .int .u64 (nm Y : Nat), .slice ay (bs Y).length cy, .slice none (its Y).length 0, .int .i64 (kd Z), .int .u64 (nm Z : Nat), .slice z1 (bs Z).length zc1, .slice z2 (its Z).length zc2, .int .i64 (kd V), .int .u64 (nm V : Nat), .slice none (bs V).length 0, .slice v2 (its V).length vc2] 28)) 10 (some ⟨h, 0, none⟩) [X, Y, Z, V] :=
  four_lie he ⟨hB.lx.1.le (by omega), hB.lx.2⟩ ⟨hB.ly.1.le (by omega), hB.ly.2⟩ ⟨hB.lz.1.le (by omega), hB.lz.2⟩ hB.lv
set_option maxRecDepth 20000 in
set_option maxHeartbeats 8000000 in
theorem makes_any (V : List Nat → Bool) (TB : World → Prop) (hT : Txt V TB) (w : World) (n : Nat) (b : Option Addr) (d : Nat) (l : List Nat) (a : Option Addr) (c : Nat) (L : List FT) (hw : TB w) (h1 : 1 < w.heap.size) (hn : n < 18446744073709551616) (hr : Row w b l) (hz : l.length ≤ 140737488351232) (hL : FlatsAt w a L) :
    Calls Tryd.prog 4 #[.int .u64 n, .slice b l.length d, .slice a L.length c] w fun e w' => e = .returned (.bool true) ∧ Hid (Below w.heap.size w w') := by
  have HWK := wakes_any V TB hT w hw h1
  by_cases hbig : 50000 < l.length
  · clear hr hL
    go_enter Tryd.func4, Tryd.ntmps4
    go_wp2_with (go_at_call 7; refine HWK.mono ?_; rintro e w1 ⟨rfl, hb1⟩)
    go_ret
    exact ⟨rfl, hb1.out⟩
  have HR : Hid (Row w b l) := hr
  have HNUM : Hid (∀ w1, Calls Tryd.prog 15 #[.int .u64 n] w1 fun e w' => e = .returned (iv (mkI 1 n [] []) none 0 none 0) ∧ Hid (Below w1.heap.size w1 w')) := fun w1 => number_made w1 n hn
  have HBYT : Hid (∀ w1, Below w.heap.size w w1 → Calls Tryd.prog 16 #[.slice b l.length d] w1 fun e w' => ∃ a' c', e = .returned (iv (mkI 2 0 l []) a' c' none 0) ∧ Hid (Lie (fun _ => False) w' 9 a' (mkI 2 0 l []) none ∧ (bs (mkI 2 0 l [])).length ≤ c' ∧ Below w1.heap.size w1 w')) := fun w1 hb => (bytes_made w1 b d l (HR.out.later hb) hz).mono fun e w' ⟨a', c', he, hq⟩ => ⟨a', c', he, Lie.apart (fun _ _ h => h.elim) _ (hq.out.1.le (by omega)), hq.out.2.1, hq.out.2.2⟩
  have HBU : Hid (∀ w1, Below w.heap.size w w1 → Calls Tryd.prog 8 #[.slice a L.length c] w1 fun e w' => ∃ a1 c1 a2 c2, e = .returned (iv (bltS L) a1 c1 a2 c2) ∧ Hid (Lie (fun _ => False) w' 9 a1 (bltS L) a2 ∧ (bs (bltS L)).length ≤ c1 ∧ Below w1.heap.size w1 w')) := fun w1 hb => built_is w1 a c L (hL.later hb)
  have HLX : Hid (∀ w1, Lie (fun _ => False) w1 9 none (mkI 1 n [] []) none ∧ (bs (mkI 1 n [] [])).length ≤ 0) := fun w1 => ⟨Lie.flat 1 n [] 8 none hn (by omega) (by simp) (row_nil _ _) (fun h => absurd h (by simp)), Nat.le_refl _⟩
  have HS1 : Hid (∀ w1, Calls Tryd.prog 18 #[iv (mkI 1 n [] []) none 0 none 0, .agg #[.int .i64 1, .int .u64 n, .slice none 0 0, .slice none 0 0]] w1 fun e w' => e = .returned (.bool true) ∧ Hid (Below w1.heap.size w1 w')) := fun w1 => by
    have := rsame07_any 9 (fun _ => False) (fun _ => False) w1 (mkI 1 n [] []) (mkI 1 n [] []) none none none none 0 0 0 0 (HLX.out w1).1 (HLX.out w1).1
    rw [same_self] at this
    exact this
  have HS2 : Hid (∀ w1 a' c', Lie (fun _ => False) w1 9 a' (mkI 2 0 l []) none → Row w1 b l → Calls Tryd.prog 18 #[iv (mkI 2 0 l []) a' c' none 0, .agg #[.int .i64 2, .int .u64 0, .slice b l.length d, .slice none 0 0]] w1 fun e w' => e = .returned (.bool true) ∧ Hid (Below w1.heap.size w1 w')) := fun w1 a' c' hy hr => by
    have := rsame07_any 9 (fun _ => False) (fun _ => False) w1 (mkI 2 0 l []) (mkI 2 0 l []) a' none b none c' 0 d 0 hy (Lie.flat 2 0 l 8 none (by omega) (by omega) hz hr (fun _ _ _ => id))
    rw [same_self] at this
    exact this
  generalize mkI 1 n [] [] = X at HNUM HLX HS1
  generalize mkI 2 0 l [] = Y at HBYT HS2
  generalize bltS L = Z at HBU
  have HLST : Hid (∀ w1 a c, LieL (fun _ => False) w1 9 a [X, Y, Z] → Calls Tryd.prog 17 #[.slice a 3 c] w1 fun e w' => ∃ a' c', e = .returned (iv (mkI 4 0 [] [X, Y, Z]) none 0 a' c') ∧ Hid (Lie (fun _ => False) w' 10 none (mkI 4 0 [] [X, Y, Z]) a' ∧ Below w1.heap.size w1 w')) := fun w1 a c h => (list_made 9 _ w1 a c [X, Y, Z] h).mono fun e w' ⟨a', c', he, hq⟩ => ⟨a', c', he, Lie.apart (fun _ _ h => h.elim) _ hq.out.1, hq.out.2⟩
  have HS3 : Hid (∀ w1 a' c' a2, Lie (fun _ => False) w1 10 none (mkI 4 0 [] [X, Y, Z]) a' → LieL (fun _ => False) w1 9 a2 [X, Y, Z] → Calls Tryd.prog 18 #[iv (mkI 4 0 [] [X, Y, Z]) none 0 a' c', .agg #[.int .i64 4, .int .u64 0, .slice none 0 0, .slice a2 3 3]] w1 fun e w' => e = .returned (.bool true) ∧ Hid (Below w1.heap.size w1 w')) := fun w1 a' c' a2 hv hl => by
    have := rsame07_any 10 (fun _ => False) (fun _ => False) w1 (mkI 4 0 [] [X, Y, Z]) (mkI 4 0 [] [X, Y, Z]) none a' none a2 0 c' 0 3 hv ⟨⟨by simp [nm_mk], by simp [kd_mk], by simp [kd_mk], by simp [bs_mk]⟩, row_nil _ _, fun h => absurd h (by simp [bs_mk]), hl⟩
    rw [same_self] at this
    exact this
  have HLV : Hid ((bs (mkI 4 0 [] [X, Y, Z])).length ≤ 0) := Nat.le_refl _
  generalize mkI 4 0 [] [X, Y, Z] = V4 at HLST HS3 HLV
  have HPQ : Hid (∀ w1 p q p1 p2 q1 q2 r1 r2 s1 s2, Lie (fun _ => False) w1 10 p1 p p2 → Lie (fun _ => False) w1 10 q1 q q2 → Calls Tryd.prog 10 #[iv p p1 r1 p2 r2, iv q q1 s1 q2 s2] w1 fun e w' => e = .returned (.bool (sameT 10 p q)) ∧ Hid (Below w1.heap.size w1 w')) := fun w1 p q p1 p2 q1 q2 r1 r2 s1 s2 hp hq => same_any 10 _ _ w1 p q p1 p2 q1 q2 r1 r2 s1 s2 hp hq
  have HPR : Hid (∀ w1 p q p1 p2 q1 q2 r1 r2 s1 s2, Lie (fun _ => False) w1 10 p1 p p2 → Lie (fun _ => False) w1 10 q1 q q2 → Calls Tryd.prog 18 #[iv p p1 r1 p2 r2, iv q q1 s1 q2 s2] w1 fun e w' => e = .returned (.bool (sameT 10 p q)) ∧ Hid (Below w1.heap.size w1 w')) := fun w1 p q p1 p2 q1 q2 r1 r2 s1 s2 hp hq => rsame07_any 10 _ _ w1 p q p1 p2 q1 q2 r1 r2 s1 s2 hp hq
  have HBA : Hid (∀ (w : World) X, Below w.heap.size w (w.alloc X)) := fun w X => (Below.refl _ w).alloc (Nat.le_refl _) X
  clear hr hL hT
  go_enter Tryd.func4, Tryd.ntmps4
  go_wp2_with (first
    | (go_at_call 7; refine HWK.mono ?_; rintro e w1 ⟨rfl, hb1⟩)
    | (go_at_call 15; refine (HNUM.out _).mono ?_; rintro e w2 ⟨rfl, hq2⟩)
    | (go_at_call 16; refine (HBYT.out _ (below_of hb1.out hq2.out)).mono ?_; rintro e w3 ⟨ay, cy, rfl, hq3⟩))
  obtain ⟨W3, hW3⟩ : ∃ W3, (w3.alloc (ic X none 0 none 0)).alloc (ic Y ay cy none 0) = W3 := ⟨_, rfl⟩
  have HB3 : Hid (Below w3.heap.size w3 W3) := by show Below _ _ _; rw [← hW3]; exact ((Below.refl _ w3).alloc (Nat.le_refl _) _).alloc (by simp) _
  have HX3 : Hid (W3.heap[w3.heap.size]? = some (ic X none 0 none 0)) := by show _ = _; rw [← hW3, Below.heap_alloc _ _ _ (by simp)]; exact heap_alloc_new _ _
  have HY3 : Hid (W3.heap[w3.heap.size + 1]? = some (ic Y ay cy none 0)) := by
    show _ = _
    rw [← hW3]
    have := heap_alloc_new (w3.alloc (ic X none 0 none 0)) (ic Y ay cy none 0)
    simpa using this
  rw [hW3]
  clear hW3
  have HW3 : Hid (Below w.heap.size w W3) := below_of (below_of (below_of hb1.out hq2.out) hq3.out.2.2) HB3.out
  refine (HBU.out W3 HW3.out).mono ?_
  rintro e w4 ⟨z1, zc1, z2, zc2, rfl, hq4⟩
  have HX4 : Hid (∀ O, (w4.alloc O).heap[w3.heap.size]? = some (ic X none 0 none 0)) := fun O => old_block (HBA.out w4 O) (old_block hq4.out.2.2 HX3.out)
  have HY4 : Hid (∀ O, (w4.alloc O).heap[w3.heap.size + 1]? = some (ic Y ay cy none 0)) := fun O => old_block (HBA.out w4 O) (old_block hq4.out.2.2 HY3.out)
  have x0 := fun O => (box4 (HX4.out O)).1
  have x1 := fun O => (box4 (HX4.out O)).2.1
  have x2 := fun O => (box4 (HX4.out O)).2.2.1
  have x3 := fun O => (box4 (HX4.out O)).2.2.2
  have y0 := fun O => (box4 (HY4.out O)).1
  have y1 := fun O => (box4 (HY4.out O)).2.1
  have y2 := fun O => (box4 (HY4.out O)).2.2.1
  have y3 := fun O => (box4 (HY4.out O)).2.2.2
  go_wp2_with fail
  refine (HLST.out _ _ _ (three_lie (by simp) (HLX.out _) ⟨((hq3.out.1.later HB3.out).later hq4.out.2.2).later (HBA.out w4 _), hq3.out.2.1⟩ ⟨hq4.out.1.later (HBA.out w4 _), hq4.out.2.1⟩)).mono ?_
  rintro e w5 ⟨v2, vc2, rfl, hq5⟩
  have HC5 : Hid (Below (w4.alloc (ic Z z1 zc1 z2 zc2)).heap.size (w4.alloc (ic Z z1 zc1 z2 zc2)) w5) := below_of (HBA.out _ _) hq5.out.2
  have HBX5 : Hid (Bx (w5.alloc (ic V4 none 0 v2 vc2)) w3.heap.size w4.heap.size w5.heap.size X Y Z V4 ay cy z1 zc1 z2 zc2 v2 vc2) := by
    have h5 := below_of HC5.out (HBA.out w5 (ic V4 none 0 v2 vc2))
    exact ⟨old_block h5 (HX4.out _), old_block h5 (HY4.out _), old_block h5 (heap_alloc_new w4 _), heap_alloc_new w5 _, HLX.out _, ⟨((hq3.out.1.later HB3.out).later hq4.out.2.2).later (below_of (HBA.out w4 _) h5), hq3.out.2.1⟩, ⟨hq4.out.1.later (below_of (HBA.out w4 _) h5), hq4.out.2.1⟩, ⟨hq5.out.1.later (HBA.out w5 _), HLV.out⟩⟩
  have HW5 : Hid (Below w.heap.size w (w5.alloc (ic V4 none 0 v2 vc2))) := below_of (below_of (below_of HW3.out hq4.out.2.2) (HBA.out w4 _)) (below_of HC5.out (HBA.out w5 _))
  clear x0 x1 x2 x3 y0 y1 y2 y3 HX4 HY4 hq5 hq4 HC5 HX3 HY3 HB3 HW3 hq3 HLST HBU HBYT HNUM HWK hb1 hq2
  generalize w3.heap.size = P7 at HBX5 ⊢
  generalize w4.heap.size = P9 at HBX5 ⊢
  obtain ⟨P10, hP10⟩ : ∃ P10, w5.heap.size = P10 := ⟨_, rfl⟩
  rw [hP10] at HBX5
  obtain ⟨x0, x1, x2, x3⟩ := box4 HBX5.out.x
  go_wp2_with fail
  clear x0 x1 x2 x3
  refine (HS1.out _).mono ?_
  rintro e w6 ⟨rfl, hq6⟩
  have HBX6 : Hid (Bx w6 P7 P9 P10 X Y Z V4 ay cy z1 zc1 z2 zc2 v2 vc2) := HBX5.out.later hq6.out
  have HW6 : Hid (Below w.heap.size w w6) := below_of HW5.out hq6.out
  clear HBX5 HW5 hq6 hP10
  obtain ⟨y0, y1, y2, y3⟩ := box4 HBX6.out.y
  go_wp2_with fail
  clear y0 y1 y2 y3
  refine (HS2.out _ _ _ HBX6.out.ly.1 (HR.out.later HW6.out)).mono ?_
  rintro e w7 ⟨rfl, hq7⟩
  have HBX7 : Hid (Bx w7 P7 P9 P10 X Y Z V4 ay cy z1 zc1 z2 zc2 v2 vc2) := HBX6.out.later hq7.out
  have HW7 : Hid (Below w.heap.size w w7) := below_of HW6.out hq7.out
  clear HBX6 HW6 hq7
  obtain ⟨x0, x1, x2, x3⟩ := box4 HBX7.out.x
  obtain ⟨y0, y1, y2, y3⟩ := box4 HBX7.out.y
  obtain ⟨z0, z1', z2', z3⟩ := box4 HBX7.out.z
  obtain ⟨v0, v1, v2', v3⟩ := box4 HBX7.out.v
  go_wp2_with fail
  clear x0 x1 x2 x3 y0 y1 y2 y3 z0 z1' z2' z3 v0 v1 v2' v3
  refine (HS3.out _ _ _ _ (HBX7.out.lv.1.later (HBA.out w7 _)) (three_lie rfl HBX7.out.lx HBX7.out.ly HBX7.out.lz)).mono ?_
  rintro e w8 ⟨rfl, hq8⟩
  have HBX8 : Hid (Bx w8 P7 P9 P10 X Y Z V4 ay cy z1 zc1 z2 zc2 v2 vc2) := HBX7.out.later (below_of (HBA.out w7 _) hq8.out)
  have HW8 : Hid (Below w.heap.size w w8) := below_of HW7.out (below_of (HBA.out w7 _) hq8.out)
  clear HBX7 HW7 hq8 HS1 HS2 HS3
  obtain ⟨x0, x1, x2, x3⟩ := box4 HBX8.out.x
  obtain ⟨y0, y1, y2, y3⟩ := box4 HBX8.out.y
  obtain ⟨z0, z1', z2', z3⟩ := box4 HBX8.out.z
  obtain ⟨v0, v1, v2', v3⟩ := box4 HBX8.out.v
  go_wp2
  clear x0 x1 x2 x3 y0 y1 y2 y3 z0 z1' z2' z3 v0 v1 v2' v3
  have HI9 : Hid _ := HBX8.out.four (h := w8.heap.size) rfl
  have HB9 : Hid _ := HBA.out w8 (.cells #[.int .i64 (kd X), .int .u64 (nm X : Nat), .slice none (bs X).length 0, .slice none (its X).length 0, .int .i64 (kd Y), .int .u64 (nm Y : Nat), .slice ay (bs Y).length cy, .slice none (its Y).length 0, .int .i64 (kd Z), .int .u64 (nm Z : Nat), .slice z1 (bs Z).length zc1, .slice z2 (its Z).length zc2, .int .i64 (kd V4), .int .u64 (nm V4 : Nat), .slice none (bs V4).length 0, .slice v2 (its V4).length vc2] 28)
  have HBX9 : Hid _ := HBX8.out.later HB9.out
  have HW9 : Hid _ := below_of HW8.out HB9.out
  generalize (w8.alloc (.cells #[.int .i64 (kd X), .int .u64 (nm X : Nat), .slice none (bs X).length 0, .slice none (its X).length 0, .int .i64 (kd Y), .int .u64 (nm Y : Nat), .slice ay (bs Y).length cy, .slice none (its Y).length 0, .int .i64 (kd Z), .int .u64 (nm Z : Nat), .slice z1 (bs Z).length zc1, .slice z2 (its Z).length zc2, .int .i64 (kd V4), .int .u64 (nm V4 : Nat), .slice none (bs V4).length 0, .slice v2 (its V4).length vc2] 28)) = W9 at HI9 HB9 HBX9 HW9 ⊢
  clear HB9 HBX8 HW8
  generalize w8.heap.size = P8 at HI9 ⊢
  go_loopw [59] (fun i wr => ∃ k : Nat, k ≤ 4 ∧ i = .int .i64 k ∧ Hid (Below W9.heap.size W9 wr)) (fun i _ => 4 - (intOf i).toNat)
  case atStart => exact ⟨0, by omega, rfl, Below.refl _ _⟩
  case round =>
    obtain ⟨k, hk, rfl, HD⟩ := hrel
    by_cases hk4 : k < 4
    · obtain ⟨_, _, e9, _, hc⟩ := (LieL.later HI9.out HD.out).2 (by simp)
      cases e9
      obtain ⟨p1, pc1, p2, pc2, ⟨g0, g1, g2, g3⟩, hp, _⟩ := hc k (by simpa using hk4)
      have HP : Hid (Lie (fun _ => False) wr 10 p1 ([X, Y, Z, V4][k]'(by simpa using hk4)) p2) := hp
      clear hc hp
      generalize ([X, Y, Z, V4][k]'(by simpa using hk4)) = p at g0 g1 g2 g3 HP
      simp only [Nat.zero_add] at g0 g1 g2 g3
      have HBXr : Hid (∀ O, Bx (wr.alloc O) P7 P9 P10 X Y Z V4 ay cy z1 zc1 z2 zc2 v2 vc2) := fun O => HBX9.out.later (below_of HD.out (HBA.out wr O))
      have x0 := fun O => (box4 (HBXr.out O).x).1
      have x1 := fun O => (box4 (HBXr.out O).x).2.1
      have x2 := fun O => (box4 (HBXr.out O).x).2.2.1
      have x3 := fun O => (box4 (HBXr.out O).x).2.2.2
      have y0 := fun O => (box4 (HBXr.out O).y).1
      have y1 := fun O => (box4 (HBXr.out O).y).2.1
      have y2 := fun O => (box4 (HBXr.out O).y).2.2.1
      have y3 := fun O => (box4 (HBXr.out O).y).2.2.2
      have z0 := fun O => (box4 (HBXr.out O).z).1
      have z1' := fun O => (box4 (HBXr.out O).z).2.1
      have z2' := fun O => (box4 (HBXr.out O).z).2.2.1
      have z3 := fun O => (box4 (HBXr.out O).z).2.2.2
      have v0 := fun O => (box4 (HBXr.out O).v).1
      have v1 := fun O => (box4 (HBXr.out O).v).2.1
      have v2' := fun O => (box4 (HBXr.out O).v).2.2.1
      have v3 := fun O => (box4 (HBXr.out O).v).2.2.2
      have i1 : (k : Int) < 4 := by omega
      go_wp2
      clear x0 x1 x2 x3 y0 y1 y2 y3 z0 z1' z2' z3 v0 v1 v2' v3 g0 g1 g2 g3
      have HIi : Hid _ := (HBXr.out (ic p p1 pc1 p2 pc2)).four (h := wr.heap.size + 1) (by simp)
      have HBi : Hid _ := below_of (HBA.out wr (ic p p1 pc1 p2 pc2)) (HBA.out (wr.alloc (ic p p1 pc1 p2 pc2)) (.cells #[.int .i64 (kd X), .int .u64 (nm X : Nat), .slice none (bs X).length 0, .slice none (its X).length 0, .int .i64 (kd Y), .int .u64 (nm Y : Nat), .slice ay (bs Y).length cy, .slice none (its Y).length 0, .int .i64 (kd Z), .int .u64 (nm Z : Nat), .slice z1 (bs Z).length zc1, .slice z2 (its Z).length zc2, .int .i64 (kd V4), .int .u64 (nm V4 : Nat), .slice none (bs V4).length 0, .slice v2 (its V4).length vc2] 28))
      have HPi : Hid (((wr.alloc (ic p p1 pc1 p2 pc2)).alloc (.cells #[.int .i64 (kd X), .int .u64 (nm X : Nat), .slice none (bs X).length 0, .slice none (its X).length 0, .int .i64 (kd Y), .int .u64 (nm Y : Nat), .slice ay (bs Y).length cy, .slice none (its Y).length 0, .int .i64 (kd Z), .int .u64 (nm Z : Nat), .slice z1 (bs Z).length zc1, .slice z2 (its Z).length zc2, .int .i64 (kd V4), .int .u64 (nm V4 : Nat), .slice none (bs V4).length 0, .slice v2 (its V4).length vc2] 28)).heap[wr.heap.size]? = some (ic p p1 pc1 p2 pc2)) := by show _ = _; rw [alloc2]; exact heap_alloc_new _ _
      have HLi : Hid _ := HP.out.later HBi.out
      have HOi : Hid _ := below_of HD.out HBi.out
      generalize ((wr.alloc (ic p p1 pc1 p2 pc2)).alloc (.cells #[.int .i64 (kd X), .int .u64 (nm X : Nat), .slice none (bs X).length 0, .slice none (its X).length 0, .int .i64 (kd Y), .int .u64 (nm Y : Nat), .slice ay (bs Y).length cy, .slice none (its Y).length 0, .int .i64 (kd Z), .int .u64 (nm Z : Nat), .slice z1 (bs Z).length zc1, .slice z2 (its Z).length zc2, .int .i64 (kd V4), .int .u64 (nm V4 : Nat), .slice none (bs V4).length 0, .slice v2 (its V4).length vc2] 28)) = Wi at HIi HBi HPi HLi HOi ⊢
      clear HBi HP HBXr HD
      generalize wr.heap.size = G at HIi HPi ⊢
      go_loopw [69] (fun i wq => ∃ j : Nat, j ≤ 4 ∧ i = .int .i64 j ∧ Hid (Below Wi.heap.size Wi wq)) (fun i _ => 4 - (intOf i).toNat)
      case atStart => exact ⟨0, by omega, rfl, Below.refl _ _⟩
      case round =>
        obtain ⟨j, hj, rfl, HJ⟩ := hrel
        by_cases hj4 : j < 4
        · obtain ⟨_, _, ei, _, hc⟩ := (LieL.later HIi.out HJ.out).2 (by simp)
          cases ei
          obtain ⟨q1, qc1, q2, qc2, ⟨g0, g1, g2, g3⟩, hq, _⟩ := hc j (by simpa using hj4)
          have HQ : Hid (Lie (fun _ => False) wr 10 q1 ([X, Y, Z, V4][j]'(by simpa using hj4)) q2) := hq
          clear hc hq
          generalize ([X, Y, Z, V4][j]'(by simpa using hj4)) = q at g0 g1 g2 g3 HQ
          simp only [Nat.zero_add] at g0 g1 g2 g3
          have i2 : (j : Int) < 4 := by omega
          obtain ⟨s0, s1, s2, s3⟩ := box4 (old_block (HBA.out wr (ic q q1 qc1 q2 qc2)) (old_block HJ.out HPi.out))
          obtain ⟨r0, r1, r2, r3⟩ := box4 (heap_alloc_new wr (ic q q1 qc1 q2 qc2))
          obtain ⟨B, HBB⟩ : ∃ B, Hid (sameT 10 p q = B) := ⟨_, rfl⟩
          have HQA : Hid (∀ W, Below (wr.alloc (ic q q1 qc1 q2 qc2)).heap.size (wr.alloc (ic q q1 qc1 q2 qc2)) W → Lie (fun _ => False) W 10 p1 p p2 ∧ Lie (fun _ => False) W 10 q1 q q2) := fun W hW => ⟨((show Lie (fun _ => False) Wi 10 p1 p p2 from HLi.out).later HJ.out).later (below_of (HBA.out wr _) hW), HQ.out.later (below_of (HBA.out wr _) hW)⟩
          have HC1 : Hid (∀ W, Below (wr.alloc (ic q q1 qc1 q2 qc2)).heap.size (wr.alloc (ic q q1 qc1 q2 qc2)) W → Calls Tryd.prog 10 #[iv p p1 pc1 p2 pc2, iv q q1 qc1 q2 qc2] W fun e w' => e = .returned (.bool B) ∧ Hid (Below W.heap.size W w')) := fun W hW => by
            have := HPQ.out W p q p1 p2 q1 q2 pc1 pc2 qc1 qc2 (HQA.out W hW).1 (HQA.out W hW).2
            rw [HBB.out] at this
            exact this
          have HC2 : Hid (∀ W, Below (wr.alloc (ic q q1 qc1 q2 qc2)).heap.size (wr.alloc (ic q q1 qc1 q2 qc2)) W → Calls Tryd.prog 18 #[iv p p1 pc1 p2 pc2, iv q q1 qc1 q2 qc2] W fun e w' => e = .returned (.bool B) ∧ Hid (Below W.heap.size W w')) := fun W hW => by
            have := HPR.out W p q p1 p2 q1 q2 pc1 pc2 qc1 qc2 (HQA.out W hW).1 (HQA.out W hW).2
            rw [HBB.out] at this
            exact this
          have HJA : Hid (Below Wi.heap.size Wi (wr.alloc (ic q q1 qc1 q2 qc2))) := below_of HJ.out (HBA.out wr _)
          clear HQA
          have hX : Below (wr.alloc (ic q q1 qc1 q2 qc2)).heap.size (wr.alloc (ic q q1 qc1 q2 qc2)) (wr.alloc (ic q q1 qc1 q2 qc2)).drew := (Below.refl _ _).drew
          cases B
          all_goals
            go_wp2
            go_region_held3 (fun W => W.cell? ⟨G, 0, none⟩ = some (.int .i64 (kd p)) ∧ W.cell? ⟨G, 1, none⟩ = some (.int .u64 (nm p : Nat)) ∧ W.cell? ⟨G, 2, none⟩ = some (.slice p1 (bs p).length pc1) ∧ W.cell? ⟨G, 3, none⟩ = some (.slice p2 (its p).length pc2) ∧ W.cell? ⟨wr.heap.size, 0, none⟩ = some (.int .i64 (kd q)) ∧ W.cell? ⟨wr.heap.size, 1, none⟩ = some (.int .u64 (nm q : Nat)) ∧ W.cell? ⟨wr.heap.size, 2, none⟩ = some (.slice q1 (bs q).length qc1) ∧ W.cell? ⟨wr.heap.size, 3, none⟩ = some (.slice q2 (its q).length qc2)) (first | exact ⟨s0, s1, s2, s3, r0, r1, r2, r3⟩ | exact ⟨cell_later hX s0, cell_later hX s1, cell_later hX s2, cell_later hX s3, cell_later hX r0, cell_later hX r1, cell_later hX r2, cell_later hX r3⟩) (first
              | (go_at_call 10; refine (HC1.out _ hX).mono ?_; rintro e w5 ⟨rfl, hq5⟩; have hX := below_of hX hq5.out; clear hq5)
              | (go_at_call 18; refine (HC2.out _ hX).mono ?_; rintro e w5 ⟨rfl, hq5⟩; have hX := below_of hX hq5.out; clear hq5))
            all_goals
              go_wp2
              go_roundw
              case rel => exact ⟨j + 1, by omega, by go_num, below_of HJA.out hX⟩
              case measure => simp [intOf]; omega
        · go_wp2
          go_roundw
          case rel => exact ⟨k + 1, by omega, by go_num, below_of HOi.out HJ.out⟩
          case measure => simp [intOf]; omega
    · go_wp2
      go_ret
      exact ⟨rfl, below_of HW9.out HD.out⟩
end Go.Proofs.YthjemjclpjmomaaDoor
