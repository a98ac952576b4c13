/- A part of the walk of the laws' built. -/
import Derived.Test.YthjemjclpjmomaaDoorCBuiltA
namespace Go.Proofs.YthjemjclpjmomaaDoor
open Go.RowKit
set_option linter.unusedVariables false

set_option maxRecDepth 1000000 in
set_option maxHeartbeats 100000000 in
theorem bcase_item3 (w wr : World) (fb fo c : Nat) (L : List FT) (k sg cap : Nat) (Es : List IX) (Xs : Nat → List IX) (f : FT) (b1 : Option Addr) (d1 : Nat) (b2 : Option Addr) (n2 d2 : Nat) (i0 : TypeInfo) (Q0 : Exit → Act → World → Prop) (c0 c1 c2 c9 c10 u4 u5 u6 u7 u8 u14 u15 u16 u17 u18 u19 u20 u21 u22 u23 u24 u25 u26 u27 u28 u29 u30 u31 u32 u33 u34 u35 u36 u37 u38 u39 u40 u41 u42 u43 u44 u45 u46 u47 u48 u49 u50 u51 u52 u53 u54 u55 u56 u57 u58 u59 u60 u61 u62 u63 u64 u65 u66 u67 u68 u69 u70 u71 u72 u73 u74 u75 u76 u77 u78 u79 u80 u81 u82 u83 u84 u85 u86 u87 u88 u89 u90 u91 u92 u93 u94 u95 u96 u97 u98 u99 u100 u101 u102 u103 u104 u105 u106 u107 u108 u109 u110 u111 u112 u113 u114 u115 u116 u117 u118 u119 u120 u121 u122 u123 u124 u125 u126 u127 u128 u129 u130 u131 u132 u133 u134 u135 u136 u137 u138 u139 u140 u141 u142 u143 u144 u145 u146 u147 u148 u149 u150 u151 u152 u153 u154 u155 u156 u157 u158 u159 u160 u161 u162 u163 u164 u165 u166 u167 u168 u169 u170 u171 u172 u173 u174 u175 u176 u177 u178 u179 u180 u181 u182 u183 u184 : Value)
    (HI : Hid (Tryd.prog.info? 28 = some i0)) (hz0 : i0.zero = some (.agg #[.int .i64 0, .int .u64 0, .slice none 0 0, .slice none 0 0])) (hz1 : i0.size = 4) (hz2 : i0.bytes = 64)
    (hz : L.length ≤ 2000000000000) (hkl : k < L.length) (hlt100 : k < 100) (h100b : ((k : Int) == 100) = false) (h1 : 1 ≤ Es.length) (h7 : Es.length ≤ 7) (HS : Hid (Stk (Z0 w) wr w.heap.size sg cap Es Xs)) (HX : Hid (∀ j, (Xs j).length ≤ k)) (HNX : Hid (stF (L.take (k + 1)) = stepB f (stk Xs Es.length)))
    (g0 : wr.cell? ⟨fb, fo + k * 6, none⟩ = some (.int .i64 f.k)) (g1 : wr.cell? ⟨fb, fo + k * 6 + 1, none⟩ = some (.int .u64 f.n)) (g2 : wr.cell? ⟨fb, fo + k * 6 + 2, none⟩ = some (.slice b1 f.b.length d1)) (g3 : wr.cell? ⟨fb, fo + k * 6 + 3, none⟩ = some (.slice b2 n2 d2)) (g4 : wr.cell? ⟨fb, fo + k * 6 + 4, none⟩ = some (.bool f.o)) (g5 : wr.cell? ⟨fb, fo + k * 6 + 5, none⟩ = some (.bool f.c))
    (fB : f.n < 18446744073709551616 ∧ -9223372036854775808 ≤ f.k ∧ f.k ≤ 9223372036854775807 ∧ f.b.length ≤ 140737488351232) (HR : Hid (Row w b1 f.b ∧ f.b.length ≤ d1)) (HBW : Hid (Below w.heap.size w wr)) (hsz : w.heap.size ≤ wr.heap.size)
    (hC : ¬ (f.c = true ∧ 1 < Es.length)) (hO0 : ¬ (f.o = true ∧ Es.length < 7)) (hcl : f.c = false) (hop : f.o = true) (hnl0 : ¬ Es.length < 7) :
    Code.wp Tryd.prog ((loopsOf (Tryd.f8.body.getD .skip)).getD 0 .skip) (Exit.then (fun a' w'' => BI w (some ⟨fb, fo, none⟩) c L c0 c1 c2 c9 c10 a' w'' ∧ Bmu L a' w'' < Bmu L ⟨#[c0, c1, c2, (.slice (some ⟨sg, 0, none⟩) Es.length cap), u4, u5, u6, u7, u8, c9, c10, .slice (some ⟨fb, fo, none⟩) L.length c, .int .i64 (L.length : Nat), (.int .i64 (k : Nat)), u14, u15, u16, u17, u18, u19, u20, u21, u22, u23, u24, u25, u26, u27, u28, u29, u30, u31, u32, u33, u34, u35, u36, u37, u38, u39, u40, u41, u42, u43, u44, u45, u46, u47, u48, u49, u50, u51, u52, u53, u54, u55, u56, u57, u58, u59, u60, u61, u62, u63, u64, u65, u66, u67, u68, u69, u70, u71, u72, u73, u74, u75, u76, u77, u78, u79, u80, u81, u82, u83, u84, u85, u86, u87, u88, u89, u90, u91, u92, u93, u94, u95, u96, u97, u98, u99, u100, u101, u102, u103, u104, u105, u106, u107, u108, u109, u110, u111, u112, u113, u114, u115, u116, u117, u118, u119, u120, u121, u122, u123, u124, u125, u126, u127, u128, u129, u130, u131, u132, u133, u134, u135, u136, u137, u138, u139, u140, u141, u142, u143, u144, u145, u146, u147, u148, u149, u150, u151, u152, u153, u154, u155, u156, u157, u158, u159, u160, u161, u162, u163, u164, u165, u166, u167, u168, u169, u170, u171, u172, u173, u174, u175, u176, u177, u178, u179, u180, u181, u182, u183, u184], []⟩ wr) (noP Q0)) ⟨#[c0, c1, c2, (.slice (some ⟨sg, 0, none⟩) Es.length cap), u4, u5, u6, u7, u8, c9, c10, .slice (some ⟨fb, fo, none⟩) L.length c, .int .i64 (L.length : Nat), (.int .i64 (k : Nat)), u14, u15, u16, u17, u18, u19, u20, u21, u22, u23, u24, u25, u26, u27, u28, u29, u30, u31, u32, u33, u34, u35, u36, u37, u38, u39, u40, u41, u42, u43, u44, u45, u46, u47, u48, u49, u50, u51, u52, u53, u54, u55, u56, u57, u58, u59, u60, u61, u62, u63, u64, u65, u66, u67, u68, u69, u70, u71, u72, u73, u74, u75, u76, u77, u78, u79, u80, u81, u82, u83, u84, u85, u86, u87, u88, u89, u90, u91, u92, u93, u94, u95, u96, u97, u98, u99, u100, u101, u102, u103, u104, u105, u106, u107, u108, u109, u110, u111, u112, u113, u114, u115, u116, u117, u118, u119, u120, u121, u122, u123, u124, u125, u126, u127, u128, u129, u130, u131, u132, u133, u134, u135, u136, u137, u138, u139, u140, u141, u142, u143, u144, u145, u146, u147, u148, u149, u150, u151, u152, u153, u154, u155, u156, u157, u158, u159, u160, u161, u162, u163, u164, u165, u166, u167, u168, u169, u170, u171, u172, u173, u174, u175, u176, u177, u178, u179, u180, u181, u182, u183, u184], []⟩ wr := by
  conv => arg 2; whnf
  obtain ⟨n, hn⟩ : ∃ n, Es.length = n + 1 := ⟨Es.length - 1, by omega⟩
  have HN : Hid (Es.length = n + 1) := hn
  rw [hn] at h1 h7 hC ⊢
  have hO : ¬ (f.o = true ∧ n + 1 < 7) := fun e => hO0 ⟨e.1, by have := e.2; omega⟩
  clear hO0
  have HNX2 : Hid (stF (L.take (k + 1)) = ((Xs n).map IX.x ++ [mkI f.k f.n f.b []]) :: stk Xs n) := by
    show _ = _
    rw [HNX.out, hn, show stk Xs (n + 1) = (Xs n).map IX.x :: stk Xs n from rfl, stepB_cons, if_neg (by rw [stk_length]; exact hC), if_neg (by rw [stk_length]; exact hO)]
  clear hC hO hn
  have hnl : ¬ (n : Int) + 1 < 7 := by have := HN.out; omega
  rw [hcl] at g5
  rw [hop] at g4
  go_wp2
  obtain ⟨W0, hW0⟩ : ∃ W0, (wr.alloc (.cells #[.int .i64 f.k, .int .u64 f.n, .slice b1 f.b.length d1, .slice b2 n2 d2, .bool f.o, .bool f.c] 48)).alloc (.cells #[.int .i64 f.k, .int .u64 f.n, .slice b1 f.b.length d1, .slice none 0 0] 28) = W0 := ⟨_, rfl⟩
  have hb0 : Below wr.heap.size wr W0 := by rw [← hW0]; exact ((Below.refl _ wr).alloc (Nat.le_refl _) _).alloc (by simp) _
  have hl0 : W0.heap[wr.heap.size + 1]? = some (.cells #[.int .i64 f.k, .int .u64 f.n, .slice b1 f.b.length d1, .slice none 0 0] 28 (0, 0)) := by
    rw [← hW0]
    have := heap_alloc_new (wr.alloc (.cells #[.int .i64 f.k, .int .u64 f.n, .slice b1 f.b.length d1, .slice b2 n2 d2, .bool f.o, .bool f.c] 48)) (.cells #[.int .i64 f.k, .int .u64 f.n, .slice b1 f.b.length d1, .slice none 0 0] 28)
    simpa using this
  rw [hcl, hop] at hW0
  rw [hW0]
  clear hW0
  have hSt0 := HS.out.later hb0
  have hj : n < Es.length := by rw [HN.out]; omega
  have hown0 := hSt0.own n hj
  obtain ⟨m, hm⟩ : ∃ m, (Xs n).length = m := ⟨_, rfl⟩
  have hm100 : m ≤ 100 := by have := HX.out n; omega
  have hent := hSt0.ent n hj
  obtain ⟨q0, q1, q2, q3⟩ := icells_at Es n hj
  have row0 := hSt0.row
  rw [HN.out] at row0
  have s3 := row0.cellAt (n * 4 + 3) (by omega)
  rw [q3, hent.1, its_mk, List.length_map, hm] at s3
  have fs := row0.frozenAt (n * 4 + 3)
  have HOWN : Hid (∀ W, Below W0.heap.size W0 W → W.ownsRow (w.heap.size + 1) 28 4 (.slice Es[n].a2 m Es[n].c2) m (icells (Xs n))) := fun W hb => by
    have := (Off.of_below (S := fun _ => False) hb).owns hown0 (fun _ _ => id)
    rw [hm] at this
    simpa using this
  have x0 := cell_of hl0 0
  have x1 := cell_of hl0 1
  have x2 := cell_of hl0 2
  have x3 := cell_of hl0 3
  simp at x0 x1 x2 x3
  obtain ⟨A2, hA2⟩ : ∃ A2, Es[n].a2 = A2 := ⟨_, rfl⟩
  obtain ⟨C2, hC2⟩ : ∃ C2, Es[n].c2 = C2 := ⟨_, rfl⟩
  rw [hA2, hC2] at s3 HOWN
  have HKEEP : Hid (∀ W W2, Below W0.heap.size W0 W → W.grownBy W2 (Value.slice A2 m C2).ownBlock → W2.cell? ⟨sg, n * 4 + 3, none⟩ = some (.slice A2 m C2) ∧ W2.frozen? ⟨sg, n * 4 + 3, none⟩ = false) := fun W W2 hb hg => by
    have hr := hSt0.stays hj hb (m := m) (by rw [hA2, hC2]; exact hg)
    rw [HN.out] at hr
    have hr3 := hr.cellAt (n * 4 + 3) (by omega)
    rw [q3, hent.1, its_mk, List.length_map, hm, hA2, hC2] at hr3
    exact ⟨hr3, hr.frozenAt _⟩
  have HY : Hid (Lie (Gs w.heap.size sg Es) W0 (8 - n) b1 (mkI f.k f.n f.b []) none ∧ (bs (mkI f.k f.n f.b [])).length ≤ d1) := item_lies hSt0 (by omega) f b1 d1 fB HR.out.1 HR.out.2 (HBW.out.trans (hb0.mono hsz))
  have HEND : Hid (∀ W W2 g2 c2, Below W0.heap.size W0 W → W.grownBy W2 (Value.slice A2 m C2).ownBlock → W2.ownsRow (w.heap.size + 1) 28 4 (.slice (some ⟨g2, 0, none⟩) (m + 1) c2) (m + 1) (icells (Xs n) ++ icells [IX.mk (mkI f.k f.n f.b []) b1 d1 none 0]) → ((Value.slice A2 m C2).ownBlock = some g2 ∨ g2 = W.heap.size) → Bd w (W2.setCell ⟨sg, n * 4 + 3, none⟩ (.slice (some ⟨g2, 0, none⟩) (m + 1) c2)) (.slice (some ⟨sg, 0, none⟩) (n + 1) cap) (k + 1) (stF (L.take (k + 1)))) := fun W W2 g2 c2 hb hg ho ha => by rw [HNX2.out]; exact Bd.item hSt0 HN.out h7 HX.out hj hm (IX.mk (mkI f.k f.n f.b []) b1 d1 none 0) hb (by rw [hA2, hC2]; exact hg) ho (by rw [hA2, hC2]; exact ha) HY.out
  have HK4 : Hid (∀ (W W2 : World) (g2 c2 : Nat), Below W0.heap.size W0 W → W2.ownsRow (w.heap.size + 1) 28 4 (.slice (some ⟨g2, 0, none⟩) (m + 1) c2) (m + 1) (icells (Xs n) ++ icells [IX.mk (mkI 0 0 [] []) none 0 none 0]) → ((Value.slice A2 m C2).ownBlock = some g2 ∨ g2 = W.heap.size) → _) := fun W W2 g2 c2 hb ho ha u => hSt0.cells4 hj hm hb ho (by rw [hA2, hC2]; exact ha) u
  have HEND4 : Hid (∀ W W2 g2 c2, Below W0.heap.size W0 W → W.grownBy W2 (Value.slice A2 m C2).ownBlock → W2.ownsRow (w.heap.size + 1) 28 4 (.slice (some ⟨g2, 0, none⟩) (m + 1) c2) (m + 1) (icells (Xs n) ++ icells [IX.mk (mkI 0 0 [] []) none 0 none 0]) → ((Value.slice A2 m C2).ownBlock = some g2 ∨ g2 = W.heap.size) → Bd w (((((W2.setCell ⟨sg, n * 4 + 3, none⟩ (.slice (some ⟨g2, 0, none⟩) (m + 1) c2)).setCell ⟨g2, m * 4, none⟩ (.int .i64 f.k)).setCell ⟨g2, m * 4 + 1, none⟩ (.int .u64 f.n)).setCell ⟨g2, m * 4 + 2, none⟩ (.slice b1 f.b.length d1)).setCell ⟨g2, m * 4 + 3, none⟩ (.slice none 0 0)) (.slice (some ⟨sg, 0, none⟩) (n + 1) cap) (k + 1) (stF (L.take (k + 1)))) := fun W W2 g2 c2 hb hg ho ha => by rw [HNX2.out]; exact Bd.item4 hSt0 HN.out h7 HX.out hj hm (IX.mk (mkI 0 0 [] []) none 0 none 0) (IX.mk (mkI f.k f.n f.b []) b1 d1 none 0) hb (by rw [hA2, hC2]; exact hg) ho (by rw [hA2, hC2]; exact ha) HY.out
  clear hown0 q0 q1 q2 q3 row0
  have hwn : IntKind.i64.wrap (n : Int) = (n : Int) := IntWalk.i64_in _ (by omega)
  have hn0 : (0 : Int) ≤ (n : Int) := by omega
  have hn1 : (n : Int) < (n : Int) + 1 := by omega
  go_region
  · have hb1 : Below W0.heap.size W0 (W0.alloc (.cells #[.bool false] 4)).drew := ((Below.refl _ W0).alloc (Nat.le_refl _) _).drew
    generalize (W0.alloc (.cells #[.bool false] 4)).drew = W1 at hb1 ⊢
    have y0 := cell_later hb1 x0
    have y1 := cell_later hb1 x1
    have y2 := cell_later hb1 x2
    have y3 := cell_later hb1 x3
    have t3 := cell_later hb1 s3
    have ft : W1.frozen? ⟨sg, n * 4 + 3, none⟩ = false := by rw [hb1.frozen (p := ⟨sg, n * 4 + 3, none⟩) hSt0.sg.2]; exact fs
    have t3a : ∀ X, (W1.alloc X).cell? ⟨sg, n * 4 + 3, none⟩ = some (.slice A2 m C2) := fun X => cell_later ((Below.refl _ W1).alloc (Nat.le_refl _) X) t3
    clear x0 x1 x2 x3 s3 fs
    go_wp2
    have HBD : Hid (∀ W, Below W1.heap.size W1 W → Below W0.heap.size W0 W) := fun W hb => below_of hb1 hb
    have HSRC : Hid (∀ W : World, W.heap[W1.heap.size]? = some (ic (mkI f.k f.n f.b []) b1 d1 none 0) → ∀ j u, (icells [IX.mk (mkI f.k f.n f.b []) b1 d1 none 0])[j]? = some u → W.cell? ((⟨W1.heap.size, 0, none⟩ : Addr).add j) = some u) := fun W hW j u hu => by
      rw [Go.WideShapes.add_plain, Nat.zero_add, cell_of hW]
      match j, hu with
      | 0, hu => simpa [icells] using hu
      | 1, hu => simpa [icells] using hu
      | 2, hu => simpa [icells] using hu
      | 3, hu => simpa [icells] using hu
      | j + 4, hu => simp [icells] at hu
    have hsz1 := hb1.size
    have hsz0 := hb0.size
    go_region_law (refine step_append_lies _ rfl (.tmp 51) (.tmp 53) 26 rfl (w.heap.size + 1) 28 i0 _ 4 64 Tryd.underlying26 HI.out hz0 hz1 hz2 rfl (by decide) (.slice A2 m C2) m (icells (Xs n)) (by simp [Act.eval]) (HOWN.out _ (HBD.out _ (by repeat (first | exact Below.refl _ _ | apply Below.drew | (refine Below.alloc ?_ (by simp) _))))) ⟨W1.heap.size, 0, none⟩ 1 1 (icells [IX.mk (mkI f.k f.n f.b []) b1 d1 none 0]) (by simp [Act.eval]) rfl (HSRC.out _ (heap_alloc_new _ _)) (icells_one _) (by decide) (by unfold maxLen; omega) (by omega) (by simp; omega) _ rfl ?_; intro g2 c2 w2 ho2 hg2 hat2 hlt2; obtain ⟨u3, fu3⟩ := HKEEP.out _ _ (HBD.out _ (by repeat (first | exact Below.refl _ _ | apply Below.drew | (refine Below.alloc ?_ (by simp) _)))) hg2)
    all_goals
      go_wp2
      refine ⟨?_, ?_⟩
      rotate_left
      · simp [Bmu, intOf]; omega
      · unfold BI
        repeat (apply Exists.intro)
        refine ⟨?_, rfl⟩
        exact ⟨k + 1, by omega, by omega, by go_num, HEND.out _ _ _ _ (HBD.out _ (by repeat (first | exact Below.refl _ _ | apply Below.drew | (refine Below.alloc ?_ (by simp) _)))) hg2 ho2 hat2⟩
  · have hb1 : Below W0.heap.size W0 (W0.alloc (.cells #[.bool true] 4)).drew := ((Below.refl _ W0).alloc (Nat.le_refl _) _).drew
    generalize (W0.alloc (.cells #[.bool true] 4)).drew = W1 at hb1 ⊢
    have y0 := cell_later hb1 x0
    have y1 := cell_later hb1 x1
    have y2 := cell_later hb1 x2
    have y3 := cell_later hb1 x3
    have t3 := cell_later hb1 s3
    have ft : W1.frozen? ⟨sg, n * 4 + 3, none⟩ = false := by rw [hb1.frozen (p := ⟨sg, n * 4 + 3, none⟩) hSt0.sg.2]; exact fs
    have ALL : ∀ (X : Obj) (p : Addr) (u : Value), W1.cell? p = some u → (W1.alloc X).cell? p = some u := fun X p u hu => cell_later ((Below.refl _ W1).alloc (Nat.le_refl _) X) hu
    have t3a := fun X => ALL X _ _ t3
    have y0a := fun X => ALL X _ _ y0
    have y1a := fun X => ALL X _ _ y1
    have y2a := fun X => ALL X _ _ y2
    have y3a := fun X => ALL X _ _ y3
    clear x0 x1 x2 x3 s3 fs ALL
    go_wp2
    have HBD : Hid (∀ W, Below W1.heap.size W1 W → Below W0.heap.size W0 W) := fun W hb => below_of hb1 hb
    have HSRC : Hid (∀ W : World, W.heap[W1.heap.size]? = some (ic (mkI 0 0 [] []) none 0 none 0) → ∀ j u, (icells [IX.mk (mkI 0 0 [] []) none 0 none 0])[j]? = some u → W.cell? ((⟨W1.heap.size, 0, none⟩ : Addr).add j) = some u) := fun W hW j u hu => by
      rw [Go.WideShapes.add_plain, Nat.zero_add, cell_of hW]
      match j, hu with
      | 0, hu => simpa [icells] using hu
      | 1, hu => simpa [icells] using hu
      | 2, hu => simpa [icells] using hu
      | 3, hu => simpa [icells] using hu
      | j + 4, hu => simp [icells] at hu
    have hsz1 := hb1.size
    have hsz0 := hb0.size
    go_region_law (refine step_append_lies _ rfl (.tmp 35) (.tmp 38) 26 rfl (w.heap.size + 1) 28 i0 _ 4 64 Tryd.underlying26 HI.out hz0 hz1 hz2 rfl (by decide) (.slice A2 m C2) m (icells (Xs n)) (by first | (simp [Act.eval]; done) | simp [Act.eval, Act.put]) (HOWN.out _ (HBD.out _ (by repeat (first | exact Below.refl _ _ | apply Below.drew | (refine Below.alloc ?_ (by simp) _))))) ⟨W1.heap.size, 0, none⟩ 1 1 (icells [IX.mk (mkI 0 0 [] []) none 0 none 0]) (by first | (simp [Act.eval]; done) | simp [Act.eval, Act.put]) rfl (HSRC.out _ (heap_alloc_new _ _)) (icells_one _) (by decide) (by unfold maxLen; omega) (by omega) (by simp; omega) _ rfl ?_; intro g2 c2 w2 ho2 hg2 hat2 hlt2; obtain ⟨u3, fu3⟩ := HKEEP.out _ _ (HBD.out _ (by repeat (first | exact Below.refl _ _ | apply Below.drew | (refine Below.alloc ?_ (by simp) _)))) hg2; have R4 := HK4.out _ _ _ _ (HBD.out _ (by repeat (first | exact Below.refl _ _ | apply Below.drew | (refine Below.alloc ?_ (by simp) _)))) ho2 hat2; have r0 := (fun u => (R4 u).1); have r1 := (fun u => (R4 u).2.1); have r2 := (fun u => (R4 u).2.2.1); have r3 := (fun u => (R4 u).2.2.2.1); have rf := (fun u i => (R4 u).2.2.2.2 i); clear R4)
    all_goals
      go_wp2
      refine ⟨?_, ?_⟩
      rotate_left
      · simp [Bmu, intOf]; omega
      · unfold BI
        repeat (apply Exists.intro)
        refine ⟨?_, rfl⟩
        exact ⟨k + 1, by omega, by omega, by go_num, HEND4.out _ _ _ _ (HBD.out _ (by repeat (first | exact Below.refl _ _ | apply Below.drew | (refine Below.alloc ?_ (by simp) _)))) hg2 ho2 hat2⟩
end Go.Proofs.YthjemjclpjmomaaDoor
