/- A part of the walk of the laws' built. -/
import Derived.Test.YthjemjclpjmomaaDoorCBuiltA
namespace Go.Proofs.YthjemjclpjmomaaDoor
open Go.RowKit
set_option linter.unusedVariables false

set_option maxRecDepth 1000000 in
set_option maxHeartbeats 100000000 in
theorem bcase_fold (w wr : World) (L : List FT) (kk sg cap : Nat) (Es : List IX) (Xs : Nat → List IX) (i0 : TypeInfo) (Q0 : Exit → Act → World → Prop) (c0 c1 c2 u4 u5 u6 u7 u9 u10 u11 u12 u13 u14 u15 u16 u17 u18 u19 u20 u21 u22 u23 u24 u25 u26 u27 u28 u29 u30 u31 u32 u33 u34 u35 u36 u37 u38 u39 u40 u41 u42 u43 u44 u45 u46 u47 u48 u49 u50 u51 u52 u53 u54 u55 u56 u57 u58 u59 u60 u61 u62 u63 u64 u65 u66 u67 u68 u69 u70 u71 u72 u73 u74 u75 u76 u77 u78 u79 u80 u81 u82 u83 u84 u85 u86 u87 u88 u89 u90 u91 u92 u93 u94 u95 u96 u97 u98 u99 u100 u101 u102 u103 u104 u105 u106 u107 u108 u109 u110 u111 u112 u113 u114 u115 u116 u117 u118 u119 u120 u121 u122 u123 u124 u125 u126 u127 u128 u129 u130 u131 u132 u133 u134 u135 u136 u137 u138 u139 u140 u141 u142 u143 u144 u145 u146 u147 u148 u149 u150 u151 u152 u153 u154 u155 u156 u157 u158 u159 u160 u161 u162 u163 u164 u165 u166 u167 u168 u169 u170 u171 u172 u173 u174 u175 u176 u177 u178 u179 u180 u181 u182 u183 u184 : Value)
    (HI : Hid (Tryd.prog.info? 28 = some i0)) (hz0 : i0.zero = some (.agg #[.int .i64 0, .int .u64 0, .slice none 0 0, .slice none 0 0])) (hz1 : i0.size = 4) (hz2 : i0.bytes = 64)
    (hkq : kk + Es.length ≤ 107) (h1 : 1 ≤ Es.length) (h7 : Es.length ≤ 7) (HS : Hid (Stk (Z0 w) wr w.heap.size sg cap Es Xs)) (HX : Hid (∀ j, (Xs j).length ≤ kk)) (HCS : Hid (colS (stk Xs Es.length) = bltS L)) (hC : 1 < Es.length) :
    Code.wp Tryd.prog ((loopsOf (Tryd.f8.body.getD .skip)).getD 1 .skip) (Exit.then (fun a' w'' => B2I w L c0 c1 c2 a' w'' ∧ B2mu a' w'' < B2mu ⟨#[c0, c1, c2, (.slice (some ⟨sg, 0, none⟩) Es.length cap), u4, u5, u6, u7, (.int .i64 (Es.length : Nat)), u9, u10, u11, u12, u13, u14, u15, u16, u17, u18, u19, u20, u21, u22, u23, u24, u25, u26, u27, u28, u29, u30, u31, u32, u33, u34, u35, u36, u37, u38, u39, u40, u41, u42, u43, u44, u45, u46, u47, u48, u49, u50, u51, u52, u53, u54, u55, u56, u57, u58, u59, u60, u61, u62, u63, u64, u65, u66, u67, u68, u69, u70, u71, u72, u73, u74, u75, u76, u77, u78, u79, u80, u81, u82, u83, u84, u85, u86, u87, u88, u89, u90, u91, u92, u93, u94, u95, u96, u97, u98, u99, u100, u101, u102, u103, u104, u105, u106, u107, u108, u109, u110, u111, u112, u113, u114, u115, u116, u117, u118, u119, u120, u121, u122, u123, u124, u125, u126, u127, u128, u129, u130, u131, u132, u133, u134, u135, u136, u137, u138, u139, u140, u141, u142, u143, u144, u145, u146, u147, u148, u149, u150, u151, u152, u153, u154, u155, u156, u157, u158, u159, u160, u161, u162, u163, u164, u165, u166, u167, u168, u169, u170, u171, u172, u173, u174, u175, u176, u177, u178, u179, u180, u181, u182, u183, u184], []⟩ wr) (noP Q0)) ⟨#[c0, c1, c2, (.slice (some ⟨sg, 0, none⟩) Es.length cap), u4, u5, u6, u7, (.int .i64 (Es.length : Nat)), u9, u10, u11, u12, u13, u14, u15, u16, u17, u18, u19, u20, u21, u22, u23, u24, u25, u26, u27, u28, u29, u30, u31, u32, u33, u34, u35, u36, u37, u38, u39, u40, u41, u42, u43, u44, u45, u46, u47, u48, u49, u50, u51, u52, u53, u54, u55, u56, u57, u58, u59, u60, u61, u62, u63, u64, u65, u66, u67, u68, u69, u70, u71, u72, u73, u74, u75, u76, u77, u78, u79, u80, u81, u82, u83, u84, u85, u86, u87, u88, u89, u90, u91, u92, u93, u94, u95, u96, u97, u98, u99, u100, u101, u102, u103, u104, u105, u106, u107, u108, u109, u110, u111, u112, u113, u114, u115, u116, u117, u118, u119, u120, u121, u122, u123, u124, u125, u126, u127, u128, u129, u130, u131, u132, u133, u134, u135, u136, u137, u138, u139, u140, u141, u142, u143, u144, u145, u146, u147, u148, u149, u150, u151, u152, u153, u154, u155, u156, u157, u158, u159, u160, u161, u162, u163, u164, u165, u166, u167, u168, u169, u170, u171, u172, u173, u174, u175, u176, u177, u178, u179, u180, u181, u182, u183, u184], []⟩ wr := by
  conv => arg 2; whnf
  obtain ⟨n, hn⟩ : ∃ n, Es.length = n + 2 := ⟨Es.length - 2, by omega⟩
  have HN : Hid (Es.length = n + 2) := hn
  have HNX2 : Hid (colS (((Xs n).map IX.x ++ [mkI 4 0 [] ((Xs (n + 1)).map IX.x)]) :: stk Xs n) = bltS L) := by show _ = _; rw [← HCS.out, hn]; rfl
  clear hC
  rw [hn] at h1 h7 hkq ⊢
  clear hn
  have hgt : (1 : Int) < (n : Int) + 2 := by omega
  go_wp2
  have hSt0 := HS.out
  have hszz : w.heap.size + 1 ≤ wr.heap.size := by have := hSt0.below.size; rw [z0_size] at this; exact this
  have hj : n < Es.length := by rw [HN.out]; omega
  have hj1 : n + 1 < Es.length := by rw [HN.out]; omega
  have hown0 := hSt0.own n hj
  obtain ⟨m, hm⟩ : ∃ m, (Xs n).length = m := ⟨_, rfl⟩
  have hm100 : m ≤ 200 := by have := HX.out n; omega
  have hent := hSt0.ent n hj
  have hent1 := hSt0.ent (n + 1) hj1
  obtain ⟨q0, q1, q2, q3⟩ := icells_at Es n hj
  obtain ⟨p0, p1, p2, p3⟩ := icells_at Es (n + 1) hj1
  have row0 := hSt0.row
  rw [HN.out] at row0
  have s3 := row0.cellAt (n * 4 + 3) (by omega)
  rw [q3, hent.1, its_mk, List.length_map, hm] at s3
  have x0 := row0.cellAt ((n + 1) * 4) (by omega)
  have x1 := row0.cellAt ((n + 1) * 4 + 1) (by omega)
  have x2 := row0.cellAt ((n + 1) * 4 + 2) (by omega)
  have x3 := row0.cellAt ((n + 1) * 4 + 3) (by omega)
  rw [p0, hent1.1] at x0
  rw [p1, hent1.1] at x1
  rw [p2, hent1.1, hent1.2.1, hent1.2.2] at x2
  rw [p3, hent1.1, its_mk] at x3
  simp only [kd_mk] at x0
  simp only [nm_mk] at x1
  simp only [bs_mk, List.length_nil] at x2
  obtain ⟨LL, hLL⟩ : ∃ LL, (Xs (n + 1)).map IX.x = LL := ⟨_, rfl⟩
  rw [hLL] at x3
  have fs := row0.frozenAt (n * 4 + 3)
  obtain ⟨A2, hA2⟩ : ∃ A2, Es[n].a2 = A2 := ⟨_, rfl⟩
  obtain ⟨C2, hC2⟩ : ∃ C2, Es[n].c2 = C2 := ⟨_, rfl⟩
  obtain ⟨B2, hB2⟩ : ∃ B2, Es[n + 1].a2 = B2 := ⟨_, rfl⟩
  obtain ⟨D2, hD2⟩ : ∃ D2, Es[n + 1].c2 = D2 := ⟨_, rfl⟩
  rw [hA2, hC2] at s3
  rw [hB2, hD2] at x3
  have HYE : Hid (Es[n + 1] = IX.mk (mkI 4 0 [] LL) none 0 B2 D2) := by
    show Es[n + 1] = IX.mk (mkI 4 0 [] LL) none 0 B2 D2
    rw [← hLL, ← hB2, ← hD2, ← hent1.1, ← hent1.2.1]
    rw [show (0 : Nat) = Es[n + 1].c1 from hent1.2.2.symm]
  have HOWN : Hid (∀ W, Below wr.heap.size wr W → W.ownsRow (w.heap.size + 1) 28 4 (.slice A2 m C2) m (icells (Xs n))) := fun W hb => by
    have := (Off.of_below (S := fun _ => False) hb).owns hown0 (fun _ _ => id)
    rw [hm, hA2, hC2] at this
    simpa using this
  have HKEEP : Hid (∀ W W2, Below wr.heap.size wr W → W.grownBy W2 (Value.slice A2 m C2).ownBlock → W2.cell? ⟨sg, n * 4 + 3, none⟩ = some (.slice A2 m C2) ∧ W2.frozen? ⟨sg, n * 4 + 3, none⟩ = false) := fun W W2 hb hg => by
    have hr := hSt0.stays hj hb (m := m) (by rw [hA2, hC2]; exact hg)
    rw [HN.out] at hr
    have hr3 := hr.cellAt (n * 4 + 3) (by omega)
    rw [q3, hent.1, its_mk, List.length_map, hm, hA2, hC2] at hr3
    exact ⟨hr3, hr.frozenAt _⟩
  have HEND : Hid (∀ (W W2 : World) (g2 c2 : Nat), Below wr.heap.size wr W → W.grownBy W2 (Value.slice A2 m C2).ownBlock → W2.ownsRow (w.heap.size + 1) 28 4 (.slice (some ⟨g2, 0, none⟩) (m + 1) c2) (m + 1) (icells (Xs n) ++ icells [IX.mk (mkI 4 0 [] LL) none 0 B2 D2]) → ((Value.slice A2 m C2).ownBlock = some g2 ∨ g2 = W.heap.size) → Bd w (W2.setCell ⟨sg, n * 4 + 3, none⟩ (.slice (some ⟨g2, 0, none⟩) (m + 1) c2)) (.slice (some ⟨sg, 0, none⟩) (n + 1) cap) (kk + 1) (((Xs n).map IX.x ++ [mkI 4 0 [] ((Xs (n + 1)).map IX.x)]) :: stk Xs n)) := fun W W2 g2 c2 hb hg ho ha => Bd.close hSt0 HN.out h7 (by omega) HX.out hj hj1 hm hb (by rw [hA2, hC2]; exact hg) (by rw [HYE.out]; exact ho) (by rw [hA2, hC2]; exact ha)
  have HK4 : Hid (∀ (W W2 : World) (g2 c2 : Nat), Below wr.heap.size wr W → W2.ownsRow (w.heap.size + 1) 28 4 (.slice (some ⟨g2, 0, none⟩) (m + 1) c2) (m + 1) (icells (Xs n) ++ icells [IX.mk (mkI 0 0 [] []) none 0 none 0]) → ((Value.slice A2 m C2).ownBlock = some g2 ∨ g2 = W.heap.size) → _) := fun W W2 g2 c2 hb ho ha u => hSt0.cells4 hj hm hb ho (by rw [hA2, hC2]; exact ha) u
  have HEND4 : Hid (∀ (W W2 : World) (g2 c2 : Nat), Below wr.heap.size wr W → W.grownBy W2 (Value.slice A2 m C2).ownBlock → W2.ownsRow (w.heap.size + 1) 28 4 (.slice (some ⟨g2, 0, none⟩) (m + 1) c2) (m + 1) (icells (Xs n) ++ icells [IX.mk (mkI 0 0 [] []) none 0 none 0]) → ((Value.slice A2 m C2).ownBlock = some g2 ∨ g2 = W.heap.size) → Bd w (((((W2.setCell ⟨sg, n * 4 + 3, none⟩ (.slice (some ⟨g2, 0, none⟩) (m + 1) c2)).setCell ⟨g2, m * 4, none⟩ (.int .i64 4)).setCell ⟨g2, m * 4 + 1, none⟩ (.int .u64 0)).setCell ⟨g2, m * 4 + 2, none⟩ (.slice none 0 0)).setCell ⟨g2, m * 4 + 3, none⟩ (.slice B2 LL.length D2)) (.slice (some ⟨sg, 0, none⟩) (n + 1) cap) (kk + 1) (((Xs n).map IX.x ++ [mkI 4 0 [] ((Xs (n + 1)).map IX.x)]) :: stk Xs n)) := fun W W2 g2 c2 hb hg ho ha => by
    have := Bd.close4 hSt0 HN.out h7 (by omega) HX.out hj hj1 hm (IX.mk (mkI 0 0 [] []) none 0 none 0) hb (by rw [hA2, hC2]; exact hg) ho (by rw [hA2, hC2]; exact ha)
    rw [hB2, hD2, show (Xs (n + 1)).length = LL.length by rw [← hLL]; simp] at this
    exact this
  have hcap : n + 2 ≤ cap := by
    obtain ⟨_, _, e, hc, _⟩ := own_form row0
    cases e
    exact hc
  clear hown0 q0 q1 q2 q3 p0 p1 p2 p3 row0 hent hent1
  have hwn : IntKind.i64.wrap (n : Int) = (n : Int) := IntWalk.i64_in _ (by omega)
  have hwn1 : IntKind.i64.wrap ((n : Int) + 1) = (n : Int) + 1 := IntWalk.i64_in _ (by omega)
  have hw21 : IntKind.i64.wrap ((n : Int) + 2 - 1) = (n : Int) + 1 := by rw [show (n : Int) + 2 - 1 = n + 1 by omega]; exact hwn1
  have ht1 : ((n : Int) + 1).toNat = n + 1 := by omega
  have hn0 : (0 : Int) ≤ (n : Int) := by omega
  have hn1 : (n : Int) < (n : Int) + 2 := by omega
  have hn2 : (0 : Int) ≤ (n : Int) + 1 := by omega
  have hn3 : (n : Int) + 1 < (n : Int) + 2 := by omega
  go_region
  · have hb1 : Below wr.heap.size wr (wr.alloc (.cells #[.bool false] 4)).drew := ((Below.refl _ wr).alloc (Nat.le_refl _) _).drew
    generalize (wr.alloc (.cells #[.bool false] 4)).drew = W1 at hb1 ⊢
    have y0 := cell_later hb1 x0
    have y1 := cell_later hb1 x1
    have y2 := cell_later hb1 x2
    have y3 := cell_later hb1 x3
    have t3 := cell_later hb1 s3
    have t3a : ∀ X, (W1.alloc X).cell? ⟨sg, n * 4 + 3, none⟩ = some (.slice A2 m C2) := fun X => cell_later ((Below.refl _ W1).alloc (Nat.le_refl _) X) t3
    clear x0 x1 x2 x3 s3 fs
    go_wp2
    have HBD : Hid (∀ W, Below W1.heap.size W1 W → Below wr.heap.size wr W) := fun W hb => below_of hb1 hb
    have HSRC : Hid (∀ W : World, W.heap[W1.heap.size]? = some (ic (mkI 4 0 [] LL) none 0 B2 D2) → ∀ j u, (icells [IX.mk (mkI 4 0 [] LL) none 0 B2 D2])[j]? = some u → W.cell? ((⟨W1.heap.size, 0, none⟩ : Addr).add j) = some u) := fun W hW j u hu => by
      rw [Go.WideShapes.add_plain, Nat.zero_add, cell_of hW]
      match j, hu with
      | 0, hu => simpa [icells] using hu
      | 1, hu => simpa [icells] using hu
      | 2, hu => simpa [icells] using hu
      | 3, hu => simpa [icells] using hu
      | j + 4, hu => simp [icells] at hu
    have hsz1 := hb1.size
    go_region_law (refine step_append_lies _ rfl (.tmp 156) (.tmp 162) 26 rfl (w.heap.size + 1) 28 i0 _ 4 64 Tryd.underlying26 HI.out hz0 hz1 hz2 rfl (by decide) (.slice A2 m C2) m (icells (Xs n)) (by first | (simp [Act.eval]; done) | simp [Act.eval, Act.put]) (HOWN.out _ (HBD.out _ (by repeat (first | exact Below.refl _ _ | apply Below.drew | (refine Below.alloc ?_ (by simp) _))))) ⟨W1.heap.size, 0, none⟩ 1 1 (icells [IX.mk (mkI 4 0 [] LL) none 0 B2 D2]) (by first | (simp [Act.eval]; done) | simp [Act.eval, Act.put]) rfl (HSRC.out _ (heap_alloc_new _ _)) (icells_one _) (by decide) (by unfold maxLen; omega) (by omega) (by simp; omega) _ rfl ?_; intro g2 c2 w2 ho2 hg2 hat2 hlt2; obtain ⟨u3, fu3⟩ := HKEEP.out _ _ (HBD.out _ (by repeat (first | exact Below.refl _ _ | apply Below.drew | (refine Below.alloc ?_ (by simp) _)))) hg2)
    all_goals
      go_wp2
      refine ⟨?_, ?_⟩
      rotate_left
      · simp [B2mu, intOf] <;> omega
      · unfold B2I
        repeat (apply Exists.intro)
        refine ⟨?_, rfl⟩
        exact ⟨n + 1, kk + 1, by omega, by go_num, sg, cap, rfl, _, HNX2.out, HEND.out _ _ _ _ (HBD.out _ (by repeat (first | exact Below.refl _ _ | apply Below.drew | (refine Below.alloc ?_ (by simp) _)))) hg2 ho2 hat2⟩
  · have hb1 : Below wr.heap.size wr (wr.alloc (.cells #[.bool true] 4)).drew := ((Below.refl _ wr).alloc (Nat.le_refl _) _).drew
    generalize (wr.alloc (.cells #[.bool true] 4)).drew = W1 at hb1 ⊢
    have y0 := cell_later hb1 x0
    have y1 := cell_later hb1 x1
    have y2 := cell_later hb1 x2
    have y3 := cell_later hb1 x3
    have t3 := cell_later hb1 s3
    have ALL : ∀ (X : Obj) (p : Addr) (u : Value), W1.cell? p = some u → (W1.alloc X).cell? p = some u := fun X p u hu => cell_later ((Below.refl _ W1).alloc (Nat.le_refl _) X) hu
    have t3a := fun X => ALL X _ _ t3
    have y0a := fun X => ALL X _ _ y0
    have y1a := fun X => ALL X _ _ y1
    have y2a := fun X => ALL X _ _ y2
    have y3a := fun X => ALL X _ _ y3
    have HSTK : Hid (∀ W W2, Below wr.heap.size wr W → W.grownBy W2 (Value.slice A2 m C2).ownBlock → W2.cell? ⟨sg, (n + 1) * 4, none⟩ = some (.int .i64 4) ∧ W2.cell? ⟨sg, (n + 1) * 4 + 1, none⟩ = some (.int .u64 0) ∧ W2.cell? ⟨sg, (n + 1) * 4 + 2, none⟩ = some (.slice none 0 0) ∧ W2.cell? ⟨sg, (n + 1) * 4 + 3, none⟩ = some (.slice B2 LL.length D2)) := fun W W2 hb hg => by
      have hr := hSt0.stays hj hb (m := m) (by rw [hA2, hC2]; exact hg)
      rw [HN.out] at hr
      have r0 := hSt0.row
      rw [HN.out] at r0
      refine ⟨?_, ?_, ?_, ?_⟩
      · rw [hr.cellAt _ (by omega), ← r0.cellAt _ (by omega)]; exact x0
      · rw [hr.cellAt _ (by omega), ← r0.cellAt _ (by omega)]; exact x1
      · rw [hr.cellAt _ (by omega), ← r0.cellAt _ (by omega)]; exact x2
      · rw [hr.cellAt _ (by omega), ← r0.cellAt _ (by omega)]; exact x3
    clear x0 x1 x2 x3 s3 fs ALL
    go_wp2
    have HBD : Hid (∀ W, Below W1.heap.size W1 W → Below wr.heap.size wr W) := fun W hb => below_of hb1 hb
    have HSRC : Hid (∀ W : World, W.heap[W1.heap.size]? = some (ic (mkI 0 0 [] []) none 0 none 0) → ∀ j u, (icells [IX.mk (mkI 0 0 [] []) none 0 none 0])[j]? = some u → W.cell? ((⟨W1.heap.size, 0, none⟩ : Addr).add j) = some u) := fun W hW j u hu => by
      rw [Go.WideShapes.add_plain, Nat.zero_add, cell_of hW]
      match j, hu with
      | 0, hu => simpa [icells] using hu
      | 1, hu => simpa [icells] using hu
      | 2, hu => simpa [icells] using hu
      | 3, hu => simpa [icells] using hu
      | j + 4, hu => simp [icells] at hu
    have hsz1 := hb1.size
    go_region_law (refine step_append_lies _ rfl (.tmp 136) (.tmp 143) 26 rfl (w.heap.size + 1) 28 i0 _ 4 64 Tryd.underlying26 HI.out hz0 hz1 hz2 rfl (by decide) (.slice A2 m C2) m (icells (Xs n)) (by first | (simp [Act.eval]; done) | simp [Act.eval, Act.put]) (HOWN.out _ (HBD.out _ (by repeat (first | exact Below.refl _ _ | apply Below.drew | (refine Below.alloc ?_ (by simp) _))))) ⟨W1.heap.size, 0, none⟩ 1 1 (icells [IX.mk (mkI 0 0 [] []) none 0 none 0]) (by first | (simp [Act.eval]; done) | simp [Act.eval, Act.put]) rfl (HSRC.out _ (heap_alloc_new _ _)) (icells_one _) (by decide) (by unfold maxLen; omega) (by omega) (by simp; omega) _ rfl ?_; intro g2 c2 w2 ho2 hg2 hat2 hlt2; obtain ⟨u3, fu3⟩ := HKEEP.out _ _ (HBD.out _ (by repeat (first | exact Below.refl _ _ | apply Below.drew | (refine Below.alloc ?_ (by simp) _)))) hg2; obtain ⟨v0, v1, v2, v3⟩ := HSTK.out _ _ (HBD.out _ (by repeat (first | exact Below.refl _ _ | apply Below.drew | (refine Below.alloc ?_ (by simp) _)))) hg2; have R4 := HK4.out _ _ _ _ (HBD.out _ (by repeat (first | exact Below.refl _ _ | apply Below.drew | (refine Below.alloc ?_ (by simp) _)))) ho2 hat2; have r0 := (fun u => (R4 u).1); have r1 := (fun u => (R4 u).2.1); have r2 := (fun u => (R4 u).2.2.1); have r3 := (fun u => (R4 u).2.2.2.1); have rf := (fun u i => (R4 u).2.2.2.2 i); clear R4)
    all_goals
      go_wp2
      refine ⟨?_, ?_⟩
      rotate_left
      · simp [B2mu, intOf] <;> omega
      · unfold B2I
        repeat (apply Exists.intro)
        refine ⟨?_, rfl⟩
        exact ⟨n + 1, kk + 1, by omega, by go_num, sg, cap, rfl, _, HNX2.out, HEND4.out _ _ _ _ (HBD.out _ (by repeat (first | exact Below.refl _ _ | apply Below.drew | (refine Below.alloc ?_ (by simp) _)))) hg2 ho2 hat2⟩

set_option maxRecDepth 1000000 in
set_option maxHeartbeats 4000000 in
theorem bcase_last (w wr : World) (L : List FT) (kk sg cap : Nat) (Es : List IX) (Xs : Nat → List IX) (Q0 : Exit → Act → World → Prop) (c0 c1 c2 u4 u5 u6 u7 u9 u10 u11 u12 u13 u14 u15 u16 u17 u18 u19 u20 u21 u22 u23 u24 u25 u26 u27 u28 u29 u30 u31 u32 u33 u34 u35 u36 u37 u38 u39 u40 u41 u42 u43 u44 u45 u46 u47 u48 u49 u50 u51 u52 u53 u54 u55 u56 u57 u58 u59 u60 u61 u62 u63 u64 u65 u66 u67 u68 u69 u70 u71 u72 u73 u74 u75 u76 u77 u78 u79 u80 u81 u82 u83 u84 u85 u86 u87 u88 u89 u90 u91 u92 u93 u94 u95 u96 u97 u98 u99 u100 u101 u102 u103 u104 u105 u106 u107 u108 u109 u110 u111 u112 u113 u114 u115 u116 u117 u118 u119 u120 u121 u122 u123 u124 u125 u126 u127 u128 u129 u130 u131 u132 u133 u134 u135 u136 u137 u138 u139 u140 u141 u142 u143 u144 u145 u146 u147 u148 u149 u150 u151 u152 u153 u154 u155 u156 u157 u158 u159 u160 u161 u162 u163 u164 u165 u166 u167 u168 u169 u170 u171 u172 u173 u174 u175 u176 u177 u178 u179 u180 u181 u182 u183 u184 : Value) (HQ : Hid (B2Q w L c0 c1 c2 Q0))
    (hkq : kk ≤ 107) (HS : Hid (Stk (Z0 w) wr w.heap.size sg cap Es Xs)) (HX : Hid (∀ j, (Xs j).length ≤ kk)) (HCS : Hid (colS (stk Xs Es.length) = bltS L)) (HN : Hid (Es.length = 1)) :
    Code.wp Tryd.prog ((loopsOf (Tryd.f8.body.getD .skip)).getD 1 .skip) (Exit.then (fun a' w'' => B2I w L c0 c1 c2 a' w'' ∧ B2mu a' w'' < B2mu ⟨#[c0, c1, c2, (.slice (some ⟨sg, 0, none⟩) 1 cap), u4, u5, u6, u7, (.int .i64 1), u9, u10, u11, u12, u13, u14, u15, u16, u17, u18, u19, u20, u21, u22, u23, u24, u25, u26, u27, u28, u29, u30, u31, u32, u33, u34, u35, u36, u37, u38, u39, u40, u41, u42, u43, u44, u45, u46, u47, u48, u49, u50, u51, u52, u53, u54, u55, u56, u57, u58, u59, u60, u61, u62, u63, u64, u65, u66, u67, u68, u69, u70, u71, u72, u73, u74, u75, u76, u77, u78, u79, u80, u81, u82, u83, u84, u85, u86, u87, u88, u89, u90, u91, u92, u93, u94, u95, u96, u97, u98, u99, u100, u101, u102, u103, u104, u105, u106, u107, u108, u109, u110, u111, u112, u113, u114, u115, u116, u117, u118, u119, u120, u121, u122, u123, u124, u125, u126, u127, u128, u129, u130, u131, u132, u133, u134, u135, u136, u137, u138, u139, u140, u141, u142, u143, u144, u145, u146, u147, u148, u149, u150, u151, u152, u153, u154, u155, u156, u157, u158, u159, u160, u161, u162, u163, u164, u165, u166, u167, u168, u169, u170, u171, u172, u173, u174, u175, u176, u177, u178, u179, u180, u181, u182, u183, u184], []⟩ wr) (noP Q0)) ⟨#[c0, c1, c2, (.slice (some ⟨sg, 0, none⟩) 1 cap), u4, u5, u6, u7, (.int .i64 1), u9, u10, u11, u12, u13, u14, u15, u16, u17, u18, u19, u20, u21, u22, u23, u24, u25, u26, u27, u28, u29, u30, u31, u32, u33, u34, u35, u36, u37, u38, u39, u40, u41, u42, u43, u44, u45, u46, u47, u48, u49, u50, u51, u52, u53, u54, u55, u56, u57, u58, u59, u60, u61, u62, u63, u64, u65, u66, u67, u68, u69, u70, u71, u72, u73, u74, u75, u76, u77, u78, u79, u80, u81, u82, u83, u84, u85, u86, u87, u88, u89, u90, u91, u92, u93, u94, u95, u96, u97, u98, u99, u100, u101, u102, u103, u104, u105, u106, u107, u108, u109, u110, u111, u112, u113, u114, u115, u116, u117, u118, u119, u120, u121, u122, u123, u124, u125, u126, u127, u128, u129, u130, u131, u132, u133, u134, u135, u136, u137, u138, u139, u140, u141, u142, u143, u144, u145, u146, u147, u148, u149, u150, u151, u152, u153, u154, u155, u156, u157, u158, u159, u160, u161, u162, u163, u164, u165, u166, u167, u168, u169, u170, u171, u172, u173, u174, u175, u176, u177, u178, u179, u180, u181, u182, u183, u184], []⟩ wr := by
  conv => arg 2; whnf
  go_wp2
  exact HQ.out.ends _ _ _ _ _ _ _ _ _ _ _ _ _ _ _ _ _ _ _ _ _ _ _ _ _ _ _ _ _ _ _ _ _ _ _ _ _ _ _ _ _ _ _ _ _ _ _ _ _ _ _ _ _ _ _ _ _ _ _ _ _ _ _ _ _ _ _ _ _ _ _ _ _ _ _ _ _ _ _ _ _ _ _ _ _ _ _ _ _ _ _ _ _ _ _ _ _ _ _ _ _ _ _ _ _ _ _ _ _ _ _ _ _ _ _ _ _ _ _ _ _ _ _ _ _ _ _ _ _ _ _ _ _ _ _ _ _ _ _ _ _ _ _ _ _ _ _ _ _ _ _ _ _ _ _ _ _ _ _ _ _ _ _ _ _ _ _ _ _ _ _ _ _ _ _ _ _ _ _ _ _ sg cap kk Es Xs wr HS.out HN.out hkq HX.out HCS.out
end Go.Proofs.YthjemjclpjmomaaDoor
