/- A part of the walk of the laws' built. -/
import Derived.Test.YthjemjclpjmomaaDoorCBuiltA
namespace Go.Proofs.YthjemjclpjmomaaDoor
open Go.RowKit
set_option linter.unusedVariables false

set_option maxRecDepth 1000000 in
set_option maxHeartbeats 100000000 in
theorem bcase_open (w wr : World) (fb fo c : Nat) (L : List FT) (k sg cap : Nat) (Es : List IX) (Xs : Nat → List IX) (f : FT) (b1 : Option Addr) (d1 : Nat) (b2 : Option Addr) (n2 d2 : Nat) (i0 : TypeInfo) (Q0 : Exit → Act → World → Prop) (c0 c1 c2 c9 c10 u4 u5 u6 u7 u8 u14 u15 u16 u17 u18 u19 u20 u21 u22 u23 u24 u25 u26 u27 u28 u29 u30 u31 u32 u33 u34 u35 u36 u37 u38 u39 u40 u41 u42 u43 u44 u45 u46 u47 u48 u49 u50 u51 u52 u53 u54 u55 u56 u57 u58 u59 u60 u61 u62 u63 u64 u65 u66 u67 u68 u69 u70 u71 u72 u73 u74 u75 u76 u77 u78 u79 u80 u81 u82 u83 u84 u85 u86 u87 u88 u89 u90 u91 u92 u93 u94 u95 u96 u97 u98 u99 u100 u101 u102 u103 u104 u105 u106 u107 u108 u109 u110 u111 u112 u113 u114 u115 u116 u117 u118 u119 u120 u121 u122 u123 u124 u125 u126 u127 u128 u129 u130 u131 u132 u133 u134 u135 u136 u137 u138 u139 u140 u141 u142 u143 u144 u145 u146 u147 u148 u149 u150 u151 u152 u153 u154 u155 u156 u157 u158 u159 u160 u161 u162 u163 u164 u165 u166 u167 u168 u169 u170 u171 u172 u173 u174 u175 u176 u177 u178 u179 u180 u181 u182 u183 u184 : Value)
    (HI : Hid (Tryd.prog.info? 28 = some i0)) (hz0 : i0.zero = some (.agg #[.int .i64 0, .int .u64 0, .slice none 0 0, .slice none 0 0])) (hz1 : i0.size = 4) (hz2 : i0.bytes = 64)
    (hz : L.length ≤ 2000000000000) (hkl : k < L.length) (hlt100 : k < 100) (h100b : ((k : Int) == 100) = false) (h1 : 1 ≤ Es.length) (h7 : Es.length ≤ 7) (HS : Hid (Stk (Z0 w) wr w.heap.size sg cap Es Xs)) (HX : Hid (∀ j, (Xs j).length ≤ k)) (HNX : Hid (stF (L.take (k + 1)) = stepB f (stk Xs Es.length)))
    (g0 : wr.cell? ⟨fb, fo + k * 6, none⟩ = some (.int .i64 f.k)) (g1 : wr.cell? ⟨fb, fo + k * 6 + 1, none⟩ = some (.int .u64 f.n)) (g2 : wr.cell? ⟨fb, fo + k * 6 + 2, none⟩ = some (.slice b1 f.b.length d1)) (g3 : wr.cell? ⟨fb, fo + k * 6 + 3, none⟩ = some (.slice b2 n2 d2)) (g4 : wr.cell? ⟨fb, fo + k * 6 + 4, none⟩ = some (.bool f.o)) (g5 : wr.cell? ⟨fb, fo + k * 6 + 5, none⟩ = some (.bool f.c))
    (fB : f.n < 18446744073709551616 ∧ -9223372036854775808 ≤ f.k ∧ f.k ≤ 9223372036854775807 ∧ f.b.length ≤ 140737488351232) (HR : Hid (Row w b1 f.b ∧ f.b.length ≤ d1)) (HBW : Hid (Below w.heap.size w wr)) (hsz : w.heap.size ≤ wr.heap.size)
    (hC : ¬ (f.c = true ∧ 1 < Es.length)) (hO0 : f.o = true ∧ Es.length < 7) :
    Code.wp Tryd.prog ((loopsOf (Tryd.f8.body.getD .skip)).getD 0 .skip) (Exit.then (fun a' w'' => BI w (some ⟨fb, fo, none⟩) c L c0 c1 c2 c9 c10 a' w'' ∧ Bmu L a' w'' < Bmu L ⟨#[c0, c1, c2, (.slice (some ⟨sg, 0, none⟩) Es.length cap), u4, u5, u6, u7, u8, c9, c10, .slice (some ⟨fb, fo, none⟩) L.length c, .int .i64 (L.length : Nat), (.int .i64 (k : Nat)), u14, u15, u16, u17, u18, u19, u20, u21, u22, u23, u24, u25, u26, u27, u28, u29, u30, u31, u32, u33, u34, u35, u36, u37, u38, u39, u40, u41, u42, u43, u44, u45, u46, u47, u48, u49, u50, u51, u52, u53, u54, u55, u56, u57, u58, u59, u60, u61, u62, u63, u64, u65, u66, u67, u68, u69, u70, u71, u72, u73, u74, u75, u76, u77, u78, u79, u80, u81, u82, u83, u84, u85, u86, u87, u88, u89, u90, u91, u92, u93, u94, u95, u96, u97, u98, u99, u100, u101, u102, u103, u104, u105, u106, u107, u108, u109, u110, u111, u112, u113, u114, u115, u116, u117, u118, u119, u120, u121, u122, u123, u124, u125, u126, u127, u128, u129, u130, u131, u132, u133, u134, u135, u136, u137, u138, u139, u140, u141, u142, u143, u144, u145, u146, u147, u148, u149, u150, u151, u152, u153, u154, u155, u156, u157, u158, u159, u160, u161, u162, u163, u164, u165, u166, u167, u168, u169, u170, u171, u172, u173, u174, u175, u176, u177, u178, u179, u180, u181, u182, u183, u184], []⟩ wr) (noP Q0)) ⟨#[c0, c1, c2, (.slice (some ⟨sg, 0, none⟩) Es.length cap), u4, u5, u6, u7, u8, c9, c10, .slice (some ⟨fb, fo, none⟩) L.length c, .int .i64 (L.length : Nat), (.int .i64 (k : Nat)), u14, u15, u16, u17, u18, u19, u20, u21, u22, u23, u24, u25, u26, u27, u28, u29, u30, u31, u32, u33, u34, u35, u36, u37, u38, u39, u40, u41, u42, u43, u44, u45, u46, u47, u48, u49, u50, u51, u52, u53, u54, u55, u56, u57, u58, u59, u60, u61, u62, u63, u64, u65, u66, u67, u68, u69, u70, u71, u72, u73, u74, u75, u76, u77, u78, u79, u80, u81, u82, u83, u84, u85, u86, u87, u88, u89, u90, u91, u92, u93, u94, u95, u96, u97, u98, u99, u100, u101, u102, u103, u104, u105, u106, u107, u108, u109, u110, u111, u112, u113, u114, u115, u116, u117, u118, u119, u120, u121, u122, u123, u124, u125, u126, u127, u128, u129, u130, u131, u132, u133, u134, u135, u136, u137, u138, u139, u140, u141, u142, u143, u144, u145, u146, u147, u148, u149, u150, u151, u152, u153, u154, u155, u156, u157, u158, u159, u160, u161, u162, u163, u164, u165, u166, u167, u168, u169, u170, u171, u172, u173, u174, u175, u176, u177, u178, u179, u180, u181, u182, u183, u184], []⟩ wr := by
  conv => arg 2; whnf
  obtain ⟨n, hn⟩ : ∃ n, Es.length = n + 1 := ⟨Es.length - 1, by omega⟩
  have HN : Hid (Es.length = n + 1) := hn
  rw [hn] at h1 h7 hC ⊢
  have hO : f.o = true ∧ n + 1 < 7 := ⟨hO0.1, by have := hO0.2; omega⟩
  clear hO0
  have hA1 : f.c = false ∨ (f.c = true ∧ ¬ (1 : Int) < (n : Int) + 1) := by
    cases hcl : f.c with
    | false => exact .inl rfl
    | true => exact .inr ⟨rfl, fun e => hC ⟨hcl, by omega⟩⟩
  have hlt7 : (n : Int) + 1 < 7 := by omega
  have h72 : n + 2 ≤ 7 := by omega
  have HNX2 : Hid (stF (L.take (k + 1)) = [] :: stk Xs (n + 1)) := by
    show _ = _
    rw [HNX.out, hn, show stk Xs (n + 1) = (Xs n).map IX.x :: stk Xs n from rfl, stepB_cons, if_neg (by rw [stk_length]; exact hC), if_pos ⟨hO.1, by rw [stk_length]; exact hO.2⟩]
  rw [hO.1] at g4
  clear hC hO hn
  have HOWN : Hid (∀ W, Below wr.heap.size wr W → W.ownsRow (w.heap.size + 1) 28 4 (.slice (some ⟨sg, 0, none⟩) (n + 1) cap) (n + 1) (icells Es)) := fun W hb => by
    have := (Off.of_below (S := fun _ => False) hb).owns HS.out.row (fun _ _ => id)
    rw [HN.out] at this
    simpa using this
  have HSRC : Hid (∀ (W V : World), V.heap[W.heap.size]? = some (ic (mkI 4 0 [] []) none 0 none 0) → ∀ j u, (icells [IX.mk (mkI 4 0 [] []) none 0 none 0])[j]? = some u → V.cell? ((⟨W.heap.size, 0, none⟩ : Addr).add j) = some u) := fun W V hW j u hu => by
    rw [Go.WideShapes.add_plain, Nat.zero_add, cell_of hW]
    match j, hu with
    | 0, hu => simpa [icells] using hu
    | 1, hu => simpa [icells] using hu
    | 2, hu => simpa [icells] using hu
    | 3, hu => simpa [icells] using hu
    | j + 4, hu => simp [icells] at hu
  have HEND : Hid (∀ (W W2 : World) (g2 c2 : Nat), Below wr.heap.size wr W → W.grownBy W2 (some sg) → W2.ownsRow (w.heap.size + 1) 28 4 (.slice (some ⟨g2, 0, none⟩) (n + 2) c2) (n + 2) (icells Es ++ icells [IX.mk (mkI 4 0 [] []) none 0 none 0]) → (some sg = some g2 ∨ g2 = W.heap.size) → Bd w W2 (.slice (some ⟨g2, 0, none⟩) (n + 2) c2) (k + 1) (stF (L.take (k + 1)))) := fun W W2 g2 c2 hb hg ho ha => by rw [HNX2.out]; exact Bd.opened HS.out HN.out h72 HX.out hb hg ho (ha.imp (fun e => by cases e; rfl) id)
  rcases hA1 with hcl | ⟨hcl, hng⟩
  all_goals
    rw [hcl] at g5
    go_wp2_with (at_builtin; go_must (refine wpList_append_lies _ rfl _ _ 26 rfl (w.heap.size + 1) 28 i0 _ 4 64 Tryd.underlying26 HI.out hz0 hz1 hz2 rfl (by decide) (.slice (some ⟨sg, 0, none⟩) (n + 1) cap) (n + 1) (icells Es) (by first | rfl | (simp [Act.eval]; done) | simp [Act.eval, Act.put]) (HOWN.out _ (by repeat (first | exact Below.refl _ _ | apply Below.drew | (refine Below.alloc ?_ (by simp) _)))) ⟨(wr.alloc (.cells #[.int .i64 f.k, .int .u64 f.n, .slice b1 f.b.length d1, .slice b2 n2 d2, .bool true, .bool f.c] 48)).heap.size, 0, none⟩ 1 1 (icells [IX.mk (mkI 4 0 [] []) none 0 none 0]) (by first | (simp [Act.eval]; done) | simp [Act.eval, Act.put]) rfl (HSRC.out _ _ (by rw [hcl]; exact heap_alloc_new _ _)) (icells_one _) (by decide) (by unfold maxLen; omega) (by omega) (by simp; omega) _ rfl ?_; intro g2 c2 w2 ho2 hg2 hat2 hlt2))
    refine ⟨?_, ?_⟩
    rotate_left
    · simp [Bmu, intOf]; omega
    · unfold BI
      repeat (apply Exists.intro)
      refine ⟨?_, rfl⟩
      exact ⟨k + 1, by omega, by omega, by go_num, HEND.out _ _ _ _ (by repeat (first | exact Below.refl _ _ | apply Below.drew | (refine Below.alloc ?_ (by simp) _))) hg2 ho2 hat2⟩
end Go.Proofs.YthjemjclpjmomaaDoor
