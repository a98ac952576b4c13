/- A part of utf8.Valid's walk. -/
import Derived.Test.YtjfmgokpnpmdpaaDoorCValidA
namespace Go.Proofs.YtjfmgokpnpmdpaaDoor
open Go.RowKit
set_option linter.unusedVariables false

set_option maxRecDepth 1000000 in
set_option maxHeartbeats 40000000 in
theorem vcase_one (X lo hi : Nat → Nat) (w wr : World) (ANS : Bool) (bb o b : Nat) (t : List Nat) (g n : Nat) (Q0 : Exit → Act → World → Prop) (c1 c7 c8 c9 c10 c11 c12 u2 u3 u4 u5 u6 u13 u14 u15 u16 u17 u18 u19 u20 u21 u22 u23 u24 u25 u26 u27 u28 u29 u30 u31 u32 u33 u34 u35 u36 u37 u38 u39 u40 u41 u42 u43 u44 u45 u46 u47 u48 u49 u50 u51 u52 u53 u54 u55 u56 u57 u58 u59 u60 u61 u62 u63 u64 u65 u66 u67 u68 u69 u70 u71 u72 u73 u74 u75 u76 u77 u78 u79 u80 u81 u82 u83 u84 u85 u86 u87 u88 u89 u90 u91 u92 u93 u94 u95 u96 u97 u98 u99 u100 u101 u102 u103 u104 u105 u106 u107 u108 u109 u110 u111 u112 u113 u114 u115 u116 u117 u118 u119 u120 u121 u122 u123 u124 u125 u126 u127 u128 u129 u130 u131 u132 u133 u134 u135 u136 u137 u138 u139 u140 u141 u142 u143 u144 u145 u146 u147 u148 u149 u150 u151 u152 u153 u154 u155 u156 u157 u158 u159 u160 u161 u162 u163 u164 u165 u166 u167 u168 u169 u170 u171 u172 u173 u174 u175 u176 u177 u178 u179 u180 u181 u182 u183 u184 u185 u186 u187 : Value) (HQ : Hid (VQ X lo hi w ANS c1 c7 c8 c9 c10 c11 c12 Q0))
    (HT : Hid (Tabs X lo hi wr)) (HB : Hid (Below w.heap.size w wr)) (HRW : Hid (Row wr (some ⟨bb, o, none⟩) (b :: t))) (HC : Hid (∀ i, i < (b :: t).length → wr.cell? ⟨bb, o + i, none⟩ = some (.int .u8 ((b :: t).getD i 0 : Nat)))) (HV : Hid (vl X lo hi (g + 1) (b :: t) = ANS)) (HG : Hid (t.length ≤ g)) (HN0 : Hid (t.length = n)) (hrz2 : n ≤ 140737488351232) (hb : b < 256) (hc0 : wr.cell? ⟨bb, o, none⟩ = some (.int .u8 (b : Nat)))
    (hasc : b < 128) (h00 : n = 0) :
    Code.wp Tryd.prog ((Tryd.f61.body.bind firstLoop).getD .skip) (Exit.then (fun a' w'' => VI X lo hi w ANS c1 c7 c8 c9 c10 c11 c12 a' w'' ∧ Vmu a' w'' < Vmu ⟨#[(.slice (some ⟨bb, o, none⟩) (n + 1) (n + 1)), c1, u2, u3, u4, u5, u6, c7, c8, c9, c10, c11, c12, u13, u14, u15, u16, u17, u18, u19, u20, u21, u22, u23, u24, u25, u26, u27, u28, u29, u30, u31, u32, u33, u34, u35, u36, u37, u38, u39, u40, u41, u42, u43, u44, u45, u46, u47, u48, u49, u50, u51, u52, u53, u54, u55, u56, u57, u58, u59, u60, u61, u62, u63, u64, u65, u66, u67, u68, u69, u70, u71, u72, u73, u74, u75, u76, u77, u78, u79, u80, u81, u82, u83, u84, u85, u86, u87, u88, u89, u90, u91, u92, u93, u94, u95, u96, u97, u98, u99, u100, u101, u102, u103, u104, u105, u106, u107, u108, u109, u110, u111, u112, u113, u114, u115, u116, u117, u118, u119, u120, u121, u122, u123, u124, u125, u126, u127, u128, u129, u130, u131, u132, u133, u134, u135, u136, u137, u138, u139, u140, u141, u142, u143, u144, u145, u146, u147, u148, u149, u150, u151, u152, u153, u154, u155, u156, u157, u158, u159, u160, u161, u162, u163, u164, u165, u166, u167, u168, u169, u170, u171, u172, u173, u174, u175, u176, u177, u178, u179, u180, u181, u182, u183, u184, u185, u186, u187], []⟩ wr) Q0) ⟨#[(.slice (some ⟨bb, o, none⟩) (n + 1) (n + 1)), c1, u2, u3, u4, u5, u6, c7, c8, c9, c10, c11, c12, u13, u14, u15, u16, u17, u18, u19, u20, u21, u22, u23, u24, u25, u26, u27, u28, u29, u30, u31, u32, u33, u34, u35, u36, u37, u38, u39, u40, u41, u42, u43, u44, u45, u46, u47, u48, u49, u50, u51, u52, u53, u54, u55, u56, u57, u58, u59, u60, u61, u62, u63, u64, u65, u66, u67, u68, u69, u70, u71, u72, u73, u74, u75, u76, u77, u78, u79, u80, u81, u82, u83, u84, u85, u86, u87, u88, u89, u90, u91, u92, u93, u94, u95, u96, u97, u98, u99, u100, u101, u102, u103, u104, u105, u106, u107, u108, u109, u110, u111, u112, u113, u114, u115, u116, u117, u118, u119, u120, u121, u122, u123, u124, u125, u126, u127, u128, u129, u130, u131, u132, u133, u134, u135, u136, u137, u138, u139, u140, u141, u142, u143, u144, u145, u146, u147, u148, u149, u150, u151, u152, u153, u154, u155, u156, u157, u158, u159, u160, u161, u162, u163, u164, u165, u166, u167, u168, u169, u170, u171, u172, u173, u174, u175, u176, u177, u178, u179, u180, u181, u182, u183, u184, u185, u186, u187], []⟩ wr := by
  conv => arg 2; whnf
  have HN : Hid (vl X lo hi g (sk t) = ANS) := by show _ = _; rw [← HV.out, vl, if_pos hasc]
  subst h00
  have ht : t = [] := List.eq_nil_of_length_eq_zero HN0.out
  have HSK : Hid (vl X lo hi g [] = ANS) := by show _ = _; rw [← HN.out, ht]; rfl
  simp only [Nat.zero_add]
  go_wp2
  refine ⟨?_, ?_⟩
  rotate_left
  · show lenV _ < lenV _; simp [lenV] <;> omega
  · unfold VI
    repeat (apply Exists.intro)
    refine ⟨?_, rfl⟩
    exact ⟨HB.out, _, [], g, rfl, row_nil_v _ _, ⟨HSK.out, Nat.zero_le _⟩, by simp⟩

set_option maxRecDepth 1000000 in
set_option maxHeartbeats 40000000 in
theorem vcase_few (X lo hi : Nat → Nat) (w wr : World) (ANS : Bool) (bb o b : Nat) (t : List Nat) (g n : Nat) (Q0 : Exit → Act → World → Prop) (c1 c7 c8 c9 c10 c11 c12 u2 u3 u4 u5 u6 u13 u14 u15 u16 u17 u18 u19 u20 u21 u22 u23 u24 u25 u26 u27 u28 u29 u30 u31 u32 u33 u34 u35 u36 u37 u38 u39 u40 u41 u42 u43 u44 u45 u46 u47 u48 u49 u50 u51 u52 u53 u54 u55 u56 u57 u58 u59 u60 u61 u62 u63 u64 u65 u66 u67 u68 u69 u70 u71 u72 u73 u74 u75 u76 u77 u78 u79 u80 u81 u82 u83 u84 u85 u86 u87 u88 u89 u90 u91 u92 u93 u94 u95 u96 u97 u98 u99 u100 u101 u102 u103 u104 u105 u106 u107 u108 u109 u110 u111 u112 u113 u114 u115 u116 u117 u118 u119 u120 u121 u122 u123 u124 u125 u126 u127 u128 u129 u130 u131 u132 u133 u134 u135 u136 u137 u138 u139 u140 u141 u142 u143 u144 u145 u146 u147 u148 u149 u150 u151 u152 u153 u154 u155 u156 u157 u158 u159 u160 u161 u162 u163 u164 u165 u166 u167 u168 u169 u170 u171 u172 u173 u174 u175 u176 u177 u178 u179 u180 u181 u182 u183 u184 u185 u186 u187 : Value) (HQ : Hid (VQ X lo hi w ANS c1 c7 c8 c9 c10 c11 c12 Q0))
    (HT : Hid (Tabs X lo hi wr)) (HB : Hid (Below w.heap.size w wr)) (HRW : Hid (Row wr (some ⟨bb, o, none⟩) (b :: t))) (HC : Hid (∀ i, i < (b :: t).length → wr.cell? ⟨bb, o + i, none⟩ = some (.int .u8 ((b :: t).getD i 0 : Nat)))) (HV : Hid (vl X lo hi (g + 1) (b :: t) = ANS)) (HG : Hid (t.length ≤ g)) (HN0 : Hid (t.length = n)) (hrz2 : n ≤ 140737488351232) (hb : b < 256) (hc0 : wr.cell? ⟨bb, o, none⟩ = some (.int .u8 (b : Nat)))
    (hasc : b < 128) (hn0 : 0 < n) (hle8 : n ≤ 8) :
    Code.wp Tryd.prog ((Tryd.f61.body.bind firstLoop).getD .skip) (Exit.then (fun a' w'' => VI X lo hi w ANS c1 c7 c8 c9 c10 c11 c12 a' w'' ∧ Vmu a' w'' < Vmu ⟨#[(.slice (some ⟨bb, o, none⟩) (n + 1) (n + 1)), c1, u2, u3, u4, u5, u6, c7, c8, c9, c10, c11, c12, u13, u14, u15, u16, u17, u18, u19, u20, u21, u22, u23, u24, u25, u26, u27, u28, u29, u30, u31, u32, u33, u34, u35, u36, u37, u38, u39, u40, u41, u42, u43, u44, u45, u46, u47, u48, u49, u50, u51, u52, u53, u54, u55, u56, u57, u58, u59, u60, u61, u62, u63, u64, u65, u66, u67, u68, u69, u70, u71, u72, u73, u74, u75, u76, u77, u78, u79, u80, u81, u82, u83, u84, u85, u86, u87, u88, u89, u90, u91, u92, u93, u94, u95, u96, u97, u98, u99, u100, u101, u102, u103, u104, u105, u106, u107, u108, u109, u110, u111, u112, u113, u114, u115, u116, u117, u118, u119, u120, u121, u122, u123, u124, u125, u126, u127, u128, u129, u130, u131, u132, u133, u134, u135, u136, u137, u138, u139, u140, u141, u142, u143, u144, u145, u146, u147, u148, u149, u150, u151, u152, u153, u154, u155, u156, u157, u158, u159, u160, u161, u162, u163, u164, u165, u166, u167, u168, u169, u170, u171, u172, u173, u174, u175, u176, u177, u178, u179, u180, u181, u182, u183, u184, u185, u186, u187], []⟩ wr) Q0) ⟨#[(.slice (some ⟨bb, o, none⟩) (n + 1) (n + 1)), c1, u2, u3, u4, u5, u6, c7, c8, c9, c10, c11, c12, u13, u14, u15, u16, u17, u18, u19, u20, u21, u22, u23, u24, u25, u26, u27, u28, u29, u30, u31, u32, u33, u34, u35, u36, u37, u38, u39, u40, u41, u42, u43, u44, u45, u46, u47, u48, u49, u50, u51, u52, u53, u54, u55, u56, u57, u58, u59, u60, u61, u62, u63, u64, u65, u66, u67, u68, u69, u70, u71, u72, u73, u74, u75, u76, u77, u78, u79, u80, u81, u82, u83, u84, u85, u86, u87, u88, u89, u90, u91, u92, u93, u94, u95, u96, u97, u98, u99, u100, u101, u102, u103, u104, u105, u106, u107, u108, u109, u110, u111, u112, u113, u114, u115, u116, u117, u118, u119, u120, u121, u122, u123, u124, u125, u126, u127, u128, u129, u130, u131, u132, u133, u134, u135, u136, u137, u138, u139, u140, u141, u142, u143, u144, u145, u146, u147, u148, u149, u150, u151, u152, u153, u154, u155, u156, u157, u158, u159, u160, u161, u162, u163, u164, u165, u166, u167, u168, u169, u170, u171, u172, u173, u174, u175, u176, u177, u178, u179, u180, u181, u182, u183, u184, u185, u186, u187], []⟩ wr := by
  conv => arg 2; whnf
  have HN : Hid (vl X lo hi g (sk t) = ANS) := by show _ = _; rw [← HV.out, vl, if_pos hasc]
  have HRD : Hid (∀ W, Below wr.heap.size wr W → ∀ k n', n = k + n' → Row W (some ⟨bb, o + 1 + k, none⟩) (t.drop k)) := fun W hb k n' h1 => (row_drop HRW.out (k + 1) (o + 1 + k) (by simp; have := HN0.out; omega) (fun _ => by omega)).later hb
  have hle : (n : Int) ≤ 8 := by omega
  have HSK : Hid (sk t = t) := by show _ = _; unfold sk; rw [if_neg (fun h => by have := HN0.out; omega)]
  go_wp2
  refine ⟨?_, ?_⟩
  rotate_left
  · show lenV _ < lenV _; simp [lenV] <;> omega
  · unfold VI
    repeat (apply Exists.intro)
    refine ⟨?_, rfl⟩
    have h3 := HRD.out _ (Below.refl wr.heap.size wr) 0 n (by omega)
    rw [List.drop_zero, Nat.add_zero] at h3
    exact ⟨HB.out, _, t, g, by rw [HN0.out], h3, ⟨by rw [← HN.out, HSK.out], HG.out⟩, by rw [HN0.out]; omega⟩

set_option maxRecDepth 1000000 in
set_option maxHeartbeats 40000000 in
theorem vcase_word (X lo hi : Nat → Nat) (w wr : World) (ANS : Bool) (bb o b : Nat) (t : List Nat) (g n : Nat) (n2 : Nat) (Q0 : Exit → Act → World → Prop) (c1 c7 c8 c9 c10 c11 c12 u2 u3 u4 u5 u6 u13 u14 u15 u16 u17 u18 u19 u20 u21 u22 u23 u24 u25 u26 u27 u28 u29 u30 u31 u32 u33 u34 u35 u36 u37 u38 u39 u40 u41 u42 u43 u44 u45 u46 u47 u48 u49 u50 u51 u52 u53 u54 u55 u56 u57 u58 u59 u60 u61 u62 u63 u64 u65 u66 u67 u68 u69 u70 u71 u72 u73 u74 u75 u76 u77 u78 u79 u80 u81 u82 u83 u84 u85 u86 u87 u88 u89 u90 u91 u92 u93 u94 u95 u96 u97 u98 u99 u100 u101 u102 u103 u104 u105 u106 u107 u108 u109 u110 u111 u112 u113 u114 u115 u116 u117 u118 u119 u120 u121 u122 u123 u124 u125 u126 u127 u128 u129 u130 u131 u132 u133 u134 u135 u136 u137 u138 u139 u140 u141 u142 u143 u144 u145 u146 u147 u148 u149 u150 u151 u152 u153 u154 u155 u156 u157 u158 u159 u160 u161 u162 u163 u164 u165 u166 u167 u168 u169 u170 u171 u172 u173 u174 u175 u176 u177 u178 u179 u180 u181 u182 u183 u184 u185 u186 u187 : Value) (HQ : Hid (VQ X lo hi w ANS c1 c7 c8 c9 c10 c11 c12 Q0))
    (HT : Hid (Tabs X lo hi wr)) (HB : Hid (Below w.heap.size w wr)) (HRW : Hid (Row wr (some ⟨bb, o, none⟩) (b :: t))) (HC : Hid (∀ i, i < (b :: t).length → wr.cell? ⟨bb, o + i, none⟩ = some (.int .u8 ((b :: t).getD i 0 : Nat)))) (HV : Hid (vl X lo hi (g + 1) (b :: t) = ANS)) (HG : Hid (t.length ≤ g)) (HN0 : Hid (t.length = n)) (hrz2 : n ≤ 140737488351232) (hb : b < 256) (hc0 : wr.cell? ⟨bb, o, none⟩ = some (.int .u8 (b : Nat)))
    (hn : n = n2 + 8) (hasc : b < 128) (hn2 : 0 < n2) (hm1 : ¬ m1 t = true) :
    Code.wp Tryd.prog ((Tryd.f61.body.bind firstLoop).getD .skip) (Exit.then (fun a' w'' => VI X lo hi w ANS c1 c7 c8 c9 c10 c11 c12 a' w'' ∧ Vmu a' w'' < Vmu ⟨#[(.slice (some ⟨bb, o, none⟩) (n + 1) (n + 1)), c1, u2, u3, u4, u5, u6, c7, c8, c9, c10, c11, c12, u13, u14, u15, u16, u17, u18, u19, u20, u21, u22, u23, u24, u25, u26, u27, u28, u29, u30, u31, u32, u33, u34, u35, u36, u37, u38, u39, u40, u41, u42, u43, u44, u45, u46, u47, u48, u49, u50, u51, u52, u53, u54, u55, u56, u57, u58, u59, u60, u61, u62, u63, u64, u65, u66, u67, u68, u69, u70, u71, u72, u73, u74, u75, u76, u77, u78, u79, u80, u81, u82, u83, u84, u85, u86, u87, u88, u89, u90, u91, u92, u93, u94, u95, u96, u97, u98, u99, u100, u101, u102, u103, u104, u105, u106, u107, u108, u109, u110, u111, u112, u113, u114, u115, u116, u117, u118, u119, u120, u121, u122, u123, u124, u125, u126, u127, u128, u129, u130, u131, u132, u133, u134, u135, u136, u137, u138, u139, u140, u141, u142, u143, u144, u145, u146, u147, u148, u149, u150, u151, u152, u153, u154, u155, u156, u157, u158, u159, u160, u161, u162, u163, u164, u165, u166, u167, u168, u169, u170, u171, u172, u173, u174, u175, u176, u177, u178, u179, u180, u181, u182, u183, u184, u185, u186, u187], []⟩ wr) Q0) ⟨#[(.slice (some ⟨bb, o, none⟩) (n + 1) (n + 1)), c1, u2, u3, u4, u5, u6, c7, c8, c9, c10, c11, c12, u13, u14, u15, u16, u17, u18, u19, u20, u21, u22, u23, u24, u25, u26, u27, u28, u29, u30, u31, u32, u33, u34, u35, u36, u37, u38, u39, u40, u41, u42, u43, u44, u45, u46, u47, u48, u49, u50, u51, u52, u53, u54, u55, u56, u57, u58, u59, u60, u61, u62, u63, u64, u65, u66, u67, u68, u69, u70, u71, u72, u73, u74, u75, u76, u77, u78, u79, u80, u81, u82, u83, u84, u85, u86, u87, u88, u89, u90, u91, u92, u93, u94, u95, u96, u97, u98, u99, u100, u101, u102, u103, u104, u105, u106, u107, u108, u109, u110, u111, u112, u113, u114, u115, u116, u117, u118, u119, u120, u121, u122, u123, u124, u125, u126, u127, u128, u129, u130, u131, u132, u133, u134, u135, u136, u137, u138, u139, u140, u141, u142, u143, u144, u145, u146, u147, u148, u149, u150, u151, u152, u153, u154, u155, u156, u157, u158, u159, u160, u161, u162, u163, u164, u165, u166, u167, u168, u169, u170, u171, u172, u173, u174, u175, u176, u177, u178, u179, u180, u181, u182, u183, u184, u185, u186, u187], []⟩ wr := by
  conv => arg 2; whnf
  subst hn
  have HN : Hid (vl X lo hi g (sk t) = ANS) := by show _ = _; rw [← HV.out, vl, if_pos hasc]
  obtain ⟨F, hF⟩ : ∃ F : Nat → Int, ∀ k, F (o + 1 + k) = wdL (t.drop k) := ⟨fun off => wdL (t.drop (off - (o + 1))), fun k => by simp only [Nat.add_sub_cancel_left]⟩
  have HFF : Hid (∀ k, F (o + 1 + k) = wdL (t.drop k)) := hF
  clear hF
  have HWD : Hid (∀ W off n', Below wr.heap.size wr W → o + 1 ≤ off → off + n' = o + 1 + (n2 + 8) → 8 ≤ n' → Calls Tryd.prog 72 #[.slice (some ⟨bb, off, none⟩) n' n'] W fun e w' => e = .returned (.int .u64 (F off)) ∧ ∃ q, w' = W.drewN q) := fun W off n' hb h0 h1 h2 => by
    obtain ⟨k, rfl⟩ : ∃ k, off = o + 1 + k := ⟨off - (o + 1), by omega⟩
    have hr := (row_drop HRW.out (k + 1) (o + 1 + k) (by simp; have := HN0.out; omega) (fun _ => by omega)).later hb
    have hd : (b :: t).drop (k + 1) = t.drop k := rfl
    rw [hd] at hr
    have := word_row W _ n' (t.drop k) hr (by rw [List.length_drop, HN0.out]; omega) (by rw [List.length_drop, HN0.out]; omega)
    rw [List.length_drop, HN0.out, show (n2 + 8) - k = n' by omega] at this
    rw [HFF.out]
    exact this
  have HRD : Hid (∀ W, Below wr.heap.size wr W → ∀ k n', n2 + 8 = k + n' → Row W (some ⟨bb, o + 1 + k, none⟩) (t.drop k)) := fun W hb k n' h1 => (row_drop HRW.out (k + 1) (o + 1 + k) (by simp; have := HN0.out; omega) (fun _ => by omega)).later hb
  have hm1b : (bits .and .u64 (F (o + 1)) 9259542123273814144 == 0) = false := by have := HFF.out 0; rw [Nat.add_zero, List.drop_zero] at this; rw [this]; unfold m1 at hm1; simpa using hm1
  have HSK : Hid (sk t = t) := by show _ = _; unfold sk; rw [if_neg (fun h => hm1 h.2)]
  clear hm1
  go_wp2_with (go_at_call 72; refine (HWD.out _ _ _ (Below.refl _ _) (by omega) (by omega) (by omega)).mono ?_; rintro e w1 ⟨rfl, q, rfl⟩)
  refine ⟨?_, ?_⟩
  rotate_left
  · show lenV _ < lenV _; simp [lenV] <;> omega
  · unfold VI
    repeat (apply Exists.intro)
    refine ⟨?_, rfl⟩
    have h3 := HRD.out _ (below_drewN (Below.refl wr.heap.size wr) q) 0 (n2 + 8) (by omega)
    rw [List.drop_zero, Nat.add_zero] at h3
    exact ⟨below_drewN HB.out q, _, t, g, by rw [HN0.out], h3, ⟨by rw [← HN.out, HSK.out], HG.out⟩, by rw [HN0.out]; omega⟩

set_option maxRecDepth 1000000 in
set_option maxHeartbeats 40000000 in
theorem vcase_not (X lo hi : Nat → Nat) (w wr : World) (ANS : Bool) (bb o b : Nat) (t : List Nat) (g n : Nat) (Q0 : Exit → Act → World → Prop) (c1 c7 c8 c9 c10 c11 c12 u2 u3 u4 u5 u6 u13 u14 u15 u16 u17 u18 u19 u20 u21 u22 u23 u24 u25 u26 u27 u28 u29 u30 u31 u32 u33 u34 u35 u36 u37 u38 u39 u40 u41 u42 u43 u44 u45 u46 u47 u48 u49 u50 u51 u52 u53 u54 u55 u56 u57 u58 u59 u60 u61 u62 u63 u64 u65 u66 u67 u68 u69 u70 u71 u72 u73 u74 u75 u76 u77 u78 u79 u80 u81 u82 u83 u84 u85 u86 u87 u88 u89 u90 u91 u92 u93 u94 u95 u96 u97 u98 u99 u100 u101 u102 u103 u104 u105 u106 u107 u108 u109 u110 u111 u112 u113 u114 u115 u116 u117 u118 u119 u120 u121 u122 u123 u124 u125 u126 u127 u128 u129 u130 u131 u132 u133 u134 u135 u136 u137 u138 u139 u140 u141 u142 u143 u144 u145 u146 u147 u148 u149 u150 u151 u152 u153 u154 u155 u156 u157 u158 u159 u160 u161 u162 u163 u164 u165 u166 u167 u168 u169 u170 u171 u172 u173 u174 u175 u176 u177 u178 u179 u180 u181 u182 u183 u184 u185 u186 u187 : Value) (HQ : Hid (VQ X lo hi w ANS c1 c7 c8 c9 c10 c11 c12 Q0))
    (HT : Hid (Tabs X lo hi wr)) (HB : Hid (Below w.heap.size w wr)) (HRW : Hid (Row wr (some ⟨bb, o, none⟩) (b :: t))) (HC : Hid (∀ i, i < (b :: t).length → wr.cell? ⟨bb, o + i, none⟩ = some (.int .u8 ((b :: t).getD i 0 : Nat)))) (HV : Hid (vl X lo hi (g + 1) (b :: t) = ANS)) (HG : Hid (t.length ≤ g)) (HN0 : Hid (t.length = n)) (hrz2 : n ≤ 140737488351232) (hb : b < 256) (hc0 : wr.cell? ⟨bb, o, none⟩ = some (.int .u8 (b : Nat)))
    (hasc : ¬ b < 128) (s2 : ¬ X b % 8 = 2) (s3 : ¬ X b % 8 = 3) (s4 : ¬ X b % 8 = 4) :
    Code.wp Tryd.prog ((Tryd.f61.body.bind firstLoop).getD .skip) (Exit.then (fun a' w'' => VI X lo hi w ANS c1 c7 c8 c9 c10 c11 c12 a' w'' ∧ Vmu a' w'' < Vmu ⟨#[(.slice (some ⟨bb, o, none⟩) (n + 1) (n + 1)), c1, u2, u3, u4, u5, u6, c7, c8, c9, c10, c11, c12, u13, u14, u15, u16, u17, u18, u19, u20, u21, u22, u23, u24, u25, u26, u27, u28, u29, u30, u31, u32, u33, u34, u35, u36, u37, u38, u39, u40, u41, u42, u43, u44, u45, u46, u47, u48, u49, u50, u51, u52, u53, u54, u55, u56, u57, u58, u59, u60, u61, u62, u63, u64, u65, u66, u67, u68, u69, u70, u71, u72, u73, u74, u75, u76, u77, u78, u79, u80, u81, u82, u83, u84, u85, u86, u87, u88, u89, u90, u91, u92, u93, u94, u95, u96, u97, u98, u99, u100, u101, u102, u103, u104, u105, u106, u107, u108, u109, u110, u111, u112, u113, u114, u115, u116, u117, u118, u119, u120, u121, u122, u123, u124, u125, u126, u127, u128, u129, u130, u131, u132, u133, u134, u135, u136, u137, u138, u139, u140, u141, u142, u143, u144, u145, u146, u147, u148, u149, u150, u151, u152, u153, u154, u155, u156, u157, u158, u159, u160, u161, u162, u163, u164, u165, u166, u167, u168, u169, u170, u171, u172, u173, u174, u175, u176, u177, u178, u179, u180, u181, u182, u183, u184, u185, u186, u187], []⟩ wr) Q0) ⟨#[(.slice (some ⟨bb, o, none⟩) (n + 1) (n + 1)), c1, u2, u3, u4, u5, u6, c7, c8, c9, c10, c11, c12, u13, u14, u15, u16, u17, u18, u19, u20, u21, u22, u23, u24, u25, u26, u27, u28, u29, u30, u31, u32, u33, u34, u35, u36, u37, u38, u39, u40, u41, u42, u43, u44, u45, u46, u47, u48, u49, u50, u51, u52, u53, u54, u55, u56, u57, u58, u59, u60, u61, u62, u63, u64, u65, u66, u67, u68, u69, u70, u71, u72, u73, u74, u75, u76, u77, u78, u79, u80, u81, u82, u83, u84, u85, u86, u87, u88, u89, u90, u91, u92, u93, u94, u95, u96, u97, u98, u99, u100, u101, u102, u103, u104, u105, u106, u107, u108, u109, u110, u111, u112, u113, u114, u115, u116, u117, u118, u119, u120, u121, u122, u123, u124, u125, u126, u127, u128, u129, u130, u131, u132, u133, u134, u135, u136, u137, u138, u139, u140, u141, u142, u143, u144, u145, u146, u147, u148, u149, u150, u151, u152, u153, u154, u155, u156, u157, u158, u159, u160, u161, u162, u163, u164, u165, u166, u167, u168, u169, u170, u171, u172, u173, u174, u175, u176, u177, u178, u179, u180, u181, u182, u183, u184, u185, u186, u187], []⟩ wr := by
  conv => arg 2; whnf
  have hb2 : 128 ≤ b := by omega
  have hTr := HT.out
  obtain ⟨hX, hxc⟩ := hTr.x b hb
  obtain ⟨Q, hQ⟩ : ∃ Q, X b = Q := ⟨_, rfl⟩
  have hq16 : X b / 16 < 16 := by omega
  obtain ⟨hLo, hla⟩ := hTr.l (X b / 16) hq16
  obtain ⟨hHi, hha⟩ := hTr.h (X b / 16) hq16
  obtain ⟨LO, hLO⟩ : ∃ LO, lo (X b / 16) = LO := ⟨_, rfl⟩
  obtain ⟨HI, hHI⟩ : ∃ HI, hi (X b / 16) = HI := ⟨_, rfl⟩
  have HVL : Hid (ANS = if Q % 8 = 2 then (if bad2 LO HI (b :: t) = true then false else vl X lo hi g ((b :: t).drop 2)) else if Q % 8 = 3 then (if bad3 LO HI (b :: t) = true then false else vl X lo hi g ((b :: t).drop 3)) else if Q % 8 = 4 then (if bad4 LO HI (b :: t) = true then false else vl X lo hi g ((b :: t).drop 4)) else false) := by
    show _ = _
    rw [← HV.out, vl, if_neg hasc, hQ]
    rw [hQ] at hLO hHI
    rw [hLO, hHI]
  rw [hQ] at s2 s3 s4 hX hxc hq16 hla hha hLo hHi
  rw [hQ] at hLO hHI
  rw [hLO] at hla hLo
  rw [hHI] at hha hHi
  have hand := and7 Q hX
  obtain ⟨x1, hx1⟩ : ∃ x1, (b :: t).getD 1 0 = x1 := ⟨_, rfl⟩
  obtain ⟨x2, hx2⟩ : ∃ x2, (b :: t).getD 2 0 = x2 := ⟨_, rfl⟩
  obtain ⟨x3, hx3⟩ : ∃ x3, (b :: t).getD 3 0 = x3 := ⟨_, rfl⟩
  have HX1 : Hid ((b :: t).getD 1 0 = x1) := hx1
  have HX2 : Hid ((b :: t).getD 2 0 = x2) := hx2
  have HX3 : Hid ((b :: t).getD 3 0 = x3) := hx3
  have hbz : (b : Int) < 256 := by omega
  have hqz : (Q : Int) / 16 < 16 := by omega
  clear hTr hLO hHI hQ hx1 hx2 hx3 hasc
  have e2b : (((Q : Int) % 8) == 2) = false := beq_eq_false_iff_ne.2 (by omega)
  have e3b : (((Q : Int) % 8) == 3) = false := beq_eq_false_iff_ne.2 (by omega)
  have e4b : (((Q : Int) % 8) == 4) = false := beq_eq_false_iff_ne.2 (by omega)
  have HVK : Hid (ANS = false) := by show _ = _; rw [HVL.out, if_neg s2, if_neg s3, if_neg s4]
  clear s2 s3 s4
  go_wp2
  exact HQ.out.rets _ _ (by rw [HVK.out]; rfl) rfl (below_of HB.out ((Below.refl _ wr).alloc (Nat.le_refl _) _))

end Go.Proofs.YtjfmgokpnpmdpaaDoor
