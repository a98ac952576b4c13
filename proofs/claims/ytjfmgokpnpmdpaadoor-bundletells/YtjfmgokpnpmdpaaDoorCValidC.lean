/- A part of utf8.Valid's walk. -/
import Derived.Test.YtjfmgokpnpmdpaaDoorCValidA
namespace Go.Proofs.YtjfmgokpnpmdpaaDoor
open Go.RowKit
set_option linter.unusedVariables false

set_option maxRecDepth 1000000 in
set_option maxHeartbeats 40000000 in
theorem vcase_no (X lo hi : Nat → Nat) (w wr : World) (ANS : Bool) (bb o b : Nat) (t : List Nat) (g n : Nat) (n2 : Nat) (Q0 : Exit → Act → World → Prop) (c1 c7 c8 c9 c10 c11 c12 u2 u3 u4 u5 u6 u13 u14 u15 u16 u17 u18 u19 u20 u21 u22 u23 u24 u25 u26 u27 u28 u29 u30 u31 u32 u33 u34 u35 u36 u37 u38 u39 u40 u41 u42 u43 u44 u45 u46 u47 u48 u49 u50 u51 u52 u53 u54 u55 u56 u57 u58 u59 u60 u61 u62 u63 u64 u65 u66 u67 u68 u69 u70 u71 u72 u73 u74 u75 u76 u77 u78 u79 u80 u81 u82 u83 u84 u85 u86 u87 u88 u89 u90 u91 u92 u93 u94 u95 u96 u97 u98 u99 u100 u101 u102 u103 u104 u105 u106 u107 u108 u109 u110 u111 u112 u113 u114 u115 u116 u117 u118 u119 u120 u121 u122 u123 u124 u125 u126 u127 u128 u129 u130 u131 u132 u133 u134 u135 u136 u137 u138 u139 u140 u141 u142 u143 u144 u145 u146 u147 u148 u149 u150 u151 u152 u153 u154 u155 u156 u157 u158 u159 u160 u161 u162 u163 u164 u165 u166 u167 u168 u169 u170 u171 u172 u173 u174 u175 u176 u177 u178 u179 u180 u181 u182 u183 u184 u185 u186 u187 : Value) (HQ : Hid (VQ X lo hi w ANS c1 c7 c8 c9 c10 c11 c12 Q0))
    (HT : Hid (Tabs X lo hi wr)) (HB : Hid (Below w.heap.size w wr)) (HRW : Hid (Row wr (some ⟨bb, o, none⟩) (b :: t))) (HC : Hid (∀ i, i < (b :: t).length → wr.cell? ⟨bb, o + i, none⟩ = some (.int .u8 ((b :: t).getD i 0 : Nat)))) (HV : Hid (vl X lo hi (g + 1) (b :: t) = ANS)) (HG : Hid (t.length ≤ g)) (HN0 : Hid (t.length = n)) (hrz2 : n ≤ 140737488351232) (hb : b < 256) (hc0 : wr.cell? ⟨bb, o, none⟩ = some (.int .u8 (b : Nat)))
    (hn : n = n2 + 8) (hasc : b < 128) (hn2 : 0 < n2) (hm1 : m1 t = true) (c16 : ¬ (16 < n2 ∧ m2 (t.drop 8) = true)) :
    Code.wp Tryd.prog ((Tryd.f61.body.bind firstLoop).getD .skip) (Exit.then (fun a' w'' => VI X lo hi w ANS c1 c7 c8 c9 c10 c11 c12 a' w'' ∧ Vmu a' w'' < Vmu ⟨#[(.slice (some ⟨bb, o, none⟩) (n + 1) (n + 1)), c1, u2, u3, u4, u5, u6, c7, c8, c9, c10, c11, c12, u13, u14, u15, u16, u17, u18, u19, u20, u21, u22, u23, u24, u25, u26, u27, u28, u29, u30, u31, u32, u33, u34, u35, u36, u37, u38, u39, u40, u41, u42, u43, u44, u45, u46, u47, u48, u49, u50, u51, u52, u53, u54, u55, u56, u57, u58, u59, u60, u61, u62, u63, u64, u65, u66, u67, u68, u69, u70, u71, u72, u73, u74, u75, u76, u77, u78, u79, u80, u81, u82, u83, u84, u85, u86, u87, u88, u89, u90, u91, u92, u93, u94, u95, u96, u97, u98, u99, u100, u101, u102, u103, u104, u105, u106, u107, u108, u109, u110, u111, u112, u113, u114, u115, u116, u117, u118, u119, u120, u121, u122, u123, u124, u125, u126, u127, u128, u129, u130, u131, u132, u133, u134, u135, u136, u137, u138, u139, u140, u141, u142, u143, u144, u145, u146, u147, u148, u149, u150, u151, u152, u153, u154, u155, u156, u157, u158, u159, u160, u161, u162, u163, u164, u165, u166, u167, u168, u169, u170, u171, u172, u173, u174, u175, u176, u177, u178, u179, u180, u181, u182, u183, u184, u185, u186, u187], []⟩ wr) Q0) ⟨#[(.slice (some ⟨bb, o, none⟩) (n + 1) (n + 1)), c1, u2, u3, u4, u5, u6, c7, c8, c9, c10, c11, c12, u13, u14, u15, u16, u17, u18, u19, u20, u21, u22, u23, u24, u25, u26, u27, u28, u29, u30, u31, u32, u33, u34, u35, u36, u37, u38, u39, u40, u41, u42, u43, u44, u45, u46, u47, u48, u49, u50, u51, u52, u53, u54, u55, u56, u57, u58, u59, u60, u61, u62, u63, u64, u65, u66, u67, u68, u69, u70, u71, u72, u73, u74, u75, u76, u77, u78, u79, u80, u81, u82, u83, u84, u85, u86, u87, u88, u89, u90, u91, u92, u93, u94, u95, u96, u97, u98, u99, u100, u101, u102, u103, u104, u105, u106, u107, u108, u109, u110, u111, u112, u113, u114, u115, u116, u117, u118, u119, u120, u121, u122, u123, u124, u125, u126, u127, u128, u129, u130, u131, u132, u133, u134, u135, u136, u137, u138, u139, u140, u141, u142, u143, u144, u145, u146, u147, u148, u149, u150, u151, u152, u153, u154, u155, u156, u157, u158, u159, u160, u161, u162, u163, u164, u165, u166, u167, u168, u169, u170, u171, u172, u173, u174, u175, u176, u177, u178, u179, u180, u181, u182, u183, u184, u185, u186, u187], []⟩ wr := by
  conv => arg 2; whnf
  subst hn
  have HN : Hid (vl X lo hi g (sk t) = ANS) := by show _ = _; rw [← HV.out, vl, if_pos hasc]
  obtain ⟨F, hF⟩ : ∃ F : Nat → Int, ∀ k, F (o + 1 + k) = wdL (t.drop k) := ⟨fun off => wdL (t.drop (off - (o + 1))), fun k => by simp only [Nat.add_sub_cancel_left]⟩
  have HFF : Hid (∀ k, F (o + 1 + k) = wdL (t.drop k)) := hF
  clear hF
  have HWD : Hid (∀ W off n', Below wr.heap.size wr W → o + 1 ≤ off → off + n' = o + 1 + (n2 + 8) → 8 ≤ n' → Calls Tryd.prog 72 #[.slice (some ⟨bb, off, none⟩) n' n'] W fun e w' => e = .returned (.int .u64 (F off)) ∧ ∃ q, w' = W.drewN q) := fun W off n' hb h0 h1 h2 => by
    obtain ⟨k, rfl⟩ : ∃ k, off = o + 1 + k := ⟨off - (o + 1), by omega⟩
    have hr := (row_drop HRW.out (k + 1) (o + 1 + k) (by simp; have := HN0.out; omega) (fun _ => by omega)).later hb
    have hd : (b :: t).drop (k + 1) = t.drop k := rfl
    rw [hd] at hr
    have := word_row W _ n' (t.drop k) hr (by rw [List.length_drop, HN0.out]; omega) (by rw [List.length_drop, HN0.out]; omega)
    rw [List.length_drop, HN0.out, show (n2 + 8) - k = n' by omega] at this
    rw [HFF.out]
    exact this
  have HRD : Hid (∀ W, Below wr.heap.size wr W → ∀ k n', n2 + 8 = k + n' → Row W (some ⟨bb, o + 1 + k, none⟩) (t.drop k)) := fun W hb k n' h1 => (row_drop HRW.out (k + 1) (o + 1 + k) (by simp; have := HN0.out; omega) (fun _ => by omega)).later hb
  have hm1b : (bits .and .u64 (F (o + 1)) 9259542123273814144 == 0) = true := by have := HFF.out 0; rw [Nat.add_zero, List.drop_zero] at this; rw [this]; exact hm1
  have HSK : Hid (vl X lo hi g (t.drop 8) = ANS) := by
    show _ = _
    rw [← HN.out]
    unfold sk
    rw [if_pos ⟨by rw [HN0.out]; omega, hm1⟩, if_neg (fun h => c16 ⟨by have := h.1; rw [List.length_drop, HN0.out] at this; omega, h.2⟩)]
  clear hm1
  by_cases d16 : 16 < n2
  · have hm2b : (bits .and .u64 (bits .or .u64 (F (o + 1 + 8)) (F (o + 1 + 8 + 8))) 9259542123273814144 == 0) = false := by
      have : ¬ m2 (t.drop 8) = true := fun h => c16 ⟨d16, h⟩
      unfold m2 at this
      rw [List.drop_drop] at this
      rw [Nat.add_assoc (o + 1) 8 8, HFF.out, HFF.out]
      simpa using this
    obtain ⟨n3, rfl⟩ : ∃ q, n2 = q + 16 := ⟨n2 - 16, by omega⟩
    go_wp2_with (go_at_call 72; refine (HWD.out _ _ _ (Below.refl _ _) (by omega) (by omega) (by omega)).mono ?_; rintro e w1 ⟨rfl, q, rfl⟩)
    have HB1 : Hid (Below wr.heap.size wr (wr.drewN q) ∧ Below w.heap.size w (wr.drewN q)) := ⟨below_drewN (Below.refl _ _) q, below_drewN HB.out q⟩
    generalize wr.drewN q = wq at HB1 ⊢
    have z1 : decide ((16 : Int) < (n3 : Int) + 16) = true := decide_eq_true (by omega)
    have z2 : (8 : Int) ≤ (n3 : Int) + 16 := by omega
    have HWQ : Hid (∀ W off n', Below wq.heap.size wq W → o + 1 ≤ off → off + n' = o + 1 + (n3 + 16 + 8) → 8 ≤ n' → Calls Tryd.prog 72 #[.slice (some ⟨bb, off, none⟩) n' n'] W fun e w' => e = .returned (.int .u64 (F off)) ∧ ∃ q, w' = W.drewN q) := fun W off n' hb h0 h1 h2 => HWD.out W off n' (below_of HB1.out.1 hb) h0 h1 h2
    have HRZ : Hid (n3 + 16 + 8 ≤ 140737488351232) := hrz2
    clear c16 hrz2
    go_quiet ((go_at_call 72; exact Calls.quiet_of (HWQ.out _ _ _ (by first | exact Below.refl _ _ | exact below_drewN (Below.refl _ _) _) (by omega) (by omega) (by omega))))
    go_wp2
    refine ⟨?_, ?_⟩
    rotate_left
    · show lenV _ < lenV _; simp [lenV] <;> omega
    · unfold VI
      repeat (apply Exists.intro)
      refine ⟨?_, rfl⟩
      have h3 : (t.drop 8).length = (n3 + 16) := by rw [List.length_drop, HN0.out]; omega
      exact ⟨below_drewN HB1.out.2 nq, _, t.drop 8, g, by rw [h3], HRD.out _ (below_drewN HB1.out.1 nq) 8 (n3 + 16) (by omega), ⟨HSK.out, by rw [h3]; have := HG.out; have := HN0.out; omega⟩, by rw [h3]; have := HRZ.out; omega⟩
  · go_wp2_with (go_at_call 72; refine (HWD.out _ _ _ (Below.refl _ _) (by omega) (by omega) (by omega)).mono ?_; rintro e w1 ⟨rfl, q, rfl⟩)
    have HB1 : Hid (Below wr.heap.size wr (wr.drewN q) ∧ Below w.heap.size w (wr.drewN q)) := ⟨below_drewN (Below.refl _ _) q, below_drewN HB.out q⟩
    generalize wr.drewN q = wq at HB1 ⊢
    have z1 : decide ((16 : Int) < (n2 : Int)) = false := decide_eq_false (by omega)
    clear c16
    go_quiet (fail)
    go_wp2
    refine ⟨?_, ?_⟩
    rotate_left
    · show lenV _ < lenV _; simp [lenV] <;> omega
    · unfold VI
      repeat (apply Exists.intro)
      refine ⟨?_, rfl⟩
      have h3 : (t.drop 8).length = n2 := by rw [List.length_drop, HN0.out]; omega
      exact ⟨below_drewN HB1.out.2 nq, _, t.drop 8, g, by rw [h3], HRD.out _ (below_drewN HB1.out.1 nq) 8 n2 (by omega), ⟨HSK.out, by rw [h3]; have := HG.out; have := HN0.out; omega⟩, by rw [h3]; omega⟩

end Go.Proofs.YtjfmgokpnpmdpaaDoor
