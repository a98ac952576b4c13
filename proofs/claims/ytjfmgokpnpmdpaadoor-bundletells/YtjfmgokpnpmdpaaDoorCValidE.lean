/- A part of utf8.Valid's walk. -/
import Derived.Test.YtjfmgokpnpmdpaaDoorCValidA
namespace Go.Proofs.YtjfmgokpnpmdpaaDoor
open Go.RowKit
set_option linter.unusedVariables false

set_option maxRecDepth 1000000 in
set_option maxHeartbeats 40000000 in
theorem vcase_lead2 (X lo hi : Nat → Nat) (w wr : World) (ANS : Bool) (bb o b : Nat) (t : List Nat) (g n : Nat) (Q0 : Exit → Act → World → Prop) (c1 c7 c8 c9 c10 c11 c12 u2 u3 u4 u5 u6 u13 u14 u15 u16 u17 u18 u19 u20 u21 u22 u23 u24 u25 u26 u27 u28 u29 u30 u31 u32 u33 u34 u35 u36 u37 u38 u39 u40 u41 u42 u43 u44 u45 u46 u47 u48 u49 u50 u51 u52 u53 u54 u55 u56 u57 u58 u59 u60 u61 u62 u63 u64 u65 u66 u67 u68 u69 u70 u71 u72 u73 u74 u75 u76 u77 u78 u79 u80 u81 u82 u83 u84 u85 u86 u87 u88 u89 u90 u91 u92 u93 u94 u95 u96 u97 u98 u99 u100 u101 u102 u103 u104 u105 u106 u107 u108 u109 u110 u111 u112 u113 u114 u115 u116 u117 u118 u119 u120 u121 u122 u123 u124 u125 u126 u127 u128 u129 u130 u131 u132 u133 u134 u135 u136 u137 u138 u139 u140 u141 u142 u143 u144 u145 u146 u147 u148 u149 u150 u151 u152 u153 u154 u155 u156 u157 u158 u159 u160 u161 u162 u163 u164 u165 u166 u167 u168 u169 u170 u171 u172 u173 u174 u175 u176 u177 u178 u179 u180 u181 u182 u183 u184 u185 u186 u187 : Value) (HQ : Hid (VQ X lo hi w ANS c1 c7 c8 c9 c10 c11 c12 Q0))
    (HT : Hid (Tabs X lo hi wr)) (HB : Hid (Below w.heap.size w wr)) (HRW : Hid (Row wr (some ⟨bb, o, none⟩) (b :: t))) (HC : Hid (∀ i, i < (b :: t).length → wr.cell? ⟨bb, o + i, none⟩ = some (.int .u8 ((b :: t).getD i 0 : Nat)))) (HV : Hid (vl X lo hi (g + 1) (b :: t) = ANS)) (HG : Hid (t.length ≤ g)) (HN0 : Hid (t.length = n)) (hrz2 : n ≤ 140737488351232) (hb : b < 256) (hc0 : wr.cell? ⟨bb, o, none⟩ = some (.int .u8 (b : Nat)))
    (hasc : ¬ b < 128)  (s2 : X b % 8 = 2) :
    Code.wp Tryd.prog ((Tryd.f61.body.bind firstLoop).getD .skip) (Exit.then (fun a' w'' => VI X lo hi w ANS c1 c7 c8 c9 c10 c11 c12 a' w'' ∧ Vmu a' w'' < Vmu ⟨#[(.slice (some ⟨bb, o, none⟩) (n + 1) (n + 1)), c1, u2, u3, u4, u5, u6, c7, c8, c9, c10, c11, c12, u13, u14, u15, u16, u17, u18, u19, u20, u21, u22, u23, u24, u25, u26, u27, u28, u29, u30, u31, u32, u33, u34, u35, u36, u37, u38, u39, u40, u41, u42, u43, u44, u45, u46, u47, u48, u49, u50, u51, u52, u53, u54, u55, u56, u57, u58, u59, u60, u61, u62, u63, u64, u65, u66, u67, u68, u69, u70, u71, u72, u73, u74, u75, u76, u77, u78, u79, u80, u81, u82, u83, u84, u85, u86, u87, u88, u89, u90, u91, u92, u93, u94, u95, u96, u97, u98, u99, u100, u101, u102, u103, u104, u105, u106, u107, u108, u109, u110, u111, u112, u113, u114, u115, u116, u117, u118, u119, u120, u121, u122, u123, u124, u125, u126, u127, u128, u129, u130, u131, u132, u133, u134, u135, u136, u137, u138, u139, u140, u141, u142, u143, u144, u145, u146, u147, u148, u149, u150, u151, u152, u153, u154, u155, u156, u157, u158, u159, u160, u161, u162, u163, u164, u165, u166, u167, u168, u169, u170, u171, u172, u173, u174, u175, u176, u177, u178, u179, u180, u181, u182, u183, u184, u185, u186, u187], []⟩ wr) Q0) ⟨#[(.slice (some ⟨bb, o, none⟩) (n + 1) (n + 1)), c1, u2, u3, u4, u5, u6, c7, c8, c9, c10, c11, c12, u13, u14, u15, u16, u17, u18, u19, u20, u21, u22, u23, u24, u25, u26, u27, u28, u29, u30, u31, u32, u33, u34, u35, u36, u37, u38, u39, u40, u41, u42, u43, u44, u45, u46, u47, u48, u49, u50, u51, u52, u53, u54, u55, u56, u57, u58, u59, u60, u61, u62, u63, u64, u65, u66, u67, u68, u69, u70, u71, u72, u73, u74, u75, u76, u77, u78, u79, u80, u81, u82, u83, u84, u85, u86, u87, u88, u89, u90, u91, u92, u93, u94, u95, u96, u97, u98, u99, u100, u101, u102, u103, u104, u105, u106, u107, u108, u109, u110, u111, u112, u113, u114, u115, u116, u117, u118, u119, u120, u121, u122, u123, u124, u125, u126, u127, u128, u129, u130, u131, u132, u133, u134, u135, u136, u137, u138, u139, u140, u141, u142, u143, u144, u145, u146, u147, u148, u149, u150, u151, u152, u153, u154, u155, u156, u157, u158, u159, u160, u161, u162, u163, u164, u165, u166, u167, u168, u169, u170, u171, u172, u173, u174, u175, u176, u177, u178, u179, u180, u181, u182, u183, u184, u185, u186, u187], []⟩ wr := by
  conv => arg 2; whnf
  have hb2 : 128 ≤ b := by omega
  have hTr := HT.out
  obtain ⟨hX, hxc⟩ := hTr.x b hb
  obtain ⟨Q, hQ⟩ : ∃ Q, X b = Q := ⟨_, rfl⟩
  have hq16 : X b / 16 < 16 := by omega
  obtain ⟨hLo, hla⟩ := hTr.l (X b / 16) hq16
  obtain ⟨hHi, hha⟩ := hTr.h (X b / 16) hq16
  obtain ⟨LO, hLO⟩ : ∃ LO, lo (X b / 16) = LO := ⟨_, rfl⟩
  obtain ⟨HI, hHI⟩ : ∃ HI, hi (X b / 16) = HI := ⟨_, rfl⟩
  have HVL : Hid (ANS = if Q % 8 = 2 then (if bad2 LO HI (b :: t) = true then false else vl X lo hi g ((b :: t).drop 2)) else if Q % 8 = 3 then (if bad3 LO HI (b :: t) = true then false else vl X lo hi g ((b :: t).drop 3)) else if Q % 8 = 4 then (if bad4 LO HI (b :: t) = true then false else vl X lo hi g ((b :: t).drop 4)) else false) := by
    show _ = _
    rw [← HV.out, vl, if_neg hasc, hQ]
    rw [hQ] at hLO hHI
    rw [hLO, hHI]
  rw [hQ] at s2 hX hxc hq16 hla hha hLo hHi
  rw [hQ] at hLO hHI
  rw [hLO] at hla hLo
  rw [hHI] at hha hHi
  have hand := and7 Q hX
  obtain ⟨x1, hx1⟩ : ∃ x1, (b :: t).getD 1 0 = x1 := ⟨_, rfl⟩
  obtain ⟨x2, hx2⟩ : ∃ x2, (b :: t).getD 2 0 = x2 := ⟨_, rfl⟩
  obtain ⟨x3, hx3⟩ : ∃ x3, (b :: t).getD 3 0 = x3 := ⟨_, rfl⟩
  have HX1 : Hid ((b :: t).getD 1 0 = x1) := hx1
  have HX2 : Hid ((b :: t).getD 2 0 = x2) := hx2
  have HX3 : Hid ((b :: t).getD 3 0 = x3) := hx3
  have hbz : (b : Int) < 256 := by omega
  have hqz : (Q : Int) / 16 < 16 := by omega
  clear hTr hLO hHI hQ hx1 hx2 hx3 hasc
  have hSZ : (Q : Int) % 8 = 2 := by omega
  have HBD : Hid (bad2 LO HI (b :: t) = decide (n + 1 < 2 ∨ x1 < LO ∨ HI < x1)) := by
    show _ = _
    unfold bad2
    rw [show (b :: t).length = n + 1 by rw [List.length_cons, HN0.out], HX1.out]
  have HVK : Hid (ANS = if decide (n + 1 < 2 ∨ x1 < LO ∨ HI < x1) = true then false else vl X lo hi g ((b :: t).drop 2)) := by
    show _ = _
    rw [HVL.out, if_pos s2, HBD.out]
  go_upto_region 18 with fail
  go_cut [103] from 85 to 103 (fun c wx => c = .bool (decide (n + 1 < 2 ∨ x1 < LO ∨ HI < x1)) ∧ Hid (Below wr.heap.size wr wx))
  case first =>
    by_cases q0 : n + 1 < 2
    · have q0z : decide ((n : Int) + 1 < 2) = true := decide_eq_true (by omega)
      go_quiet (fail)
      go_wp2
      go_meet
      exact ⟨congrArg Value.bool (decide_eq_true (p := n + 1 < 2 ∨ x1 < LO ∨ HI < x1) (by omega)).symm, below_drewN ((Below.refl wr.heap.size wr).alloc (Nat.le_refl _) _) _⟩
    · have q0z : decide ((n : Int) + 1 < 2) = false := decide_eq_false (by omega)
      have hz1 : (1 : Int) < (n : Int) + 1 := by omega
      have hp1 : 1 < n + 1 := by omega
      have hs1 : ∀ Z : Obj, (wr.alloc Z).cell? ⟨bb, o + 1, none⟩ = some (.int .u8 (x1 : Nat)) := fun Z => by rw [← HX1.out]; exact cell_later ((Below.refl _ wr).alloc (Nat.le_refl _) Z) (HC.out 1 (by rw [List.length_cons, HN0.out]; omega))
      by_cases q1 : x1 < LO
      · have q1z : decide ((x1 : Int) < (LO : Int)) = true := decide_eq_true (by omega)
        go_quiet (fail)
        go_wp2
        go_meet
        exact ⟨congrArg Value.bool (decide_eq_true (p := n + 1 < 2 ∨ x1 < LO ∨ HI < x1) (by omega)).symm, below_drewN ((Below.refl wr.heap.size wr).alloc (Nat.le_refl _) _) _⟩
      · have q1z : decide ((x1 : Int) < (LO : Int)) = false := decide_eq_false (by omega)
        by_cases q2 : HI < x1
        · have q2z : decide ((HI : Int) < (x1 : Int)) = true := decide_eq_true (by omega)
          go_quiet (fail)
          go_wp2
          go_meet
          exact ⟨congrArg Value.bool (decide_eq_true (p := n + 1 < 2 ∨ x1 < LO ∨ HI < x1) (by omega)).symm, below_drewN ((Below.refl wr.heap.size wr).alloc (Nat.le_refl _) _) _⟩
        · have q2z : decide ((HI : Int) < (x1 : Int)) = false := decide_eq_false (by omega)
          go_quiet (fail)
          go_wp2
          go_meet
          exact ⟨congrArg Value.bool (decide_eq_false (p := n + 1 < 2 ∨ x1 < LO ∨ HI < x1) (by omega)).symm, below_drewN ((Below.refl wr.heap.size wr).alloc (Nat.le_refl _) _) _⟩
  case rest =>
    obtain ⟨rfl, hbc⟩ := hcut
    cases hbd : decide (n + 1 < 2 ∨ x1 < LO ∨ HI < x1) with
    | true =>
      rw [hbd, if_pos rfl] at HVK
      go_wp2
      exact HQ.out.rets _ _ (by rw [HVK.out]; rfl) rfl (below_of HB.out hbc.out)
    | false =>
      rw [hbd, if_neg (by simp)] at HVK
      have hle : 2 ≤ n + 1 := by have := of_decide_eq_false hbd; omega
      have hlez : (2 : Int) ≤ (n : Int) + 1 := by omega
      have h3 : ((b :: t).drop 2).length = n + 1 - 2 := by rw [List.length_drop, List.length_cons, HN0.out]
      by_cases hend : n + 1 = 2
      · obtain rfl : n = 1 := by omega
        go_wp2
        refine ⟨?_, ?_⟩
        rotate_left
        · show lenV _ < lenV _; simp [lenV] <;> omega
        · unfold VI
          repeat (apply Exists.intro)
          refine ⟨?_, rfl⟩
          have h5 := HG.out
          have h7 := HN0.out
          have hnil : (b :: t).drop 2 = [] := List.eq_nil_of_length_eq_zero (by rw [h3])
          rw [hnil] at HVK
          exact ⟨below_of HB.out hbc.out, _, [], g, rfl, row_nil_v _ _, ⟨HVK.out.symm, Nat.zero_le _⟩, by simp⟩
      · obtain ⟨n4, rfl⟩ : ∃ n4, n = n4 + 2 := ⟨n - 2, by omega⟩
        go_wp2
        refine ⟨?_, ?_⟩
        rotate_left
        · show lenV _ < lenV _; simp [lenV] <;> omega
        · unfold VI
          repeat (apply Exists.intro)
          refine ⟨?_, rfl⟩
          have h5 := HG.out
          have h7 := HN0.out
          have h8 : ((b :: t).drop 2).length = n4 + 1 := by rw [h3]; omega
          exact ⟨below_of HB.out hbc.out, some ⟨bb, o + 2, none⟩, (b :: t).drop 2, g, by rw [h8], (row_drop HRW.out 2 (o + 2) (by rw [List.length_cons, h7]; omega) (fun _ => rfl)).later hbc.out, ⟨HVK.out.symm, by rw [h8]; omega⟩, by rw [h8]; omega⟩

end Go.Proofs.YtjfmgokpnpmdpaaDoor
