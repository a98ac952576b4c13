/- The walk of utf8.Valid: what it answers is a function of the bytes, by the two tables. -/
import Derived.Test.YtjfmgokpnpmdpaaDoorCWord
import Derived.Test.YtjfmgokpnpmdpaaDoorCCheck
import Derived.Deep.LoopGhost
import Derived.Deep.CutBlock
import Derived.Deep.DeepCutAuto
import Derived.Deep.CutRange
import Derived.Laws.BitsAllLaws
namespace Go.Proofs.YtjfmgokpnpmdpaaDoor
open Go.RowKit
set_option linter.unusedVariables false

def MSK : Int := 9259542123273814144
def m1 (r : List Nat) : Bool := bits .and .u64 (wdL r) 9259542123273814144 == 0
def m2 (r : List Nat) : Bool := bits .and .u64 (bits .or .u64 (wdL r) (wdL (r.drop 8))) 9259542123273814144 == 0
def m4 (r : List Nat) : Bool := bits .and .u64 (bits .or .u64 (bits .or .u64 (wdL r) (wdL (r.drop 8))) (bits .or .u64 (wdL (r.drop 16)) (wdL (r.drop 24)))) 9259542123273814144 == 0
def sk32 : Nat → List Nat → List Nat
  | 0, r => r
  | g + 1, r => if 32 < r.length ∧ m4 r = true then sk32 g (r.drop 32) else r
def sk (r : List Nat) : List Nat := if 8 < r.length ∧ m1 r = true then (if 16 < (r.drop 8).length ∧ m2 (r.drop 8) = true then sk32 r.length ((r.drop 8).drop 16) else r.drop 8) else r
def bad2 (L H : Nat) (t : List Nat) : Bool := decide (t.length < 2 ∨ t.getD 1 0 < L ∨ H < t.getD 1 0)
def bad3 (L H : Nat) (t : List Nat) : Bool := decide (t.length < 3 ∨ t.getD 1 0 < L ∨ H < t.getD 1 0 ∨ t.getD 2 0 < 128 ∨ 191 < t.getD 2 0)
def bad4 (L H : Nat) (t : List Nat) : Bool := decide (t.length < 4 ∨ t.getD 1 0 < L ∨ H < t.getD 1 0 ∨ t.getD 2 0 < 128 ∨ 191 < t.getD 2 0 ∨ t.getD 3 0 < 128 ∨ 191 < t.getD 3 0)
def vl (X lo hi : Nat → Nat) : Nat → List Nat → Bool
  | 0, _ => true
  | _ + 1, [] => true
  | g + 1, b :: r =>
    if b < 128 then vl X lo hi g (sk r)
    else if X b % 8 = 2 then (if bad2 (lo (X b / 16)) (hi (X b / 16)) (b :: r) = true then false else vl X lo hi g ((b :: r).drop 2))
    else if X b % 8 = 3 then (if bad3 (lo (X b / 16)) (hi (X b / 16)) (b :: r) = true then false else vl X lo hi g ((b :: r).drop 3))
    else if X b % 8 = 4 then (if bad4 (lo (X b / 16)) (hi (X b / 16)) (b :: r) = true then false else vl X lo hi g ((b :: r).drop 4))
    else false
/-- what utf8.Valid answers. -/
def vld (X lo hi : Nat → Nat) (l : List Nat) : Bool := vl X lo hi l.length l
theorem sk32_len : ∀ (g : Nat) (r : List Nat), (sk32 g r).length ≤ r.length
  | 0, r => Nat.le_refl _
  | g + 1, r => by
    rw [sk32]
    split
    · have := sk32_len g (r.drop 32); rw [List.length_drop] at this; omega
    · exact Nat.le_refl _

/-- the two tables lie in memory. -/
structure Tabs (X lo hi : Nat → Nat) (w : World) : Prop where
  x : ∀ c, c < 256 → X c < 256 ∧ w.cell? ⟨0, c, none⟩ = some (.int .u8 (X c : Nat))
  l : ∀ i, i < 16 → lo i < 256 ∧ w.cell? ⟨1, i * 2, none⟩ = some (.int .u8 (lo i : Nat))
  h : ∀ i, i < 16 → hi i < 256 ∧ w.cell? ⟨1, i * 2 + 1, none⟩ = some (.int .u8 (hi i : Nat))
theorem Tabs.off {X lo hi : Nat → Nat} {w w' : World} {S : Nat → Prop} (t : Tabs X lo hi w) (ho : Off S w w') (h0 : ¬ S 0) (h1 : ¬ S 1) : Tabs X lo hi w' :=
  ⟨fun c hc => ⟨(t.x c hc).1, ho.cell (t.x c hc).2 h0⟩, fun i hi => ⟨(t.l i hi).1, ho.cell (t.l i hi).2 h1⟩, fun i hi => ⟨(t.h i hi).1, ho.cell (t.h i hi).2 h1⟩⟩
theorem Tabs.later {X lo hi : Nat → Nat} {w w' : World} (t : Tabs X lo hi w) (hb : Below w.heap.size w w') : Tabs X lo hi w' := t.off (S := fun _ => False) (Off.of_below hb) id id
set_option maxRecDepth 100000 in
theorem and7F : ∀ n : Fin 256, bits .and .u8 (n.val : Int) 7 = ((n.val % 8 : Nat) : Int) := by decide
theorem and7 (n : Nat) (h : n < 256) : bits .and .u8 (n : Int) 7 = ((n % 8 : Nat) : Int) := and7F ⟨n, h⟩

theorem row_nil_v (w : World) (a : Option Addr) : Row w a [] := ⟨by simp, by simp, fun h => absurd h (by simp)⟩

/-- the first loop of a body. -/
def firstLoop : Code → Option Code
  | .loop c => some c
  | .seq a b => match firstLoop a with
    | some c => some c
    | none => firstLoop b
  | .block _ c => firstLoop c
  | .scope c => firstLoop c
  | .cond _ a b => match firstLoop a with
    | some c => some c
    | none => firstLoop b
  | _ => none
def lenV : Value → Nat
  | .slice _ n _ => n
  | _ => 0
/-- what holds at the loop's head. -/
def VRel (X lo hi : Nat → Nat) (w : World) (ANS : Bool) (s0 : Value) (wx : World) : Prop := Below w.heap.size w wx ∧ ∃ (A : Option Addr) (r : List Nat) (g : Nat), s0 = .slice A r.length r.length ∧ Hid (Row wx A r) ∧ Hid (vl X lo hi g r = ANS ∧ r.length ≤ g) ∧ r.length ≤ 140737488351232
set_option maxRecDepth 1000000 in
def VI (X lo hi : Nat → Nat) (w : World) (ANS : Bool) (c1 c7 c8 c9 c10 c11 c12 : Value) (a' : Act) (wx : World) : Prop := ∃ u0 u2 u3 u4 u5 u6 u13 u14 u15 u16 u17 u18 u19 u20 u21 u22 u23 u24 u25 u26 u27 u28 u29 u30 u31 u32 u33 u34 u35 u36 u37 u38 u39 u40 u41 u42 u43 u44 u45 u46 u47 u48 u49 u50 u51 u52 u53 u54 u55 u56 u57 u58 u59 u60 u61 u62 u63 u64 u65 u66 u67 u68 u69 u70 u71 u72 u73 u74 u75 u76 u77 u78 u79 u80 u81 u82 u83 u84 u85 u86 u87 u88 u89 u90 u91 u92 u93 u94 u95 u96 u97 u98 u99 u100 u101 u102 u103 u104 u105 u106 u107 u108 u109 u110 u111 u112 u113 u114 u115 u116 u117 u118 u119 u120 u121 u122 u123 u124 u125 u126 u127 u128 u129 u130 u131 u132 u133 u134 u135 u136 u137 u138 u139 u140 u141 u142 u143 u144 u145 u146 u147 u148 u149 u150 u151 u152 u153 u154 u155 u156 u157 u158 u159 u160 u161 u162 u163 u164 u165 u166 u167 u168 u169 u170 u171 u172 u173 u174 u175 u176 u177 u178 u179 u180 u181 u182 u183 u184 u185 u186 u187 : Value, VRel X lo hi w ANS u0 wx ∧ a' = ⟨#[u0, c1, u2, u3, u4, u5, u6, c7, c8, c9, c10, c11, c12, u13, u14, u15, u16, u17, u18, u19, u20, u21, u22, u23, u24, u25, u26, u27, u28, u29, u30, u31, u32, u33, u34, u35, u36, u37, u38, u39, u40, u41, u42, u43, u44, u45, u46, u47, u48, u49, u50, u51, u52, u53, u54, u55, u56, u57, u58, u59, u60, u61, u62, u63, u64, u65, u66, u67, u68, u69, u70, u71, u72, u73, u74, u75, u76, u77, u78, u79, u80, u81, u82, u83, u84, u85, u86, u87, u88, u89, u90, u91, u92, u93, u94, u95, u96, u97, u98, u99, u100, u101, u102, u103, u104, u105, u106, u107, u108, u109, u110, u111, u112, u113, u114, u115, u116, u117, u118, u119, u120, u121, u122, u123, u124, u125, u126, u127, u128, u129, u130, u131, u132, u133, u134, u135, u136, u137, u138, u139, u140, u141, u142, u143, u144, u145, u146, u147, u148, u149, u150, u151, u152, u153, u154, u155, u156, u157, u158, u159, u160, u161, u162, u163, u164, u165, u166, u167, u168, u169, u170, u171, u172, u173, u174, u175, u176, u177, u178, u179, u180, u181, u182, u183, u184, u185, u186, u187], []⟩
def Vmu (a' : Act) (_ : World) : Nat := lenV (a'.tmps.getD 0 undef)
/-- what the rest of the function wants: where the loop ends, and where it is left by a return. -/
structure VQ (X lo hi : Nat → Nat) (w : World) (ANS : Bool) (c1 c7 c8 c9 c10 c11 c12 : Value) (Q0 : Exit → Act → World → Prop) : Prop where
  ends : ∀ (u2 u3 u4 u5 u6 u13 u14 u15 u16 u17 u18 u19 u20 u21 u22 u23 u24 u25 u26 u27 u28 u29 u30 u31 u32 u33 u34 u35 u36 u37 u38 u39 u40 u41 u42 u43 u44 u45 u46 u47 u48 u49 u50 u51 u52 u53 u54 u55 u56 u57 u58 u59 u60 u61 u62 u63 u64 u65 u66 u67 u68 u69 u70 u71 u72 u73 u74 u75 u76 u77 u78 u79 u80 u81 u82 u83 u84 u85 u86 u87 u88 u89 u90 u91 u92 u93 u94 u95 u96 u97 u98 u99 u100 u101 u102 u103 u104 u105 u106 u107 u108 u109 u110 u111 u112 u113 u114 u115 u116 u117 u118 u119 u120 u121 u122 u123 u124 u125 u126 u127 u128 u129 u130 u131 u132 u133 u134 u135 u136 u137 u138 u139 u140 u141 u142 u143 u144 u145 u146 u147 u148 u149 u150 u151 u152 u153 u154 u155 u156 u157 u158 u159 u160 u161 u162 u163 u164 u165 u166 u167 u168 u169 u170 u171 u172 u173 u174 u175 u176 u177 u178 u179 u180 u181 u182 u183 u184 u185 u186 u187 : Value) (u0 : Value) (wx : World), Below w.heap.size w wx → ANS = true → Q0 (.exit 0) ⟨#[u0, c1, u2, u3, u4, u5, u6, c7, c8, c9, c10, c11, c12, u13, u14, u15, u16, u17, u18, u19, u20, u21, u22, u23, u24, u25, u26, u27, u28, u29, u30, u31, u32, u33, u34, u35, u36, u37, u38, u39, u40, u41, u42, u43, u44, u45, u46, u47, u48, u49, u50, u51, u52, u53, u54, u55, u56, u57, u58, u59, u60, u61, u62, u63, u64, u65, u66, u67, u68, u69, u70, u71, u72, u73, u74, u75, u76, u77, u78, u79, u80, u81, u82, u83, u84, u85, u86, u87, u88, u89, u90, u91, u92, u93, u94, u95, u96, u97, u98, u99, u100, u101, u102, u103, u104, u105, u106, u107, u108, u109, u110, u111, u112, u113, u114, u115, u116, u117, u118, u119, u120, u121, u122, u123, u124, u125, u126, u127, u128, u129, u130, u131, u132, u133, u134, u135, u136, u137, u138, u139, u140, u141, u142, u143, u144, u145, u146, u147, u148, u149, u150, u151, u152, u153, u154, u155, u156, u157, u158, u159, u160, u161, u162, u163, u164, u165, u166, u167, u168, u169, u170, u171, u172, u173, u174, u175, u176, u177, u178, u179, u180, u181, u182, u183, u184, u185, u186, u187], []⟩ wx
  rets : ∀ (a' : Act) (wx : World), a'.tmps.getD 2 undef = .bool ANS → a'.defers = [] → Below w.heap.size w wx → Q0 .ret a' wx
end Go.Proofs.YtjfmgokpnpmdpaaDoor
