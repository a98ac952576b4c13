/- The walks of cbor.read and Decode. -/
import Derived.Test.YtjfmgokpnpmdpaaDoorCRow
import Derived.Test.YtjfmgokpnpmdpaaDoorCNum
import Derived.Test.YtjfmgokpnpmdpaaDoorCCheck
import Derived.Test.YtjfmgokpnpmdpaaDoorHJump
namespace Go.Proofs.YtjfmgokpnpmdpaaDoor
open Go.RowKit
set_option linter.unusedVariables false

attribute [local go_sem] jump_ret jump_normal jump_exit jump_panic jump_goto
/-- what reading an item comes to. -/
def ItR (p q : Nat) (l : List Nat) (m : Nat) (C : Int × T × List Nat) (w : World) (e : Ending) (w' : World) : Prop :=
  ∃ a1 c1 a2 c2 at2 er, e = .returned (.tuple #[iv C.2.1 a1 c1 a2 c2, .bool (decide (C.1 = 0))]) ∧
    Hid (Rd w' p q l at2 er ∧ Off (fun k => k = p) w w' ∧ (C.1 = 0 → er = 0 ∧ l.drop at2 = C.2.2 ∧ Lie (fun k => k < w.heap.size) w' m a1 C.2.1 a2 ∧ (bs C.2.1).length ≤ c1) ∧ (C.1 = 7 → er = 7) ∧ (C.1 = 170 → er = 0) ∧ (¬ C.1 = 0 → C.2.1 = .nil ∧ a1 = none ∧ c1 = 0 ∧ a2 = none ∧ c2 = 0))

def ReadOk (V : List Nat → Bool) (TB : World → Prop) (m : Nat) : Prop := ∀ (w : World) (p q : Nat) (l : List Nat) (at_ k : Nat), k + m = 4 → TB w → Rd w p q l at_ 0 → 1 < p → l.length ≤ 140737488000000 →
  Calls Tryd.prog 68 #[.pointer (some ⟨p, 0, none⟩), .int .i64 k] w fun e w' => ItR p q l m (dec V m (l.drop at_)) w e w'

set_option maxRecDepth 20000 in
theorem and31F : ∀ n : Fin 256, bits .and .u8 (n.val : Int) 31 = ((n.val % 32 : Nat) : Int) := by decide
theorem and31 (n : Nat) (h : n < 256) : bits .and .u8 (n : Int) 31 = ((n % 32 : Nat) : Int) := and31F ⟨n, h⟩

theorem three_new {w : World} {A B C : Obj} : (((w.alloc A).alloc B).alloc C).heap[w.heap.size]? = some A ∧ (((w.alloc A).alloc B).alloc C).heap[w.heap.size + 1]? = some B ∧ (((w.alloc A).alloc B).alloc C).heap[w.heap.size + 1 + 1]? = some C := by
  refine ⟨?_, ?_, ?_⟩
  · rw [Below.heap_alloc _ _ _ (by simp; omega), Below.heap_alloc _ _ _ (by simp)]; exact heap_alloc_new w _
  · rw [Below.heap_alloc _ _ _ (by simp)]
    have := heap_alloc_new (w.alloc A) B
    simpa using this
  · have := heap_alloc_new ((w.alloc A).alloc B) C
    simpa using this
/-- the zero item's cells. -/
abbrev zc : Obj := .cells #[.int .i64 0, .int .u64 0, .slice none 0 0, .slice none 0 0] 52
/-- the three locals of read: the answer, x, y. -/
structure Loc (w : World) (b : Nat) (v0 v1 v2 v3 : Value) : Prop where
  a : w.heap[b]? = some zc
  x : w.heap[b + 1]? = some (.cells #[v0, v1, v2, v3] 52 (0, 0))
  y : ∃ u0 u1 u2 u3, w.heap[b + 1 + 1]? = some (.cells #[u0, u1, u2, u3] 52 (0, 0))
theorem Loc.off {w w' : World} {b : Nat} {v0 v1 v2 v3 : Value} {S : Nat → Prop} (h : Loc w b v0 v1 v2 v3) (ho : Off S w w') (h0 : ¬ S b) (h1 : ¬ S (b + 1)) (h2 : ¬ S (b + 1 + 1)) : Loc w' b v0 v1 v2 v3 :=
  ⟨ho.at h.a h0, ho.at h.x h1, by obtain ⟨u0, u1, u2, u3, hy⟩ := h.y; exact ⟨u0, u1, u2, u3, ho.at hy h2⟩⟩
theorem Loc.new (w : World) : Loc (((w.alloc zc).alloc zc).alloc zc) w.heap.size (.int .i64 0) (.int .u64 0) (.slice none 0 0) (.slice none 0 0) :=
  ⟨three_new.1, three_new.2.1, ⟨_, _, _, _, three_new.2.2⟩⟩
theorem Loc.reads {w : World} {b : Nat} {v0 v1 v2 v3 : Value} (h : Loc w b v0 v1 v2 v3) :
    (w.cell? ⟨b, 0, none⟩ = some (.int .i64 0) ∧ w.cell? ⟨b, 1, none⟩ = some (.int .u64 0) ∧ w.cell? ⟨b, 2, none⟩ = some (.slice none 0 0) ∧ w.cell? ⟨b, 3, none⟩ = some (.slice none 0 0)) ∧ (w.cell? ⟨b + 1, 0, none⟩ = some v0 ∧ w.cell? ⟨b + 1, 1, none⟩ = some v1 ∧ w.cell? ⟨b + 1, 2, none⟩ = some v2 ∧ w.cell? ⟨b + 1, 3, none⟩ = some v3) ∧ (∀ j, w.frozen? ⟨b, j, none⟩ = false) ∧ (∀ j, w.frozen? ⟨b + 1, j, none⟩ = false) ∧ b + 1 < w.heap.size :=
  ⟨⟨by rw [cell_of h.a]; rfl, by rw [cell_of h.a]; rfl, by rw [cell_of h.a]; rfl, by rw [cell_of h.a]; rfl⟩, ⟨by rw [cell_of h.x]; rfl, by rw [cell_of h.x]; rfl, by rw [cell_of h.x]; rfl, by rw [cell_of h.x]; rfl⟩, fun j => frozen_of h.a j, fun j => frozen_of h.x j, (Array.getElem?_eq_some_iff.1 h.x).1⟩
theorem Loc.setx {w : World} {b : Nat} {v0 v1 v2 v3 : Value} (h : Loc w b v0 v1 v2 v3) (j : Nat) (u : Value) (hj : j < 4) : Loc (w.setCell ⟨b + 1, j, none⟩ u) b (if j = 0 then u else v0) (if j = 1 then u else v1) (if j = 2 then u else v2) (if j = 3 then u else v3) := by
  have ho := off_set w (b + 1) j u
  refine ⟨ho.at h.a (by omega), ?_, ?_⟩
  · rw [heap_setCell_same _ _ _ _ _ _ h.x]
    have : j = 0 ∨ j = 1 ∨ j = 2 ∨ j = 3 := by omega
    rcases this with rfl | rfl | rfl | rfl <;> rfl
  · obtain ⟨u0, u1, u2, u3, hy⟩ := h.y
    exact ⟨u0, u1, u2, u3, ho.at hy (by omega)⟩
theorem set4 {w : World} {b : Nat} {u0 u1 u2 u3 : Value} {t : TypeId} (h : w.heap[b]? = some (.cells #[u0, u1, u2, u3] t (0, 0))) (v0 v1 v2 v3 : Value) :
    ((((w.setCell ⟨b, 0, none⟩ v0).setCell ⟨b, 1, none⟩ v1).setCell ⟨b, 2, none⟩ v2).setCell ⟨b, 3, none⟩ v3).heap[b]? = some (.cells #[v0, v1, v2, v3] t (0, 0)) ∧ Off (fun k => k = b) w ((((w.setCell ⟨b, 0, none⟩ v0).setCell ⟨b, 1, none⟩ v1).setCell ⟨b, 2, none⟩ v2).setCell ⟨b, 3, none⟩ v3) := by
  have h1 := heap_setCell_same w b 0 _ t v0 h
  have h2 := heap_setCell_same _ b 1 _ t v1 h1
  have h3 := heap_setCell_same _ b 2 _ t v2 h2
  have h4 := heap_setCell_same _ b 3 _ t v3 h3
  refine ⟨by rw [h4]; rfl, ?_⟩
  exact ((((Off.refl (fun k => k = b) w).setCell (p := ⟨b, 0, none⟩) (.inr rfl) v0).setCell (p := ⟨b, 1, none⟩) (.inr rfl) v1).setCell (p := ⟨b, 2, none⟩) (.inr rfl) v2).setCell (p := ⟨b, 3, none⟩) (.inr rfl) v3
/-- an answer laid into the block b, which is new. -/
theorem off_put {p b : Nat} {w w1 w2 : World} (h : Off (fun k => k = p) w w1) (k : Off (fun k => k = b) w1 w2) (hb : w.heap.size ≤ b) : Off (fun k => k = p) w w2 := h.trans k (fun i hi e => by omega)
theorem off_allocs {p : Nat} {w w1 w2 : World} (h : Below w.heap.size w w1) (k : Off (fun k => k = p) w1 w2) : Off (fun k => k = p) w w2 := (Off.of_below (S := fun k => k = p) h).trans k (fun _ _ t => t)

set_option maxRecDepth 20000 in
set_option maxHeartbeats 4000000 in
theorem read_end (V : List Nat → Bool) (TB : World → Prop) (m : Nat) (w : World) (p q : Nat) (l : List Nat) (at_ k : Nat) (hR : Rd w p q l at_ 0) (hz : l.length ≤ 140737488000000) (ha : ¬ at_ < l.length) :
    Calls Tryd.prog 68 #[.pointer (some ⟨p, 0, none⟩), .int .i64 k] w fun e w' => ItR p q l m (dec V m (l.drop at_)) w e w' := by
  have HF : Hid (dec V m (l.drop at_) = (7, .nil, [])) := by show _ = _; rw [List.drop_eq_nil_of_le (by omega), dec]
  generalize dec V m (l.drop at_) = C at HF ⊢
  have HU : Hid (∀ w1, Below w.heap.size w w1 → Calls Tryd.prog 77 #[.pointer (some ⟨p, 0, none⟩)] w1 fun e w' => e = .returned (.int .u8 0) ∧ Hid (Rd w' p q l at_ 7 ∧ Off (fun k => k = p) w1 w')) := fun w1 hb => u8_end w1 p q l at_ (hR.later hb) (by omega) ha
  have HB : Hid (∀ X Y Z : Obj, Below w.heap.size w (((w.alloc X).alloc Y).alloc Z)) := fun X Y Z => (((Below.refl _ w).alloc (Nat.le_refl _) X).alloc (by simp) Y).alloc (by simp; omega) Z
  have hp := hR.lt
  clear hR
  go_enter Tryd.func68, Tryd.ntmps68
  go_wp2
  refine wp_scope_once 0 rfl ?_
  go_wp2_with (first | (go_at_call 77; refine (HU.out _ (HB.out _ _ _)).mono ?_; rintro e w1 ⟨rfl, hq⟩; have HEr := err_any w1 p q l _ 7 hq.out.1; have HL := (Loc.new w).off hq.out.2 (by omega) (by omega) (by omega); obtain ⟨⟨z0, z1, z2, z3⟩, ⟨x0, x1, x2, x3⟩, fz, fx, hlt⟩ := HL.reads) | (go_at_call 70; refine HEr.mono ?_; rintro e w2 ⟨rfl, rfl⟩))
  go_step3
  show _ ∧ Code.wp _ _ _ _ _
  refine ⟨rfl, ?_⟩
  go_wp2
  rw [jump_ret]
  have hs := set4 HL.a (.int .i64 0) (.int .u64 0) (.slice none 0 0) (.slice none 0 0)
  generalize ((((w1.setCell ⟨w.heap.size, 0, none⟩ (.int .i64 0)).setCell ⟨w.heap.size, 1, none⟩ (.int .u64 0)).setCell ⟨w.heap.size, 2, none⟩ (.slice none 0 0)).setCell ⟨w.heap.size, 3, none⟩ (.slice none 0 0)) = W at hs ⊢
  have r0 := cell_of hs.1 0
  have r1 := cell_of hs.1 1
  have r2 := cell_of hs.1 2
  have r3 := cell_of hs.1 3
  simp at r0 r1 r2 r3
  refine bodyPost_ret (v := .tuple #[iv .nil none 0 none 0, .bool false]) (by simp [results, Tryd.results68, go_sem, r0, r1, r2, r3, kd, nm, bs, its]) rfl ?_
  rw [HF.out]
  exact ⟨none, 0, none, 0, at_, 7, rfl, hq.out.1.off hs.2 (by omega) (by omega), off_put (off_allocs (HB.out _ _ _) hq.out.2) hs.2 (Nat.le_refl _), fun h => by simp at h, fun _ => rfl, fun h => by simp at h, fun _ => ⟨rfl, rfl, rfl, rfl, rfl⟩⟩
/-! case by case -/
set_option maxRecDepth 20000 in
set_option maxHeartbeats 4000000 in
theorem read_deep (V : List Nat → Bool) (M : Nat) (hM : M = 0) (w : World) (p q : Nat) (l : List Nat) (at_ k : Nat) (hk : k = 4) (hR : Rd w p q l at_ 0) (hz : l.length ≤ 140737488000000) (ha : at_ < l.length) :
    Calls Tryd.prog 68 #[.pointer (some ⟨p, 0, none⟩), .int .i64 k] w fun e w' => ItR p q l M (dec V M (l.drop at_)) w e w' := by
  have HF : Hid (dec V M (l.drop at_) = (170, .nil, [])) := by show _ = _; rw [hM, List.drop_eq_getElem_cons ha, dec]
  subst hk
  generalize dec V M (l.drop at_) = C at HF ⊢
  have hb : l[at_] < 256 := hR.all.byte _ (List.getElem_mem ha)
  have HU : Hid (∀ w1, Below w.heap.size w w1 → Calls Tryd.prog 77 #[.pointer (some ⟨p, 0, none⟩)] w1 fun e w' => e = .returned (.int .u8 (l[at_] : Nat)) ∧ Hid (Rd w' p q l (at_ + 1) 0 ∧ Off (fun k => k = p) w1 w')) := fun w1 hb => u8_more w1 p q l at_ (hR.later hb) (by omega) ha
  have HB : Hid (∀ X Y Z : Obj, Below w.heap.size w (((w.alloc X).alloc Y).alloc Z)) := fun X Y Z => (((Below.refl _ w).alloc (Nat.le_refl _) X).alloc (by simp) Y).alloc (by simp; omega) Z
  have hp := hR.lt
  clear hR
  generalize l[at_] = b at HU hb
  go_enter Tryd.func68, Tryd.ntmps68
  go_wp2
  refine wp_scope_once 0 rfl ?_
  go_wp2_with (first | (go_at_call 77; refine (HU.out _ (HB.out _ _ _)).mono ?_; rintro e w1 ⟨rfl, hq⟩; have HEr := err_any w1 p q l _ 0 hq.out.1; have HL := (Loc.new w).off hq.out.2 (by omega) (by omega) (by omega); obtain ⟨⟨z0, z1, z2, z3⟩, ⟨x0, x1, x2, x3⟩, fz, fx, hlt⟩ := HL.reads) | (go_at_call 70; refine HEr.mono ?_; rintro e w2 ⟨rfl, rfl⟩))
  go_step3
  show _ ∧ Code.wp _ _ _ _ _
  refine ⟨rfl, ?_⟩
  go_wp2
  try rw [jump_ret]
  have hs := set4 HL.a (.int .i64 0) (.int .u64 0) (.slice none 0 0) (.slice none 0 0)
  generalize ((((w1.setCell ⟨w.heap.size, 0, none⟩ (.int .i64 0)).setCell ⟨w.heap.size, 1, none⟩ (.int .u64 0)).setCell ⟨w.heap.size, 2, none⟩ (.slice none 0 0)).setCell ⟨w.heap.size, 3, none⟩ (.slice none 0 0)) = W at hs ⊢
  have r0 := cell_of hs.1 0
  have r1 := cell_of hs.1 1
  have r2 := cell_of hs.1 2
  have r3 := cell_of hs.1 3
  simp at r0 r1 r2 r3
  refine bodyPost_ret (v := .tuple #[iv .nil none 0 none 0, .bool false]) (by simp [results, Tryd.results68, go_sem, r0, r1, r2, r3, kd, nm, bs, its]) rfl ?_
  rw [HF.out]
  exact ⟨none, 0, none, 0, at_ + 1, 0, rfl, hq.out.1.off hs.2 (by omega) (by omega), off_put (off_allocs (HB.out _ _ _) hq.out.2) hs.2 (Nat.le_refl _), fun h => by simp at h, fun h => by simp at h, fun _ => rfl, fun _ => ⟨rfl, rfl, rfl, rfl, rfl⟩⟩

set_option maxRecDepth 20000 in
set_option maxHeartbeats 4000000 in
theorem read_kind (V : List Nat → Bool) (M m : Nat) (hM : M = m + 1) (w : World) (p q : Nat) (l : List Nat) (at_ k : Nat) (hk : k < 4) (hR : Rd w p q l at_ 0) (hz : l.length ≤ 140737488000000) (ha : at_ < l.length) (h0 : kindN (l[at_] / 32) = 0) :
    Calls Tryd.prog 68 #[.pointer (some ⟨p, 0, none⟩), .int .i64 k] w fun e w' => ItR p q l M (dec V M (l.drop at_)) w e w' := by
  have HF : Hid (dec V M (l.drop at_) = (170, .nil, [])) := by show _ = _; rw [hM, List.drop_eq_getElem_cons ha, dec, if_pos h0]
  generalize dec V M (l.drop at_) = C at HF ⊢
  have hb : l[at_] < 256 := hR.all.byte _ (List.getElem_mem ha)
  have HU : Hid (∀ w1, Below w.heap.size w w1 → Calls Tryd.prog 77 #[.pointer (some ⟨p, 0, none⟩)] w1 fun e w' => e = .returned (.int .u8 (l[at_] : Nat)) ∧ Hid (Rd w' p q l (at_ + 1) 0 ∧ Off (fun k => k = p) w1 w')) := fun w1 hb => u8_more w1 p q l at_ (hR.later hb) (by omega) ha
  have HB : Hid (∀ X Y Z : Obj, Below w.heap.size w (((w.alloc X).alloc Y).alloc Z)) := fun X Y Z => (((Below.refl _ w).alloc (Nat.le_refl _) X).alloc (by simp) Y).alloc (by simp; omega) Z
  have hp := hR.lt
  clear hR
  have HK : Hid (∀ w, Calls Tryd.prog 78 #[.int .u8 ((l[at_] : Int) / 32)] w fun e w' => e = .returned (.tuple #[.int .i64 0, .bool false]) ∧ w = w') := fun w => by
    have := kindOf_any w (l[at_] / 32) (by omega)
    rw [h0] at this
    rw [show ((l[at_] : Int) / 32) = ((l[at_] / 32 : Nat) : Int) by omega]
    exact this
  clear h0
  generalize l[at_] = b at HU hb HK
  have hk4 : ((k : Int) == 4) = false := beq_eq_false_iff_ne.2 (by omega)
  go_enter Tryd.func68, Tryd.ntmps68
  go_wp2
  refine wp_scope_once 0 rfl ?_
  go_wp2_with (first | (go_at_call 77; refine (HU.out _ (HB.out _ _ _)).mono ?_; rintro e w1 ⟨rfl, hq⟩; have HEr := err_any w1 p q l _ 0 hq.out.1; have HL := (Loc.new w).off hq.out.2 (by omega) (by omega) (by omega); obtain ⟨⟨z0, z1, z2, z3⟩, ⟨x0, x1, x2, x3⟩, fz, fx, hlt⟩ := HL.reads) | (go_at_call 70; refine HEr.mono ?_; rintro e w2 ⟨rfl, rfl⟩) | (go_at_call 78; refine (HK.out _).mono ?_; rintro e w2 ⟨rfl, rfl⟩))
  have HLs := HL.setx 0 (.int .i64 0) (by omega)
  go_step3
  show _ ∧ Code.wp _ _ _ _ _
  refine ⟨rfl, ?_⟩
  go_wp2
  try rw [jump_ret]
  have hs := set4 HLs.a (.int .i64 0) (.int .u64 0) (.slice none 0 0) (.slice none 0 0)
  generalize (((((w1.setCell ⟨w.heap.size + 1, 0, none⟩ (.int .i64 0)).setCell ⟨w.heap.size, 0, none⟩ (.int .i64 0)).setCell ⟨w.heap.size, 1, none⟩ (.int .u64 0)).setCell ⟨w.heap.size, 2, none⟩ (.slice none 0 0)).setCell ⟨w.heap.size, 3, none⟩ (.slice none 0 0)) = W at hs ⊢
  have r0 := cell_of hs.1 0
  have r1 := cell_of hs.1 1
  have r2 := cell_of hs.1 2
  have r3 := cell_of hs.1 3
  simp at r0 r1 r2 r3
  refine bodyPost_ret (v := .tuple #[iv .nil none 0 none 0, .bool false]) (by simp [results, Tryd.results68, go_sem, r0, r1, r2, r3, kd, nm, bs, its]) rfl ?_
  rw [HF.out]
  exact ⟨none, 0, none, 0, at_ + 1, 0, rfl, (hq.out.1.off (off_set w1 (w.heap.size + 1) 0 _) (by omega) (by omega)).off hs.2 (by omega) (by omega), off_put (off_put (off_allocs (HB.out _ _ _) hq.out.2) (off_set w1 (w.heap.size + 1) 0 _) (by omega)) hs.2 (Nat.le_refl _), fun h => by simp at h, fun h => by simp at h, fun _ => rfl, fun _ => ⟨rfl, rfl, rfl, rfl, rfl⟩⟩

theorem kind_lt (t : Nat) : kindN t < 5 := by
  unfold kindN
  repeat' split
  all_goals omega
theorem lim_lt (k : Nat) : limN k < 18446744073709551616 ∧ 24 ≤ limN k := by
  unfold limN
  repeat' split
  all_goals omega
set_option maxRecDepth 20000 in
set_option maxHeartbeats 4000000 in
theorem read_num (V : List Nat → Bool) (M m : Nat) (hM : M = m + 1) (w : World) (p q : Nat) (l : List Nat) (at_ k : Nat) (hk : k < 4) (hR : Rd w p q l at_ 0) (hz : l.length ≤ 140737488000000) (ha : at_ < l.length) (h0 : kindN (l[at_] / 32) ≠ 0) (h1 : ¬ (rn (l[at_] % 32) (limN (kindN (l[at_] / 32))) (l.drop (at_ + 1))).1 = 0) :
    Calls Tryd.prog 68 #[.pointer (some ⟨p, 0, none⟩), .int .i64 k] w fun e w' => ItR p q l M (dec V M (l.drop at_)) w e w' := by
  obtain ⟨D, hD⟩ : ∃ D, rn (l[at_] % 32) (limN (kindN (l[at_] / 32))) (l.drop (at_ + 1)) = D := ⟨_, rfl⟩
  have hcode := rn_code (l[at_] % 32) (limN (kindN (l[at_] / 32))) (l.drop (at_ + 1))
  rw [hD] at h1 hcode
  have HF : Hid (dec V M (l.drop at_) = (D.1, .nil, [])) := by show _ = _; rw [hM, List.drop_eq_getElem_cons ha, dec, if_neg h0, hD, if_neg h1]
  have HC : Hid (D.1 = 0 ∨ D.1 = 7 ∨ D.1 = 170) := hcode
  have H1 : Hid (¬ D.1 = 0) := h1
  have hdd : decide (D.1 = 0) = false := decide_eq_false h1
  generalize dec V M (l.drop at_) = C at HF ⊢
  have hb : l[at_] < 256 := hR.all.byte _ (List.getElem_mem ha)
  have HU : Hid (∀ w1, Below w.heap.size w w1 → Calls Tryd.prog 77 #[.pointer (some ⟨p, 0, none⟩)] w1 fun e w' => e = .returned (.int .u8 (l[at_] : Nat)) ∧ Hid (Rd w' p q l (at_ + 1) 0 ∧ Off (fun k => k = p) w1 w')) := fun w1 hb => u8_more w1 p q l at_ (hR.later hb) (by omega) ha
  have HB : Hid (∀ X Y Z : Obj, Below w.heap.size w (((w.alloc X).alloc Y).alloc Z)) := fun X Y Z => (((Below.refl _ w).alloc (Nat.le_refl _) X).alloc (by simp) Y).alloc (by simp; omega) Z
  have hp := hR.lt
  clear hR
  have HK : Hid (∀ w, Calls Tryd.prog 78 #[.int .u8 ((l[at_] : Int) / 32)] w fun e w' => e = .returned (.tuple #[.int .i64 (kindN (l[at_] / 32) : Nat), .bool true]) ∧ w = w') := fun w => by
    have := kindOf_any w (l[at_] / 32) (by omega)
    rw [show decide (kindN (l[at_] / 32) ≠ 0) = true from decide_eq_true h0] at this
    rw [show ((l[at_] : Int) / 32) = ((l[at_] / 32 : Nat) : Int) by omega]
    exact this
  have hand := and31 l[at_] hb
  have HLm : Hid (∀ w, Calls Tryd.prog 80 #[.int .i64 (kindN (l[at_] / 32) : Nat)] w fun e w' => e = .returned (.int .u64 (limN (kindN (l[at_] / 32)) : Nat)) ∧ w = w') := fun w => limit_any w _ (by have := kind_lt (l[at_] / 32); omega)
  have HRN : Hid (∀ w, Rd w p q l (at_ + 1) 0 → Calls Tryd.prog 79 #[.pointer (some ⟨p, 0, none⟩), .int .u8 (l[at_] % 32 : Nat), .int .u64 (limN (kindN (l[at_] / 32)) : Nat)] w fun e w' => NumR p q l D w e w') := fun w hr => by rw [← hD]; exact readNumber_any w p q l (at_ + 1) _ _ hr (by omega) (by omega) (by have := lim_lt (kindN (l[at_] / 32)); omega)
  clear h0 h1 hcode hD
  generalize limN (kindN (l[at_] / 32)) = g at HLm HRN
  generalize kindN (l[at_] / 32) = K at HK HLm
  generalize l[at_] % 32 = E at HRN hand
  generalize l[at_] = b at HU hb HK hand
  have hk4 : ((k : Int) == 4) = false := beq_eq_false_iff_ne.2 (by omega)
  go_enter Tryd.func68, Tryd.ntmps68
  go_wp2
  refine wp_scope_once 0 rfl ?_
  go_wp2_with (first | (go_at_call 77; refine (HU.out _ (HB.out _ _ _)).mono ?_; rintro e w1 ⟨rfl, hq⟩; have HEr := err_any w1 p q l _ 0 hq.out.1; have HL := (Loc.new w).off hq.out.2 (by omega) (by omega) (by omega); obtain ⟨⟨z0, z1, z2, z3⟩, ⟨x0, x1, x2, x3⟩, fz, fx, hlt⟩ := HL.reads) | (go_at_call 70; refine HEr.mono ?_; rintro e w2 ⟨rfl, rfl⟩) | (go_at_call 78; refine (HK.out _).mono ?_; rintro e w2 ⟨rfl, rfl⟩) | (go_at_call 80; refine (HLm.out _).mono ?_; rintro e w2 ⟨rfl, rfl⟩) | (go_at_call 79; refine (HRN.out _ (hq.out.1.off (off_set w1 (w.heap.size + 1) 0 _) (by omega) (by omega))).mono ?_; rintro e w3 ⟨at3, er3, rfl, hn⟩; have HL3 := (HL.setx 0 (.int .i64 K) (by omega)).off hn.out.2.1 (by omega) (by omega) (by omega); obtain ⟨⟨z0, z1, z2, z3⟩, ⟨x0, x1, x2, x3⟩, fz, fx, hlt⟩ := HL3.reads; simp only [if_true, Nat.reduceEqDiff, if_false] at x0 x1 x2 x3))
  go_step3
  show _ ∧ Code.wp _ _ _ _ _
  refine ⟨rfl, ?_⟩
  go_wp2
  try rw [jump_ret]
  have hs := set4 HL3.a (.int .i64 0) (.int .u64 0) (.slice none 0 0) (.slice none 0 0)
  generalize ((((w3.setCell ⟨w.heap.size, 0, none⟩ (.int .i64 0)).setCell ⟨w.heap.size, 1, none⟩ (.int .u64 0)).setCell ⟨w.heap.size, 2, none⟩ (.slice none 0 0)).setCell ⟨w.heap.size, 3, none⟩ (.slice none 0 0)) = W at hs ⊢
  have r0 := cell_of hs.1 0
  have r1 := cell_of hs.1 1
  have r2 := cell_of hs.1 2
  have r3 := cell_of hs.1 3
  simp at r0 r1 r2 r3
  refine bodyPost_ret (v := .tuple #[iv .nil none 0 none 0, .bool false]) (by simp [results, Tryd.results68, go_sem, r0, r1, r2, r3, kd, nm, bs, its]) rfl ?_
  have hf : (if D.1 = 0 then 0 else 0 : Nat) = 0 := by split <;> rfl
  have hc : C.1 = D.1 ∧ C.2.1 = .nil := by rw [HF.out]; exact ⟨rfl, rfl⟩
  have hdc : decide (C.1 = 0) = false := by rw [hc.1]; exact hdd
  refine ⟨none, 0, none, 0, at3, er3, by rw [hdc, hc.2], hn.out.1.off hs.2 (by omega) (by omega), off_put ((off_put (off_allocs (HB.out _ _ _) hq.out.2) (off_set w1 (w.heap.size + 1) 0 _) (by omega)).trans hn.out.2.1 (fun _ _ t => t)) hs.2 (Nat.le_refl _), fun h => absurd (hc.1 ▸ h) H1.out, fun h => hn.out.2.2.2.1 (hc.1 ▸ h), fun h => hn.out.2.2.2.2 (hc.1 ▸ h), fun _ => ⟨hc.2, rfl, rfl, rfl, rfl⟩⟩

set_option maxRecDepth 20000 in
set_option maxHeartbeats 4000000 in
theorem read_number (V : List Nat → Bool) (M m : Nat) (hM : M = m + 1) (w : World) (p q : Nat) (l : List Nat) (at_ k : Nat) (hk : k < 4) (hR : Rd w p q l at_ 0) (hz : l.length ≤ 140737488000000) (ha : at_ < l.length) (ht : l[at_] / 32 = 0) (h1 : (rn (l[at_] % 32) 18446744073709551615 (l.drop (at_ + 1))).1 = 0) :
    Calls Tryd.prog 68 #[.pointer (some ⟨p, 0, none⟩), .int .i64 k] w fun e w' => ItR p q l M (dec V M (l.drop at_)) w e w' := by
  obtain ⟨D, hD⟩ : ∃ D, rn (l[at_] % 32) 18446744073709551615 (l.drop (at_ + 1)) = D := ⟨_, rfl⟩
  rw [hD] at h1
  have HF : Hid (dec V M (l.drop at_) = (0, mkI 1 D.2.1 [] [], D.2.2)) := by
    show _ = _
    rw [hM, List.drop_eq_getElem_cons ha, dec, ht, if_neg (by decide), show limN (kindN 0) = 18446744073709551615 from rfl, hD, if_pos h1]
    rfl
  have hN : D.2.1 < 18446744073709551616 := (hd_of (b := l[at_]) (r := l.drop (at_ + 1)) (g := 18446744073709551615) (N := D.2.1) (r2 := D.2.2) (fun x hx => hR.all.byte x (List.mem_of_mem_drop hx)) (by omega) (by rw [hD, ← h1])).2.2
  have H1 : Hid (D.1 = 0) := h1
  have hdd : decide (D.1 = 0) = true := decide_eq_true h1
  generalize dec V M (l.drop at_) = C at HF ⊢
  have hb : l[at_] < 256 := hR.all.byte _ (List.getElem_mem ha)
  have HU : Hid (∀ w1, Below w.heap.size w w1 → Calls Tryd.prog 77 #[.pointer (some ⟨p, 0, none⟩)] w1 fun e w' => e = .returned (.int .u8 (l[at_] : Nat)) ∧ Hid (Rd w' p q l (at_ + 1) 0 ∧ Off (fun k => k = p) w1 w')) := fun w1 hb => u8_more w1 p q l at_ (hR.later hb) (by omega) ha
  have HB : Hid (∀ X Y Z : Obj, Below w.heap.size w (((w.alloc X).alloc Y).alloc Z)) := fun X Y Z => (((Below.refl _ w).alloc (Nat.le_refl _) X).alloc (by simp) Y).alloc (by simp; omega) Z
  have hp := hR.lt
  clear hR
  have HK : Hid (∀ w, Calls Tryd.prog 78 #[.int .u8 ((l[at_] : Int) / 32)] w fun e w' => e = .returned (.tuple #[.int .i64 1, .bool true]) ∧ w = w') := fun w => by
    have := kindOf_any w (l[at_] / 32) (by omega)
    rw [ht] at this
    rw [show ((l[at_] : Int) / 32) = ((l[at_] / 32 : Nat) : Int) by omega, ht]
    exact this
  have hand := and31 l[at_] hb
  have HLm : Hid (∀ w, Calls Tryd.prog 80 #[.int .i64 1] w fun e w' => e = .returned (.int .u64 18446744073709551615) ∧ w = w') := fun w => limit_any w 1 (by omega)
  have HRN : Hid (∀ w, Rd w p q l (at_ + 1) 0 → Calls Tryd.prog 79 #[.pointer (some ⟨p, 0, none⟩), .int .u8 (l[at_] % 32 : Nat), .int .u64 18446744073709551615] w fun e w' => NumR p q l D w e w') := fun w hr => by rw [← hD]; exact readNumber_any w p q l (at_ + 1) _ 18446744073709551615 hr (by omega) (by omega) (by omega)
  clear h1 hD ht
  generalize l[at_] % 32 = E at HRN hand
  generalize l[at_] = b at HU hb HK hand
  have hk4 : ((k : Int) == 4) = false := beq_eq_false_iff_ne.2 (by omega)
  have HD2 : Hid (D.2.2 = D.2.2) := rfl
  generalize hN2 : D.2.1 = N at hN HF
  have HN2 : Hid (D.2.1 = N) := hN2
  have hN3 : ((D.2.1 : Nat) : Int) = (N : Int) := by rw [hN2]
  clear hN2
  go_enter Tryd.func68, Tryd.ntmps68
  go_wp2
  refine wp_scope_once 0 rfl ?_
  go_wp2_with (first | (go_at_call 77; refine (HU.out _ (HB.out _ _ _)).mono ?_; rintro e w1 ⟨rfl, hq⟩; have HEr := err_any w1 p q l _ 0 hq.out.1; have HL := (Loc.new w).off hq.out.2 (by omega) (by omega) (by omega); obtain ⟨⟨z0, z1, z2, z3⟩, ⟨x0, x1, x2, x3⟩, fz, fx, hlt⟩ := HL.reads) | (go_at_call 70; refine HEr.mono ?_; rintro e w2 ⟨rfl, rfl⟩) | (go_at_call 78; refine (HK.out _).mono ?_; rintro e w2 ⟨rfl, rfl⟩) | (go_at_call 80; refine (HLm.out _).mono ?_; rintro e w2 ⟨rfl, rfl⟩) | (go_at_call 79; refine (HRN.out _ (hq.out.1.off (off_set w1 (w.heap.size + 1) 0 _) (by omega) (by omega))).mono ?_; rintro e w3 ⟨at3, er3, rfl, hn⟩; have HL3 := (HL.setx 0 (.int .i64 1) (by omega)).off hn.out.2.1 (by omega) (by omega) (by omega); obtain ⟨⟨z0, z1, z2, z3⟩, ⟨x0, x1, x2, x3⟩, fz, fx, hlt⟩ := HL3.reads; simp only [if_true, Nat.reduceEqDiff, if_false] at x0 x1 x2 x3))
  have HL4 := HL3.setx 1 (.int .u64 (N : Nat)) (by omega)
  try rw [jump_ret]
  have hs := set4 HL4.a (.int .i64 1) (.int .u64 (N : Nat)) (.slice none 0 0) (.slice none 0 0)
  generalize (((((w3.setCell ⟨w.heap.size + 1, 1, none⟩ (.int .u64 (N : Nat))).setCell ⟨w.heap.size, 0, none⟩ (.int .i64 1)).setCell ⟨w.heap.size, 1, none⟩ (.int .u64 (N : Nat))).setCell ⟨w.heap.size, 2, none⟩ (.slice none 0 0)).setCell ⟨w.heap.size, 3, none⟩ (.slice none 0 0)) = W at hs ⊢
  have r0 := cell_of hs.1 0
  have r1 := cell_of hs.1 1
  have r2 := cell_of hs.1 2
  have r3 := cell_of hs.1 3
  simp at r0 r1 r2 r3
  refine bodyPost_ret (v := .tuple #[iv (mkI 1 N [] []) none 0 none 0, .bool true]) (by simp [results, Tryd.results68, go_sem, r0, r1, r2, r3, kd_mk, nm_mk, bs_mk, its_mk]) rfl ?_
  rw [HF.out]
  have hc := hn.out.2.2.1 H1.out
  refine ⟨none, 0, none, 0, at3, er3, rfl, (hn.out.1.off (off_set w3 (w.heap.size + 1) 1 _) (by omega) (by omega)).off hs.2 (by omega) (by omega), off_put (off_put ((off_put (off_allocs (HB.out _ _ _) hq.out.2) (off_set w1 (w.heap.size + 1) 0 _) (by omega)).trans hn.out.2.1 (fun _ _ t => t)) (off_set w3 (w.heap.size + 1) 1 _) (by omega)) hs.2 (Nat.le_refl _), fun _ => ⟨hc.1, hc.2, ?_, Nat.le_refl _⟩, fun h => by simp at h, fun h => by simp at h, fun h => absurd rfl h⟩
  rw [hM]
  exact Lie.flat 1 N [] m none hN (by omega) (by simp) (row_nil _ _) (fun h => absurd h (by simp))

end Go.Proofs.YtjfmgokpnpmdpaaDoor
