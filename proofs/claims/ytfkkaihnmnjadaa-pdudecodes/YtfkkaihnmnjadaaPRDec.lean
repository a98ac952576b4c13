/- heliographref11.Decode: what lies in memory on the way; what is too short stays so. -/
import Derived.Test.YtfkkaihnmnjadaaPRAll
import Derived.Test.YtfkkaihnmnjadaaPDec
namespace Go.Proofs.Ytfkkaihnmnjadaa
open Go.RowKit
set_option linter.unusedVariables false
theorem optT_seven {c : Bool} {s : List Nat × Nat × Int} {f : Nat → Int → List Nat × Nat × Int} (hf : ∀ a, (f a 7).2.2 = 7) (h : s.2.2 = 7) : (optT c (f s.2.1 s.2.2) s.2).2.2 = 7 := by
  cases c with
  | false => exact h
  | true => show (f s.2.1 s.2.2).2.2 = 7; rw [h]; exact hf _
theorem seven_8 {l : List Nat} (h : (rd7 l).2.2 = 7) : (rd8 l).2.2 = 7 := optT_seven (f := fun a e => counts l 2 a e) (fun _ => counts_seven) h
theorem seven_7 {l : List Nat} (h : (rd6 l).2.2 = 7) : (rd7 l).2.2 = 7 := optT_seven (f := fun a e => takes l a e 1) (fun _ => takes_seven) h
theorem seven_6 {l : List Nat} (h : (rd5 l).2.2 = 7) : (rd6 l).2.2 = 7 := optT_seven (f := fun a e => takes l a e 4) (fun _ => takes_seven) h
theorem seven_5 {l : List Nat} (h : (rd4 l).2.2 = 7) : (rd5 l).2.2 = 7 := optT_seven (f := fun a e => takes l a e 2) (fun _ => takes_seven) h
theorem seven_4 {l : List Nat} (h : (rd3 l).2.2 = 7) : (rd4 l).2.2 = 7 := optT_seven (f := fun a e => takes l a e 2) (fun _ => takes_seven) h
theorem dec_seven {x : Nat} {t : List Nat} (hk : fld (x : Nat) ≠ 0) (h : (rd8 (x :: t)).2.2 = 7) : decM (x :: t) = (zeroM, 7) := by
  unfold decM
  rw [if_neg (fun k => hk k.2), h]
  rfl
theorem dec_end {x : Nat} {t : List Nat} {A : Nat} (hk : fld (x : Nat) ≠ 0) (h : (rd8 (x :: t)).2 = (A, 0)) : decM (x :: t) = if A < (x :: t).length ∨ okM (rdM (x :: t)) = false then (zeroM, 210) else (rdM (x :: t), 0) := by
  unfold decM
  rw [if_neg (fun k => hk k.2), h]
  have e : (0 < (x :: t).length - A) ↔ A < (x :: t).length := by omega
  simp only [ne_eq, not_true_eq_false, if_false, e]
theorem row_part {w : World} {b o : Nat} {l : List Nat} (h : Row w (some ⟨b, o, none⟩) l) (A n : Nat) (hn : A + n ≤ l.length) : Row w (some ⟨b, o + A, none⟩) ((l.drop A).take n) := by
  have hl : ((l.drop A).take n).length = n := by rw [List.length_take, List.length_drop]; omega
  refine ⟨fun x hx => h.1 x (List.mem_of_mem_drop (List.mem_of_mem_take hx)), by have := h.2.1; omega, fun h0 => ⟨b, o + A, rfl, fun i hi => ?_⟩⟩
  rw [hl] at hi
  obtain ⟨_, _, he, hc⟩ := h.2.2 (by omega)
  cases he
  have := hc (A + i) (by omega)
  rw [Nat.add_assoc, this, List.getD_eq_getElem?_getD, List.getD_eq_getElem?_getD, List.getElem?_take_of_lt hi, List.getElem?_drop]
/-- on the way: the answer's block, the message's. -/
structure Rs (w W : World) (pm : Nat) (C : Array Value) : Prop where
  res : W.heap[w.heap.size]? = some (mc zeroM none 0)
  blk : W.heap[pm]? = some (.cells C 25 (0, 0))
  bel : Below w.heap.size w W
  nm : w.heap.size < pm
theorem Rs.later {w W V : World} {pm : Nat} {C : Array Value} (h : Rs w W pm C) (hb : Below W.heap.size W V) : Rs w V pm C := ⟨old_block hb h.res, old_block hb h.blk, below_of h.bel hb, h.nm⟩
theorem Rs.set {w W : World} {pm : Nat} {C : Array Value} (h : Rs w W pm C) (j : Nat) (v : Value) : Rs w (W.setCell ⟨pm, j, none⟩ v) pm (C.setIfInBounds j v) := by
  have ho : Off (fun k => k = pm) W (W.setCell ⟨pm, j, none⟩ v) := off_set W pm j v
  have h3 := h.nm
  refine ⟨ho.at h.res (by show ¬ _ = _; omega), ?_, h.bel.trans (ho.below h.bel.size (fun i e => by have : i = pm := e; omega)), h3⟩
  rw [heap_setCell_same _ _ _ _ _ _ h.blk]
theorem Rs.mid {w W : World} {pm : Nat} {C : Array Value} (h : Rs w W pm C) : Mid w W := ⟨h.bel, h.res⟩
/-- what the reference's Decode answers. -/
def RDec (l : List Nat) (w : World) (e : Ending) (w' : World) : Prop := ∃ a c, e = .returned (.tuple #[mv (decM l).1 a c, .int .i64 (decM l).2]) ∧ Hid (Row w' a (decM l).1.bts ∧ Below w.heap.size w w')
theorem rdec_zero {l : List Nat} {w w' : World} {e : Ending} {R : Int} (h : decM l = (zeroM, R)) (he : e = .returned (.tuple #[mv zeroM none 0, .int .i64 R])) (hb : Below w.heap.size w w') : RDec l w e w' := by
  unfold RDec
  rw [h]
  exact ⟨none, 0, he, row_nil _ _, hb⟩
set_option maxRecDepth 20000 in
set_option maxHeartbeats 4000000 in
theorem rdec_nil (w : World) (a : Option Addr) (c : Nat) : Calls Try.prog 16 #[.slice a 0 c] w fun e w' => RDec [] w e w' := by
  have HB : Hid (∀ (w : World) (X : Obj), Below w.heap.size w (w.alloc X)) := fun w X => (Below.refl _ w).alloc (Nat.le_refl _) X
  go_enter Try.func16, Try.ntmps16
  go_wp2
  exact bodyPost_ret (v := .tuple #[mv zeroM none 0, .int .i64 7]) (by simp [results, Try.results16, go_sem, zeroM]) rfl (rdec_zero rfl rfl (HB.out _ _))
set_option maxRecDepth 20000 in
set_option maxHeartbeats 4000000 in
theorem rdec_kind (w : World) (b o c : Nat) (x : Nat) (t : List Nat) (hr : Row w (some ⟨b, o, none⟩) (x :: t)) (hk : fld (x : Nat) = 0) : Calls Try.prog 16 #[.slice (some ⟨b, o, none⟩) (x :: t).length c] w fun e w' => RDec (x :: t) w e w' := by
  have HD : Hid (decM (x :: t) = (zeroM, 210)) := by show _ = _; unfold decM; exact if_pos ⟨by simp, hk⟩
  have HB : Hid (∀ (w : World) (X : Obj), Below w.heap.size w (w.alloc X)) := fun w X => (Below.refl _ w).alloc (Nat.le_refl _) X
  have hx := hr.1 x (by simp)
  have HF : Hid (∀ W : World, Calls Try.prog 24 #[.int .i64 x] W fun e w' => e = .returned (.string ⟨#[]⟩) ∧ Hid (Below W.heap.size W w')) := fun W => fieldsR_no (x : Nat) hk W
  have HMF : Hid (Mid w (w.alloc (mc zeroM none 0))) := Mid.first w
  obtain ⟨_, _, hv, hcc⟩ := hr.2.2 (by simp)
  cases hv
  have h0 := hcc 0 (by simp)
  have hcell : ∀ A, (w.alloc A).cell? ⟨b, o, none⟩ = some (.int .u8 (x : Nat)) := fun A => cell_later (HB.out w A) h0
  have hl : (x :: t).length = t.length + 1 := rfl
  rw [hl]
  clear hr hk hcc h0
  generalize x :: t = l at HD ⊢
  go_enter Try.func16, Try.ntmps16
  go_wp2_with (go_at_call 24; refine (HF.out _).mono ?_; rintro e w1 ⟨rfl, hb1⟩; have HM1 : Hid (Mid w w1) := HMF.out.later hb1.out; obtain ⟨z0, z1, z2, z3, z4, z5, z6, z7, zf⟩ := cells8 HM1.out.2)
  exact bodyPost_ret (v := .tuple #[mv zeroM none 0, .int .i64 210]) (by simp [results, Try.results16, go_sem, zeroM, z0, z1, z2, z3, z4, z5, z6, z7]) rfl (rdec_zero HD.out rfl (HM1.out.fin _ _ _ _ _ _ _ _))
end Go.Proofs.Ytfkkaihnmnjadaa
