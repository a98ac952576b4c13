/- The walks of link's New, Send, without. -/
import Derived.Test.YtopfpdkknfjgoaaLAdd
import Derived.Test.YtopfpdkknfjgoaaLConcat
namespace Go.Proofs.Ytopfpdkknfjgoaa
open Go.RowKit
set_option linter.unusedVariables false

theorem lk_new (w : World) (N : Nat → Prop) (hN : ∀ k, N k → k < w.heap.size) : Lk N ((w.alloc (.map #[] 0)).alloc (.cells #[.map (some w.heap.size)] 64)) (w.heap.size + 1) w.heap.size 0 [] := by
  have hs : (w.alloc (.map #[] 0)).heap.size = w.heap.size + 1 := by simp
  refine ⟨by rw [← hs]; exact heap_alloc_new _ _, fun h => by have := hN _ h; omega, fun h => by have := hN _ h; omega, ⟨.map [], (World.ownsMap_made w _ _ _).alloc _, fun v kk hk => ⟨none, [], rfl, rfl, FxAt.nil _ _ _, rfl⟩⟩, by simp, by simp⟩
theorem new_any (w : World) : Calls Try.prog 10 #[] w fun e w' => e = .returned (.pointer (some ⟨w.heap.size + 1, 0, none⟩)) ∧ w' = (w.alloc (.map #[] 0)).alloc (.cells #[.map (some w.heap.size)] 64) := by
  have hmm := @run_makeMap Try.prog
  go_enter Try.func10, Try.ntmps10
  go_wp2
  go_ret
  exact ⟨by simp, rfl⟩

/-- what Send answers. -/
def sendE (L : List Fl) (x : Fl) : Int := if rightB x.frm x.to x.at_ x.bytes.length then (if L.length < 512 then 0 else 6) else 2
def sendL (L : List Fl) (x : Fl) : List Fl := if sendE L x = 0 then L ++ [x] else L
theorem sendL_yes {L : List Fl} {x : Fl} (h1 : rightB x.frm x.to x.at_ x.bytes.length = true) (h2 : L.length < 512) : sendE L x = 0 ∧ sendL L x = L ++ [x] := by
  have : sendE L x = 0 := by unfold sendE; rw [if_pos h1, if_pos h2]
  exact ⟨this, by unfold sendL; rw [if_pos this]⟩
theorem sendL_no {L : List Fl} {x : Fl} (h : rightB x.frm x.to x.at_ x.bytes.length = false) : sendE L x = 2 ∧ sendL L x = L := by
  have : sendE L x = 2 := by unfold sendE; rw [h]; rfl
  exact ⟨this, by unfold sendL; rw [this]; rfl⟩
theorem sendL_full {L : List Fl} {x : Fl} (h1 : rightB x.frm x.to x.at_ x.bytes.length = true) (h2 : ¬ L.length < 512) : sendE L x = 6 ∧ sendL L x = L := by
  have : sendE L x = 6 := by unfold sendE; rw [if_pos h1, if_neg h2]
  exact ⟨this, by unfold sendL; rw [this]; rfl⟩
theorem Lk.mono {N : Nat → Prop} {w : World} {lb mb n n' : Nat} {L : List Fl} (h : Lk N w lb mb n L) (hn : n ≤ n') : Lk N w lb mb n' L := by
  obtain ⟨D, hD, hX⟩ := h.map
  exact ⟨h.here, h.notl, h.notm, ⟨D, hD.mono hn, hX⟩, h.ok, h.len⟩

theorem clone_row {N : Nat → Prop} {w w1 w2 : World} {a : Option Addr} {l : List Nat} {c : Nat} {v : Value} (hf : Fresh w1 w2 a c l) (hN : ∀ k, N k → k < w.heap.size) (hs : w.heap.size < w1.heap.size) : Row (w2.setCell ⟨w.heap.size, 3, none⟩ v) a l ∧ ∀ b, a = some b → ¬ N b.block := by
  refine ⟨hf.row.off ((Off.refl (fun k => k = w.heap.size) w2).setCell (p := ⟨w.heap.size, 3, none⟩) (.inr rfl) _) (fun _ b hb e => ?_), fun b hb hn => ?_⟩
  · have := hf.new b hb; omega
  · have := hf.new b hb; have := hN _ hn; omega

set_option maxRecDepth 20000 in
set_option maxHeartbeats 4000000 in
theorem send_any (w : World) (N : Nat → Prop) (lb mb n : Nat) (L : List Fl) (h : Lk N w lb mb n L) (hn : n < 1000000000) (hN : ∀ k, N k → k < w.heap.size) (y : FX) (hr : Row w y.a y.x.bytes) (hz : y.x.bytes.length ≤ 140737488351232) :
    Calls Try.prog 16 #[.pointer (some ⟨lb, 0, none⟩), .agg #[.int .i64 y.x.frm, .int .i64 y.x.to, .int .i64 y.x.at_, .slice y.a y.x.bytes.length y.c]] w fun e w' => e = .returned (.int .i64 (sendE L y.x)) ∧ Hid (Lk N w' lb mb (n + 1) (sendL L y.x) ∧ Off (fun k => k = mb) w w') := by
  have HRT : Hid (∀ X : Obj, Calls Try.prog 35 #[.agg #[.int .i64 y.x.frm, .int .i64 y.x.to, .int .i64 y.x.at_, .slice y.a y.x.bytes.length y.c]] (w.alloc X) fun e w' => e = .returned (.bool (rightB y.x.frm y.x.to y.x.at_ y.x.bytes.length)) ∧ Hid (Below (w.alloc X).heap.size (w.alloc X) w')) := fun X => right_any _ _ _ _ _ _ _
  have HH : Hid (Lk N w lb mb n L) := h
  have HR : Hid (Row w y.a y.x.bytes ∧ ∀ k, N k → k < w.heap.size) := ⟨hr, hN⟩
  clear h hr hN
  cases hrb : rightB y.x.frm y.x.to y.x.at_ y.x.bytes.length
  · rw [(sendL_no (L := L) hrb).1, (sendL_no (L := L) hrb).2]
    rw [hrb] at HRT
    clear hrb
    go_enter Try.func16, Try.ntmps16
    go_wp2_with (go_at_call 35; refine (HRT.out _).mono ?_; rintro e w1 ⟨rfl, hq⟩)
    go_ret
    have hb : Below w.heap.size w w1 := below_of ((Below.refl _ w).alloc (Nat.le_refl _) _) hq.out
    exact ⟨rfl, (HH.out.later hb).mono (Nat.le_succ n), Off.of_below hb⟩
  · have HE : Hid (sendE L y.x = if L.length < 512 then 0 else 6) := by show _ = _; unfold sendE; rw [if_pos hrb]
    have HO : Hid (OkF y.x) := right_ok.1 hrb
    have HS : Hid (∀ h2 : L.length < 512, sendL L y.x = L ++ [y.x]) := fun h2 => (sendL_yes hrb h2).2
    have HS2 : Hid (∀ h2 : ¬ L.length < 512, sendL L y.x = L) := fun h2 => (sendL_full hrb h2).2
    rw [hrb] at HRT
    clear hrb
    by_cases h5 : L.length < 512
    · rw [HE.out, if_pos h5]
      go_enter Try.func16, Try.ntmps16
      go_wp2_with (first
        | (go_at_call 35; refine (HRT.out _).mono ?_; rintro e w1 ⟨rfl, hq⟩; have hh1 := old_block hq.out (heap_alloc_new w _); have z3 := cell_of hh1 3; simp only [List.getElem?_toArray, List.getElem?_cons_zero, List.getElem?_cons_succ] at z3; have HB1 : Hid (Below w.heap.size w w1) := below_of ((Below.refl _ w).alloc (Nat.le_refl _) _) hq.out; have HT1 : Hid _ := hh1; have s1 : w.heap.size < w1.heap.size := (Array.getElem?_eq_some_iff.1 hh1).1; clear hq hh1)
        | (go_at_call 36; refine (bclone_own _ _ _ _ (HR.out.1.later HB1.out) hz).mono ?_; rintro e w2 ⟨a2, c2, rfl, hq2⟩; have hh2 := old_block hq2.out.2.2 HT1.out; have y0 := cell_of hh2 0; have y1 := cell_of hh2 1; have y2 := cell_of hh2 2; have y3 := cell_of hh2 3; have yf := frozen_of hh2 3; simp only [List.getElem?_toArray, List.getElem?_cons_zero, List.getElem?_cons_succ] at y0 y1 y2 y3; have HB2 : Hid (Below w.heap.size w (w2.setCell ⟨w.heap.size, 3, none⟩ (.slice a2 y.x.bytes.length c2))) := (below_of HB1.out hq2.out.2.2).setCell (p := ⟨w.heap.size, 3, none⟩) (Nat.le_refl _) _; have HR2 : Hid (Row (w2.setCell ⟨w.heap.size, 3, none⟩ (.slice a2 y.x.bytes.length c2)) a2 y.x.bytes ∧ ∀ b, a2 = some b → ¬ N b.block) := clone_row hq2.out.2.1 HR.out.2 s1; clear hh2)
        | (go_at_call 37; refine (add_some _ N lb mb n L (HH.out.later HB2.out) hn (fun k hk => Nat.lt_of_lt_of_le (HR.out.2 k hk) HB2.out.size) ⟨y.x, a2, c2⟩ HO.out HR2.out.1 (fun _ => HR2.out.2) h5).mono ?_; rintro e w4 ⟨rfl, hq4⟩))
      go_ret
      exact ⟨rfl, by rw [HS.out h5]; exact hq4.out.1, (Off.of_below (S := fun k => k = mb) HB2.out).trans hq4.out.2 (fun _ _ e => e)⟩
    · have h6 : L.length = 512 := by have := HH.out.len; omega
      rw [HE.out, if_neg h5]
      go_enter Try.func16, Try.ntmps16
      go_wp2_with (first
        | (go_at_call 35; refine (HRT.out _).mono ?_; rintro e w1 ⟨rfl, hq⟩; have hh1 := old_block hq.out (heap_alloc_new w _); have z3 := cell_of hh1 3; simp only [List.getElem?_toArray, List.getElem?_cons_zero, List.getElem?_cons_succ] at z3; have HB1 : Hid (Below w.heap.size w w1) := below_of ((Below.refl _ w).alloc (Nat.le_refl _) _) hq.out; have HT1 : Hid _ := hh1; have s1 : w.heap.size < w1.heap.size := (Array.getElem?_eq_some_iff.1 hh1).1; clear hq hh1)
        | (go_at_call 36; refine (bclone_own _ _ _ _ (HR.out.1.later HB1.out) hz).mono ?_; rintro e w2 ⟨a2, c2, rfl, hq2⟩; have hh2 := old_block hq2.out.2.2 HT1.out; have y0 := cell_of hh2 0; have y1 := cell_of hh2 1; have y2 := cell_of hh2 2; have y3 := cell_of hh2 3; have yf := frozen_of hh2 3; simp only [List.getElem?_toArray, List.getElem?_cons_zero, List.getElem?_cons_succ] at y0 y1 y2 y3; have HB2 : Hid (Below w.heap.size w (w2.setCell ⟨w.heap.size, 3, none⟩ (.slice a2 y.x.bytes.length c2))) := (below_of HB1.out hq2.out.2.2).setCell (p := ⟨w.heap.size, 3, none⟩) (Nat.le_refl _) _; have HR2 : Hid (Row (w2.setCell ⟨w.heap.size, 3, none⟩ (.slice a2 y.x.bytes.length c2)) a2 y.x.bytes ∧ ∀ b, a2 = some b → ¬ N b.block) := clone_row hq2.out.2.1 HR.out.2 s1; clear hh2)
        | (go_at_call 37; refine (add_full _ N lb mb n L (HH.out.later HB2.out) ⟨y.x, a2, c2⟩ h6).mono ?_; rintro e w4 ⟨rfl, hq4⟩))
      go_ret
      exact ⟨rfl, by rw [HS2.out h5]; exact ((HH.out.later HB2.out).later hq4.out).mono (Nat.le_succ n), Off.of_below (below_of HB2.out hq4.out)⟩
end Go.Proofs.Ytopfpdkknfjgoaa
