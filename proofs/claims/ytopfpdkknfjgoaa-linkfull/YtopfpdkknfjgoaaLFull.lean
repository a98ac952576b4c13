/- The walk of LinkFull. -/
import Derived.Test.YtopfpdkknfjgoaaLTurns
import Derived.Test.YtopfpdkknfjgoaaLRef
namespace Go.Proofs.Ytopfpdkknfjgoaa
open Go.RowKit
set_option linter.unusedVariables false

/-- k flights alike. -/
def rep (k : Nat) (x : Fl) : List Fl := List.replicate k x
theorem rep_filter (k : Nat) (x : Fl) : (rep k x).filter (pf x.frm x.to) = rep k x := by
  unfold rep
  rw [List.filter_replicate]
  have : pf x.frm x.to x = true := by simp [pf]
  rw [if_pos this]
theorem rep_len (k : Nat) (x : Fl) : (rep k x).length = k := by simp [rep]
theorem rep_snoc (k : Nat) (x : Fl) : rep k x ++ [x] = rep (k + 1) x := by
  unfold rep
  rw [← List.replicate_succ']
theorem rep_drop (x : Fl) : ∀ (n k : Nat), n < k → dropF (pf x.frm x.to) n (rep k x) = rep (k - 1) x
  | n, 0, h => by omega
  | 0, k + 1, _ => by
    have : pf x.frm x.to x = true := by simp [pf]
    show dropF _ 0 (x :: rep k x) = _
    unfold dropF
    rw [if_pos this]
    rfl
  | n + 1, k + 1, h => by
    have : pf x.frm x.to x = true := by simp [pf]
    show dropF _ (n + 1) (x :: rep k x) = _
    unfold dropF
    rw [if_pos this]
    show x :: dropF (pf x.frm x.to) n (rep k x) = _
    rw [rep_drop x n k (by omega)]
    obtain ⟨j, rfl⟩ : ∃ j, k = j + 1 := ⟨k - 1, by omega⟩
    rfl
/-- k flights alike are on their way. -/
structure Fu (w wr : World) (lb mb n k : Nat) (f t a : Int) (g m c : Nat) (L : List Nat) : Prop where
  lk : Lk No wr lb mb n (rep k (xv f t a L))
  box : wr.heap[w.heap.size]? = some (.cells #[.int .i64 f, .int .i64 t, .int .i64 a, .slice (some ⟨g, 0, none⟩) m c] 32 (0, 0))
  row : Row wr (some ⟨g, 0, none⟩) L
  bel : Below w.heap.size w wr
  mbw : w.heap.size ≤ mb
  len : L.length = m
theorem Fu.go {w wr w' : World} {lb mb n n' k k' : Nat} {f t a : Int} {g m c : Nat} {L : List Nat} (h : Fu w wr lb mb n k f t a g m c L) (hl : Lk No w' lb mb n' (rep k' (xv f t a L))) (ho : Off (fun q => q = mb) wr w') : Fu w w' lb mb n' k' f t a g m c L :=
  ⟨hl, off_at ho h.lk.mb h.box, row_offm h.row ho h.lk.mb, h.bel.trans (ho.below h.bel.size (fun i e => by rw [e]; exact h.mbw)), h.mbw, h.len⟩
theorem fu_start {w w3 : World} {lb mb : Nat} {f t a : Int} {g m c : Nat} {L : List Nat} (h : Nw w w3 lb mb f t a g m c L) (hm : L.length = m) : Fu w w3 lb mb 0 0 f t a g m c L := ⟨h.lk, h.box, h.row, h.bel, h.mbw, hm⟩
theorem Fu.send {w wr : World} {lb mb n k : Nat} {f t a : Int} {g m c : Nat} {L : List Nat} (h : Fu w wr lb mb n k f t a g m c L) (hn : n < 1000000) (hr : rightB f t a L.length = true) (hl : L.length ≤ 400) (hk : k < 512) :
    Calls Try.prog 16 #[.pointer (some ⟨lb, 0, none⟩), .agg #[.int .i64 f, .int .i64 t, .int .i64 a, .slice (some ⟨g, 0, none⟩) m c]] wr fun e w' => e = .returned (.int .i64 0) ∧ Hid (Fu w w' lb mb (n + 1) (k + 1) f t a g m c L) := by
  have hm := h.len
  subst hm
  have := send_any wr No lb mb n _ h.lk (by omega) (fun _ hf => hf.elim) ⟨xv f t a L, some ⟨g, 0, none⟩, c⟩ h.row (by show L.length ≤ _; omega)
  have hs := sendL_yes (L := rep k (xv f t a L)) (x := xv f t a L) hr (by rw [rep_len]; exact hk)
  rw [hs.1, hs.2, rep_snoc] at this
  exact this.mono (by rintro e w' ⟨rfl, H⟩; exact ⟨rfl, h.go H.out.1 H.out.2⟩)
theorem Fu.full {w wr : World} {lb mb n : Nat} {f t a : Int} {g m c : Nat} {L : List Nat} (h : Fu w wr lb mb n 512 f t a g m c L) (hn : n < 1000000) (hr : rightB f t a L.length = true) (hl : L.length ≤ 400) :
    Calls Try.prog 16 #[.pointer (some ⟨lb, 0, none⟩), .agg #[.int .i64 f, .int .i64 t, .int .i64 a, .slice (some ⟨g, 0, none⟩) m c]] wr fun e w' => e = .returned (.int .i64 6) ∧ Hid (Fu w w' lb mb (n + 1) 512 f t a g m c L) := by
  have hm := h.len
  subst hm
  have := send_any wr No lb mb n _ h.lk (by omega) (fun _ hf => hf.elim) ⟨xv f t a L, some ⟨g, 0, none⟩, c⟩ h.row (by show L.length ≤ _; omega)
  have hs := sendL_full (L := rep 512 (xv f t a L)) (x := xv f t a L) hr (by rw [rep_len]; omega)
  rw [hs.1, hs.2] at this
  exact this.mono (by rintro e w' ⟨rfl, H⟩; exact ⟨rfl, h.go H.out.1 H.out.2⟩)
theorem rep_has (k : Nat) (x : Fl) (j : Int) : hasE (rep k x) x.frm x.to j = if 0 ≤ j ∧ j < (k : Int) then 0 else 4 := by unfold hasE; rw [rep_filter, rep_len]
theorem Fu.double {w wr : World} {lb mb n k j : Nat} {f t a : Int} {g m c : Nat} {L : List Nat} (h : Fu w wr lb mb n k f t a g m c L) (hn : n < 1000000) (hok : OkF (xv f t a L)) (hj : j < k) (hk : k < 512) :
    Calls Try.prog 17 #[.pointer (some ⟨lb, 0, none⟩), .int .i64 f, .int .i64 t, .int .i64 (j : Nat)] wr fun e w' => e = .returned (.int .i64 0) ∧ Hid (Fu w w' lb mb (n + 1) (k + 1) f t a g m c L) := by
  have := double_any wr No lb mb n _ h.lk (by omega) (fun _ hf => hf.elim) f t (j : Nat) hok.in1 hok.in2
  have h0 : hasE (rep k (xv f t a L)) f t (j : Nat) = 0 := (rep_has k (xv f t a L) (j : Nat)).trans (if_pos ⟨by omega, by omega⟩)
  have h1 : doubE (rep k (xv f t a L)) f t (j : Nat) = 0 := by unfold doubE; rw [if_pos h0, rep_len, if_pos hk]
  have h2 : doubL (rep k (xv f t a L)) f t (j : Nat) = rep (k + 1) (xv f t a L) := by
    unfold doubL
    rw [if_pos h1]
    have hf : (rep k (xv f t a L)).filter (pf f t) = rep k (xv f t a L) := rep_filter k (xv f t a L)
    have hg : (rep k (xv f t a L))[j]? = some (xv f t a L) := by unfold rep; rw [List.getElem?_replicate, if_pos hj]
    rw [hf, Int.toNat_natCast, hg]
    exact rep_snoc k _
  rw [h1, h2] at this
  exact this.mono (by rintro e w' ⟨rfl, H⟩; exact ⟨rfl, h.go H.out.1 H.out.2⟩)
theorem Fu.double_full {w wr : World} {lb mb n : Nat} {f t a : Int} {g m c : Nat} {L : List Nat} (h : Fu w wr lb mb n 512 f t a g m c L) (hn : n < 1000000) (hok : OkF (xv f t a L)) :
    Calls Try.prog 17 #[.pointer (some ⟨lb, 0, none⟩), .int .i64 f, .int .i64 t, .int .i64 0] wr fun e w' => e = .returned (.int .i64 6) ∧ Hid (Fu w w' lb mb (n + 1) 512 f t a g m c L) := by
  have := double_any wr No lb mb n _ h.lk (by omega) (fun _ hf => hf.elim) f t 0 hok.in1 hok.in2
  have h0 : hasE (rep 512 (xv f t a L)) f t 0 = 0 := (rep_has 512 (xv f t a L) 0).trans (if_pos ⟨by omega, by omega⟩)
  have h1 : doubE (rep 512 (xv f t a L)) f t 0 = 6 := by unfold doubE; rw [if_pos h0, rep_len]; rfl
  have h2 : doubL (rep 512 (xv f t a L)) f t 0 = rep 512 (xv f t a L) := by unfold doubL; rw [h1]; rfl
  rw [h1, h2] at this
  exact this.mono (by rintro e w' ⟨rfl, H⟩; exact ⟨rfl, h.go H.out.1 H.out.2⟩)
theorem Fu.lose {w wr : World} {lb mb n j : Nat} {f t a : Int} {g m c : Nat} {L : List Nat} (h : Fu w wr lb mb n 512 f t a g m c L) (hn : n < 1000000) (hok : OkF (xv f t a L)) (hj : j < 512) :
    Calls Try.prog 19 #[.pointer (some ⟨lb, 0, none⟩), .int .i64 f, .int .i64 t, .int .i64 (j : Nat)] wr fun e w' => e = .returned (.int .i64 0) ∧ Hid (Fu w w' lb mb (n + 1) 511 f t a g m c L) := by
  have := lose_any wr No lb mb n _ h.lk (by omega) (fun _ hf => hf.elim) f t (j : Nat) hok.in1 hok.in2
  have h0 : hasE (rep 512 (xv f t a L)) f t (j : Nat) = 0 := (rep_has 512 (xv f t a L) (j : Nat)).trans (if_pos ⟨by omega, by omega⟩)
  have h2 : loseL (rep 512 (xv f t a L)) f t (j : Nat) = rep 511 (xv f t a L) := by
    unfold loseL
    rw [if_pos h0, Int.toNat_natCast]
    exact rep_drop (xv f t a L) j 512 hj
  rw [h0, h2] at this
  exact this.mono (by rintro e w' ⟨rfl, H⟩; exact ⟨rfl, h.go H.out.1 H.out.2⟩)
theorem Fu.lose_none {w wr : World} {lb mb n : Nat} {f t a : Int} {g m c : Nat} {L : List Nat} (h : Fu w wr lb mb n 512 f t a g m c L) (hn : n < 1000000) (hok : OkF (xv f t a L)) :
    Calls Try.prog 19 #[.pointer (some ⟨lb, 0, none⟩), .int .i64 f, .int .i64 t, .int .i64 512] wr fun e w' => e = .returned (.int .i64 4) ∧ Hid (Below w.heap.size w w') := by
  have := lose_any wr No lb mb n _ h.lk (by omega) (fun _ hf => hf.elim) f t 512 hok.in1 hok.in2
  have h0 : hasE (rep 512 (xv f t a L)) f t 512 = 4 := (rep_has 512 (xv f t a L) 512).trans (if_neg (by omega))
  have h2 : loseL (rep 512 (xv f t a L)) f t 512 = rep 512 (xv f t a L) := by unfold loseL; rw [h0]; rfl
  rw [h0, h2] at this
  exact this.mono (by rintro e w' ⟨rfl, H⟩; exact ⟨rfl, (h.go H.out.1 H.out.2).bel⟩)
theorem Fu.len512 {w wr : World} {lb mb n : Nat} {f t a : Int} {g m c : Nat} {L : List Nat} (h : Fu w wr lb mb n 512 f t a g m c L) :
    Calls Try.prog 18 #[.pointer (some ⟨lb, 0, none⟩)] wr fun e w' => e = .returned (.int .i64 512) ∧ Hid (Fu w w' lb mb n 512 f t a g m c L) := by
  have := len_any wr No lb mb n _ h.lk
  rw [rep_len] at this
  exact this.mono (by rintro e w' ⟨rfl, H⟩; exact ⟨rfl, h.go (h.lk.later H.out) (Off.of_below H.out)⟩)
theorem u512 (x : Int) : ∃ j : Nat, IntKind.i64.wrap ((IntKind.u64.wrap x).tmod 512) = (j : Int) ∧ j < 512 := by
  have h0 : 0 ≤ IntKind.u64.wrap x := by rw [IntKind.wrap_u64]; omega
  have h1 : 0 ≤ (IntKind.u64.wrap x).tmod 512 := Int.tmod_nonneg _ h0
  have h2 : (IntKind.u64.wrap x).tmod 512 < 512 := Int.tmod_lt_of_pos _ (by omega)
  clear h0
  generalize (IntKind.u64.wrap x).tmod 512 = r at h1 h2
  refine ⟨r.toNat, ?_, by omega⟩
  rw [Int.toNat_of_nonneg h1]
  simp [IntKind.wrap, IntKind.signed, IntKind.bits]
  omega
theorem heap_box {w2 : World} {B : Nat} {f t a : Int} {u v : Value} (h : w2.heap[B]? = some (.cells #[.int .i64 f, .int .i64 t, .int .i64 a, u] 32 (0, 0))) : (w2.setCell ⟨B, 3, none⟩ v).heap[B]? = some (.cells #[.int .i64 f, .int .i64 t, .int .i64 a, v] 32 (0, 0)) := by rw [heap_setCell_same _ _ _ _ _ _ h]; rfl
theorem rright_m {f t a : Int} {L : List Nat} {R : Bool} {m : Nat} (hr : rightB f t a L.length = R) (hm : L.length = m) {w : World} {ad : Option Addr} {c : Nat} : Calls Try.prog 15 #[.agg #[.int .i64 f, .int .i64 t, .int .i64 a, .slice ad m c]] w fun e w' => e = .returned (.bool R) ∧ Hid (Below w.heap.size w w') := by
  have := rright_any w f t a ad m c
  rw [← hm, hr] at this
  rw [← hm]
  exact this
theorem new_there {w w2 : World} {f t a : Int} {g m c : Nat} {L : List Nat} (ht : w2.heap[w.heap.size]? = some (.cells #[.int .i64 f, .int .i64 t, .int .i64 a, .slice (some ⟨g, 0, none⟩) m c] 32 (0, 0))) (hb : Below w.heap.size w w2) (hr : Row w2 (some ⟨g, 0, none⟩) L) :
    Calls Try.prog 10 #[] w2 fun e w' => ∃ lb mb, e = .returned (.pointer (some ⟨lb, 0, none⟩)) ∧ Hid (Nw w w' lb mb f t a g m c L) := by
  refine (new_any _).mono ?_
  rintro e w' ⟨rfl, rfl⟩
  have hn : Below w2.heap.size w2 ((w2.alloc (.map #[] 0)).alloc (.cells #[.map (some w2.heap.size)] 64)) := ((Below.refl _ _).alloc (Nat.le_refl _) _).alloc (by simp) _
  exact ⟨_, _, rfl, lk_new _ No (fun _ hf => hf.elim), old_block hn ht, hr.later hn, below_of hb hn, hb.size⟩
set_option maxRecDepth 20000 in
set_option maxHeartbeats 8000000 in
theorem full_no (w : World) (y : FX) (hy : CameF w y) (nn : Int) (h4 : (y.x.bytes.length : Int) ≤ 400) (hr : rightB y.x.frm y.x.to y.x.at_ y.x.bytes.length = false) :
    Calls Try.prog 5 #[.agg #[.int .i64 y.x.frm, .int .i64 y.x.to, .int .i64 y.x.at_, .slice y.a y.x.bytes.length y.c], .int .i64 nn] w fun e w' => e = .returned (.bool true) ∧ Hid (Below w.heap.size w w') := by
  obtain ⟨⟨f, t, a, l⟩, ya, yc⟩ := y
  have HY : Hid (Row w ya l ∧ In64 f ∧ In64 t ∧ In64 a ∧ l.length ≤ 140737488351232) := ⟨hy.row, hy.i1, hy.i2, hy.i3, hy.len⟩
  have hle : l.length ≤ yc := hy.le
  have hcp : yc ≤ maxLen := hy.cap
  unfold maxLen at hcp
  have HW : Hid (∀ W, Calls Try.prog 9 #[] W fun e w' => e = .returned (.bool true) ∧ Hid (Below W.heap.size W w')) := wakes_any
  clear hy
  change (l.length : Int) ≤ 400 at h4
  change rightB f t a l.length = false at hr
  obtain ⟨L', hL'⟩ : ∃ L', L' = l := ⟨_, rfl⟩
  have HLM : Hid (L'.length = l.length) := by show _ = _; rw [hL']
  have HRL : Hid (Row w ya L') := by show Row w ya L'; rw [hL']; exact HY.out.1
  rw [← hL'] at hr
  have HLB : Hid ((∀ x ∈ L', x < 256) ∧ L'.length ≤ 400) := ⟨HRL.out.1, by rw [HLM.out]; omega⟩
  have HR : Hid (rightB f t a L'.length = false) := hr
  clear hL' hr
  go_enter Try.func5, Try.ntmps5
  go_wp2_with (first
    | (go_at_call 9; refine (HW.out _).mono ?_; rintro e w1 ⟨rfl, H1⟩; have hh1 := old_block H1.out (heap_alloc_new w _); have z3 := cell_of hh1 3; simp only [List.getElem?_toArray, List.getElem?_cons_zero, List.getElem?_cons_succ] at z3; have HT1 : Hid _ := hh1; have z3' : ∀ A, (w1.alloc A).cell? ⟨w.heap.size, 3, none⟩ = some (.slice ya l.length yc) := (fun A => cell_later ((Below.refl _ w1).alloc (Nat.le_refl _) A) z3); have HB1 : Hid (Below w.heap.size w w1) := below_of ((Below.refl _ w).alloc (Nat.le_refl _) _) H1.out; have s1 : w.heap.size < w1.heap.size := (Array.getElem?_eq_some_iff.1 hh1).1; have tk : True := trivial; clear hh1)
    | (have _t := tk; at_builtin; go_must (refine wpList_append_copy rfl (.tmp 8) (.tmp 15) rfl rfl ya yc _ L' HLM.out rfl (HRL.out.later HB1.out) (by omega) ?_); clear tk; intro g2 c2 w2 HC; have hh2 := old_block HC.out.bel HT1.out; have y3 := cell_of hh2 3; have y3f := frozen_of hh2 3; simp only [List.getElem?_toArray, List.getElem?_cons_zero, List.getElem?_cons_succ] at y3; have e2 := heap_box hh2 (v := .slice (some ⟨g2, 0, none⟩) l.length c2); have r0 := cell_of e2 0; have r1 := cell_of e2 1; have r2 := cell_of e2 2; have r3 := cell_of e2 3; simp only [List.getElem?_toArray, List.getElem?_cons_zero, List.getElem?_cons_succ] at r0 r1 r2 r3; have HBX : Hid _ := e2; have HRW : Hid (Row (w2.setCell ⟨w.heap.size, 3, none⟩ (.slice (some ⟨g2, 0, none⟩) l.length c2)) (some ⟨g2, 0, none⟩) L') := (HC.out.row HLB.out.1 (by have := HLB.out.2; omega)).off ((Off.refl (fun k => k = w.heap.size) w2).setCell (p := ⟨w.heap.size, 3, none⟩) (.inr rfl) _) (fun _ b hb e => by cases hb; have e3 : g2 = w.heap.size := e; have := HC.out.ge; omega); have HBW : Hid (Below w.heap.size w (w2.setCell ⟨w.heap.size, 3, none⟩ (.slice (some ⟨g2, 0, none⟩) l.length c2))) := (below_of HB1.out HC.out.bel).setCell (p := ⟨w.heap.size, 3, none⟩) (Nat.le_refl _) _; clear hh2 e2)
    | (go_at_call 15; refine (rright_m HR.out HLM.out).mono ?_; rintro e w9 ⟨rfl, H9⟩; have hh9 := old_block H9.out HBX.out; have t0 := cell_of hh9 0; have t1 := cell_of hh9 1; have t2 := cell_of hh9 2; have t3 := cell_of hh9 3; simp only [List.getElem?_toArray, List.getElem?_cons_zero, List.getElem?_cons_succ] at t0 t1 t2 t3; have HB9 : Hid (Below w.heap.size w w9) := below_of HBW.out H9.out; have HT9 : Hid _ := hh9; have HR9 : Hid (Row w9 (some ⟨g2, 0, none⟩) L') := HRW.out.later H9.out; clear hh9))
  go_region_law (first
    | (go_simp; go_at_call 10; refine (new_there (w2 := w9.drew) HT9.out HB9.out.drew (HR9.out.later (Below.refl _ _).drew)).mono ?_; rintro e w3 ⟨lb, mb, rfl, H3⟩; have u0 := cell_of H3.out.box 0; have u1 := cell_of H3.out.box 1; have u2 := cell_of H3.out.box 2; have u3 := cell_of H3.out.box 3; simp only [List.getElem?_toArray, List.getElem?_cons_zero, List.getElem?_cons_succ] at u0 u1 u2 u3)
    | (go_simp; go_at_call 16; refine (send_no H3.out HLM.out HR.out HLB.out.2).mono ?_; rintro e w4 ⟨rfl, H4⟩))
  all_goals
    go_wp2
    go_ret
    exact ⟨rfl, H4.out.2⟩
set_option maxRecDepth 20000 in
set_option maxHeartbeats 8000000 in
theorem full_yes (w : World) (y : FX) (hy : CameF w y) (nn : Int) (h4 : (y.x.bytes.length : Int) ≤ 400) (hr : rightB y.x.frm y.x.to y.x.at_ y.x.bytes.length = true) :
    Calls Try.prog 5 #[.agg #[.int .i64 y.x.frm, .int .i64 y.x.to, .int .i64 y.x.at_, .slice y.a y.x.bytes.length y.c], .int .i64 nn] w fun e w' => e = .returned (.bool true) ∧ Hid (Below w.heap.size w w') := by
  obtain ⟨⟨f, t, a, l⟩, ya, yc⟩ := y
  have HY : Hid (Row w ya l ∧ In64 f ∧ In64 t ∧ In64 a ∧ l.length ≤ 140737488351232) := ⟨hy.row, hy.i1, hy.i2, hy.i3, hy.len⟩
  have hle : l.length ≤ yc := hy.le
  have hcp : yc ≤ maxLen := hy.cap
  unfold maxLen at hcp
  have HW : Hid (∀ W, Calls Try.prog 9 #[] W fun e w' => e = .returned (.bool true) ∧ Hid (Below W.heap.size W w')) := wakes_any
  clear hy
  change (l.length : Int) ≤ 400 at h4
  change rightB f t a l.length = true at hr
  obtain ⟨L', hL'⟩ : ∃ L', L' = l := ⟨_, rfl⟩
  have HLM : Hid (L'.length = l.length) := by show _ = _; rw [hL']
  have HRL : Hid (Row w ya L') := by show Row w ya L'; rw [hL']; exact HY.out.1
  rw [← hL'] at hr
  have HLB : Hid ((∀ x ∈ L', x < 256) ∧ L'.length ≤ 400) := ⟨HRL.out.1, by rw [HLM.out]; omega⟩
  have HR : Hid (rightB f t a L'.length = true) := hr
  clear hL' hr
  go_enter Try.func5, Try.ntmps5
  go_wp2_with (first
    | (go_at_call 9; refine (HW.out _).mono ?_; rintro e w1 ⟨rfl, H1⟩; have hh1 := old_block H1.out (heap_alloc_new w _); have z3 := cell_of hh1 3; simp only [List.getElem?_toArray, List.getElem?_cons_zero, List.getElem?_cons_succ] at z3; have HT1 : Hid _ := hh1; have z3' : ∀ A, (w1.alloc A).cell? ⟨w.heap.size, 3, none⟩ = some (.slice ya l.length yc) := (fun A => cell_later ((Below.refl _ w1).alloc (Nat.le_refl _) A) z3); have HB1 : Hid (Below w.heap.size w w1) := below_of ((Below.refl _ w).alloc (Nat.le_refl _) _) H1.out; have s1 : w.heap.size < w1.heap.size := (Array.getElem?_eq_some_iff.1 hh1).1; have tk : True := trivial; clear hh1)
    | (have _t := tk; at_builtin; go_must (refine wpList_append_copy rfl (.tmp 8) (.tmp 15) rfl rfl ya yc _ L' HLM.out rfl (HRL.out.later HB1.out) (by omega) ?_); clear tk; intro g2 c2 w2 HC; have hh2 := old_block HC.out.bel HT1.out; have y3 := cell_of hh2 3; have y3f := frozen_of hh2 3; simp only [List.getElem?_toArray, List.getElem?_cons_zero, List.getElem?_cons_succ] at y3; have e2 := heap_box hh2 (v := .slice (some ⟨g2, 0, none⟩) l.length c2); have r0 := cell_of e2 0; have r1 := cell_of e2 1; have r2 := cell_of e2 2; have r3 := cell_of e2 3; simp only [List.getElem?_toArray, List.getElem?_cons_zero, List.getElem?_cons_succ] at r0 r1 r2 r3; have HBX : Hid _ := e2; have HRW : Hid (Row (w2.setCell ⟨w.heap.size, 3, none⟩ (.slice (some ⟨g2, 0, none⟩) l.length c2)) (some ⟨g2, 0, none⟩) L') := (HC.out.row HLB.out.1 (by have := HLB.out.2; omega)).off ((Off.refl (fun k => k = w.heap.size) w2).setCell (p := ⟨w.heap.size, 3, none⟩) (.inr rfl) _) (fun _ b hb e => by cases hb; have e3 : g2 = w.heap.size := e; have := HC.out.ge; omega); have HBW : Hid (Below w.heap.size w (w2.setCell ⟨w.heap.size, 3, none⟩ (.slice (some ⟨g2, 0, none⟩) l.length c2))) := (below_of HB1.out HC.out.bel).setCell (p := ⟨w.heap.size, 3, none⟩) (Nat.le_refl _) _; clear hh2 e2)
    | (go_at_call 15; refine (rright_m HR.out HLM.out).mono ?_; rintro e w9 ⟨rfl, H9⟩; have hh9 := old_block H9.out HBX.out; have t0 := cell_of hh9 0; have t1 := cell_of hh9 1; have t2 := cell_of hh9 2; have t3 := cell_of hh9 3; simp only [List.getElem?_toArray, List.getElem?_cons_zero, List.getElem?_cons_succ] at t0 t1 t2 t3; have HB9 : Hid (Below w.heap.size w w9) := below_of HBW.out H9.out; have HT9 : Hid _ := hh9; have HR9 : Hid (Row w9 (some ⟨g2, 0, none⟩) L') := HRW.out.later H9.out; clear hh9)
    | (go_at_call 10; refine (new_there HT9.out HB9.out HR9.out).mono ?_; rintro e w3 ⟨lb, mb, rfl, H3⟩; have u0 := cell_of H3.out.box 0; have u1 := cell_of H3.out.box 1; have u2 := cell_of H3.out.box 2; have u3 := cell_of H3.out.box 3; simp only [List.getElem?_toArray, List.getElem?_cons_zero, List.getElem?_cons_succ] at u0 u1 u2 u3))
  have HF0 : Hid _ := fu_start H3.out HLM.out
  have hok : OkF (xv f t a L') := right_ok.1 HR.out
  have HOK : Hid (OkF (xv f t a L')) := hok
  obtain ⟨q, hq1, hq2⟩ := u512 nn
  have hq3 : q % 511 < 511 := Nat.mod_lt _ (by omega)
  clear hok z3 z3' y3 y3f u0 u1 u2 u3 t0 t1 t2 t3 r0 r1 r2 r3 H3 HT1 HC HB1 H1 HW HBX HRW HBW HT9 HR9 HB9 H9
  go_loopw [26] (fun i wr => ∃ k : Nat, k ≤ 512 ∧ i = .int .i64 k ∧ Hid (Fu w wr lb mb k k f t a g2 l.length c2 L')) (fun i _ => 512 - (intOf i).toNat)
  case atStart => exact ⟨0, Nat.zero_le _, rfl, HF0⟩
  case round =>
    obtain ⟨k, hk, rfl, HF⟩ := hrel
    have x0 := cell_of HF.out.box 0
    have x1 := cell_of HF.out.box 1
    have x2 := cell_of HF.out.box 2
    have x3 := cell_of HF.out.box 3
    simp only [List.getElem?_toArray, List.getElem?_cons_zero, List.getElem?_cons_succ] at x0 x1 x2 x3
    clear HF0
    by_cases hlt : k < 512
    · go_wp2_with (go_at_call 16; refine (HF.out.send (by omega) HR.out HLB.out.2 hlt).mono ?_; rintro e w6 ⟨rfl, H6⟩)
      go_roundw
      case rel => exact ⟨k + 1, by omega, by go_num, H6⟩
      case measure => simp [intOf]; omega
    · obtain rfl : k = 512 := by omega
      have tk1 : True := trivial
      have tk2 : True := trivial
      have tk3 : True := trivial
      go_wp2_with (first
        | (go_at_call 16; refine (HF.out.full (by omega) HR.out HLB.out.2).mono ?_; rintro e w6 ⟨rfl, H6⟩; have v0 := cell_of H6.out.box 0; have v1 := cell_of H6.out.box 1; simp only [List.getElem?_toArray, List.getElem?_cons_zero, List.getElem?_cons_succ] at v0 v1)
        | (have _t := tk1; go_at_call 17; refine (H6.out.double_full (by omega) HOK.out).mono ?_; clear tk1; rintro e w7 ⟨rfl, H7⟩)
        | (have _t := tk2; go_at_call 18; refine H7.out.len512.mono ?_; clear tk2; rintro e w8 ⟨rfl, H8⟩; have s0 := cell_of H8.out.box 0; have s1 := cell_of H8.out.box 1; simp only [List.getElem?_toArray, List.getElem?_cons_zero, List.getElem?_cons_succ] at s0 s1)
        | (have _t := tk3; go_at_call 19; refine (H8.out.lose (by omega) HOK.out hq2).mono ?_; clear tk3; rintro e w10 ⟨rfl, H10⟩; have p0 := cell_of H10.out.box 0; have p1 := cell_of H10.out.box 1; simp only [List.getElem?_toArray, List.getElem?_cons_zero, List.getElem?_cons_succ] at p0 p1)
        | (go_at_call 17; refine (H10.out.double (by omega) HOK.out hq3 (by omega)).mono ?_; rintro e w11 ⟨rfl, H11⟩)
        | (go_at_call 18; refine H11.out.len512.mono ?_; rintro e w12 ⟨rfl, H12⟩; have m0 := cell_of H12.out.box 0; have m1 := cell_of H12.out.box 1; simp only [List.getElem?_toArray, List.getElem?_cons_zero, List.getElem?_cons_succ] at m0 m1)
        | (go_at_call 19; refine (H12.out.lose_none (by omega) HOK.out).mono ?_; rintro e w13 ⟨rfl, H13⟩))
      go_ret
      exact ⟨rfl, H13⟩
set_option maxRecDepth 20000 in
set_option maxHeartbeats 8000000 in
theorem full_noB (w : World) (y : FX) (hy : CameF w y) (nn : Int) (h4 : ¬ (y.x.bytes.length : Int) ≤ 400) (hr : rightB y.x.frm y.x.to y.x.at_ (y.x.bytes.take 400).length = false) :
    Calls Try.prog 5 #[.agg #[.int .i64 y.x.frm, .int .i64 y.x.to, .int .i64 y.x.at_, .slice y.a y.x.bytes.length y.c], .int .i64 nn] w fun e w' => e = .returned (.bool true) ∧ Hid (Below w.heap.size w w') := by
  obtain ⟨⟨f, t, a, l⟩, ya, yc⟩ := y
  have HY : Hid (Row w ya l ∧ In64 f ∧ In64 t ∧ In64 a ∧ l.length ≤ 140737488351232) := ⟨hy.row, hy.i1, hy.i2, hy.i3, hy.len⟩
  have hle : l.length ≤ yc := hy.le
  have hcp : yc ≤ maxLen := hy.cap
  unfold maxLen at hcp
  have HW : Hid (∀ W, Calls Try.prog 9 #[] W fun e w' => e = .returned (.bool true) ∧ Hid (Below W.heap.size W w')) := wakes_any
  clear hy
  change ¬ (l.length : Int) ≤ 400 at h4
  change rightB f t a (l.take 400).length = false at hr
  obtain ⟨L', hL'⟩ : ∃ L', L' = l.take 400 := ⟨_, rfl⟩
  have HLM : Hid (L'.length = 400) := by show _ = _; rw [hL', List.length_take]; omega
  have HRL : Hid (Row w ya L') := by show Row w ya L'; rw [hL']; exact row_take HY.out.1 400
  have h5 : (400 : Int) < l.length := by omega
  have h6 : (400 : Int) ≤ (yc : Int) := by omega
  rw [← hL'] at hr
  have HLB : Hid ((∀ x ∈ L', x < 256) ∧ L'.length ≤ 400) := ⟨HRL.out.1, by rw [HLM.out]; omega⟩
  have HR : Hid (rightB f t a L'.length = false) := hr
  clear hL' hr
  go_enter Try.func5, Try.ntmps5
  go_wp2_with (first
    | (go_at_call 9; refine (HW.out _).mono ?_; rintro e w1 ⟨rfl, H1⟩; have hh1 := old_block H1.out (heap_alloc_new w _); have z3 := cell_of hh1 3; simp only [List.getElem?_toArray, List.getElem?_cons_zero, List.getElem?_cons_succ] at z3; have HT1 : Hid _ := hh1; have z3' : ∀ A, (w1.alloc A).cell? ⟨w.heap.size, 3, none⟩ = some (.slice ya l.length yc) := (fun A => cell_later ((Below.refl _ w1).alloc (Nat.le_refl _) A) z3); have HB1 : Hid (Below w.heap.size w w1) := below_of ((Below.refl _ w).alloc (Nat.le_refl _) _) H1.out; have s1 : w.heap.size < w1.heap.size := (Array.getElem?_eq_some_iff.1 hh1).1; have tk : True := trivial; clear hh1)
    | (have _t := tk; at_builtin; go_must (refine wpList_append_copy rfl (.tmp 8) (.tmp 15) rfl rfl ya yc _ L' HLM.out rfl (HRL.out.later HB1.out) (by omega) ?_); clear tk; intro g2 c2 w2 HC; have hh2 := old_block HC.out.bel HT1.out; have y3 := cell_of hh2 3; have y3f := frozen_of hh2 3; simp only [List.getElem?_toArray, List.getElem?_cons_zero, List.getElem?_cons_succ] at y3; have e2 := heap_box hh2 (v := .slice (some ⟨g2, 0, none⟩) 400 c2); have r0 := cell_of e2 0; have r1 := cell_of e2 1; have r2 := cell_of e2 2; have r3 := cell_of e2 3; simp only [List.getElem?_toArray, List.getElem?_cons_zero, List.getElem?_cons_succ] at r0 r1 r2 r3; have HBX : Hid _ := e2; have HRW : Hid (Row (w2.setCell ⟨w.heap.size, 3, none⟩ (.slice (some ⟨g2, 0, none⟩) 400 c2)) (some ⟨g2, 0, none⟩) L') := (HC.out.row HLB.out.1 (by have := HLB.out.2; omega)).off ((Off.refl (fun k => k = w.heap.size) w2).setCell (p := ⟨w.heap.size, 3, none⟩) (.inr rfl) _) (fun _ b hb e => by cases hb; have e3 : g2 = w.heap.size := e; have := HC.out.ge; omega); have HBW : Hid (Below w.heap.size w (w2.setCell ⟨w.heap.size, 3, none⟩ (.slice (some ⟨g2, 0, none⟩) 400 c2))) := (below_of HB1.out HC.out.bel).setCell (p := ⟨w.heap.size, 3, none⟩) (Nat.le_refl _) _; clear hh2 e2)
    | (go_at_call 15; refine (rright_m HR.out HLM.out).mono ?_; rintro e w9 ⟨rfl, H9⟩; have hh9 := old_block H9.out HBX.out; have t0 := cell_of hh9 0; have t1 := cell_of hh9 1; have t2 := cell_of hh9 2; have t3 := cell_of hh9 3; simp only [List.getElem?_toArray, List.getElem?_cons_zero, List.getElem?_cons_succ] at t0 t1 t2 t3; have HB9 : Hid (Below w.heap.size w w9) := below_of HBW.out H9.out; have HT9 : Hid _ := hh9; have HR9 : Hid (Row w9 (some ⟨g2, 0, none⟩) L') := HRW.out.later H9.out; clear hh9))
  go_region_law (first
    | (go_simp; go_at_call 10; refine (new_there (w2 := w9.drew) HT9.out HB9.out.drew (HR9.out.later (Below.refl _ _).drew)).mono ?_; rintro e w3 ⟨lb, mb, rfl, H3⟩; have u0 := cell_of H3.out.box 0; have u1 := cell_of H3.out.box 1; have u2 := cell_of H3.out.box 2; have u3 := cell_of H3.out.box 3; simp only [List.getElem?_toArray, List.getElem?_cons_zero, List.getElem?_cons_succ] at u0 u1 u2 u3)
    | (go_simp; go_at_call 16; refine (send_no H3.out HLM.out HR.out HLB.out.2).mono ?_; rintro e w4 ⟨rfl, H4⟩))
  all_goals
    go_wp2
    go_ret
    exact ⟨rfl, H4.out.2⟩
set_option maxRecDepth 20000 in
set_option maxHeartbeats 8000000 in
theorem full_yesB (w : World) (y : FX) (hy : CameF w y) (nn : Int) (h4 : ¬ (y.x.bytes.length : Int) ≤ 400) (hr : rightB y.x.frm y.x.to y.x.at_ (y.x.bytes.take 400).length = true) :
    Calls Try.prog 5 #[.agg #[.int .i64 y.x.frm, .int .i64 y.x.to, .int .i64 y.x.at_, .slice y.a y.x.bytes.length y.c], .int .i64 nn] w fun e w' => e = .returned (.bool true) ∧ Hid (Below w.heap.size w w') := by
  obtain ⟨⟨f, t, a, l⟩, ya, yc⟩ := y
  have HY : Hid (Row w ya l ∧ In64 f ∧ In64 t ∧ In64 a ∧ l.length ≤ 140737488351232) := ⟨hy.row, hy.i1, hy.i2, hy.i3, hy.len⟩
  have hle : l.length ≤ yc := hy.le
  have hcp : yc ≤ maxLen := hy.cap
  unfold maxLen at hcp
  have HW : Hid (∀ W, Calls Try.prog 9 #[] W fun e w' => e = .returned (.bool true) ∧ Hid (Below W.heap.size W w')) := wakes_any
  clear hy
  change ¬ (l.length : Int) ≤ 400 at h4
  change rightB f t a (l.take 400).length = true at hr
  obtain ⟨L', hL'⟩ : ∃ L', L' = l.take 400 := ⟨_, rfl⟩
  have HLM : Hid (L'.length = 400) := by show _ = _; rw [hL', List.length_take]; omega
  have HRL : Hid (Row w ya L') := by show Row w ya L'; rw [hL']; exact row_take HY.out.1 400
  have h5 : (400 : Int) < l.length := by omega
  have h6 : (400 : Int) ≤ (yc : Int) := by omega
  rw [← hL'] at hr
  have HLB : Hid ((∀ x ∈ L', x < 256) ∧ L'.length ≤ 400) := ⟨HRL.out.1, by rw [HLM.out]; omega⟩
  have HR : Hid (rightB f t a L'.length = true) := hr
  clear hL' hr
  go_enter Try.func5, Try.ntmps5
  go_wp2_with (first
    | (go_at_call 9; refine (HW.out _).mono ?_; rintro e w1 ⟨rfl, H1⟩; have hh1 := old_block H1.out (heap_alloc_new w _); have z3 := cell_of hh1 3; simp only [List.getElem?_toArray, List.getElem?_cons_zero, List.getElem?_cons_succ] at z3; have HT1 : Hid _ := hh1; have z3' : ∀ A, (w1.alloc A).cell? ⟨w.heap.size, 3, none⟩ = some (.slice ya l.length yc) := (fun A => cell_later ((Below.refl _ w1).alloc (Nat.le_refl _) A) z3); have HB1 : Hid (Below w.heap.size w w1) := below_of ((Below.refl _ w).alloc (Nat.le_refl _) _) H1.out; have s1 : w.heap.size < w1.heap.size := (Array.getElem?_eq_some_iff.1 hh1).1; have tk : True := trivial; clear hh1)
    | (have _t := tk; at_builtin; go_must (refine wpList_append_copy rfl (.tmp 8) (.tmp 15) rfl rfl ya yc _ L' HLM.out rfl (HRL.out.later HB1.out) (by omega) ?_); clear tk; intro g2 c2 w2 HC; have hh2 := old_block HC.out.bel HT1.out; have y3 := cell_of hh2 3; have y3f := frozen_of hh2 3; simp only [List.getElem?_toArray, List.getElem?_cons_zero, List.getElem?_cons_succ] at y3; have e2 := heap_box hh2 (v := .slice (some ⟨g2, 0, none⟩) 400 c2); have r0 := cell_of e2 0; have r1 := cell_of e2 1; have r2 := cell_of e2 2; have r3 := cell_of e2 3; simp only [List.getElem?_toArray, List.getElem?_cons_zero, List.getElem?_cons_succ] at r0 r1 r2 r3; have HBX : Hid _ := e2; have HRW : Hid (Row (w2.setCell ⟨w.heap.size, 3, none⟩ (.slice (some ⟨g2, 0, none⟩) 400 c2)) (some ⟨g2, 0, none⟩) L') := (HC.out.row HLB.out.1 (by have := HLB.out.2; omega)).off ((Off.refl (fun k => k = w.heap.size) w2).setCell (p := ⟨w.heap.size, 3, none⟩) (.inr rfl) _) (fun _ b hb e => by cases hb; have e3 : g2 = w.heap.size := e; have := HC.out.ge; omega); have HBW : Hid (Below w.heap.size w (w2.setCell ⟨w.heap.size, 3, none⟩ (.slice (some ⟨g2, 0, none⟩) 400 c2))) := (below_of HB1.out HC.out.bel).setCell (p := ⟨w.heap.size, 3, none⟩) (Nat.le_refl _) _; clear hh2 e2)
    | (go_at_call 15; refine (rright_m HR.out HLM.out).mono ?_; rintro e w9 ⟨rfl, H9⟩; have hh9 := old_block H9.out HBX.out; have t0 := cell_of hh9 0; have t1 := cell_of hh9 1; have t2 := cell_of hh9 2; have t3 := cell_of hh9 3; simp only [List.getElem?_toArray, List.getElem?_cons_zero, List.getElem?_cons_succ] at t0 t1 t2 t3; have HB9 : Hid (Below w.heap.size w w9) := below_of HBW.out H9.out; have HT9 : Hid _ := hh9; have HR9 : Hid (Row w9 (some ⟨g2, 0, none⟩) L') := HRW.out.later H9.out; clear hh9)
    | (go_at_call 10; refine (new_there HT9.out HB9.out HR9.out).mono ?_; rintro e w3 ⟨lb, mb, rfl, H3⟩; have u0 := cell_of H3.out.box 0; have u1 := cell_of H3.out.box 1; have u2 := cell_of H3.out.box 2; have u3 := cell_of H3.out.box 3; simp only [List.getElem?_toArray, List.getElem?_cons_zero, List.getElem?_cons_succ] at u0 u1 u2 u3))
  have HF0 : Hid _ := fu_start H3.out HLM.out
  have hok : OkF (xv f t a L') := right_ok.1 HR.out
  have HOK : Hid (OkF (xv f t a L')) := hok
  obtain ⟨q, hq1, hq2⟩ := u512 nn
  have hq3 : q % 511 < 511 := Nat.mod_lt _ (by omega)
  clear hok z3 z3' y3 y3f u0 u1 u2 u3 t0 t1 t2 t3 r0 r1 r2 r3 H3 HT1 HC HB1 H1 HW HBX HRW HBW HT9 HR9 HB9 H9
  go_loopw [26] (fun i wr => ∃ k : Nat, k ≤ 512 ∧ i = .int .i64 k ∧ Hid (Fu w wr lb mb k k f t a g2 400 c2 L')) (fun i _ => 512 - (intOf i).toNat)
  case atStart => exact ⟨0, Nat.zero_le _, rfl, HF0⟩
  case round =>
    obtain ⟨k, hk, rfl, HF⟩ := hrel
    have x0 := cell_of HF.out.box 0
    have x1 := cell_of HF.out.box 1
    have x2 := cell_of HF.out.box 2
    have x3 := cell_of HF.out.box 3
    simp only [List.getElem?_toArray, List.getElem?_cons_zero, List.getElem?_cons_succ] at x0 x1 x2 x3
    clear HF0
    by_cases hlt : k < 512
    · go_wp2_with (go_at_call 16; refine (HF.out.send (by omega) HR.out HLB.out.2 hlt).mono ?_; rintro e w6 ⟨rfl, H6⟩)
      go_roundw
      case rel => exact ⟨k + 1, by omega, by go_num, H6⟩
      case measure => simp [intOf]; omega
    · obtain rfl : k = 512 := by omega
      have tk1 : True := trivial
      have tk2 : True := trivial
      have tk3 : True := trivial
      go_wp2_with (first
        | (go_at_call 16; refine (HF.out.full (by omega) HR.out HLB.out.2).mono ?_; rintro e w6 ⟨rfl, H6⟩; have v0 := cell_of H6.out.box 0; have v1 := cell_of H6.out.box 1; simp only [List.getElem?_toArray, List.getElem?_cons_zero, List.getElem?_cons_succ] at v0 v1)
        | (have _t := tk1; go_at_call 17; refine (H6.out.double_full (by omega) HOK.out).mono ?_; clear tk1; rintro e w7 ⟨rfl, H7⟩)
        | (have _t := tk2; go_at_call 18; refine H7.out.len512.mono ?_; clear tk2; rintro e w8 ⟨rfl, H8⟩; have s0 := cell_of H8.out.box 0; have s1 := cell_of H8.out.box 1; simp only [List.getElem?_toArray, List.getElem?_cons_zero, List.getElem?_cons_succ] at s0 s1)
        | (have _t := tk3; go_at_call 19; refine (H8.out.lose (by omega) HOK.out hq2).mono ?_; clear tk3; rintro e w10 ⟨rfl, H10⟩; have p0 := cell_of H10.out.box 0; have p1 := cell_of H10.out.box 1; simp only [List.getElem?_toArray, List.getElem?_cons_zero, List.getElem?_cons_succ] at p0 p1)
        | (go_at_call 17; refine (H10.out.double (by omega) HOK.out hq3 (by omega)).mono ?_; rintro e w11 ⟨rfl, H11⟩)
        | (go_at_call 18; refine H11.out.len512.mono ?_; rintro e w12 ⟨rfl, H12⟩; have m0 := cell_of H12.out.box 0; have m1 := cell_of H12.out.box 1; simp only [List.getElem?_toArray, List.getElem?_cons_zero, List.getElem?_cons_succ] at m0 m1)
        | (go_at_call 19; refine (H12.out.lose_none (by omega) HOK.out).mono ?_; rintro e w13 ⟨rfl, H13⟩))
      go_ret
      exact ⟨rfl, H13⟩
theorem full_any (w : World) (y : FX) (hy : CameF w y) (nn : Int) :
    Calls Try.prog 5 #[.agg #[.int .i64 y.x.frm, .int .i64 y.x.to, .int .i64 y.x.at_, .slice y.a y.x.bytes.length y.c], .int .i64 nn] w fun e w' => e = .returned (.bool true) ∧ Hid (Below w.heap.size w w') := by
  by_cases h4 : (y.x.bytes.length : Int) ≤ 400
  · cases hr : rightB y.x.frm y.x.to y.x.at_ y.x.bytes.length
    · exact full_no w y hy nn h4 hr
    · exact full_yes w y hy nn h4 hr
  · cases hr : rightB y.x.frm y.x.to y.x.at_ (y.x.bytes.take 400).length
    · exact full_noB w y hy nn h4 hr
    · exact full_yesB w y hy nn h4 hr
end Go.Proofs.Ytopfpdkknfjgoaa
