/- The walk of cbor.Decode. -/
import Derived.Test.YtjfmgokpnpmdpaaDoorCReadB
import Derived.Test.YtjfmgokpnpmdpaaDoorCReadL
import Derived.RegionTactic
import Derived.Deep.RegionWith
namespace Go.Proofs.YtjfmgokpnpmdpaaDoor
open Go.RowKit
set_option linter.unusedVariables false

theorem read_all (V : List Nat → Bool) (TB : World → Prop) (hT : Txt V TB) : ∀ m, ReadOk V TB m
  | 0 => fun w p q l at_ k hk hw hR hp1 hz => by
    by_cases ha : at_ < l.length
    · exact read_deep V 0 rfl w p q l at_ k (by omega) hR hz ha
    · exact read_end V TB 0 w p q l at_ k hR hz ha
  | m + 1 => fun w p q l at_ k hk hw hR hp1 hz => by
    have hs := read_all V TB hT m
    by_cases ha : at_ < l.length
    rotate_left
    · exact read_end V TB (m + 1) w p q l at_ k hR hz ha
    by_cases h0 : kindN (l[at_] / 32) = 0
    · exact read_kind V (m + 1) m rfl w p q l at_ k (by omega) hR hz ha h0
    by_cases h1 : (rn (l[at_] % 32) (limN (kindN (l[at_] / 32))) (l.drop (at_ + 1))).1 = 0
    rotate_left
    · exact read_num V (m + 1) m rfl w p q l at_ k (by omega) hR hz ha h0 h1
    have hkk : l[at_] / 32 = 0 ∨ l[at_] / 32 = 2 ∨ l[at_] / 32 = 3 ∨ l[at_] / 32 = 4 := by
      unfold kindN at h0
      repeat' split at h0
      all_goals first | omega | exact absurd rfl h0
    rcases hkk with ht | ht | ht | ht
    · rw [ht] at h1
      exact read_number V (m + 1) m rfl w p q l at_ k (by omega) hR hz ha ht h1
    · rw [ht] at h1
      by_cases h2 : (rn (l[at_] % 32) 512 (l.drop (at_ + 1))).2.2.length < (rn (l[at_] % 32) 512 (l.drop (at_ + 1))).2.1
      · exact read_bytes_short V (m + 1) m rfl w p q l at_ k (by omega) hR hz ha ht h1 h2
      · exact read_bytes V (m + 1) m rfl w p q l at_ k (by omega) hR hz ha ht h1 h2
    · rw [ht] at h1
      by_cases h2 : (rn (l[at_] % 32) 512 (l.drop (at_ + 1))).2.2.length < (rn (l[at_] % 32) 512 (l.drop (at_ + 1))).2.1
      · exact read_text_short V (m + 1) m rfl w p q l at_ k (by omega) hR hz ha ht h1 h2
      · cases h3 : V ((rn (l[at_] % 32) 512 (l.drop (at_ + 1))).2.2.take (rn (l[at_] % 32) 512 (l.drop (at_ + 1))).2.1) with
        | true => exact read_text V TB hT (m + 1) m rfl w p q l at_ k (by omega) hR hw hp1 hz ha ht h1 h2 h3
        | false => exact read_text_bad V TB hT (m + 1) m rfl w p q l at_ k (by omega) hR hw hp1 hz ha ht h1 h2 h3
    · rw [ht] at h1
      exact read_list V TB hT (m + 1) m rfl hs w p q l at_ k hk hR hw hp1 hz ha ht h1

theorem off_drewN {S : Nat → Prop} {a w : World} (h : Off S a w) (n : Nat) : Off S a (w.drewN n) := h.trans (Off.of_below (S := fun _ => False) (below_drewN (Below.refl _ _) n)) (fun _ _ t => t.elim)
/-- what Decode answers. -/
def Decs (l : List Nat) (C : Int × T × List Nat) (w : World) (e : Ending) (w' : World) : Prop :=
  (C.1 = 0 ∧ ∃ a1 c1 a2 c2, e = .returned (.tuple #[iv C.2.1 a1 c1 a2 c2, .int .i64 ((l.length - C.2.2.length : Nat) : Int), .int .i64 0]) ∧ Hid (Lie (fun k => k < w.heap.size) w' 4 a1 C.2.1 a2 ∧ (bs C.2.1).length ≤ c1 ∧ Below w.heap.size w w')) ∨
  (¬ C.1 = 0 ∧ e = .returned (.tuple #[.agg #[.int .i64 0, .int .u64 0, .slice none 0 0, .slice none 0 0], .int .i64 0, .int .i64 C.1]) ∧ Hid (Below w.heap.size w w'))

set_option maxRecDepth 20000 in
set_option maxHeartbeats 2000000 in
theorem decode_any (V : List Nat → Bool) (TB : World → Prop) (hT : Txt V TB) (w : World) (a : Option Addr) (c : Nat) (l : List Nat) (hw : TB w) (hr : Row w a l) (hz : l.length ≤ 140737488000000) (h1 : 1 < w.heap.size) :
    Calls Tryd.prog 57 #[.slice a l.length c] w fun e w' => Decs l (dec V 4 l) w e w' := by
  have HB : Hid (∀ X : Obj, Below w.heap.size w (w.alloc X)) := fun X => (Below.refl _ w).alloc (Nat.le_refl _) X
  have HRD : Hid (∀ X : Obj, Calls Tryd.prog 67 #[.slice a l.length c] (w.alloc X) fun e w' => ∃ p q, e = .returned (.pointer (some ⟨p, 0, none⟩)) ∧ Hid (Rd w' p q l 0 0 ∧ (w.alloc X).heap.size ≤ p ∧ (w.alloc X).heap.size ≤ q ∧ Below (w.alloc X).heap.size (w.alloc X) w')) := fun X => read_any _ a c l (hr.later (HB.out X)) (by omega)
  have HRE : Hid (∀ w1 p q, TB w1 → Rd w1 p q l 0 0 → 1 < p → Calls Tryd.prog 68 #[.pointer (some ⟨p, 0, none⟩), .int .i64 0] w1 fun e w' => ItR p q l 4 (dec V 4 l) w1 e w') := fun w1 p q hw hr hp => by have := read_all V TB hT 4 w1 p q l 0 0 rfl hw hr hp hz; rw [List.drop_zero] at this; exact this
  have HTW : Hid (∀ w1, Below w.heap.size w w1 → TB w1) := fun w1 hb => hT.later _ _ hw hb
  have hcode := dec_code V 4 l
  generalize dec V 4 l = C at HRE hcode ⊢
  clear hr hw hT
  unfold Decs
  by_cases h0 : C.1 = 0
  · have hd0 : decide (C.1 = 0) = true := decide_eq_true h0
    have H0 : Hid (C.1 = 0) := h0
    clear h0 hcode
    go_enter Tryd.func57, Tryd.ntmps57
    go_wp2_with (first | (go_at_call 67; refine (HRD.out _).mono ?_; rintro e w1 ⟨p, q, rfl, hq⟩; have hpq := hq.out.2.1; have hqq := hq.out.2.2.1; simp at hpq hqq; have hb1 : Below w.heap.size w w1 := below_of (HB.out _) hq.out.2.2.2) | (go_at_call 68; refine (HRE.out w1 p q (HTW.out _ hb1) hq.out.1 (by omega)).mono ?_; rintro e w2 ⟨a1, c1, a2, c2, at2, er2, rfl, hi⟩))
    have hic := hi.out.2.2.1 H0.out
    have her := hic.1
    subst her
    have hz0 : w2.heap[w.heap.size]? = some zc := hi.out.2.1.at (old_block hq.out.2.2.2 (heap_alloc_new w _)) (by omega)
    have hsz2 := hi.out.2.1.size
    have hlt1 : w.heap.size < w1.heap.size := by have := hq.out.2.2.2.size; simp at this; omega
    obtain ⟨w3, hw3⟩ : ∃ w3, w2.alloc (ic C.2.1 a1 c1 a2 c2) = w3 := ⟨_, rfl⟩
    have hx3 : w3.heap[w2.heap.size]? = some (ic C.2.1 a1 c1 a2 c2) := by rw [← hw3]; exact heap_alloc_new w2 _
    have hz3 : w3.heap[w.heap.size]? = some zc := by rw [← hw3]; exact old_block ((Below.refl _ w2).alloc (Nat.le_refl _) _) hz0
    have HB3 : Hid (Below w.heap.size w w3) := by rw [← hw3]; exact (hb1.trans (hi.out.2.1.below hb1.size (fun i e => by omega))).alloc (by omega) _
    have HR3 : Hid (Rd w3 p q l at2 0) := by rw [← hw3]; exact hi.out.1.later ((Below.refl _ w2).alloc (Nat.le_refl _) _)
    have HLI : Hid (Lie (fun k => k < w1.heap.size) w3 4 a1 C.2.1 a2) := by rw [← hw3]; exact hic.2.2.1.later ((Below.refl _ w2).alloc (Nat.le_refl _) _)
    rw [hw3]
    have hle2 := hi.out.1.le
    obtain ⟨d, hd⟩ : ∃ d, l.length - at2 = d := ⟨_, rfl⟩
    have hsub : ((l.length : Int) - (d : Int)) = (at2 : Int) := by omega
    have hwr : IntKind.i64.wrap (at2 : Int) = (at2 : Int) := IntWalk.i64_in _ (by omega)
    have HD2 : Hid (l.length - C.2.2.length = at2) := by show _ = _; rw [← hic.2.1, List.length_drop]; omega
    have HLF : Hid (∀ W, Below w3.heap.size w3 W → Calls Tryd.prog 69 #[.pointer (some ⟨p, 0, none⟩)] W fun e w' => e = .returned (.int .i64 (d : Int)) ∧ ∃ n, w' = W.drewN n) := fun W hb => by rw [← hd]; exact left_any W p q l at2 0 (HR3.out.later hb) (by omega)
    have e0 := cell_of hx3 0
    have e1 := cell_of hx3 1
    have e2 := cell_of hx3 2
    have e3 := cell_of hx3 3
    simp at e0 e1 e2 e3
    have z0 := cell_of hz3 0
    have z1 := cell_of hz3 1
    have z2 := cell_of hz3 2
    have z3 := cell_of hz3 3
    simp at z0 z1 z2 z3
    have fz := frozen_of hz3
    clear hw3 hx3 hz0 hd
    go_region_with (go_at_call 69; refine (HLF.out _ (by repeat (first | exact Below.refl _ _ | apply Below.drew | apply below_drewN))).mono ?_; rintro e w' ⟨rfl, n, rfl⟩)
    all_goals
      go_wp2
      refine bodyPost_ret (v := .tuple #[iv C.2.1 a1 c1 a2 c2, .int .i64 (at2 : Int), .int .i64 0]) (by simp [results, Tryd.results57, go_sem, z0, z1, z2, z3]) rfl ?_
      refine .inl ⟨H0.out, a1, c1, a2, c2, by rw [HD2.out], ?_⟩
      have ho : ∀ W, Off (fun k => k = w.heap.size) w3 W → Lie (fun k => k < w.heap.size) W 4 a1 C.2.1 a2 ∧ (bs C.2.1).length ≤ c1 ∧ Below w.heap.size w W := fun W ho => ⟨Lie.apart (fun k _ e => by omega) 4 (Lie.off ho (fun k e => by omega) 4 HLI.out), hic.2.2.2, HB3.out.trans (ho.below HB3.out.size (fun i e => by omega))⟩
      refine ho _ ?_
      exact (((((off_drewN (Off.refl (fun k => k = w.heap.size) w3) _).setCell (p := ⟨w.heap.size, 0, none⟩) (.inr rfl) _).setCell (p := ⟨w.heap.size, 1, none⟩) (.inr rfl) _).setCell (p := ⟨w.heap.size, 2, none⟩) (.inr rfl) _).setCell (p := ⟨w.heap.size, 3, none⟩) (.inr rfl) _)
  · rcases hcode with hc | hc | hc
    · exact absurd hc h0
    · have hd0 : decide (C.1 = 0) = false := decide_eq_false h0
      have H0 : Hid (C.1 = 7) := hc
      have hne : ((7 : Int) != 0) = true := by decide
      rw [hc]
      clear h0 hc
      go_enter Tryd.func57, Tryd.ntmps57
      go_wp2_with (first | (go_at_call 67; refine (HRD.out _).mono ?_; rintro e w1 ⟨p, q, rfl, hq⟩; have hpq := hq.out.2.1; have hqq := hq.out.2.2.1; simp at hpq hqq; have hb1 : Below w.heap.size w w1 := below_of (HB.out _) hq.out.2.2.2) | (go_at_call 68; refine (HRE.out w1 p q (HTW.out _ hb1) hq.out.1 (by omega)).mono ?_; rintro e w2 ⟨a1, c1, a2, c2, at2, er2, rfl, hi⟩; have her := hi.out.2.2.2.1 H0.out; subst her; have hsz2 := hi.out.2.1.size; have hlt1 : w.heap.size < w1.heap.size := (by have := hq.out.2.2.2.size; simp at this; omega); have HER : Hid (∀ X, Calls Tryd.prog 70 #[.pointer (some ⟨p, 0, none⟩)] (w2.alloc X) fun e w' => e = .returned (.int .i64 7) ∧ (w2.alloc X) = w') := (fun X => err_any _ p q l at2 7 (hi.out.1.later ((Below.refl _ w2).alloc (Nat.le_refl _) X))); have hz0 : ∀ X, (w2.alloc X).heap[w.heap.size]? = some zc := (fun X => old_block ((Below.refl _ w2).alloc (Nat.le_refl _) X) (hi.out.2.1.at (old_block hq.out.2.2.2 (heap_alloc_new w _)) (by omega))); have z0 := (fun X => cell_of (hz0 X) 0); have z1 := (fun X => cell_of (hz0 X) 1); have z2 := (fun X => cell_of (hz0 X) 2); have z3 := (fun X => cell_of (hz0 X) 3); simp at z0 z1 z2 z3; have fz := (fun X => frozen_of (hz0 X)); clear hz0) | (go_at_call 70; refine (HER.out _).mono ?_; rintro e w4 ⟨rfl, rfl⟩))
      refine bodyPost_ret (v := .tuple #[.agg #[.int .i64 0, .int .u64 0, .slice none 0 0, .slice none 0 0], .int .i64 0, .int .i64 7]) (by simp [results, Tryd.results57, go_sem, z0, z1, z2, z3]) rfl ?_
      refine .inr ⟨by simp, rfl, ?_⟩
      have ho : ∀ X W, Off (fun k => k = w.heap.size) (w2.alloc X) W → Below w.heap.size w W := fun X W ho => ((hb1.trans (hi.out.2.1.below hb1.size (fun i e => by omega))).alloc (by omega) X).trans (ho.below (by simp; omega) (fun i e => by omega))
      exact ho (ic C.2.1 a1 c1 a2 c2) _ (((((Off.refl (fun k => k = w.heap.size) _).setCell (p := ⟨w.heap.size, 0, none⟩) (.inr rfl) _).setCell (p := ⟨w.heap.size, 1, none⟩) (.inr rfl) _).setCell (p := ⟨w.heap.size, 2, none⟩) (.inr rfl) _).setCell (p := ⟨w.heap.size, 3, none⟩) (.inr rfl) _)
    · have hd0 : decide (C.1 = 0) = false := decide_eq_false h0
      have H0 : Hid (C.1 = 170) := hc
      have hne : ((0 : Int) != 0) = false := by decide
      rw [hc]
      clear h0 hc
      go_enter Tryd.func57, Tryd.ntmps57
      go_wp2_with (first | (go_at_call 67; refine (HRD.out _).mono ?_; rintro e w1 ⟨p, q, rfl, hq⟩; have hpq := hq.out.2.1; have hqq := hq.out.2.2.1; simp at hpq hqq; have hb1 : Below w.heap.size w w1 := below_of (HB.out _) hq.out.2.2.2) | (go_at_call 68; refine (HRE.out w1 p q (HTW.out _ hb1) hq.out.1 (by omega)).mono ?_; rintro e w2 ⟨a1, c1, a2, c2, at2, er2, rfl, hi⟩; have her := hi.out.2.2.2.2.1 H0.out; subst her; have hsz2 := hi.out.2.1.size; have hlt1 : w.heap.size < w1.heap.size := (by have := hq.out.2.2.2.size; simp at this; omega); have HER : Hid (∀ X, Calls Tryd.prog 70 #[.pointer (some ⟨p, 0, none⟩)] (w2.alloc X) fun e w' => e = .returned (.int .i64 0) ∧ (w2.alloc X) = w') := (fun X => err_any _ p q l at2 0 (hi.out.1.later ((Below.refl _ w2).alloc (Nat.le_refl _) X))); have hz0 : ∀ X, (w2.alloc X).heap[w.heap.size]? = some zc := (fun X => old_block ((Below.refl _ w2).alloc (Nat.le_refl _) X) (hi.out.2.1.at (old_block hq.out.2.2.2 (heap_alloc_new w _)) (by omega))); have z0 := (fun X => cell_of (hz0 X) 0); have z1 := (fun X => cell_of (hz0 X) 1); have z2 := (fun X => cell_of (hz0 X) 2); have z3 := (fun X => cell_of (hz0 X) 3); simp at z0 z1 z2 z3; have fz := (fun X => frozen_of (hz0 X)); clear hz0) | (go_at_call 70; refine (HER.out _).mono ?_; rintro e w4 ⟨rfl, rfl⟩))
      refine bodyPost_ret (v := .tuple #[.agg #[.int .i64 0, .int .u64 0, .slice none 0 0, .slice none 0 0], .int .i64 0, .int .i64 170]) (by simp [results, Tryd.results57, go_sem, z0, z1, z2, z3]) rfl ?_
      refine .inr ⟨by simp, rfl, ?_⟩
      have ho : ∀ X W, Off (fun k => k = w.heap.size) (w2.alloc X) W → Below w.heap.size w W := fun X W ho => ((hb1.trans (hi.out.2.1.below hb1.size (fun i e => by omega))).alloc (by omega) X).trans (ho.below (by simp; omega) (fun i e => by omega))
      exact ho (ic C.2.1 a1 c1 a2 c2) _ (((((Off.refl (fun k => k = w.heap.size) _).setCell (p := ⟨w.heap.size, 0, none⟩) (.inr rfl) _).setCell (p := ⟨w.heap.size, 1, none⟩) (.inr rfl) _).setCell (p := ⟨w.heap.size, 2, none⟩) (.inr rfl) _).setCell (p := ⟨w.heap.size, 3, none⟩) (.inr rfl) _)
end Go.Proofs.YtjfmgokpnpmdpaaDoor
