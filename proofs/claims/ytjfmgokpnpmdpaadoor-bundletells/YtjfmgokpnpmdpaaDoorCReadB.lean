/- The walks of cbor.read: bytes and texts. -/
import Derived.Test.YtjfmgokpnpmdpaaDoorCRead
namespace Go.Proofs.YtjfmgokpnpmdpaaDoor
open Go.RowKit
set_option linter.unusedVariables false
attribute [local go_sem] jump_ret jump_normal jump_exit jump_panic jump_goto
theorem raw_more (w : World) (p q : Nat) (l : List Nat) (at_ n : Nat) (m : List Nat) (h : Rd w p q l at_ 0) (hz : l.length ≤ 140737488000000) (hm : (l.drop at_).take n = m) (hn : at_ + n ≤ l.length) :
    Calls Tryd.prog 81 #[.pointer (some ⟨p, 0, none⟩), .int .i64 n] w fun e w' => ∃ g, e = .returned (.slice (some ⟨g, 0, none⟩) m.length m.length) ∧ Hid (Bs w' g m ∧ w.heap.size ≤ g ∧ Rd w' p q l (at_ + n) 0 ∧ Off (fun k => k = p) w w') := by
  have h1 := raw_any w p q l at_ 0 n h (by omega) (by omega)
  rw [takes_ok hn] at h1
  unfold Reads at h1
  simp only [hm] at h1
  exact h1
theorem raw_short (w : World) (p q : Nat) (l : List Nat) (at_ n : Nat) (h : Rd w p q l at_ 0) (hz : l.length ≤ 140737488000000) (hn : ¬ at_ + n ≤ l.length) (hn2 : n ≤ 512) :
    Calls Tryd.prog 81 #[.pointer (some ⟨p, 0, none⟩), .int .i64 n] w fun e w' => ∃ g, e = .returned (.slice (some ⟨g, 0, none⟩) 0 0) ∧ Hid (w.heap.size ≤ g ∧ Rd w' p q l at_ 7 ∧ Off (fun k => k = p) w w') := by
  have h1 := raw_any w p q l at_ 0 n h (by omega) (by omega)
  rw [takes_short hn] at h1
  unfold Reads at h1
  refine h1.mono ?_
  rintro e w' ⟨g, he, hh⟩
  exact ⟨g, he, hh.out.2.1, hh.out.2.2.1, hh.out.2.2.2⟩
set_option maxRecDepth 20000 in
set_option maxHeartbeats 4000000 in
theorem read_bytes_short (V : List Nat → Bool) (M m : Nat) (hM : M = m + 1) (w : World) (p q : Nat) (l : List Nat) (at_ k : Nat) (hk : k < 4) (hR : Rd w p q l at_ 0) (hz : l.length ≤ 140737488000000) (ha : at_ < l.length) (ht : l[at_] / 32 = 2) (h1 : (rn (l[at_] % 32) 512 (l.drop (at_ + 1))).1 = 0) (h2 : (rn (l[at_] % 32) 512 (l.drop (at_ + 1))).2.2.length < (rn (l[at_] % 32) 512 (l.drop (at_ + 1))).2.1) :
    Calls Tryd.prog 68 #[.pointer (some ⟨p, 0, none⟩), .int .i64 k] w fun e w' => ItR p q l M (dec V M (l.drop at_)) w e w' := by
  obtain ⟨D, hD⟩ : ∃ D, rn (l[at_] % 32) 512 (l.drop (at_ + 1)) = D := ⟨_, rfl⟩
  rw [hD] at h1 h2
  have HF : Hid (dec V M (l.drop at_) = (7, .nil, [])) := by
    show _ = _
    rw [hM, List.drop_eq_getElem_cons ha, dec, ht, if_neg (by decide), show limN (kindN 2) = 512 from rfl, hD, if_pos h1, show kindN 2 = 2 from rfl, decB, if_neg (by omega), if_neg (by omega), if_pos h2]
  obtain ⟨_, hN, hN64⟩ := hd_of (b := l[at_]) (r := l.drop (at_ + 1)) (g := 512) (N := D.2.1) (r2 := D.2.2) (fun x hx => hR.all.byte x (List.mem_of_mem_drop hx)) (by omega) (by rw [hD, ← h1])
  have H1 : Hid (D.1 = 0) := h1
  have hdd : decide (D.1 = 0) = true := decide_eq_true h1
  generalize dec V M (l.drop at_) = C at HF ⊢
  have hb : l[at_] < 256 := hR.all.byte _ (List.getElem_mem ha)
  have HU : Hid (∀ w1, Below w.heap.size w w1 → Calls Tryd.prog 77 #[.pointer (some ⟨p, 0, none⟩)] w1 fun e w' => e = .returned (.int .u8 (l[at_] : Nat)) ∧ Hid (Rd w' p q l (at_ + 1) 0 ∧ Off (fun k => k = p) w1 w')) := fun w1 hb => u8_more w1 p q l at_ (hR.later hb) (by omega) ha
  have HB : Hid (∀ X Y Z : Obj, Below w.heap.size w (((w.alloc X).alloc Y).alloc Z)) := fun X Y Z => (((Below.refl _ w).alloc (Nat.le_refl _) X).alloc (by simp) Y).alloc (by simp; omega) Z
  have hp := hR.lt
  clear hR
  have HK : Hid (∀ w, Calls Tryd.prog 78 #[.int .u8 ((l[at_] : Int) / 32)] w fun e w' => e = .returned (.tuple #[.int .i64 2, .bool true]) ∧ w = w') := fun w => by
    have := kindOf_any w (l[at_] / 32) (by omega)
    rw [ht] at this
    rw [show ((l[at_] : Int) / 32) = ((l[at_] / 32 : Nat) : Int) by omega, ht]
    exact this
  have hand := and31 l[at_] hb
  have HLm : Hid (∀ w, Calls Tryd.prog 80 #[.int .i64 2] w fun e w' => e = .returned (.int .u64 512) ∧ w = w') := fun w => limit_any w 2 (by omega)
  have HRN : Hid (∀ w, Rd w p q l (at_ + 1) 0 → Calls Tryd.prog 79 #[.pointer (some ⟨p, 0, none⟩), .int .u8 (l[at_] % 32 : Nat), .int .u64 512] w fun e w' => NumR p q l D w e w') := fun w hr => by rw [← hD]; exact readNumber_any w p q l (at_ + 1) _ 512 hr (by omega) (by omega) (by omega)
  clear h1 hD ht
  generalize l[at_] % 32 = E at HRN hand
  generalize l[at_] = b at HU hb HK hand
  have hk4 : ((k : Int) == 4) = false := beq_eq_false_iff_ne.2 (by omega)
  generalize hN2 : D.2.1 = N at *
  have HN2 : Hid (D.2.1 = N) := hN2
  have hN3 : ((D.2.1 : Nat) : Int) = (N : Int) := by rw [hN2]
  clear hN2
  go_enter Tryd.func68, Tryd.ntmps68
  go_wp2
  refine wp_scope_once 0 rfl ?_
  go_wp2_with (first | (go_at_call 77; refine (HU.out _ (HB.out _ _ _)).mono ?_; rintro e w1 ⟨rfl, hq⟩; have HEr := err_any w1 p q l _ 0 hq.out.1; have HL := (Loc.new w).off hq.out.2 (by omega) (by omega) (by omega); obtain ⟨⟨z0, z1, z2, z3⟩, ⟨x0, x1, x2, x3⟩, fz, fx, hlt⟩ := HL.reads) | (go_at_call 79; refine (HRN.out _ (hq.out.1.off (off_set w1 (w.heap.size + 1) 0 _) (by omega) (by omega))).mono ?_; rintro e w3 ⟨at3, er3, rfl, hn⟩; have HL3 := (HL.setx 0 (.int .i64 2) (by omega)).off hn.out.2.1 (by omega) (by omega) (by omega); obtain ⟨⟨z0, z1, z2, z3⟩, ⟨x0, x1, x2, x3⟩, fz, fx, hlt⟩ := HL3.reads; simp only [if_true, Nat.reduceEqDiff, if_false] at x0 x1 x2 x3; obtain ⟨her, hdr⟩ := hn.out.2.2.1 H1.out; subst her; have HDR : Hid (l.drop at3 = D.2.2) := hdr; clear hdr) | (go_at_call 81; refine (raw_short w3 p q l at3 N hn.out.1 hz (by have := congrArg List.length HDR.out; rw [List.length_drop] at this; have := hn.out.1.le; omega) (by omega)).mono ?_; rintro e w4 ⟨g, rfl, hr⟩; have HEr4 : Hid (∀ u, Calls Tryd.prog 70 #[.pointer (some ⟨p, 0, none⟩)] (w4.setCell ⟨w.heap.size + 1, 2, none⟩ u) fun e w' => e = .returned (.int .i64 7) ∧ (w4.setCell ⟨w.heap.size + 1, 2, none⟩ u) = w') := (fun u => err_any _ p q l _ 7 (hr.out.2.1.off (off_set w4 (w.heap.size + 1) 2 u) (by omega) (by omega))); have HL4 := HL3.off hr.out.2.2 (by omega) (by omega) (by omega); obtain ⟨⟨z0, z1, z2, z3⟩, ⟨x0, x1, x2, x3⟩, fz, fx, hlt⟩ := HL4.reads; simp only [if_true, Nat.reduceEqDiff, if_false] at x0 x1 x2 x3) | (go_at_call 70; refine HEr.mono ?_; rintro e w2 ⟨rfl, rfl⟩) | (go_at_call 70; refine (HEr4.out _).mono ?_; rintro e w5 ⟨rfl, rfl⟩) | (go_at_call 78; refine (HK.out _).mono ?_; rintro e w2 ⟨rfl, rfl⟩) | (go_at_call 80; refine (HLm.out _).mono ?_; rintro e w2 ⟨rfl, rfl⟩))
  have HL5 := HL4.setx 2 (.slice (some ⟨g, 0, none⟩) 0 0) (by omega)
  go_step3
  show _ ∧ Code.wp _ _ _ _ _
  refine ⟨rfl, ?_⟩
  go_wp2
  try rw [jump_ret]
  have hs := set4 HL5.a (.int .i64 0) (.int .u64 0) (.slice none 0 0) (.slice none 0 0)
  generalize (((((w4.setCell ⟨w.heap.size + 1, 2, none⟩ (.slice (some ⟨g, 0, none⟩) 0 0)).setCell ⟨w.heap.size, 0, none⟩ (.int .i64 0)).setCell ⟨w.heap.size, 1, none⟩ (.int .u64 0)).setCell ⟨w.heap.size, 2, none⟩ (.slice none 0 0)).setCell ⟨w.heap.size, 3, none⟩ (.slice none 0 0)) = W at hs ⊢
  have r0 := cell_of hs.1 0
  have r1 := cell_of hs.1 1
  have r2 := cell_of hs.1 2
  have r3 := cell_of hs.1 3
  simp at r0 r1 r2 r3
  refine bodyPost_ret (v := .tuple #[iv .nil none 0 none 0, .bool false]) (by simp [results, Tryd.results68, go_sem, r0, r1, r2, r3, kd, nm, bs, its]) rfl ?_
  rw [HF.out]
  exact ⟨none, 0, none, 0, at3, 7, rfl, (hr.out.2.1.off (off_set w4 (w.heap.size + 1) 2 _) (by omega) (by omega)).off hs.2 (by omega) (by omega), off_put (off_put (((off_put (off_allocs (HB.out _ _ _) hq.out.2) (off_set w1 (w.heap.size + 1) 0 _) (by omega)).trans hn.out.2.1 (fun _ _ t => t)).trans hr.out.2.2 (fun _ _ t => t)) (off_set w4 (w.heap.size + 1) 2 _) (by omega)) hs.2 (Nat.le_refl _), fun h => by simp at h, fun _ => rfl, fun h => by simp at h, fun _ => ⟨rfl, rfl, rfl, rfl, rfl⟩⟩

set_option maxRecDepth 20000 in
set_option maxHeartbeats 4000000 in
theorem read_bytes (V : List Nat → Bool) (M m : Nat) (hM : M = m + 1) (w : World) (p q : Nat) (l : List Nat) (at_ k : Nat) (hk : k < 4) (hR : Rd w p q l at_ 0) (hz : l.length ≤ 140737488000000) (ha : at_ < l.length) (ht : l[at_] / 32 = 2) (h1 : (rn (l[at_] % 32) 512 (l.drop (at_ + 1))).1 = 0) (h2 : ¬ (rn (l[at_] % 32) 512 (l.drop (at_ + 1))).2.2.length < (rn (l[at_] % 32) 512 (l.drop (at_ + 1))).2.1) :
    Calls Tryd.prog 68 #[.pointer (some ⟨p, 0, none⟩), .int .i64 k] w fun e w' => ItR p q l M (dec V M (l.drop at_)) w e w' := by
  obtain ⟨D, hD⟩ : ∃ D, rn (l[at_] % 32) 512 (l.drop (at_ + 1)) = D := ⟨_, rfl⟩
  rw [hD] at h1 h2
  have HF : Hid (dec V M (l.drop at_) = (0, mkI 2 0 (D.2.2.take D.2.1) [], D.2.2.drop D.2.1)) := by
    show _ = _
    rw [hM, List.drop_eq_getElem_cons ha, dec, ht, if_neg (by decide), show limN (kindN 2) = 512 from rfl, hD, if_pos h1, show kindN 2 = 2 from rfl, decB, if_neg (by omega), if_neg (by omega), if_neg h2, if_neg (by omega)]
    try rfl
  obtain ⟨_, hN, hN64⟩ := hd_of (b := l[at_]) (r := l.drop (at_ + 1)) (g := 512) (N := D.2.1) (r2 := D.2.2) (fun x hx => hR.all.byte x (List.mem_of_mem_drop hx)) (by omega) (by rw [hD, ← h1])
  have H1 : Hid (D.1 = 0) := h1
  have hdd : decide (D.1 = 0) = true := decide_eq_true h1
  generalize dec V M (l.drop at_) = C at HF ⊢
  obtain ⟨m2, hm2⟩ : ∃ m2, D.2.2.take D.2.1 = m2 := ⟨_, rfl⟩
  rw [hm2] at HF
  have hml : m2.length ≤ 512 := by rw [← hm2, List.length_take]; omega
  have hb : l[at_] < 256 := hR.all.byte _ (List.getElem_mem ha)
  have HU : Hid (∀ w1, Below w.heap.size w w1 → Calls Tryd.prog 77 #[.pointer (some ⟨p, 0, none⟩)] w1 fun e w' => e = .returned (.int .u8 (l[at_] : Nat)) ∧ Hid (Rd w' p q l (at_ + 1) 0 ∧ Off (fun k => k = p) w1 w')) := fun w1 hb => u8_more w1 p q l at_ (hR.later hb) (by omega) ha
  have HB : Hid (∀ X Y Z : Obj, Below w.heap.size w (((w.alloc X).alloc Y).alloc Z)) := fun X Y Z => (((Below.refl _ w).alloc (Nat.le_refl _) X).alloc (by simp) Y).alloc (by simp; omega) Z
  have hp := hR.lt
  clear hR
  have HK : Hid (∀ w, Calls Tryd.prog 78 #[.int .u8 ((l[at_] : Int) / 32)] w fun e w' => e = .returned (.tuple #[.int .i64 2, .bool true]) ∧ w = w') := fun w => by
    have := kindOf_any w (l[at_] / 32) (by omega)
    rw [ht] at this
    rw [show ((l[at_] : Int) / 32) = ((l[at_] / 32 : Nat) : Int) by omega, ht]
    exact this
  have hand := and31 l[at_] hb
  have HLm : Hid (∀ w, Calls Tryd.prog 80 #[.int .i64 2] w fun e w' => e = .returned (.int .u64 512) ∧ w = w') := fun w => limit_any w 2 (by omega)
  have HRN : Hid (∀ w, Rd w p q l (at_ + 1) 0 → Calls Tryd.prog 79 #[.pointer (some ⟨p, 0, none⟩), .int .u8 (l[at_] % 32 : Nat), .int .u64 512] w fun e w' => NumR p q l D w e w') := fun w hr => by rw [← hD]; exact readNumber_any w p q l (at_ + 1) _ 512 hr (by omega) (by omega) (by omega)
  clear h1 hD ht
  generalize l[at_] % 32 = E at HRN hand
  generalize l[at_] = b at HU hb HK hand
  have hk4 : ((k : Int) == 4) = false := beq_eq_false_iff_ne.2 (by omega)
  generalize hN2 : D.2.1 = N at *
  have HN2 : Hid (D.2.1 = N) := hN2
  have hN3 : ((D.2.1 : Nat) : Int) = (N : Int) := by rw [hN2]
  have HM : Hid (D.2.2.take N = m2) := hm2
  clear hm2
  clear hN2
  go_enter Tryd.func68, Tryd.ntmps68
  go_wp2
  refine wp_scope_once 0 rfl ?_
  go_wp2_with (first | (go_at_call 77; refine (HU.out _ (HB.out _ _ _)).mono ?_; rintro e w1 ⟨rfl, hq⟩; have HEr := err_any w1 p q l _ 0 hq.out.1; have HL := (Loc.new w).off hq.out.2 (by omega) (by omega) (by omega); obtain ⟨⟨z0, z1, z2, z3⟩, ⟨x0, x1, x2, x3⟩, fz, fx, hlt⟩ := HL.reads) | (go_at_call 79; refine (HRN.out _ (hq.out.1.off (off_set w1 (w.heap.size + 1) 0 _) (by omega) (by omega))).mono ?_; rintro e w3 ⟨at3, er3, rfl, hn⟩; have HL3 := (HL.setx 0 (.int .i64 2) (by omega)).off hn.out.2.1 (by omega) (by omega) (by omega); obtain ⟨⟨z0, z1, z2, z3⟩, ⟨x0, x1, x2, x3⟩, fz, fx, hlt⟩ := HL3.reads; simp only [if_true, Nat.reduceEqDiff, if_false] at x0 x1 x2 x3; obtain ⟨her, hdr⟩ := hn.out.2.2.1 H1.out; subst her; have HDR : Hid (l.drop at3 = D.2.2) := hdr; clear hdr) | (go_at_call 81; refine (raw_more w3 p q l at3 N m2 hn.out.1 hz (by rw [HDR.out]; exact HM.out) (by have := congrArg List.length HDR.out; rw [List.length_drop] at this; have := hn.out.1.le; omega)).mono ?_; rintro e w4 ⟨g, rfl, hr⟩; have HEr4 : Hid (∀ u, Calls Tryd.prog 70 #[.pointer (some ⟨p, 0, none⟩)] (w4.setCell ⟨w.heap.size + 1, 2, none⟩ u) fun e w' => e = .returned (.int .i64 0) ∧ (w4.setCell ⟨w.heap.size + 1, 2, none⟩ u) = w') := (fun u => err_any _ p q l _ 0 (hr.out.2.2.1.off (off_set w4 (w.heap.size + 1) 2 u) (by omega) (by omega))); have HL4 := HL3.off hr.out.2.2.2 (by omega) (by omega) (by omega); obtain ⟨⟨z0, z1, z2, z3⟩, ⟨x0, x1, x2, x3⟩, fz, fx, hlt⟩ := HL4.reads; simp only [if_true, Nat.reduceEqDiff, if_false] at x0 x1 x2 x3; have hgl := hr.out.2.1; have hl3 := hn.out.2.1.size) | (go_at_call 70; refine HEr.mono ?_; rintro e w2 ⟨rfl, rfl⟩) | (go_at_call 70; refine (HEr4.out _).mono ?_; rintro e w5 ⟨rfl, rfl⟩) | (go_at_call 78; refine (HK.out _).mono ?_; rintro e w2 ⟨rfl, rfl⟩) | (go_at_call 80; refine (HLm.out _).mono ?_; rintro e w2 ⟨rfl, rfl⟩))
  have HL5 := HL4.setx 2 (.slice (some ⟨g, 0, none⟩) m2.length m2.length) (by omega)
  try rw [jump_ret]
  have hs := set4 HL5.a (.int .i64 2) (.int .u64 0) (.slice (some ⟨g, 0, none⟩) m2.length m2.length) (.slice none 0 0)
  generalize (((((w4.setCell ⟨w.heap.size + 1, 2, none⟩ (.slice (some ⟨g, 0, none⟩) m2.length m2.length)).setCell ⟨w.heap.size, 0, none⟩ (.int .i64 2)).setCell ⟨w.heap.size, 1, none⟩ (.int .u64 0)).setCell ⟨w.heap.size, 2, none⟩ (.slice (some ⟨g, 0, none⟩) m2.length m2.length)).setCell ⟨w.heap.size, 3, none⟩ (.slice none 0 0)) = W at hs ⊢
  have r0 := cell_of hs.1 0
  have r1 := cell_of hs.1 1
  have r2 := cell_of hs.1 2
  have r3 := cell_of hs.1 3
  simp at r0 r1 r2 r3
  refine bodyPost_ret (v := .tuple #[iv (mkI 2 0 m2 []) (some ⟨g, 0, none⟩) m2.length none 0, .bool true]) (by simp [results, Tryd.results68, go_sem, r0, r1, r2, r3, kd_mk, nm_mk, bs_mk, its_mk]) rfl ?_
  rw [HF.out]
  refine ⟨some ⟨g, 0, none⟩, m2.length, none, 0, at3 + N, 0, rfl, (hr.out.2.2.1.off (off_set w4 (w.heap.size + 1) 2 _) (by omega) (by omega)).off hs.2 (by omega) (by omega), off_put (off_put (((off_put (off_allocs (HB.out _ _ _) hq.out.2) (off_set w1 (w.heap.size + 1) 0 _) (by omega)).trans hn.out.2.1 (fun _ _ t => t)).trans hr.out.2.2.2 (fun _ _ t => t)) (off_set w4 (w.heap.size + 1) 2 _) (by omega)) hs.2 (Nat.le_refl _), fun _ => ⟨rfl, ?_, ?_, Nat.le_refl _⟩, fun h => by simp at h, fun h => by simp at h, fun h => absurd rfl h⟩
  · rw [← HDR.out, List.drop_drop]
  · rw [hM]
    exact Lie.flat 2 0 m2 m none (by omega) (by omega) (by omega) ((hr.out.1.off (off_set w4 (w.heap.size + 1) 2 _) (by omega)).off hs.2 (by omega)).row (fun _ c hc => by cases hc; show ¬ g < w.heap.size; omega)

set_option maxRecDepth 20000 in
set_option maxHeartbeats 4000000 in
theorem read_text_short (V : List Nat → Bool) (M m : Nat) (hM : M = m + 1) (w : World) (p q : Nat) (l : List Nat) (at_ k : Nat) (hk : k < 4) (hR : Rd w p q l at_ 0) (hz : l.length ≤ 140737488000000) (ha : at_ < l.length) (ht : l[at_] / 32 = 3) (h1 : (rn (l[at_] % 32) 512 (l.drop (at_ + 1))).1 = 0) (h2 : (rn (l[at_] % 32) 512 (l.drop (at_ + 1))).2.2.length < (rn (l[at_] % 32) 512 (l.drop (at_ + 1))).2.1) :
    Calls Tryd.prog 68 #[.pointer (some ⟨p, 0, none⟩), .int .i64 k] w fun e w' => ItR p q l M (dec V M (l.drop at_)) w e w' := by
  obtain ⟨D, hD⟩ : ∃ D, rn (l[at_] % 32) 512 (l.drop (at_ + 1)) = D := ⟨_, rfl⟩
  rw [hD] at h1 h2
  have HF : Hid (dec V M (l.drop at_) = (7, .nil, [])) := by
    show _ = _
    rw [hM, List.drop_eq_getElem_cons ha, dec, ht, if_neg (by decide), show limN (kindN 3) = 512 from rfl, hD, if_pos h1, show kindN 3 = 3 from rfl, decB, if_neg (by omega), if_neg (by omega), if_pos h2]
  obtain ⟨_, hN, hN64⟩ := hd_of (b := l[at_]) (r := l.drop (at_ + 1)) (g := 512) (N := D.2.1) (r2 := D.2.2) (fun x hx => hR.all.byte x (List.mem_of_mem_drop hx)) (by omega) (by rw [hD, ← h1])
  have H1 : Hid (D.1 = 0) := h1
  have hdd : decide (D.1 = 0) = true := decide_eq_true h1
  generalize dec V M (l.drop at_) = C at HF ⊢
  have hb : l[at_] < 256 := hR.all.byte _ (List.getElem_mem ha)
  have HU : Hid (∀ w1, Below w.heap.size w w1 → Calls Tryd.prog 77 #[.pointer (some ⟨p, 0, none⟩)] w1 fun e w' => e = .returned (.int .u8 (l[at_] : Nat)) ∧ Hid (Rd w' p q l (at_ + 1) 0 ∧ Off (fun k => k = p) w1 w')) := fun w1 hb => u8_more w1 p q l at_ (hR.later hb) (by omega) ha
  have HB : Hid (∀ X Y Z : Obj, Below w.heap.size w (((w.alloc X).alloc Y).alloc Z)) := fun X Y Z => (((Below.refl _ w).alloc (Nat.le_refl _) X).alloc (by simp) Y).alloc (by simp; omega) Z
  have hp := hR.lt
  clear hR
  have HK : Hid (∀ w, Calls Tryd.prog 78 #[.int .u8 ((l[at_] : Int) / 32)] w fun e w' => e = .returned (.tuple #[.int .i64 3, .bool true]) ∧ w = w') := fun w => by
    have := kindOf_any w (l[at_] / 32) (by omega)
    rw [ht] at this
    rw [show ((l[at_] : Int) / 32) = ((l[at_] / 32 : Nat) : Int) by omega, ht]
    exact this
  have hand := and31 l[at_] hb
  have HLm : Hid (∀ w, Calls Tryd.prog 80 #[.int .i64 3] w fun e w' => e = .returned (.int .u64 512) ∧ w = w') := fun w => limit_any w 3 (by omega)
  have HRN : Hid (∀ w, Rd w p q l (at_ + 1) 0 → Calls Tryd.prog 79 #[.pointer (some ⟨p, 0, none⟩), .int .u8 (l[at_] % 32 : Nat), .int .u64 512] w fun e w' => NumR p q l D w e w') := fun w hr => by rw [← hD]; exact readNumber_any w p q l (at_ + 1) _ 512 hr (by omega) (by omega) (by omega)
  clear h1 hD ht
  generalize l[at_] % 32 = E at HRN hand
  generalize l[at_] = b at HU hb HK hand
  have hk4 : ((k : Int) == 4) = false := beq_eq_false_iff_ne.2 (by omega)
  generalize hN2 : D.2.1 = N at *
  have HN2 : Hid (D.2.1 = N) := hN2
  have hN3 : ((D.2.1 : Nat) : Int) = (N : Int) := by rw [hN2]
  clear hN2
  go_enter Tryd.func68, Tryd.ntmps68
  go_wp2
  refine wp_scope_once 0 rfl ?_
  go_wp2_with (first | (go_at_call 77; refine (HU.out _ (HB.out _ _ _)).mono ?_; rintro e w1 ⟨rfl, hq⟩; have HEr := err_any w1 p q l _ 0 hq.out.1; have HL := (Loc.new w).off hq.out.2 (by omega) (by omega) (by omega); obtain ⟨⟨z0, z1, z2, z3⟩, ⟨x0, x1, x2, x3⟩, fz, fx, hlt⟩ := HL.reads) | (go_at_call 79; refine (HRN.out _ (hq.out.1.off (off_set w1 (w.heap.size + 1) 0 _) (by omega) (by omega))).mono ?_; rintro e w3 ⟨at3, er3, rfl, hn⟩; have HL3 := (HL.setx 0 (.int .i64 3) (by omega)).off hn.out.2.1 (by omega) (by omega) (by omega); obtain ⟨⟨z0, z1, z2, z3⟩, ⟨x0, x1, x2, x3⟩, fz, fx, hlt⟩ := HL3.reads; simp only [if_true, Nat.reduceEqDiff, if_false] at x0 x1 x2 x3; obtain ⟨her, hdr⟩ := hn.out.2.2.1 H1.out; subst her; have HDR : Hid (l.drop at3 = D.2.2) := hdr; clear hdr) | (go_at_call 81; refine (raw_short w3 p q l at3 N hn.out.1 hz (by have := congrArg List.length HDR.out; rw [List.length_drop] at this; have := hn.out.1.le; omega) (by omega)).mono ?_; rintro e w4 ⟨g, rfl, hr⟩; have HEr4 : Hid (∀ u, Calls Tryd.prog 70 #[.pointer (some ⟨p, 0, none⟩)] (w4.setCell ⟨w.heap.size + 1, 2, none⟩ u) fun e w' => e = .returned (.int .i64 7) ∧ (w4.setCell ⟨w.heap.size + 1, 2, none⟩ u) = w') := (fun u => err_any _ p q l _ 7 (hr.out.2.1.off (off_set w4 (w.heap.size + 1) 2 u) (by omega) (by omega))); have HL4 := HL3.off hr.out.2.2 (by omega) (by omega) (by omega); obtain ⟨⟨z0, z1, z2, z3⟩, ⟨x0, x1, x2, x3⟩, fz, fx, hlt⟩ := HL4.reads; simp only [if_true, Nat.reduceEqDiff, if_false] at x0 x1 x2 x3) | (go_at_call 70; refine HEr.mono ?_; rintro e w2 ⟨rfl, rfl⟩) | (go_at_call 70; refine (HEr4.out _).mono ?_; rintro e w5 ⟨rfl, rfl⟩) | (go_at_call 78; refine (HK.out _).mono ?_; rintro e w2 ⟨rfl, rfl⟩) | (go_at_call 80; refine (HLm.out _).mono ?_; rintro e w2 ⟨rfl, rfl⟩))
  have HL5 := HL4.setx 2 (.slice (some ⟨g, 0, none⟩) 0 0) (by omega)
  go_step3
  show _ ∧ Code.wp _ _ _ _ _
  refine ⟨rfl, ?_⟩
  go_wp2
  try rw [jump_ret]
  have hs := set4 HL5.a (.int .i64 0) (.int .u64 0) (.slice none 0 0) (.slice none 0 0)
  generalize (((((w4.setCell ⟨w.heap.size + 1, 2, none⟩ (.slice (some ⟨g, 0, none⟩) 0 0)).setCell ⟨w.heap.size, 0, none⟩ (.int .i64 0)).setCell ⟨w.heap.size, 1, none⟩ (.int .u64 0)).setCell ⟨w.heap.size, 2, none⟩ (.slice none 0 0)).setCell ⟨w.heap.size, 3, none⟩ (.slice none 0 0)) = W at hs ⊢
  have r0 := cell_of hs.1 0
  have r1 := cell_of hs.1 1
  have r2 := cell_of hs.1 2
  have r3 := cell_of hs.1 3
  simp at r0 r1 r2 r3
  refine bodyPost_ret (v := .tuple #[iv .nil none 0 none 0, .bool false]) (by simp [results, Tryd.results68, go_sem, r0, r1, r2, r3, kd, nm, bs, its]) rfl ?_
  rw [HF.out]
  exact ⟨none, 0, none, 0, at3, 7, rfl, (hr.out.2.1.off (off_set w4 (w.heap.size + 1) 2 _) (by omega) (by omega)).off hs.2 (by omega) (by omega), off_put (off_put (((off_put (off_allocs (HB.out _ _ _) hq.out.2) (off_set w1 (w.heap.size + 1) 0 _) (by omega)).trans hn.out.2.1 (fun _ _ t => t)).trans hr.out.2.2 (fun _ _ t => t)) (off_set w4 (w.heap.size + 1) 2 _) (by omega)) hs.2 (Nat.le_refl _), fun h => by simp at h, fun _ => rfl, fun h => by simp at h, fun _ => ⟨rfl, rfl, rfl, rfl, rfl⟩⟩

set_option maxRecDepth 20000 in
set_option maxHeartbeats 4000000 in
theorem read_text_bad (V : List Nat → Bool) (TB : World → Prop) (hT : Txt V TB) (M m : Nat) (hM : M = m + 1) (w : World) (p q : Nat) (l : List Nat) (at_ k : Nat) (hk : k < 4) (hR : Rd w p q l at_ 0) (hw : TB w) (hp1 : 1 < p) (hz : l.length ≤ 140737488000000) (ha : at_ < l.length) (ht : l[at_] / 32 = 3) (h1 : (rn (l[at_] % 32) 512 (l.drop (at_ + 1))).1 = 0) (h2 : ¬ (rn (l[at_] % 32) 512 (l.drop (at_ + 1))).2.2.length < (rn (l[at_] % 32) 512 (l.drop (at_ + 1))).2.1) (h3 : V ((rn (l[at_] % 32) 512 (l.drop (at_ + 1))).2.2.take (rn (l[at_] % 32) 512 (l.drop (at_ + 1))).2.1) = false) :
    Calls Tryd.prog 68 #[.pointer (some ⟨p, 0, none⟩), .int .i64 k] w fun e w' => ItR p q l M (dec V M (l.drop at_)) w e w' := by
  obtain ⟨D, hD⟩ : ∃ D, rn (l[at_] % 32) 512 (l.drop (at_ + 1)) = D := ⟨_, rfl⟩
  rw [hD] at h1 h2 h3
  have HF : Hid (dec V M (l.drop at_) = (170, .nil, [])) := by
    show _ = _
    rw [hM, List.drop_eq_getElem_cons ha, dec, ht, if_neg (by decide), show limN (kindN 3) = 512 from rfl, hD, if_pos h1, show kindN 3 = 3 from rfl, decB, if_neg (by omega), if_neg (by omega), if_neg h2, if_pos ⟨rfl, h3⟩]
  obtain ⟨_, hN, hN64⟩ := hd_of (b := l[at_]) (r := l.drop (at_ + 1)) (g := 512) (N := D.2.1) (r2 := D.2.2) (fun x hx => hR.all.byte x (List.mem_of_mem_drop hx)) (by omega) (by rw [hD, ← h1])
  have H1 : Hid (D.1 = 0) := h1
  have hdd : decide (D.1 = 0) = true := decide_eq_true h1
  generalize dec V M (l.drop at_) = C at HF ⊢
  obtain ⟨m2, hm2⟩ : ∃ m2, D.2.2.take D.2.1 = m2 := ⟨_, rfl⟩
  rw [hm2] at h3
  have hml : m2.length ≤ 512 := by rw [← hm2, List.length_take]; omega
  have HTX : Hid (Txt V TB) := hT
  have HTW : Hid (∀ w1, Off (fun k => k = p) w w1 → TB w1) := fun w1 ho => hT.off _ w w1 hw ho (by omega) (by omega)
  clear hT hw
  have hb : l[at_] < 256 := hR.all.byte _ (List.getElem_mem ha)
  have HU : Hid (∀ w1, Below w.heap.size w w1 → Calls Tryd.prog 77 #[.pointer (some ⟨p, 0, none⟩)] w1 fun e w' => e = .returned (.int .u8 (l[at_] : Nat)) ∧ Hid (Rd w' p q l (at_ + 1) 0 ∧ Off (fun k => k = p) w1 w')) := fun w1 hb => u8_more w1 p q l at_ (hR.later hb) (by omega) ha
  have HB : Hid (∀ X Y Z : Obj, Below w.heap.size w (((w.alloc X).alloc Y).alloc Z)) := fun X Y Z => (((Below.refl _ w).alloc (Nat.le_refl _) X).alloc (by simp) Y).alloc (by simp; omega) Z
  have hp := hR.lt
  clear hR
  have HK : Hid (∀ w, Calls Tryd.prog 78 #[.int .u8 ((l[at_] : Int) / 32)] w fun e w' => e = .returned (.tuple #[.int .i64 3, .bool true]) ∧ w = w') := fun w => by
    have := kindOf_any w (l[at_] / 32) (by omega)
    rw [ht] at this
    rw [show ((l[at_] : Int) / 32) = ((l[at_] / 32 : Nat) : Int) by omega, ht]
    exact this
  have hand := and31 l[at_] hb
  have HLm : Hid (∀ w, Calls Tryd.prog 80 #[.int .i64 3] w fun e w' => e = .returned (.int .u64 512) ∧ w = w') := fun w => limit_any w 3 (by omega)
  have HRN : Hid (∀ w, Rd w p q l (at_ + 1) 0 → Calls Tryd.prog 79 #[.pointer (some ⟨p, 0, none⟩), .int .u8 (l[at_] % 32 : Nat), .int .u64 512] w fun e w' => NumR p q l D w e w') := fun w hr => by rw [← hD]; exact readNumber_any w p q l (at_ + 1) _ 512 hr (by omega) (by omega) (by omega)
  clear h1 hD ht
  generalize l[at_] % 32 = E at HRN hand
  generalize l[at_] = b at HU hb HK hand
  have hk4 : ((k : Int) == 4) = false := beq_eq_false_iff_ne.2 (by omega)
  generalize hN2 : D.2.1 = N at *
  have HN2 : Hid (D.2.1 = N) := hN2
  have hN3 : ((D.2.1 : Nat) : Int) = (N : Int) := by rw [hN2]
  have HM : Hid (D.2.2.take N = m2) := hm2
  clear hm2
  clear hN2
  go_enter Tryd.func68, Tryd.ntmps68
  go_wp2
  refine wp_scope_once 0 rfl ?_
  go_wp2_with (first | (go_at_call 77; refine (HU.out _ (HB.out _ _ _)).mono ?_; rintro e w1 ⟨rfl, hq⟩; have HEr := err_any w1 p q l _ 0 hq.out.1; have HL := (Loc.new w).off hq.out.2 (by omega) (by omega) (by omega); obtain ⟨⟨z0, z1, z2, z3⟩, ⟨x0, x1, x2, x3⟩, fz, fx, hlt⟩ := HL.reads) | (go_at_call 79; refine (HRN.out _ (hq.out.1.off (off_set w1 (w.heap.size + 1) 0 _) (by omega) (by omega))).mono ?_; rintro e w3 ⟨at3, er3, rfl, hn⟩; have HL3 := (HL.setx 0 (.int .i64 3) (by omega)).off hn.out.2.1 (by omega) (by omega) (by omega); obtain ⟨⟨z0, z1, z2, z3⟩, ⟨x0, x1, x2, x3⟩, fz, fx, hlt⟩ := HL3.reads; simp only [if_true, Nat.reduceEqDiff, if_false] at x0 x1 x2 x3; obtain ⟨her, hdr⟩ := hn.out.2.2.1 H1.out; subst her; have HDR : Hid (l.drop at3 = D.2.2) := hdr; clear hdr) | (go_at_call 81; refine (raw_more w3 p q l at3 N m2 hn.out.1 hz (by rw [HDR.out]; exact HM.out) (by have := congrArg List.length HDR.out; rw [List.length_drop] at this; have := hn.out.1.le; omega)).mono ?_; rintro e w4 ⟨g, rfl, hr⟩; have HEr4 : Hid (∀ u, Calls Tryd.prog 70 #[.pointer (some ⟨p, 0, none⟩)] (w4.setCell ⟨w.heap.size + 1, 2, none⟩ u) fun e w' => e = .returned (.int .i64 0) ∧ (w4.setCell ⟨w.heap.size + 1, 2, none⟩ u) = w') := (fun u => err_any _ p q l _ 0 (hr.out.2.2.1.off (off_set w4 (w.heap.size + 1) 2 u) (by omega) (by omega))); have HL4 := HL3.off hr.out.2.2.2 (by omega) (by omega) (by omega); obtain ⟨⟨z0, z1, z2, z3⟩, ⟨x0, x1, x2, x3⟩, fz, fx, hlt⟩ := HL4.reads; simp only [if_true, Nat.reduceEqDiff, if_false] at x0 x1 x2 x3; have hgl := hr.out.2.1; have hl3 := hn.out.2.1.size) | (go_at_call 70; refine HEr.mono ?_; rintro e w2 ⟨rfl, rfl⟩) | (go_at_call 70; refine (HEr4.out _).mono ?_; rintro e w5 ⟨rfl, rfl⟩) | (go_at_call 78; refine (HK.out _).mono ?_; rintro e w2 ⟨rfl, rfl⟩) | (go_at_call 80; refine (HLm.out _).mono ?_; rintro e w2 ⟨rfl, rfl⟩) | (go_at_call 61; refine (HTX.out.valid _ _ _ m2 (HTW.out _ (off_put (((off_put (off_allocs (HB.out _ _ _) hq.out.2) (off_set w1 (w.heap.size + 1) 0 _) (by omega)).trans hn.out.2.1 (fun _ _ t => t)).trans hr.out.2.2.2 (fun _ _ t => t)) (off_set w4 (w.heap.size + 1) 2 _) (by omega))) (hr.out.1.off (off_set w4 (w.heap.size + 1) 2 _) (by omega)).row (by omega) (Nat.le_refl _)).mono ?_; rw [h3]; rintro e w6 ⟨rfl, hv6⟩; have HL6 := (HL4.setx 2 (.slice (some ⟨g, 0, none⟩) m2.length m2.length) (by omega)).off (S := fun _ => False) (Off.of_below hv6.out) id id id; obtain ⟨⟨z0, z1, z2, z3⟩, ⟨x0, x1, x2, x3⟩, fz, fx, hlt⟩ := HL6.reads; simp only [if_true, Nat.reduceEqDiff, if_false] at x0 x1 x2 x3))
  go_step3
  show _ ∧ Code.wp _ _ _ _ _
  refine ⟨rfl, ?_⟩
  go_wp2
  try rw [jump_ret]
  have hs := set4 HL6.a (.int .i64 0) (.int .u64 0) (.slice none 0 0) (.slice none 0 0)
  generalize ((((w6.setCell ⟨w.heap.size, 0, none⟩ (.int .i64 0)).setCell ⟨w.heap.size, 1, none⟩ (.int .u64 0)).setCell ⟨w.heap.size, 2, none⟩ (.slice none 0 0)).setCell ⟨w.heap.size, 3, none⟩ (.slice none 0 0)) = W at hs ⊢
  have r0 := cell_of hs.1 0
  have r1 := cell_of hs.1 1
  have r2 := cell_of hs.1 2
  have r3 := cell_of hs.1 3
  simp at r0 r1 r2 r3
  refine bodyPost_ret (v := .tuple #[iv .nil none 0 none 0, .bool false]) (by simp [results, Tryd.results68, go_sem, r0, r1, r2, r3, kd, nm, bs, its]) rfl ?_
  rw [HF.out]
  exact ⟨none, 0, none, 0, at3 + N, 0, rfl, ((hr.out.2.2.1.off (off_set w4 (w.heap.size + 1) 2 _) (by omega) (by omega)).later hv6.out).off hs.2 (by omega) (by omega), off_put ((off_put (((off_put (off_allocs (HB.out _ _ _) hq.out.2) (off_set w1 (w.heap.size + 1) 0 _) (by omega)).trans hn.out.2.1 (fun _ _ t => t)).trans hr.out.2.2.2 (fun _ _ t => t)) (off_set w4 (w.heap.size + 1) 2 _) (by omega)).trans (Off.of_below (S := fun _ => False) hv6.out) (fun _ _ t => t.elim)) hs.2 (Nat.le_refl _), fun h => by simp at h, fun h => by simp at h, fun _ => rfl, fun _ => ⟨rfl, rfl, rfl, rfl, rfl⟩⟩

set_option maxRecDepth 20000 in
set_option maxHeartbeats 4000000 in
theorem read_text (V : List Nat → Bool) (TB : World → Prop) (hT : Txt V TB) (M m : Nat) (hM : M = m + 1) (w : World) (p q : Nat) (l : List Nat) (at_ k : Nat) (hk : k < 4) (hR : Rd w p q l at_ 0) (hw : TB w) (hp1 : 1 < p) (hz : l.length ≤ 140737488000000) (ha : at_ < l.length) (ht : l[at_] / 32 = 3) (h1 : (rn (l[at_] % 32) 512 (l.drop (at_ + 1))).1 = 0) (h2 : ¬ (rn (l[at_] % 32) 512 (l.drop (at_ + 1))).2.2.length < (rn (l[at_] % 32) 512 (l.drop (at_ + 1))).2.1) (h3 : V ((rn (l[at_] % 32) 512 (l.drop (at_ + 1))).2.2.take (rn (l[at_] % 32) 512 (l.drop (at_ + 1))).2.1) = true) :
    Calls Tryd.prog 68 #[.pointer (some ⟨p, 0, none⟩), .int .i64 k] w fun e w' => ItR p q l M (dec V M (l.drop at_)) w e w' := by
  obtain ⟨D, hD⟩ : ∃ D, rn (l[at_] % 32) 512 (l.drop (at_ + 1)) = D := ⟨_, rfl⟩
  rw [hD] at h1 h2 h3
  have HF : Hid (dec V M (l.drop at_) = (0, mkI 3 0 (D.2.2.take D.2.1) [], D.2.2.drop D.2.1)) := by
    show _ = _
    rw [hM, List.drop_eq_getElem_cons ha, dec, ht, if_neg (by decide), show limN (kindN 3) = 512 from rfl, hD, if_pos h1, show kindN 3 = 3 from rfl, decB, if_neg (by omega), if_neg (by omega), if_neg h2, if_neg (by rw [h3]; simp)]
    try rfl
  obtain ⟨_, hN, hN64⟩ := hd_of (b := l[at_]) (r := l.drop (at_ + 1)) (g := 512) (N := D.2.1) (r2 := D.2.2) (fun x hx => hR.all.byte x (List.mem_of_mem_drop hx)) (by omega) (by rw [hD, ← h1])
  have H1 : Hid (D.1 = 0) := h1
  have hdd : decide (D.1 = 0) = true := decide_eq_true h1
  generalize dec V M (l.drop at_) = C at HF ⊢
  obtain ⟨m2, hm2⟩ : ∃ m2, D.2.2.take D.2.1 = m2 := ⟨_, rfl⟩
  rw [hm2] at HF h3
  have hml : m2.length ≤ 512 := by rw [← hm2, List.length_take]; omega
  have HTX : Hid (Txt V TB) := hT
  have HTW : Hid (∀ w1, Off (fun k => k = p) w w1 → TB w1) := fun w1 ho => hT.off _ w w1 hw ho (by omega) (by omega)
  clear hT hw
  have hb : l[at_] < 256 := hR.all.byte _ (List.getElem_mem ha)
  have HU : Hid (∀ w1, Below w.heap.size w w1 → Calls Tryd.prog 77 #[.pointer (some ⟨p, 0, none⟩)] w1 fun e w' => e = .returned (.int .u8 (l[at_] : Nat)) ∧ Hid (Rd w' p q l (at_ + 1) 0 ∧ Off (fun k => k = p) w1 w')) := fun w1 hb => u8_more w1 p q l at_ (hR.later hb) (by omega) ha
  have HB : Hid (∀ X Y Z : Obj, Below w.heap.size w (((w.alloc X).alloc Y).alloc Z)) := fun X Y Z => (((Below.refl _ w).alloc (Nat.le_refl _) X).alloc (by simp) Y).alloc (by simp; omega) Z
  have hp := hR.lt
  clear hR
  have HK : Hid (∀ w, Calls Tryd.prog 78 #[.int .u8 ((l[at_] : Int) / 32)] w fun e w' => e = .returned (.tuple #[.int .i64 3, .bool true]) ∧ w = w') := fun w => by
    have := kindOf_any w (l[at_] / 32) (by omega)
    rw [ht] at this
    rw [show ((l[at_] : Int) / 32) = ((l[at_] / 32 : Nat) : Int) by omega, ht]
    exact this
  have hand := and31 l[at_] hb
  have HLm : Hid (∀ w, Calls Tryd.prog 80 #[.int .i64 3] w fun e w' => e = .returned (.int .u64 512) ∧ w = w') := fun w => limit_any w 3 (by omega)
  have HRN : Hid (∀ w, Rd w p q l (at_ + 1) 0 → Calls Tryd.prog 79 #[.pointer (some ⟨p, 0, none⟩), .int .u8 (l[at_] % 32 : Nat), .int .u64 512] w fun e w' => NumR p q l D w e w') := fun w hr => by rw [← hD]; exact readNumber_any w p q l (at_ + 1) _ 512 hr (by omega) (by omega) (by omega)
  clear h1 hD ht
  generalize l[at_] % 32 = E at HRN hand
  generalize l[at_] = b at HU hb HK hand
  have hk4 : ((k : Int) == 4) = false := beq_eq_false_iff_ne.2 (by omega)
  generalize hN2 : D.2.1 = N at *
  have HN2 : Hid (D.2.1 = N) := hN2
  have hN3 : ((D.2.1 : Nat) : Int) = (N : Int) := by rw [hN2]
  have HM : Hid (D.2.2.take N = m2) := hm2
  clear hm2
  clear hN2
  go_enter Tryd.func68, Tryd.ntmps68
  go_wp2
  refine wp_scope_once 0 rfl ?_
  go_wp2_with (first | (go_at_call 77; refine (HU.out _ (HB.out _ _ _)).mono ?_; rintro e w1 ⟨rfl, hq⟩; have HEr := err_any w1 p q l _ 0 hq.out.1; have HL := (Loc.new w).off hq.out.2 (by omega) (by omega) (by omega); obtain ⟨⟨z0, z1, z2, z3⟩, ⟨x0, x1, x2, x3⟩, fz, fx, hlt⟩ := HL.reads) | (go_at_call 79; refine (HRN.out _ (hq.out.1.off (off_set w1 (w.heap.size + 1) 0 _) (by omega) (by omega))).mono ?_; rintro e w3 ⟨at3, er3, rfl, hn⟩; have HL3 := (HL.setx 0 (.int .i64 3) (by omega)).off hn.out.2.1 (by omega) (by omega) (by omega); obtain ⟨⟨z0, z1, z2, z3⟩, ⟨x0, x1, x2, x3⟩, fz, fx, hlt⟩ := HL3.reads; simp only [if_true, Nat.reduceEqDiff, if_false] at x0 x1 x2 x3; obtain ⟨her, hdr⟩ := hn.out.2.2.1 H1.out; subst her; have HDR : Hid (l.drop at3 = D.2.2) := hdr; clear hdr) | (go_at_call 81; refine (raw_more w3 p q l at3 N m2 hn.out.1 hz (by rw [HDR.out]; exact HM.out) (by have := congrArg List.length HDR.out; rw [List.length_drop] at this; have := hn.out.1.le; omega)).mono ?_; rintro e w4 ⟨g, rfl, hr⟩; have HEr4 : Hid (∀ u, Calls Tryd.prog 70 #[.pointer (some ⟨p, 0, none⟩)] (w4.setCell ⟨w.heap.size + 1, 2, none⟩ u) fun e w' => e = .returned (.int .i64 0) ∧ (w4.setCell ⟨w.heap.size + 1, 2, none⟩ u) = w') := (fun u => err_any _ p q l _ 0 (hr.out.2.2.1.off (off_set w4 (w.heap.size + 1) 2 u) (by omega) (by omega))); have HL4 := HL3.off hr.out.2.2.2 (by omega) (by omega) (by omega); obtain ⟨⟨z0, z1, z2, z3⟩, ⟨x0, x1, x2, x3⟩, fz, fx, hlt⟩ := HL4.reads; simp only [if_true, Nat.reduceEqDiff, if_false] at x0 x1 x2 x3; have hgl := hr.out.2.1; have hl3 := hn.out.2.1.size) | (go_at_call 70; refine HEr.mono ?_; rintro e w2 ⟨rfl, rfl⟩) | (go_at_call 70; refine (HEr4.out _).mono ?_; rintro e w5 ⟨rfl, rfl⟩) | (go_at_call 78; refine (HK.out _).mono ?_; rintro e w2 ⟨rfl, rfl⟩) | (go_at_call 80; refine (HLm.out _).mono ?_; rintro e w2 ⟨rfl, rfl⟩) | (go_at_call 61; refine (HTX.out.valid _ _ _ m2 (HTW.out _ (off_put (((off_put (off_allocs (HB.out _ _ _) hq.out.2) (off_set w1 (w.heap.size + 1) 0 _) (by omega)).trans hn.out.2.1 (fun _ _ t => t)).trans hr.out.2.2.2 (fun _ _ t => t)) (off_set w4 (w.heap.size + 1) 2 _) (by omega))) (hr.out.1.off (off_set w4 (w.heap.size + 1) 2 _) (by omega)).row (by omega) (Nat.le_refl _)).mono ?_; rw [h3]; rintro e w6 ⟨rfl, hv6⟩; have HL6 := (HL4.setx 2 (.slice (some ⟨g, 0, none⟩) m2.length m2.length) (by omega)).off (S := fun _ => False) (Off.of_below hv6.out) id id id; obtain ⟨⟨z0, z1, z2, z3⟩, ⟨x0, x1, x2, x3⟩, fz, fx, hlt⟩ := HL6.reads; simp only [if_true, Nat.reduceEqDiff, if_false] at x0 x1 x2 x3))
  try rw [jump_ret]
  have hs := set4 HL6.a (.int .i64 3) (.int .u64 0) (.slice (some ⟨g, 0, none⟩) m2.length m2.length) (.slice none 0 0)
  generalize ((((w6.setCell ⟨w.heap.size, 0, none⟩ (.int .i64 3)).setCell ⟨w.heap.size, 1, none⟩ (.int .u64 0)).setCell ⟨w.heap.size, 2, none⟩ (.slice (some ⟨g, 0, none⟩) m2.length m2.length)).setCell ⟨w.heap.size, 3, none⟩ (.slice none 0 0)) = W at hs ⊢
  have r0 := cell_of hs.1 0
  have r1 := cell_of hs.1 1
  have r2 := cell_of hs.1 2
  have r3 := cell_of hs.1 3
  simp at r0 r1 r2 r3
  refine bodyPost_ret (v := .tuple #[iv (mkI 3 0 m2 []) (some ⟨g, 0, none⟩) m2.length none 0, .bool true]) (by simp [results, Tryd.results68, go_sem, r0, r1, r2, r3, kd_mk, nm_mk, bs_mk, its_mk]) rfl ?_
  rw [HF.out]
  refine ⟨some ⟨g, 0, none⟩, m2.length, none, 0, at3 + N, 0, rfl, ((hr.out.2.2.1.off (off_set w4 (w.heap.size + 1) 2 _) (by omega) (by omega)).later hv6.out).off hs.2 (by omega) (by omega), off_put ((off_put (((off_put (off_allocs (HB.out _ _ _) hq.out.2) (off_set w1 (w.heap.size + 1) 0 _) (by omega)).trans hn.out.2.1 (fun _ _ t => t)).trans hr.out.2.2.2 (fun _ _ t => t)) (off_set w4 (w.heap.size + 1) 2 _) (by omega)).trans (Off.of_below (S := fun _ => False) hv6.out) (fun _ _ t => t.elim)) hs.2 (Nat.le_refl _), fun _ => ⟨rfl, ?_, ?_, Nat.le_refl _⟩, fun h => by simp at h, fun h => by simp at h, fun h => absurd rfl h⟩
  · rw [← HDR.out, List.drop_drop]
  · rw [hM]
    exact Lie.flat 3 0 m2 m none (by omega) (by omega) (by omega) (((hr.out.1.off (off_set w4 (w.heap.size + 1) 2 _) (by omega)).later hv6.out).off hs.2 (by omega)).row (fun _ c hc => by cases hc; show ¬ g < w.heap.size; omega)

end Go.Proofs.YtjfmgokpnpmdpaaDoor
