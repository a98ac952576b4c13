/- The walk of SegmentBack, at most 700 bytes. -/
import Derived.Test.YtidmkcnoncanbaaZWakes
import Derived.Test.YtidmkcnoncanbaaZShortW
import Derived.Test.YtidmkcnoncanbaaZSBackA
import Derived.Deep.Cut
namespace Go.Proofs.Ytidmkcnoncanbaa
open Go.RowKit
set_option linter.unusedVariables false
set_option maxRecDepth 20000 in
set_option maxHeartbeats 16000000 in
theorem sback_small (w : World) (s : Sg) (a : Option Addr) (c : Nat) (a2 : Option Addr) (c2 : Nat) (hc : Came w s a c a2 c2) (ab : Option Addr) (cb : Nat) (l : List Nat) (hr : Row w ab l) (hz : l.length ≤ 140737488351232) (hlc : l.length ≤ cb) (hcm : cb ≤ maxLen) (hbig : ¬ 700 < l.length) :
    Calls Try.prog 6 #[sv s a c a2 c2, .slice ab l.length cb] w fun e w' => e = .returned (.bool true) ∧ Hid (Below w.heap.size w w') := by
  have HB : Hid (∀ (w : World) (X : Obj), Below w.heap.size w (w.alloc X)) := fun w X => (Below.refl _ w).alloc (Nat.le_refl _) X
  have HWK : Hid (∀ W, Calls Try.prog 9 #[] W fun e w' => e = .returned (.bool true) ∧ Hid (Below W.heap.size W w')) := fun W => wakes_any W
  have HSH : Hid (∀ W, Below w.heap.size w W → Calls Try.prog 15 #[sv s a c a2 c2] W fun e w' => ∃ a' c' a2' c2', e = .returned (sv (shortS s) a' c' a2' c2') ∧ Hid (Below W.heap.size W w' ∧ Came w' (shortS s) a' c' a2' c2' ∧ (∀ bb, a' = some bb → W.heap.size ≤ bb.block) ∧ (∀ bb, a2' = some bb → W.heap.size ≤ bb.block))) := fun W hb => short_new s a c a2 c2 W (hc.later hb)
  obtain ⟨M, L, HR, HM, hMc, hM7, hMe⟩ : ∃ M L, Hid (Row w ab L) ∧ Hid (L.length = M) ∧ M ≤ cb ∧ M ≤ 700 ∧ M = l.length := ⟨l.length, l, hr, rfl, by omega, by omega, rfl⟩
  clear hc hr
  generalize shortS s = S at HSH
  go_enter Try.func6, Try.ntmps6
  go_wp2_with (go_at_call 9; refine (HWK.out _).mono ?_; rintro e w1 ⟨rfl, hb1⟩; obtain ⟨e0, e1, e2, e3, e4, e5, e6, e7, e8, e9, e10, e11, e12⟩ := scells (old_block hb1.out (made_at rfl)))
  go_cut [1] from 14 (fun v wc => v = .slice ab M cb ∧ ∃ b d b2 d2, Hid (BackA w wc S b d b2 d2))
  case first =>
    subst hMe
    clear HWK
    go_region_with (go_at_call 15; refine (HSH.out _ (below_of (below_of (HB.out _ _) hb1.out) ((Below.refl _ _).drew))).mono ?_; rintro e w2 ⟨b, d, b2, d2, rfl, hq2⟩; have hP2 : Hid (w2.heap[w.heap.size]? = some (sc s a c a2 c2)) := (show _ = _ from old_block (below_of ((Below.refl _ _).drew) hq2.out.1) (old_block hb1.out (made_at rfl))); obtain ⟨f0, f1, f2, f3, f4, f5, f6, f7, f8, f9, f10, f11, f12⟩ := scells hP2.out; have ff := frozen_of hP2.out)
    all_goals
      have HFH : w.heap.size + 1 ≤ w1.drew.heap.size := by have := hb1.out.size; simp at this ⊢; omega
      clear e0 e1 e2 e3 e4 e5 e6 e7 e8 e9 e10 e11 e12 f0 f1 f2 f3 f4 f5 f6 f7 f8 f9 f10 f11 f12
      go_wp2
      go_meet
      case rel => exact ⟨rfl, b, d, b2, d2, backA_set0 (below_of (below_of (HB.out _ _) hb1.out) (below_of ((Below.refl _ _).drew) hq2.out.1)) hP2.out hq2.out.2.1 HFH hq2.out.2.2.1 hq2.out.2.2.2⟩
  case rest =>
    obtain ⟨rfl, b, d, b2, d2, HA⟩ := hcut
    clear e0 e1 e2 e3 e4 e5 e6 e7 e8 e9 e10 e11 e12 hMe HSH HWK
    obtain ⟨f0, f1, f2, f3, f4, f5, f6, f7, f8, f9, f10, f11, f12⟩ := scells HA.out.1
    have HW : Hid (Below w.heap.size w wc) := HA.out.2.1
    have HCE : Hid (∀ W, Below wc.heap.size wc W → W.heap[w.heap.size]? = some (sc S b d b2 d2)) := fun W hb => old_block hb HA.out.1
    have HSA : Hid (∀ W a' c' a2' c2', Below wc.heap.size wc W → Came W S a' c' a2' c2' → Calls Try.prog 16 #[sv S b d b2 d2, sv S a' c' a2' c2'] W fun e w' => e = .returned (.bool true) ∧ Hid (Below W.heap.size W w')) := fun W a' c' a2' c2' hb h => by
      have h0 := HA.out.2.2.later hb
      have := Go.Proofs.Ytidmkcnoncanbaa.same_any S S b d b2 d2 a' c' a2' c2' W h0.row h0.rowc h.row h.rowc h0.fit.cls h0.fit.cls
      rw [same_self] at this
      exact this
    have HS0 : Hid (∀ W a' c' a2' c2', Came W zeroS a' c' a2' c2' → Calls Try.prog 16 #[sv zeroS a' c' a2' c2', sv zeroS none 0 none 0] W fun e w' => e = .returned (.bool true) ∧ Hid (Below W.heap.size W w')) := fun W a' c' a2' c2' h => by
      have := Go.Proofs.Ytidmkcnoncanbaa.same_any zeroS zeroS a' c' a2' c2' none 0 none 0 W h.row h.rowc (row_nil _ _) (rowC_nil _ _) (by decide) (by decide)
      rw [same_self] at this
      exact this
    have HDB : Hid (∀ W, Below wc.heap.size wc W → Calls Try.prog 12 #[.slice ab M cb] W fun e w' => ∃ a' c' a2' c2', e = .returned (.tuple #[sv (decS L).2 a' c' a2' c2', .int .i64 (decS L).1]) ∧ Hid (Below W.heap.size W w' ∧ Came w' (decS L).2 a' c' a2' c2')) := fun W hb => by
      have := decode_any W ab cb L (HR.out.later (below_of HW.out hb)) (by rw [HM.out]; omega) (by rw [HM.out]; exact hMc) hcm
      unfold Dec1 at this
      rw [HM.out] at this
      exact this
    have HDC : Hid ((∃ t, decS L = (0, t) ∧ encS t = L ∧ okS t = true) ∨ decS L = (7, zeroS) ∨ decS L = (130, zeroS) ∨ decS L = (200, zeroS)) := by
      rcases dec_cases L with ⟨t, ht⟩ | h
      · obtain ⟨h1, h2, _⟩ := dec_sound L HR.out.1 t ht
        exact .inl ⟨t, ht, h1, h2⟩
      · exact .inr h
    go_wp2_with fail
    refine (encode_any S b d b2 d2 wc HA.out.2.2).mono ?_
    rintro e w3 (⟨hok, g, rfl, hq3⟩ | ⟨hok, rfl, hq3⟩)
    · have hl := body_len S hok HA.out.2.2.fit.szd
      have hl2 := enc_len S
      have hsz : sizeS S = (encS S).length := by rw [sizeS, if_pos hok]
      have HD0 : Hid (decS (encS S) = (0, S)) := dec_enc S hok HA.out.2.2.fit.szd
      generalize encS S = X at hq3 hl2 hsz HD0 ⊢
      have hX : 7 ≤ X.length ∧ X.length ≤ 130 := by omega
      have HSZ : Hid (∀ W, Below wc.heap.size wc W → Calls Try.prog 19 #[sv S b d b2 d2] W fun e w' => e = .returned (.int .i64 (X.length : Nat)) ∧ Hid (Below W.heap.size W w')) := fun W hb => by
        have := size_seg S b d b2 d2 W (HA.out.2.2.later hb)
        rw [hsz] at this
        exact this
      have HDX : Hid (Calls Try.prog 12 #[.slice (some ⟨g, 0, none⟩) X.length X.length] w3 fun e w' => ∃ a' c' a2' c2', e = .returned (.tuple #[sv S a' c' a2' c2', .int .i64 0]) ∧ Hid (Below w3.heap.size w3 w' ∧ Came w' S a' c' a2' c2')) := by
        have := decode_any w3 (some ⟨g, 0, none⟩) X.length X hq3.out.1.row (by omega) (Nat.le_refl _) (by unfold maxLen; omega)
        unfold Dec1 at this
        rw [HD0.out] at this
        exact this
      have HB3 : Hid (Below wc.heap.size wc w3) := hq3.out.2.2
      clear hok hl hl2 hsz HD0 f0 f1 f2 f3 f4 f5 f6 f7 f8 f9 f10 f11 f12
      go_wp2_with (go_at_call 12; refine HDX.out.mono ?_; rintro e w4 ⟨p, cp, p2, cp2, rfl, hq4⟩; have HB4 : Hid (Below wc.heap.size wc w4) := (below_of HB3.out hq4.out.1); obtain ⟨g0, g1, g2, g3, g4, g5, g6, g7, g8, g9, g10, g11, g12⟩ := scells (HCE.out w4 HB4.out); have z4 : w.heap.size < w4.heap.size := (Array.getElem?_eq_some_iff.1 (HCE.out w4 HB4.out)).1)
      clear HDX
      go_wp2_with (first | (go_at_call 16; refine (HSA.out _ p cp p2 cp2 (below_of HB4.out (HB.out _ _)) (hq4.out.2.later (HB.out _ _))).mono ?_; rintro e w5 ⟨rfl, hb5⟩; have HB5 : Hid (Below wc.heap.size wc w5) := below_of (below_of HB4.out (HB.out _ _)) hb5.out; clear g0 g1 g2 g3 g4 g5 g6 g7 g8 g9 g10 g11 g12; obtain ⟨i0, i1, i2, i3, i4, i5, i6, i7, i8, i9, i10, i11, i12⟩ := scells (HCE.out w5 HB5.out)) | (go_at_call 19; refine (HSZ.out _ HB5.out).mono ?_; rintro e w6 ⟨rfl, hb6⟩; have HB6 : Hid (Below wc.heap.size wc w6) := below_of HB5.out hb6.out; clear i0 i1 i2 i3 i4 i5 i6 i7 i8 i9 i10 i11 i12))
      rcases HDC.out with ⟨t, ht, het, hot⟩ | hd | hd | hd
      · rw [ht] at HDB
        replace HDB : Hid (∀ W, Below wc.heap.size wc W → Calls Try.prog 12 #[.slice ab M cb] W fun e w' => ∃ a' c' a2' c2', e = .returned (.tuple #[sv t a' c' a2' c2', .int .i64 0]) ∧ Hid (Below W.heap.size W w' ∧ Came w' t a' c' a2' c2')) := HDB
        have HEN : Hid (∀ W a' c' a2' c2', Came W t a' c' a2' c2' → Calls Try.prog 18 #[sv t a' c' a2' c2'] W fun e w' => ∃ y, e = .returned (.tuple #[.slice (some ⟨y, 0, none⟩) M M, .int .i64 0]) ∧ Hid (Bs w' y L ∧ W.heap.size ≤ y ∧ Below W.heap.size W w')) := fun W a' c' a2' c2' h => by
          have := encode_ok t a' c' a2' c2' W h hot
          unfold EncY at this
          rw [het, HM.out] at this
          exact this
        have HEQ : Hid (∀ W y, Below wc.heap.size wc W → Bs W y L → Calls Try.prog 14 #[.slice (some ⟨y, 0, none⟩) M M, .slice ab M cb] W fun e w' => e = .returned (.bool true) ∧ w' = W) := fun W y hb h => by
          have := bytesEqual_any (some ⟨y, 0, none⟩) ab M cb L L W h.row (HR.out.later (below_of HW.out hb))
          rw [decide_eq_true rfl, HM.out] at this
          exact this
        have HCK : Hid (∀ W a' c' a2' c2', Came W t a' c' a2' c2' → Calls Try.prog 20 #[sv t a' c' a2' c2'] W fun e w' => e = .returned (.int .i64 0) ∧ Hid (Below W.heap.size W w')) := fun W a' c' a2' c2' h => by
          have := check_any t a' c' a2' c2' W h
          rw [chk_ok hot] at this
          exact this
        clear ht het hot HDC
        go_wp2_with (first | (go_at_call 12; refine (HDB.out _ HB6.out).mono ?_; rintro e w7 ⟨q, cq, q2, cq2, rfl, hq7⟩) | (go_at_call 18; refine (HEN.out _ q cq q2 cq2 (hq7.out.2.later (HB.out _ _))).mono ?_; rintro e w8 ⟨y, rfl, hq8⟩; obtain ⟨k0, k1, k2, k3, k4, k5, k6, k7, k8, k9, k10, k11, k12⟩ := scells (old_block hq8.out.2.2 (made_at rfl))) | (go_at_call 14; refine (HEQ.out _ y (below_of (below_of (below_of HB6.out hq7.out.1) (HB.out _ _)) hq8.out.2.2) hq8.out.1).mono ?_; rintro e w9 ⟨rfl, rfl⟩) | (go_at_call 20; refine (HCK.out _ q cq q2 cq2 ((hq7.out.2.later (HB.out _ _)).later hq8.out.2.2)).mono ?_; rintro e w10 ⟨rfl, hb10⟩))
        go_ret
        exact ⟨rfl, below_of (below_of (below_of (below_of (below_of HW.out HB6.out) hq7.out.1) (HB.out _ _)) hq8.out.2.2) hb10.out⟩
      · rw [hd] at HDB
        replace HDB : Hid (∀ W, Below wc.heap.size wc W → Calls Try.prog 12 #[.slice ab M cb] W fun e w' => ∃ a' c' a2' c2', e = .returned (.tuple #[sv zeroS a' c' a2' c2', .int .i64 7]) ∧ Hid (Below W.heap.size W w' ∧ Came w' zeroS a' c' a2' c2')) := HDB
        clear hd HDC
        go_wp2_with (first | (go_at_call 12; refine (HDB.out _ HB6.out).mono ?_; rintro e w7 ⟨q, cq, q2, cq2, rfl, hq7⟩) | (go_at_call 16; refine (HS0.out _ q cq q2 cq2 (hq7.out.2.later (HB.out _ _))).mono ?_; rintro e w8 ⟨rfl, hb8⟩))
        go_ret
        exact ⟨rfl, below_of (below_of (below_of (below_of HW.out HB6.out) hq7.out.1) (HB.out _ _)) hb8.out⟩
      · rw [hd] at HDB
        replace HDB : Hid (∀ W, Below wc.heap.size wc W → Calls Try.prog 12 #[.slice ab M cb] W fun e w' => ∃ a' c' a2' c2', e = .returned (.tuple #[sv zeroS a' c' a2' c2', .int .i64 130]) ∧ Hid (Below W.heap.size W w' ∧ Came w' zeroS a' c' a2' c2')) := HDB
        clear hd HDC
        go_wp2_with (first | (go_at_call 12; refine (HDB.out _ HB6.out).mono ?_; rintro e w7 ⟨q, cq, q2, cq2, rfl, hq7⟩) | (go_at_call 16; refine (HS0.out _ q cq q2 cq2 (hq7.out.2.later (HB.out _ _))).mono ?_; rintro e w8 ⟨rfl, hb8⟩))
        go_ret
        exact ⟨rfl, below_of (below_of (below_of (below_of HW.out HB6.out) hq7.out.1) (HB.out _ _)) hb8.out⟩
      · rw [hd] at HDB
        replace HDB : Hid (∀ W, Below wc.heap.size wc W → Calls Try.prog 12 #[.slice ab M cb] W fun e w' => ∃ a' c' a2' c2', e = .returned (.tuple #[sv zeroS a' c' a2' c2', .int .i64 200]) ∧ Hid (Below W.heap.size W w' ∧ Came w' zeroS a' c' a2' c2')) := HDB
        clear hd HDC
        go_wp2_with (first | (go_at_call 12; refine (HDB.out _ HB6.out).mono ?_; rintro e w7 ⟨q, cq, q2, cq2, rfl, hq7⟩) | (go_at_call 16; refine (HS0.out _ q cq q2 cq2 (hq7.out.2.later (HB.out _ _))).mono ?_; rintro e w8 ⟨rfl, hb8⟩))
        go_ret
        exact ⟨rfl, below_of (below_of (below_of (below_of HW.out HB6.out) hq7.out.1) (HB.out _ _)) hb8.out⟩
    · have HCS : Hid (∀ W, Below wc.heap.size wc W → Calls Try.prog 20 #[sv S b d b2 d2] W fun e w' => e = .returned (.int .i64 200) ∧ Hid (Below W.heap.size W w')) := fun W hb => by
        have := check_any S b d b2 d2 W (HA.out.2.2.later hb)
        rw [chk_no hok] at this
        exact this
      have HB3 : Hid (Below wc.heap.size wc w3) := hq3.out
      clear hok f0 f1 f2 f3 f4 f5 f6 f7 f8 f9 f10 f11 f12
      obtain ⟨g0, g1, g2, g3, g4, g5, g6, g7, g8, g9, g10, g11, g12⟩ := scells (HCE.out w3 HB3.out)
      go_wp2_with (go_at_call 20; refine (HCS.out _ HB3.out).mono ?_; rintro e w6 ⟨rfl, hb6⟩; have HB6 : Hid (Below wc.heap.size wc w6) := below_of HB3.out hb6.out; clear g0 g1 g2 g3 g4 g5 g6 g7 g8 g9 g10 g11 g12)
      rcases HDC.out with ⟨t, ht, het, hot⟩ | hd | hd | hd
      · rw [ht] at HDB
        replace HDB : Hid (∀ W, Below wc.heap.size wc W → Calls Try.prog 12 #[.slice ab M cb] W fun e w' => ∃ a' c' a2' c2', e = .returned (.tuple #[sv t a' c' a2' c2', .int .i64 0]) ∧ Hid (Below W.heap.size W w' ∧ Came w' t a' c' a2' c2')) := HDB
        have HEN : Hid (∀ W a' c' a2' c2', Came W t a' c' a2' c2' → Calls Try.prog 18 #[sv t a' c' a2' c2'] W fun e w' => ∃ y, e = .returned (.tuple #[.slice (some ⟨y, 0, none⟩) M M, .int .i64 0]) ∧ Hid (Bs w' y L ∧ W.heap.size ≤ y ∧ Below W.heap.size W w')) := fun W a' c' a2' c2' h => by
          have := encode_ok t a' c' a2' c2' W h hot
          unfold EncY at this
          rw [het, HM.out] at this
          exact this
        have HEQ : Hid (∀ W y, Below wc.heap.size wc W → Bs W y L → Calls Try.prog 14 #[.slice (some ⟨y, 0, none⟩) M M, .slice ab M cb] W fun e w' => e = .returned (.bool true) ∧ w' = W) := fun W y hb h => by
          have := bytesEqual_any (some ⟨y, 0, none⟩) ab M cb L L W h.row (HR.out.later (below_of HW.out hb))
          rw [decide_eq_true rfl, HM.out] at this
          exact this
        have HCK : Hid (∀ W a' c' a2' c2', Came W t a' c' a2' c2' → Calls Try.prog 20 #[sv t a' c' a2' c2'] W fun e w' => e = .returned (.int .i64 0) ∧ Hid (Below W.heap.size W w')) := fun W a' c' a2' c2' h => by
          have := check_any t a' c' a2' c2' W h
          rw [chk_ok hot] at this
          exact this
        clear ht het hot HDC
        go_wp2_with (first | (go_at_call 12; refine (HDB.out _ HB6.out).mono ?_; rintro e w7 ⟨q, cq, q2, cq2, rfl, hq7⟩) | (go_at_call 18; refine (HEN.out _ q cq q2 cq2 (hq7.out.2.later (HB.out _ _))).mono ?_; rintro e w8 ⟨y, rfl, hq8⟩; obtain ⟨k0, k1, k2, k3, k4, k5, k6, k7, k8, k9, k10, k11, k12⟩ := scells (old_block hq8.out.2.2 (made_at rfl))) | (go_at_call 14; refine (HEQ.out _ y (below_of (below_of (below_of HB6.out hq7.out.1) (HB.out _ _)) hq8.out.2.2) hq8.out.1).mono ?_; rintro e w9 ⟨rfl, rfl⟩) | (go_at_call 20; refine (HCK.out _ q cq q2 cq2 ((hq7.out.2.later (HB.out _ _)).later hq8.out.2.2)).mono ?_; rintro e w10 ⟨rfl, hb10⟩))
        go_ret
        exact ⟨rfl, below_of (below_of (below_of (below_of (below_of HW.out HB6.out) hq7.out.1) (HB.out _ _)) hq8.out.2.2) hb10.out⟩
      · rw [hd] at HDB
        replace HDB : Hid (∀ W, Below wc.heap.size wc W → Calls Try.prog 12 #[.slice ab M cb] W fun e w' => ∃ a' c' a2' c2', e = .returned (.tuple #[sv zeroS a' c' a2' c2', .int .i64 7]) ∧ Hid (Below W.heap.size W w' ∧ Came w' zeroS a' c' a2' c2')) := HDB
        clear hd HDC
        go_wp2_with (first | (go_at_call 12; refine (HDB.out _ HB6.out).mono ?_; rintro e w7 ⟨q, cq, q2, cq2, rfl, hq7⟩) | (go_at_call 16; refine (HS0.out _ q cq q2 cq2 (hq7.out.2.later (HB.out _ _))).mono ?_; rintro e w8 ⟨rfl, hb8⟩))
        go_ret
        exact ⟨rfl, below_of (below_of (below_of (below_of HW.out HB6.out) hq7.out.1) (HB.out _ _)) hb8.out⟩
      · rw [hd] at HDB
        replace HDB : Hid (∀ W, Below wc.heap.size wc W → Calls Try.prog 12 #[.slice ab M cb] W fun e w' => ∃ a' c' a2' c2', e = .returned (.tuple #[sv zeroS a' c' a2' c2', .int .i64 130]) ∧ Hid (Below W.heap.size W w' ∧ Came w' zeroS a' c' a2' c2')) := HDB
        clear hd HDC
        go_wp2_with (first | (go_at_call 12; refine (HDB.out _ HB6.out).mono ?_; rintro e w7 ⟨q, cq, q2, cq2, rfl, hq7⟩) | (go_at_call 16; refine (HS0.out _ q cq q2 cq2 (hq7.out.2.later (HB.out _ _))).mono ?_; rintro e w8 ⟨rfl, hb8⟩))
        go_ret
        exact ⟨rfl, below_of (below_of (below_of (below_of HW.out HB6.out) hq7.out.1) (HB.out _ _)) hb8.out⟩
      · rw [hd] at HDB
        replace HDB : Hid (∀ W, Below wc.heap.size wc W → Calls Try.prog 12 #[.slice ab M cb] W fun e w' => ∃ a' c' a2' c2', e = .returned (.tuple #[sv zeroS a' c' a2' c2', .int .i64 200]) ∧ Hid (Below W.heap.size W w' ∧ Came w' zeroS a' c' a2' c2')) := HDB
        clear hd HDC
        go_wp2_with (first | (go_at_call 12; refine (HDB.out _ HB6.out).mono ?_; rintro e w7 ⟨q, cq, q2, cq2, rfl, hq7⟩) | (go_at_call 16; refine (HS0.out _ q cq q2 cq2 (hq7.out.2.later (HB.out _ _))).mono ?_; rintro e w8 ⟨rfl, hb8⟩))
        go_ret
        exact ⟨rfl, below_of (below_of (below_of (below_of HW.out HB6.out) hq7.out.1) (HB.out _ _)) hb8.out⟩
end Go.Proofs.Ytidmkcnoncanbaa
