/- (*turn).report: what has come in is reported. -/
import Derived.Test.YthmolodkaboakaaVLet
namespace Go.Proofs.Ythmolodkaboakaa
open Go.RowKit
set_option linter.unusedVariables false
/-- the report. -/
def repK (s : Tk) (cks : Nat) : Sg := ⟨2, s.src, s.ses, nextN s.ser, cks, 0, 0, 0, s.tot, 0, false, [], s.got.take 20⟩
def serK (s : Tk) : Tk := { s with ser := nextN s.ser }
theorem rep_set {n : Nat} {w : World} {tb : Nat} {s : Tk} {a : Option Addr} {c : Nat} {g : Option Addr} {d : Nat} (h : Tn n w tb s a c g d (.slice none 0 0)) : Tn n (w.setCell ⟨tb, 5, none⟩ (.int .u32 ((nextN s.ser : Nat) : Nat))) tb (serK s) a c g d (.slice none 0 0) ∧ Off (fun i => i = tb) w (w.setCell ⟨tb, 5, none⟩ (.int .u32 ((nextN s.ser : Nat) : Nat))) := by
  have ho : Off (fun i => i = tb) w (w.setCell ⟨tb, 5, none⟩ (.int .u32 ((nextN s.ser : Nat) : Nat))) := (Off.refl (fun i => i = tb) w).setCell (p := ⟨tb, 5, none⟩) (.inr rfl) _
  have hk := h.kn.keep h.here ho
  refine ⟨⟨?_, ⟨hk.byt, hk.got, hk.bok⟩, Nat.lt_of_lt_of_le h.lt ho.size, Nat.le_trans h.le ho.size⟩, ho⟩
  rw [heap_setCell_same _ _ _ _ _ _ h.here]
  rfl
set_option maxRecDepth 20000 in
set_option maxHeartbeats 4000000 in
theorem vrep_any (n : Nat) (s : Tk) (a : Option Addr) (c : Nat) (g : Option Addr) (d : Nat) (tb : Nat) (cks : Nat) (w : World) (h : Tn n w tb s a c g d (.slice none 0 0)) (hs : s.ser < 4294967296) (hl : s.got.length ≤ 1000) (hg0 : 0 < s.got.length) :
    Calls Try.prog 57 #[.pointer (some ⟨tb, 0, none⟩), .int .u32 (cks : Nat)] w fun e w' => e = .returned (.tuple #[]) ∧ Hid (Left n w w' tb a (serK s) [repK s cks]) := by
  obtain ⟨gg, rfl⟩ : ∃ gg, g = some ⟨gg, 0, none⟩ := by
    rcases h.kn.got.2 with ⟨_, h2⟩ | ⟨g2, cap, cur, h1, _⟩
    · omega
    · simp only [Value.slice.injEq] at h1
      exact ⟨g2, h1.1⟩
  obtain ⟨k0, k1, k2, k3, k4, k5, k6, k7, k8, k9⟩ := tc_get h.here
  have ff := frozen_of h.here
  obtain ⟨t1, o1⟩ := rep_set h
  have HT1 : Hid (Tn n (w.setCell ⟨tb, 5, none⟩ (.int .u32 ((nextN s.ser : Nat) : Nat))) tb (serK s) a c (some ⟨gg, 0, none⟩) d (.slice none 0 0)) := t1
  have HO1 : Hid (Off (fun i => i = tb) w (w.setCell ⟨tb, 5, none⟩ (.int .u32 ((nextN s.ser : Nat) : Nat)))) := o1
  clear h t1 o1
  go_enter Try.func57, Try.ntmps57
  go_wp2_with (go_at_call 64; refine (vnext_any _ hs _).mono ?_; rintro e w1 ⟨rfl, rfl⟩)
  generalize w.setCell ⟨tb, 5, none⟩ (.int .u32 ((nextN s.ser : Nat) : Nat)) = W1 at *
  clear k0 k1 k2 k3 k4 k5 k6 k7 k8 k9 ff
  obtain ⟨k0, k1, k2, _, k4, k5, _, _, _, _⟩ := tc_get HT1.out.here
  replace k0 : W1.cell? ⟨tb, 0, none⟩ = some (.int .i64 s.src) := k0
  replace k1 : W1.cell? ⟨tb, 1, none⟩ = some (.int .u32 (s.ses : Nat)) := k1
  replace k2 : W1.cell? ⟨tb, 2, none⟩ = some (.int .i64 s.tot) := k2
  replace k4 : W1.cell? ⟨tb, 4, none⟩ = some (.slice (some ⟨gg, 0, none⟩) s.got.length d) := k4
  replace k5 : W1.cell? ⟨tb, 5, none⟩ = some (.int .u32 ((nextN s.ser : Nat) : Nat)) := k5
  have HRG : Hid (RowC W1 (some ⟨gg, 0, none⟩) s.got ∧ s.got.length ≤ d ∧ d ≤ maxLen) := by
    obtain ⟨a', c', e1, e2, e3, e4, e5, _⟩ := ownC_row HT1.out.kn.got
    simp only [Value.slice.injEq, serK] at e1
    obtain ⟨rfl, _, rfl⟩ := e1
    exact ⟨e5, e3, e4⟩
  obtain ⟨M, hM⟩ : ∃ M : Nat, (s.got.take 20).length = M := ⟨_, rfl⟩
  have HCC : Hid (∀ W, Below W1.heap.size W1 W → Calls Try.prog 53 #[.slice (some ⟨gg, 0, none⟩) M d] W fun e w' => ∃ a' c', e = .returned (.slice a' M c') ∧ Hid (Below W.heap.size W w' ∧ w'.ownsRow W.heap.size 60 2 (.slice a' M c') M (ccells (s.got.take 20)))) := fun W hb => by
    have := vcopiedC_any W _ d (s.got.take 20) (rowC_take (HRG.out.1.later hb) 20) (by rw [List.length_take]; omega)
    rw [hM] at this
    exact this
  have hMd : M ≤ d := by have := HRG.out.2.1; rw [List.length_take] at hM; omega
  have hmn : (if (20 : Int) < (s.got.length : Int) then (20 : Int) else (s.got.length : Int)) = (M : Int) := by rw [List.length_take] at hM; split <;> omega
  have hmd : (M : Int) ≤ (d : Int) := by omega
  have HM : Hid ((s.got.take 20).length = M) := hM
  have hd0 : 0 < d := by have := HRG.out.2.1; omega
  clear hM
  go_cut [4] from 15 to 29 (fun u wd => ∃ a2 c2, u = .slice a2 M c2 ∧ Hid (Below W1.heap.size W1 wd ∧ wd.ownsRow W1.heap.size 60 2 (.slice a2 M c2) M (ccells (s.got.take 20))))
  case first =>
    go_region_with (go_at_call 53; refine (HCC.out _ ((Below.refl _ W1).drew)).mono ?_; rintro e w2 ⟨a2, c2, rfl, hq⟩)
    all_goals
      go_wp2
      go_meet
      case rel => exact ⟨a2, c2, rfl, below_of ((Below.refl _ W1).drew) hq.out.1, hq.out.2⟩
  case rest =>
    obtain ⟨a2, c2, rfl, HQ⟩ := hcut
    have HT2 : Hid (Tn n wc tb (serK s) a c (some ⟨gg, 0, none⟩) d (.slice none 0 0)) := HT1.out.off (S := fun _ => False) (Off.of_below HQ.out.1) (fun _ t => t.elim) id
    have HRC : Hid (RowC wc a2 (s.got.take 20) ∧ M ≤ c2 ∧ c2 ≤ maxLen ∧ ∀ bb, a2 = some bb → n ≤ bb.block ∧ bb.block ≠ tb) := by
      obtain ⟨a', c', e1, e2, e3, e4, e5, e6⟩ := ownC_row HQ.out.2
      simp only [Value.slice.injEq] at e1
      obtain ⟨rfl, _, rfl⟩ := e1
      refine ⟨e5, by omega, e4, fun bb e => ⟨Nat.le_trans HT1.out.le (e6 bb e), by have := e6 bb e; have := HT1.out.lt; omega⟩⟩
    obtain ⟨m0, m1, m2, _, _, m5, _, _, _, _⟩ := tc_get HT2.out.here
    replace m2 : wc.cell? ⟨tb, 2, none⟩ = some (.int .i64 s.tot) := m2
    replace m5 : wc.cell? ⟨tb, 5, none⟩ = some (.int .u32 ((nextN s.ser : Nat) : Nat)) := m5
    have HC : Hid (Calls Try.prog 33 #[.pointer (some ⟨tb, 0, none⟩), .agg #[.int .i64 2, .int .i64 0, .int .u32 0, .int .u32 ((nextN s.ser : Nat) : Nat), .int .u32 (cks : Nat), .int .i64 0, .int .i64 0, .int .i64 0, .int .i64 s.tot, .int .i64 0, .bool false, .slice none 0 0, .slice a2 M c2]] wc.drew fun e w' => e = .returned (.tuple #[]) ∧ Hid (Said wc.drew w' tb (serK s) a c (some ⟨gg, 0, none⟩) d (repK s cks) none 0 a2 c2)) := by
      have := vsay_any (serK s) a c (some ⟨gg, 0, none⟩) d tb ⟨2, 0, 0, nextN s.ser, cks, 0, 0, 0, s.tot, 0, false, [], s.got.take 20⟩ none 0 a2 c2 wc.drew HT2.out.here
      simp only [sv, HM.out] at this
      exact this
    have HO2 : Hid (Off (Wr tb a) w wc) := (HO1.out.mono (fun i _ e => .inl e)).trans (Off.of_below (S := fun _ => False) HQ.out.1) (fun _ _ t => t.elim)
    clear k0 k1 k2 k4 k5 HCC HRG HT1 HO1 HQ
    have HTd : Hid (Tn n wc.drew tb (serK s) a c (some ⟨gg, 0, none⟩) d (.slice none 0 0)) := HT2.out.off (S := fun _ => False) (Off.refl _ wc).drew (fun _ t => t.elim) id
    go_wp2_with fail
    go_region_with (go_at_call 33; refine HC.out.mono ?_; rintro e w3 ⟨rfl, hq⟩)
    all_goals
      have HF := said_left HTd.out (HO2.out.drew) hq.out rfl (RowC.later HRC.out.1 ((Below.refl _ wc).drew)) HRC.out.2.2.2 (by show (s.got.take 20).length ≤ c2; rw [HM.out]; exact HRC.out.2.1) HRC.out.2.2.1
      go_wp2
      go_end0
      exact ⟨rfl, HF⟩
end Go.Proofs.Ythmolodkaboakaa
