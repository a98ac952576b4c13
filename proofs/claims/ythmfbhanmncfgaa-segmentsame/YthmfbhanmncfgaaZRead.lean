/- (*segment.reader).number, long, place, raw. -/
import Derived.Test.YthmfbhanmncfgaaZClaims
import Derived.Test.YthmfbhanmncfgaaGMem
namespace Go.Proofs.Ythmfbhanmncfgaa
open Go.RowKit
set_option linter.unusedVariables false
attribute [local go_sem] jump_ret jump_normal jump_exit jump_panic jump_goto
/-- a reader: its block, what is left, whether something was wrong. -/
def Rdr (w : World) (p B : Nat) (st : List Nat × Bool) : Prop :=
  ∃ a c, w.heap[p]? = some (.cells #[.slice a st.1.length c, .bool st.2] 65 (0, 0)) ∧ Row w a st.1 ∧ st.1.length ≤ c ∧ c ≤ maxLen ∧ st.1.length ≤ 1000000 ∧ ((a = none ∧ c = 0) ∨ ∃ o, a = some ⟨B, o, none⟩ ∧ B ≠ p)
theorem row_drop {w : World} {b o : Nat} {l : List Nat} (h : Row w (some ⟨b, o, none⟩) l) (k : Nat) (hk : k ≤ l.length) : Row w (some ⟨b, o + k, none⟩) (l.drop k) := by
  refine ⟨fun x hx => h.1 x (List.mem_of_mem_drop hx), by have := h.2.1; rw [List.length_drop]; omega, fun h0 => ⟨b, o + k, rfl, fun i hi => ?_⟩⟩
  rw [List.length_drop] at hi h0
  obtain ⟨b', o', e, hc⟩ := h.2.2 (by omega)
  cases e
  have := hc (k + i) (by omega)
  rw [Nat.add_assoc, this, List.getD_eq_getElem?_getD, List.getD_eq_getElem?_getD, List.getElem?_drop]
theorem Rdr.bad {w : World} {p B : Nat} {st : List Nat × Bool} (h : Rdr w p B st) : Rdr ((w.setCell ⟨p, 0, none⟩ (.slice none 0 0)).setCell ⟨p, 1, none⟩ (.bool true)) p B ([], true) := by
  obtain ⟨a, c, h1, _⟩ := h
  refine ⟨none, 0, ?_, row_nil _ _, Nat.le_refl _, by simp, by simp, .inl ⟨rfl, rfl⟩⟩
  rw [heap_setCell_same _ _ _ _ _ _ (heap_setCell_same _ _ _ _ _ _ h1)]
  rfl
set_option maxRecDepth 20000 in
set_option maxHeartbeats 2000000 in
theorem number_bad (w : World) (p B : Nat) (l : List Nat) (f : Bool) (most : Nat) (hm : most < 18446744073709551616) (h : Rdr w p B (l, f)) (n k : Nat) (e : Int) (hg : getS l = (n, k, e)) (hn : n < 18446744073709551616) (he : (e != 0) = true ∨ ((e != 0) = false ∧ most < n)) :
    Calls Try.prog 32 #[.pointer (some ⟨p, 0, none⟩), .int .u64 most] w fun e w' => e = .returned (.int .u64 0) ∧ Hid (Rdr w' p B ([], true) ∧ Off (fun k => k = p) w w') := by
  have HR : Hid (Rdr w p B (l, f)) := h
  obtain ⟨a, c, h1, h2, h3, h4, h5, h6⟩ := h
  simp only at h1 h2 h3 h5 h6
  have c0 : w.cell? ⟨p, 0, none⟩ = some (.slice a l.length c) := by rw [cell_of h1]; rfl
  have c1 : w.cell? ⟨p, 1, none⟩ = some (.bool f) := by rw [cell_of h1]; rfl
  have fr := frozen_of h1
  have HG := get_any w a c l h2 (by omega)
  rw [hg] at HG
  unfold got at HG
  have HOF : Hid (∀ u v, Off (fun k => k = p) w ((w.setCell ⟨p, 0, none⟩ u).setCell ⟨p, 1, none⟩ v)) := fun u v => ((Off.refl (fun k => k = p) w).setCell (p := ⟨p, 0, none⟩) (.inr rfl) u).setCell (p := ⟨p, 1, none⟩) (.inr rfl) v
  clear h1 h2 h3 h4 h6 hg
  rcases he with he | ⟨he, hlt⟩
  all_goals
    go_enter Try.func32, Try.ntmps32
    go_wp2
    refine wp_scope_once 0 rfl ?_
    go_wp2_with (go_at_call 43; refine HG.mono ?_; rintro e w1 ⟨rfl, rfl⟩)
    go_step3
    show _ ∧ Code.wp _ _ _ _ _
    refine ⟨rfl, ?_⟩
    go_wp2
    try rw [jump_ret]
    exact bodyPost_ret (v := .int .u64 0) (by simp [results, Try.results32, go_sem]) rfl ⟨rfl, HR.out.bad, HOF.out _ _⟩
set_option maxRecDepth 20000 in
set_option maxHeartbeats 2000000 in
theorem number_ok (w : World) (p B : Nat) (l : List Nat) (f : Bool) (most : Nat) (hm : most < 18446744073709551616) (h : Rdr w p B (l, f)) (n k : Nat) (hg : getS l = (n, k, 0)) (hn : n ≤ most) (hk : k ≤ l.length) (hk0 : 1 ≤ k) :
    Calls Try.prog 32 #[.pointer (some ⟨p, 0, none⟩), .int .u64 most] w fun e w' => e = .returned (.int .u64 n) ∧ Hid (Rdr w' p B (l.drop k, f) ∧ Off (fun k => k = p) w w') := by
  obtain ⟨a, c, h1, h2, h3, h4, h5, h6⟩ := h
  simp only at h1 h2 h3 h5 h6
  obtain ⟨b, o, rfl, _⟩ := h2.2.2 (by omega)
  obtain ⟨rfl, hbp⟩ : b = B ∧ b ≠ p := by
    rcases h6 with ⟨e, _⟩ | ⟨o', e, h⟩
    · cases e
    · cases e; exact ⟨rfl, h⟩
  have c0 : w.cell? ⟨p, 0, none⟩ = some (.slice (some ⟨b, o, none⟩) l.length c) := by rw [cell_of h1]; rfl
  have fr := frozen_of h1 0
  have HG := get_any w (some ⟨b, o, none⟩) c l h2 (by omega)
  rw [hg] at HG
  unfold got at HG
  simp only at HG
  have HH : Hid (∀ q d, (0 < l.length - k → q = o + k) → l.length - k ≤ d → d ≤ c → Rdr (w.setCell ⟨p, 0, none⟩ (.slice (some ⟨b, q, none⟩) (l.length - k) d)) p b (l.drop k, f) ∧ Off (fun k => k = p) w (w.setCell ⟨p, 0, none⟩ (.slice (some ⟨b, q, none⟩) (l.length - k) d))) := fun q d hq hd1 hd2 => by
    have ho : Off (fun k => k = p) w (w.setCell ⟨p, 0, none⟩ (.slice (some ⟨b, q, none⟩) (l.length - k) d)) := (Off.refl (fun k => k = p) w).setCell (p := ⟨p, 0, none⟩) (.inr rfl) _
    refine ⟨⟨_, d, ?_, ?_, ?_, by omega, ?_, .inr ⟨q, rfl, hbp⟩⟩, ho⟩
    · rw [heap_setCell_same _ _ _ _ _ _ h1]
      simp
    · show Row _ (some ⟨b, q, none⟩) (l.drop k)
      by_cases h0 : 0 < l.length - k
      · obtain rfl := hq h0
        exact (row_drop h2 k hk).off (S := fun k => k = p) ho (fun _ b' hb' => by cases hb'; exact hbp)
      · rw [List.drop_of_length_le (by omega)]; exact row_nil _ _
    · simp; omega
    · simp; omega
  have hkc : k ≤ c := by omega
  clear h1 h2 h4 h6 hg
  go_enter Try.func32, Try.ntmps32
  go_wp2
  refine wp_scope_once 0 rfl ?_
  go_wp2_with (go_at_call 43; refine HG.mono ?_; rintro e w1 ⟨rfl, rfl⟩)
  all_goals
    exact bodyPost_ret (v := .int .u64 n) (by simp [results, Try.results32, go_sem]) rfl ⟨rfl, (HH.out _ _ (fun h0 => by first | rfl | (exfalso; omega)) (by omega) (by omega) : _ ∧ _)⟩
/-- what a reading leaves. -/
def Rd1 (w : World) (p B : Nat) (st : List Nat × Bool) (w' : World) : Prop := Rdr w' p B st ∧ Off (fun k => k = p) w w'
theorem snum_any (w : World) (p B : Nat) (st : List Nat × Bool) (most : Nat) (hm : most < 18446744073709551616) (h : Rdr w p B st) :
    Calls Try.prog 32 #[.pointer (some ⟨p, 0, none⟩), .int .u64 most] w fun e w' => e = .returned (.int .u64 ((numR most st).1 : Nat)) ∧ Hid (Rd1 w p B (numR most st).2 w') := by
  obtain ⟨l, f⟩ := st
  have hb : ∀ x ∈ l, x < 256 := by obtain ⟨a, c, _, h2, _⟩ := h; exact h2.1
  have hlt := get_lt l hb
  unfold numR Rd1
  simp only
  by_cases hc : (getS l).2.2 ≠ 0 ∨ most < (getS l).1
  · rw [if_pos hc]
    refine number_bad w p B l f most hm h (getS l).1 (getS l).2.1 (getS l).2.2 rfl hlt.1 ?_
    by_cases h0 : (getS l).2.2 = 0
    · exact .inr ⟨by simp [h0], by rcases hc with hc | hc; exact absurd h0 hc; exact hc⟩
    · exact .inl (by simpa using h0)
  · rw [if_neg hc]
    have h0 : (getS l).2.2 = 0 := by omega
    have h1 := get_sound l (getS l).1 (getS l).2.1 hb (by rw [← h0])
    exact number_ok w p B l f most hm h (getS l).1 (getS l).2.1 (by rw [← h0]) (by omega) h1.2.1 h1.1
theorem long_any (w : World) (p B : Nat) (st : List Nat × Bool) (h : Rdr w p B st) :
    Calls Try.prog 33 #[.pointer (some ⟨p, 0, none⟩)] w fun e w' => e = .returned (.int .u32 ((numR 4294967295 st).1 : Nat)) ∧ Hid (Rd1 w p B (numR 4294967295 st).2 w') := by
  have HN := snum_any w p B st 4294967295 (by omega) h
  have hle := numR_le 4294967295 st
  generalize numR 4294967295 st = X at HN hle ⊢
  obtain ⟨n, st2⟩ := X
  simp only at HN hle ⊢
  go_enter Try.func33, Try.ntmps33
  go_wp2_with (go_at_call 32; refine HN.mono ?_; rintro e w1 ⟨rfl, hq⟩)
  go_ret
  exact ⟨rfl, hq⟩
theorem place_any (w : World) (p B : Nat) (st : List Nat × Bool) (h : Rdr w p B st) :
    Calls Try.prog 44 #[.pointer (some ⟨p, 0, none⟩)] w fun e w' => e = .returned (.int .i64 ((numR 512 st).1 : Nat)) ∧ Hid (Rd1 w p B (numR 512 st).2 w') := by
  have HN := snum_any w p B st 512 (by omega) h
  have hle := numR_le 512 st
  generalize numR 512 st = X at HN hle ⊢
  obtain ⟨n, st2⟩ := X
  simp only at HN hle ⊢
  go_enter Try.func44, Try.ntmps44
  go_wp2_with (go_at_call 32; refine HN.mono ?_; rintro e w1 ⟨rfl, hq⟩)
  go_ret
  exact ⟨rfl, hq⟩
set_option maxRecDepth 20000 in
set_option maxHeartbeats 2000000 in
theorem raw_bad (w : World) (p B : Nat) (l : List Nat) (f : Bool) (n : Nat) (hn : n ≤ 1000) (h : Rdr w p B (l, f)) (hlt : l.length < n) :
    Calls Try.prog 45 #[.pointer (some ⟨p, 0, none⟩), .int .i64 n] w fun e w' => e = .returned (.slice none 0 0) ∧ Hid (Rd1 w p B ([], true) w') := by
  have HR : Hid (Rdr w p B (l, f)) := h
  obtain ⟨a, c, h1, h2, h3, h4, h5, h6⟩ := h
  simp only at h1 h2 h3 h5 h6
  have c0 : w.cell? ⟨p, 0, none⟩ = some (.slice a l.length c) := by rw [cell_of h1]; rfl
  have c1 : w.cell? ⟨p, 1, none⟩ = some (.bool f) := by rw [cell_of h1]; rfl
  have fr := frozen_of h1
  have HOF : Hid (∀ u v, Off (fun k => k = p) w ((w.setCell ⟨p, 0, none⟩ u).setCell ⟨p, 1, none⟩ v)) := fun u v => ((Off.refl (fun k => k = p) w).setCell (p := ⟨p, 0, none⟩) (.inr rfl) u).setCell (p := ⟨p, 1, none⟩) (.inr rfl) v
  clear h1 h2 h3 h4 h6
  go_enter Try.func45, Try.ntmps45
  go_wp2
  refine wp_scope_once 0 rfl ?_
  go_wp2
  go_step3
  show _ ∧ Code.wp _ _ _ _ _
  refine ⟨rfl, ?_⟩
  go_wp2
  try rw [jump_ret]
  exact bodyPost_ret (v := .slice none 0 0) (by simp [results, Try.results45, go_sem]) rfl ⟨rfl, HR.out.bad, HOF.out _ _⟩
end Go.Proofs.Ythmfbhanmncfgaa
