/- The walks of files.Find and files.Get. -/
import Derived.Test.YtfocejmfmnijpaaFClone
namespace Go.Proofs.Ytfocejmfmnijpaa
open Go.RowKit

theorem check_yes {L : List Fil} (h : rightB L = true) : checkI L = 0 := by unfold checkI; rw [h]; rfl
theorem right_rising {L : List Fil} (h : rightB L = true) : risingB L = true := by
  simp only [rightB, Bool.and_eq_true] at h
  exact h.1.2
theorem right_file {L : List Fil} (h : rightB L = true) : ∀ x ∈ L, fileB x = true := by
  simp only [rightB, Bool.and_eq_true] at h
  exact List.all_eq_true.1 h.2
theorem right_bytes {L : List Fil} (h : rightB L = true) : ∀ x ∈ L, x.bytes.length ≤ 4096 := by
  intro x hx
  have := right_file h x hx
  simp [fileB] at this
  exact this.2
theorem right_over {L : List Fil} (h : rightB L = true) : L.length ≤ 64 ∧ costS L ≤ 32768 := by
  simp [rightB, overB] at h
  omega

/-- What Get answers. -/
def getS (L : List Fil) (n : ByteArray) : List Nat × Int :=
  if rightB L then if thereB L n then ((L[atS L n]?.map Fil.bytes).getD [], 0) else ([], 4) else ([], 150)

theorem there_get {L : List Fil} {n : ByteArray} (h : thereB L n = true) : ∃ hl : atS L n < L.length, L[atS L n].name = n := by
  unfold thereB at h
  by_cases hl : atS L n < L.length
  · rw [List.getElem?_eq_getElem hl] at h
    exact ⟨hl, by simpa using h⟩
  · rw [List.getElem?_eq_none (by omega)] at h
    cases h

set_option maxHeartbeats 1000000 in
theorem get_any (w : World) (a : Option Addr) (c : Nat) (L : List Fil) (h : ListAt w a L) (hb : costS L ≤ 4611686018427387904) (n : ByteArray) :
    Calls Try.prog 25 #[.agg #[.slice a L.length c], .string n] w fun e w' => ∃ a' c', e = .returned (.tuple #[.slice a' (getS L n).1.length c', .int .i64 (getS L n).2]) ∧ Hid (Fresh w w' a' c' (getS L n).1 ∧ Below w.heap.size w w') := by
  have HL : Hid (ListAt w a L) := h
  have hno : ∀ w' : World, Fresh w w' none 0 [] := fun w' => ⟨⟨by simp, by simp, fun h => absurd h (by simp)⟩, Nat.le_refl _, Nat.zero_le _, fun b hb => by cases hb⟩
  have HN : Hid (∀ w' : World, Fresh w w' none 0 []) := hno
  clear h hno
  cases hr : rightB L with
  | false =>
    have HC : Hid (checkI L = 150) := check_no hr
    have HF : Hid (getS L n = ([], 150)) := by show getS L n = _; unfold getS; rw [hr]; rfl
    clear hr
    go_enter Try.func25, Try.ntmps25
    go_wp2_with (go_at_call 26; refine (check_any _ a c L (HL.out.later ((Below.refl _ _).alloc (Nat.le_refl _) _)) hb).mono ?_; rw [HC.out]; rintro e w1 ⟨rfl, hbw⟩; have HB : Hid (Below w.heap.size w w1) := ((Below.refl _ _).alloc (Nat.le_refl _) _).trans (hbw.mono (by simp)); clear hbw)
    go_ret2
    exact ⟨none, 0, by rw [HF.out]; rfl, by rw [HF.out]; exact ⟨HN.out _, HB.out⟩⟩
  | true =>
    have HC : Hid (checkI L = 0) := check_yes hr
    have HR : Hid (risingB L = true) := right_rising hr
    cases ht : thereB L n with
    | false =>
      have HF : Hid (getS L n = ([], 4)) := by show getS L n = _; unfold getS; rw [hr, ht]; rfl
      have HT : Hid (thereB L n = false) := ht
      clear hr ht
      go_enter Try.func25, Try.ntmps25
      go_wp2_with (first | (go_at_call 26; refine (check_any _ a c L (HL.out.later ((Below.refl _ _).alloc (Nat.le_refl _) _)) hb).mono ?_; rw [HC.out]; rintro e w1 ⟨rfl, hbw⟩; have hcw : w1.cell? ⟨w.heap.size, 0, none⟩ = some (.slice a L.length c) := (by rw [hbw.cell (by simp)]; simp); have HB : Hid (Below w.heap.size w w1) := ((Below.refl _ _).alloc (Nat.le_refl _) _).trans (hbw.mono (by simp)); clear hbw) | (go_at_call 51; refine (place_any _ a c L (HL.out.later HB.out) n HR.out).mono ?_; rw [HT.out]; rintro e w2 ⟨rfl, hb2⟩; have HB2 : Hid (Below w.heap.size w w2) := below_of HB.out hb2; clear hb2))
      go_ret2
      exact ⟨none, 0, by rw [HF.out]; rfl, by rw [HF.out]; exact ⟨HN.out _, HB2.out⟩⟩
    | true =>
      obtain ⟨hlt, _⟩ := there_get ht
      have HF : Hid (getS L n = (L[atS L n].bytes, 0)) := by show getS L n = _; unfold getS; rw [hr, ht, List.getElem?_eq_getElem hlt]; rfl
      have HT : Hid (thereB L n = true) := ht
      obtain ⟨b, o, rfl, hc⟩ := HL.out.2.2 (by omega)
      have hm := HL.out.2.1
      have hx := hc _ hlt
      have h46 := right_bytes hr _ (List.getElem_mem hlt)
      have HX : Hid (FileAt w b (o + atS L n * 2) L[atS L n]) := hx
      clear hr ht hc hx
      generalize L[atS L n] = x at HF h46 HX
      go_enter Try.func25, Try.ntmps25
      go_wp2_with (first | (go_at_call 26; refine (check_any _ _ c L (HL.out.later ((Below.refl _ _).alloc (Nat.le_refl _) _)) hb).mono ?_; rw [HC.out]; rintro e w1 ⟨rfl, hbw⟩; have hcw : w1.cell? ⟨w.heap.size, 0, none⟩ = some (.slice (some ⟨b, o, none⟩) L.length c) := (by rw [hbw.cell (by simp)]; simp); have hz1 : w.heap.size < w1.heap.size := (by have := hbw.size; simp at this; omega); have HB : Hid (Below w.heap.size w w1) := ((Below.refl _ _).alloc (Nat.le_refl _) _).trans (hbw.mono (by simp)); clear hbw) | (go_at_call 51; refine (place_any _ _ c L (HL.out.later HB.out) n HR.out).mono ?_; rw [HT.out]; rintro e w2 ⟨rfl, hb2⟩; have hcw2 : w2.cell? ⟨w.heap.size, 0, none⟩ = some (.slice (some ⟨b, o, none⟩) L.length c) := (by rw [hb2.cell hz1]; exact hcw); have HB2 : Hid (Below w.heap.size w w2) := below_of HB.out hb2; clear hb2; obtain ⟨f1, a2, c2, f2, f3, f4, f5⟩ := HX.out.later HB2.out; have HW : Hid (Row w2 a2 x.bytes) := f5; clear f5) | (go_at_call 52; refine (bclone_any _ _ _ x.bytes HW.out (by omega)).mono ?_; rintro e w3 ⟨a3, c3, rfl, hq⟩))
      go_ret2
      obtain ⟨g1, g2⟩ := hq.out
      exact ⟨a3, c3, by rw [HF.out]; rfl, by rw [HF.out]; exact ⟨⟨g1.row, g1.le, g1.cap, fun b hb => Nat.le_trans HB2.out.size (g1.new b hb)⟩, below_of HB2.out g2⟩⟩

end Go.Proofs.Ytfocejmfmnijpaa
