/- Segments as data, and which may be: pure. -/
import Derived.Test.YtnjcaolkcmpdcaaHAppend
import Derived.Test.YtnjcaolkcmpdcaaHJump
import Derived.Test.YtnjcaolkcmpdcaaHOpen
namespace Go.Proofs.Ytnjcaolkcmpdcaa
open Go.RowKit
set_option linter.unusedVariables false
set_option linter.unusedVariables false

/-- A segment. -/
structure Sg where
  knd : Int
  src : Int
  ses : Nat
  ser : Nat
  cks : Nat
  off : Int
  tot : Int
  low : Int
  upp : Int
  rea : Int
  chk : Bool
  dat : List Nat
  cls : List (Int × Int)
def zeroS : Sg := ⟨0, 0, 0, 0, 0, 0, 0, 0, 0, 0, false, [], []⟩
def inB (x a b : Int) : Bool := decide (a ≤ x) && decide (x ≤ b)
theorem inB_of {x a b : Int} (h : inB x a b = true) : a ≤ x ∧ x ≤ b := by simpa [inB] using h
def sessS (s : Sg) : Bool := inB s.src 1 6 && decide (0 < s.ses)
def dataS (s : Sg) : Bool := inB s.tot 1 512 && (inB s.dat.length 1 100 && (inB s.off 0 (s.tot - (s.dat.length : Int)) && (s.chk == decide (0 < s.ser))))
/-- claims that rise, from least on, up to u. -/
def clsOk (u : Int) : Int → List (Int × Int) → Bool
  | _, [] => true
  | least, c :: r => !decide (c.1 < least) && (inB c.2 1 (u - c.1) && clsOk u (c.1 + c.2 + 1) r)
def repS (s : Sg) : Bool := decide (0 < s.ser) && (decide (0 < s.cks) && (decide (0 ≤ s.low) && (decide (s.low < s.upp) && (decide (s.upp ≤ 512) && (decide ((s.cls.length : Int) ≤ 20) && clsOk s.upp s.low s.cls)))))
def fieldsS (s : Sg) : Bool :=
  if s.knd = 1 then dataS s else if s.knd = 2 then repS s else if s.knd = 3 then decide (0 < s.ser)
  else if s.knd = 4 ∨ s.knd = 6 then inB s.rea 0 255 else if s.knd = 5 ∨ s.knd = 7 then true else false
/-- the segment with the fields alone that count. -/
def cntS (s : Sg) : Sg :=
  if s.knd = 1 then { zeroS with knd := s.knd, src := s.src, ses := s.ses, off := s.off, tot := s.tot, dat := s.dat, chk := s.chk, ser := s.ser }
  else if s.knd = 2 then { zeroS with knd := s.knd, src := s.src, ses := s.ses, ser := s.ser, cks := s.cks, low := s.low, upp := s.upp, cls := s.cls }
  else if s.knd = 3 then { zeroS with knd := s.knd, src := s.src, ses := s.ses, ser := s.ser }
  else if s.knd = 4 ∨ s.knd = 6 then { zeroS with knd := s.knd, src := s.src, ses := s.ses, rea := s.rea }
  else { zeroS with knd := s.knd, src := s.src, ses := s.ses }
def sameS (a b : Sg) : Bool :=
  decide (a.knd = b.knd) && (decide (a.src = b.src) && (decide (a.ses = b.ses) && (decide (a.ser = b.ser) && (decide (a.cks = b.cks) && (decide (a.off = b.off) && (decide (a.tot = b.tot) && (decide (a.low = b.low) && (decide (a.upp = b.upp) && (decide (a.rea = b.rea) && (decide (a.chk = b.chk) && (decide (a.dat = b.dat) && decide (a.cls = b.cls))))))))))))
theorem same_of {a b : Sg} (h : sameS a b = true) : a = b := by
  cases a; cases b
  simp only [sameS, Bool.and_eq_true, decide_eq_true_eq] at h
  simp only [Sg.mk.injEq]
  exact h
theorem same_self (a : Sg) : sameS a a = true := by simp [sameS]
/-- may the segment be? -/
def okS (s : Sg) : Bool := sessS s && (fieldsS s && sameS s (cntS s))
theorem clsOk_all (u : Int) : ∀ (l : List (Int × Int)) (least : Int), 0 ≤ least → u ≤ 512 → clsOk u least l = true → ∀ c ∈ l, (0 ≤ c.1 ∧ c.1 ≤ 512) ∧ (0 ≤ c.2 ∧ c.2 ≤ 512)
  | [], _, _, _, _ => by simp
  | x :: r, least, h0, hu, h => by
    simp only [clsOk, Bool.and_eq_true, Bool.not_eq_true', decide_eq_false_iff_not] at h
    obtain ⟨h1, h2, h3⟩ := h
    have h4 := inB_of h2
    intro c hc
    rcases List.mem_cons.1 hc with rfl | hc
    · omega
    · exact clsOk_all u r _ (by omega) hu h3 c hc
theorem okS_parts {s : Sg} (h : okS s = true) : (1 ≤ s.src ∧ s.src ≤ 6) ∧ 0 < s.ses ∧ fieldsS s = true ∧ s = cntS s := by
  simp only [okS, sessS, Bool.and_eq_true, decide_eq_true_eq] at h
  exact ⟨inB_of h.1.1, h.1.2, h.2.1, same_of h.2.2⟩
theorem dataS_of {s : Sg} (h : dataS s = true) : (1 ≤ s.tot ∧ s.tot ≤ 512) ∧ (1 ≤ (s.dat.length : Int) ∧ (s.dat.length : Int) ≤ 100) ∧ (0 ≤ s.off ∧ s.off ≤ s.tot - (s.dat.length : Int)) ∧ s.chk = decide (0 < s.ser) := by
  simp only [dataS, Bool.and_eq_true, beq_iff_eq] at h
  exact ⟨inB_of h.1, inB_of h.2.1, inB_of h.2.2.1, h.2.2.2⟩
theorem repS_of {s : Sg} (h : repS s = true) : 0 < s.ser ∧ 0 < s.cks ∧ 0 ≤ s.low ∧ s.low < s.upp ∧ s.upp ≤ 512 ∧ s.cls.length ≤ 20 ∧ clsOk s.upp s.low s.cls = true := by
  simp only [repS, Bool.and_eq_true, decide_eq_true_eq] at h
  exact ⟨h.1, h.2.1, h.2.2.1, h.2.2.2.1, h.2.2.2.2.1, by omega, h.2.2.2.2.2.2⟩
theorem kinds {s : Sg} (h : fieldsS s = true) : (s.knd = 1 ∧ dataS s = true) ∨ (s.knd = 2 ∧ repS s = true) ∨ (s.knd = 3 ∧ 0 < s.ser) ∨ ((s.knd = 4 ∨ s.knd = 6) ∧ 0 ≤ s.rea ∧ s.rea ≤ 255) ∨ (s.knd = 5 ∨ s.knd = 7) := by
  unfold fieldsS at h
  split at h
  · exact .inl ⟨by assumption, h⟩
  · split at h
    · exact .inr (.inl ⟨by assumption, h⟩)
    · split at h
      · exact .inr (.inr (.inl ⟨by assumption, by simpa using h⟩))
      · split at h
        · exact .inr (.inr (.inr (.inl ⟨by assumption, inB_of h⟩)))
        · split at h
          · exact .inr (.inr (.inr (.inr (by assumption))))
          · cases h
end Go.Proofs.Ytnjcaolkcmpdcaa
