/- The walks of files.Cost, isName, overfull, rising and Check. -/
import Derived.Test.YtfocejmfmnijpaaFMem
namespace Go.Proofs.Ytfocejmfmnijpaa
open Go.RowKit

set_option maxHeartbeats 1000000 in
theorem cost_any (w : World) (a : Option Addr) (c : Nat) (L : List Fil) (h : ListAt w a L) (hb : costS L ≤ 4611686018427387904) :
    Calls Try.prog 70 #[.agg #[.slice a L.length c]] w fun e w' => e = .returned (.int .i64 (costS L : Nat)) ∧ Below w.heap.size w w' := by
  have hm := h.2.1
  have HL : Hid (ListAt w a L) := h
  clear h
  go_enter Try.func70, Try.ntmps70
  go_wp2
  go_loopw [3, 9] (fun n i wr => ∃ k : Nat, k ≤ L.length ∧ i = .int .i64 k ∧ n = .int .i64 (costS (L.take k) : Nat) ∧ Below w.heap.size w wr) (fun _ i _ => L.length - (intOf i).toNat)
  case atStart => exact ⟨0, Nat.zero_le _, rfl, rfl, (Below.refl _ _).alloc (Nat.le_refl _) _⟩
  case round =>
    obtain ⟨k, hk, rfl, rfl, hbw⟩ := hrel
    by_cases hkl : k < L.length
    · obtain ⟨b, o, rfl, hc⟩ := HL.out.2.2 (by omega)
      obtain ⟨h1, a2, c2, h2, _, h4, h5⟩ := (hc k hkl).later hbw
      have hn := HL.out.1 _ (List.getElem_mem hkl)
      have HT : Hid _ := cost_take L k hkl
      have hle := cost_le L (k + 1)
      rw [cost_take L k hkl] at hle
      have hl5 := h5.2.1
      have HB : Hid (Below w.heap.size w wr) := hbw
      clear hc h5 hbw
      generalize L[k] = x at h1 h2 HT hn hl5 hle
      generalize costS (L.take k) = U at HT hle ⊢
      go_wp2
      go_roundw
      case rel => exact ⟨k + 1, by omega, by go_num, by rw [HT.out]; go_num, HB.out.alloc HB.out.size _⟩
      case measure => simp [intOf]; omega
    · obtain rfl : k = L.length := by omega
      rw [List.take_length]
      have HB : Hid (Below w.heap.size w wr) := hbw
      clear hbw
      go_wp2
      go_ret
      exact ⟨rfl, HB⟩

/-- A name. -/
def nameB (s : ByteArray) : Bool := decide (1 ≤ s.size ∧ s.size ≤ 24)

theorem isName_any (s : ByteArray) (w : World) (hs : s.size ≤ 140737488351232) :
    Calls Try.prog 55 #[.string s] w fun e w' => e = .returned (.bool (nameB s)) ∧ w = w' := by
  by_cases h1 : 1 ≤ s.size
  · by_cases h2 : s.size ≤ 24
    · have HN : Hid (nameB s = true) := decide_eq_true ⟨h1, h2⟩
      go_enter Try.func55, Try.ntmps55
      go_wp2
      go_ret
      exact ⟨ret_bool (by rw [HN.out]; exact decide_eq_true (by omega)), rfl⟩
    · have HN : Hid (nameB s = false) := decide_eq_false (fun h => h2 h.2)
      go_enter Try.func55, Try.ntmps55
      go_wp2
      go_ret
      exact ⟨ret_bool (by rw [HN.out]; exact decide_eq_false (by omega)), rfl⟩
  · have HN : Hid (nameB s = false) := decide_eq_false (fun h => h1 h.1)
    go_enter Try.func55, Try.ntmps55
    go_wp2
    go_ret
    exact ⟨ret_bool HN.out.symm, rfl⟩

/-- Too many files, or too many bytes. -/
def overB (L : List Fil) : Bool := decide (64 < L.length ∨ 32768 < costS L)

set_option maxHeartbeats 1000000 in
theorem overfull_any (w : World) (a : Option Addr) (c : Nat) (L : List Fil) (h : ListAt w a L) (hb : costS L ≤ 4611686018427387904) :
    Calls Try.prog 53 #[.agg #[.slice a L.length c]] w fun e w' => e = .returned (.bool (overB L)) ∧ Below w.heap.size w w' := by
  have hm := h.2.1
  have HL : Hid (ListAt w a L) := h
  clear h
  by_cases h1 : 64 < L.length
  · have HO : Hid (overB L = true) := decide_eq_true (.inl h1)
    go_enter Try.func53, Try.ntmps53
    go_wp2
    go_ret
    exact ⟨ret_bool HO.out.symm, (Below.refl _ _).alloc (Nat.le_refl _) _⟩
  · have HO : Hid (overB L = decide ((32768 : Int) < (costS L : Nat))) := by
      unfold overB
      rw [decide_eq_decide]
      constructor <;> intro h <;> omega
    go_enter Try.func53, Try.ntmps53
    go_wp2_with (go_at_call 70; refine (cost_any _ a c L (HL.out.later ((Below.refl _ _).alloc (Nat.le_refl _) _)) hb).mono ?_; rintro e w' ⟨rfl, hbw⟩)
    have HB : Hid (Below w.heap.size w w') := ((Below.refl _ _).alloc (Nat.le_refl _) _).trans (hbw.mono (by simp))
    clear hbw
    go_wp2
    go_ret
    exact ⟨ret_bool (by rw [HO.out, decide_eq_false (show ¬ ((64 : Int) < (L.length : Int)) by omega), Bool.false_or]), HB.out⟩

/-- One text ahead of another, byte by byte. -/
def lessB (a b : ByteArray) : Bool := Op.bytesLess a.toList b.toList
/-- The names rise. -/
def risingB : List Fil → Bool
  | x :: y :: r => lessB x.name y.name && risingB (y :: r)
  | _ => true
theorem rising_iff : ∀ (L : List Fil), risingB L = true ↔ ∀ i (h : i + 1 < L.length), lessB L[i].name L[i + 1].name = true
  | [] => by simp [risingB]
  | [x] => by simp [risingB]
  | x :: y :: r => by
    rw [risingB, Bool.and_eq_true, rising_iff (y :: r)]
    constructor
    · intro ⟨h1, h2⟩ i hi
      cases i with
      | zero => exact h1
      | succ i => exact h2 i (by simpa using hi)
    · intro h
      exact ⟨h 0 (by simp), fun i hi => h (i + 1) (by simpa using hi)⟩

set_option maxHeartbeats 1000000 in
theorem rising_any (w : World) (a : Option Addr) (c : Nat) (L : List Fil) (h : ListAt w a L) :
    Calls Try.prog 54 #[.slice a L.length c] w fun e w' => e = .returned (.bool (risingB L)) ∧ ∃ n, w' = w.drewN n := by
  have hm := h.2.1
  have HL : Hid (ListAt w a L) := h
  clear h
  go_enter Try.func54, Try.ntmps54
  go_wp2
  go_loopw [3] (fun i wr => ∃ k : Nat, i = .int .i64 (k + 1 : Nat) ∧ k ≤ L.length ∧ Hid (∀ i (h : i + 1 < L.length), i < k → lessB L[i].name L[i + 1].name = true) ∧ ∃ n, wr = w.drewN n) (fun i _ => L.length - (intOf i).toNat)
  case atStart => exact ⟨0, rfl, Nat.zero_le _, fun i _ h => by omega, 0, rfl⟩
  case round =>
    obtain ⟨k, rfl, hk, hr, nd, rfl⟩ := hrel
    by_cases hkl : k + 1 < L.length
    · obtain ⟨b, o, rfl, hc⟩ := HL.out.2.2 (by omega)
      have h1 := (hc k (by omega)).1
      have h2 := (hc (k + 1) (by omega)).1
      have hi1 : (k : Int) + 1 < (L.length : Int) := by omega
      clear hc
      cases hl : lessB L[k].name L[k + 1].name with
      | true =>
        have hl2 := hl
        unfold lessB at hl2
        have HL1 : Hid (lessB L[k].name L[k + 1].name = true) := hl
        clear hl
        generalize L[k] = x at h1 hl2 
        generalize L[k + 1] = y at h2 hl2
        go_wp2
        go_quiet (fail)
        go_wp2
        go_roundw
        case rel => exact ⟨k + 1, by go_num, by omega, fun i hi hik => (Nat.lt_or_ge i k).elim (fun h => hr.out i hi h) (fun h => (Nat.le_antisymm (Nat.lt_succ_iff.1 hik) h) ▸ HL1.out), nd + nq, rfl⟩
        case measure => simp [intOf]; omega
      | false =>
        have HF : Hid (risingB L = false) := by
          cases hf : risingB L with
          | false => rfl
          | true => rw [(rising_iff L).1 hf k hkl] at hl; cases hl
        have hl2 := hl
        unfold lessB at hl2
        clear hl
        generalize L[k] = x at h1 hl2
        generalize L[k + 1] = y at h2 hl2
        go_wp2
        go_quiet (fail)
        go_wp2
        go_ret
        exact ⟨ret_bool HF.out.symm, nd + nq, by rw [World.drewN_drewN]⟩
    · have HF : Hid (risingB L = true) := (rising_iff L).2 fun i hi => hr.out i hi (by omega)
      go_wp2
      go_ret
      exact ⟨ret_bool HF.out.symm, nd, rfl⟩

/-- A file that may be. -/
def fileB (x : Fil) : Bool := nameB x.name && decide (x.bytes.length ≤ 4096)
/-- Files that may be. -/
def rightB (L : List Fil) : Bool := !overB L && risingB L && L.all fileB


def checkI (L : List Fil) : Int := if rightB L then 0 else 150
theorem check_bad {L : List Fil} (h : rightB L = L.all fileB) {x : Fil} (hx : x ∈ L) (hf : fileB x = false) : checkI L = 150 := by
  unfold checkI
  rw [h, if_neg]
  intro hA
  rw [List.all_eq_true.1 hA x hx] at hf
  cases hf
theorem check_good {L : List Fil} (h : rightB L = L.all fileB) (hf : ∀ x ∈ L, fileB x = true) : checkI L = 0 := by
  unfold checkI
  rw [h, if_pos (List.all_eq_true.2 hf)]
theorem file_noName {x : Fil} (h : nameB x.name = false) : fileB x = false := by simp [fileB, h]
theorem file_long {x : Fil} (h : ¬ x.bytes.length ≤ 4096) : fileB x = false := by simp [fileB, h]
theorem file_ok {x : Fil} (h : nameB x.name = true) (hl : x.bytes.length ≤ 4096) : fileB x = true := by simp [fileB, h, hl]
theorem check_no {L : List Fil} (h : rightB L = false) : checkI L = 150 := by unfold checkI; rw [h]; rfl
theorem right_all {L : List Fil} (ho : overB L = false) (hr : risingB L = true) : rightB L = L.all fileB := by unfold rightB; rw [ho, hr]; rfl
theorem rightB_over {L : List Fil} (h : overB L = true) : rightB L = false := by simp [rightB, h]
theorem rightB_rising {L : List Fil} (h : risingB L = false) : rightB L = false := by simp [rightB, h]

set_option maxHeartbeats 2000000 in
theorem check_any (w : World) (a : Option Addr) (c : Nat) (L : List Fil) (h : ListAt w a L) (hb : costS L ≤ 4611686018427387904) :
    Calls Try.prog 26 #[.agg #[.slice a L.length c]] w fun e w' => e = .returned (.int .i64 (checkI L)) ∧ Below w.heap.size w w' := by
  have hm := h.2.1
  have HL : Hid (ListAt w a L) := h
  clear h
  cases ho : overB L with
  | true =>
    have HR : Hid (checkI L = 150) := check_no (rightB_over ho)
    go_enter Try.func26, Try.ntmps26
    go_wp2_with (go_at_call 53; refine (overfull_any _ a c L (HL.out.later ((Below.refl _ _).alloc (Nat.le_refl _) _)) hb).mono ?_; rw [ho]; rintro e w1 ⟨rfl, hbw⟩; have HB : Hid (Below w.heap.size w w1) := ((Below.refl _ _).alloc (Nat.le_refl _) _).trans (hbw.mono (by simp)); clear hbw)
    go_ret
    exact ⟨ret_int HR.out.symm, HB⟩
  | false =>
    go_enter Try.func26, Try.ntmps26
    go_wp2_with (go_at_call 53; refine (overfull_any _ a c L (HL.out.later ((Below.refl _ _).alloc (Nat.le_refl _) _)) hb).mono ?_; rw [ho]; rintro e w1 ⟨rfl, hbw⟩; have hz1 : w.heap.size < w1.heap.size := (by have := hbw.size; simp at this; omega); have hcw : w1.cell? ⟨w.heap.size, 0, none⟩ = some (.slice a L.length c) := (by rw [hbw.cell (by simp)]; simp); have HB : Hid (Below w.heap.size w w1) := ((Below.refl _ _).alloc (Nat.le_refl _) _).trans (hbw.mono (by simp)); clear hbw)
    cases hr : risingB L with
    | false =>
      have HR : Hid (checkI L = 150) := check_no (rightB_rising hr)
      refine (rising_any w1 a c L (HL.out.later HB.out)).mono ?_
      rw [hr]
      rintro e w2 ⟨rfl, nd, rfl⟩
      go_wp2
      go_ret
      exact ⟨ret_int HR.out.symm, below_drewN HB.out nd⟩
    | true =>
      have HR : Hid (rightB L = L.all fileB) := right_all ho hr
      refine (rising_any w1 a c L (HL.out.later HB.out)).mono ?_
      rw [hr]
      rintro e w2 ⟨rfl, nd, rfl⟩
      go_wp2
      go_loopw [16] (fun i wr => ∃ k : Nat, k ≤ L.length ∧ i = .int .i64 k ∧ Hid (∀ x ∈ L.take k, fileB x = true) ∧ Below w.heap.size w wr) (fun i _ => L.length - (intOf i).toNat)
      case atStart => exact ⟨0, Nat.zero_le _, rfl, fun x hx => by simp at hx, below_drewN HB.out nd⟩
      case round =>
        obtain ⟨k, hk, rfl, hall, hbw⟩ := hrel
        by_cases hkl : k < L.length
        · obtain ⟨b, o, rfl, hc⟩ := HL.out.2.2 (by omega)
          obtain ⟨h1, a2, c2, h2, _, h4, h5⟩ := (hc k hkl).later hbw
          have hn := HL.out.1 _ (List.getElem_mem hkl)
          have HT : Hid (L.take (k + 1) = L.take k ++ [L[k]]) := List.take_succ_eq_append_getElem hkl
          have HM : Hid (L[k] ∈ L) := List.getElem_mem hkl
          have HB2 : Hid (Below w.heap.size w wr) := hbw
          have hl5 : L[k].bytes.length ≤ c2 := by omega
          clear hc h5 hbw hr ho hb hcw hz1 HB
          generalize L[k] = x at h1 h2 HT hn HM hl5
          cases hnm : nameB x.name with
          | false =>
            have HF : Hid (checkI L = 150) := check_bad HR.out HM.out (file_noName hnm)
            go_wp2_with (go_at_call 55; refine (isName_any x.name _ hn).mono ?_; rw [hnm]; rintro e w' ⟨rfl, rfl⟩)
            go_ret
            exact ⟨ret_int HF.out.symm, HB2.out.alloc HB2.out.size _⟩
          | true =>
            by_cases hl : x.bytes.length ≤ 4096
            · have HX : Hid (fileB x = true) := file_ok hnm hl
              go_wp2_with (go_at_call 55; refine (isName_any x.name _ hn).mono ?_; rw [hnm]; rintro e w' ⟨rfl, rfl⟩)
              go_roundw
              case rel => exact ⟨k + 1, by omega, by go_num, fun y hy => by
                rw [HT.out] at hy
                rcases List.mem_append.1 hy with hy | hy
                · exact hall.out y hy
                · rw [List.mem_singleton.1 hy]; exact HX.out, HB2.out.alloc HB2.out.size _⟩
              case measure => simp [intOf]; omega
            · have HF : Hid (checkI L = 150) := check_bad HR.out HM.out (file_long hl)
              go_wp2_with (go_at_call 55; refine (isName_any x.name _ hn).mono ?_; rw [hnm]; rintro e w' ⟨rfl, rfl⟩)
              go_ret
              exact ⟨ret_int HF.out.symm, HB2.out.alloc HB2.out.size _⟩
        · obtain rfl : k = L.length := by omega
          have HF : Hid (checkI L = 0) := check_good HR.out fun x hx => hall.out x (by rw [List.take_length]; exact hx)
          have HB2 : Hid (Below w.heap.size w wr) := hbw
          clear hbw hr ho hb hcw hz1 HB
          go_wp2
          go_ret
          exact ⟨ret_int HF.out.symm, HB2.out⟩

end Go.Proofs.Ytfocejmfmnijpaa
