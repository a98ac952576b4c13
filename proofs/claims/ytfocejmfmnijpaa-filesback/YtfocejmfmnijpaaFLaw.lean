/- The walks of the law's own large, of octet.Equal and of files.Same. -/
import Derived.Test.YtfocejmfmnijpaaFOpen
import Derived.Laws.BytesArg
namespace Go.Proofs.Ytfocejmfmnijpaa
open Go.RowKit

theorem old_block {a b : World} {k : Nat} {o : Obj} (h : Below a.heap.size a b) (hk : a.heap[k]? = some o) : b.heap[k]? = some o := by
  rw [h.block k (Array.getElem?_eq_some_iff.1 hk).1]; exact hk

/-- what is gone through in the laws: not more than 500 files. -/
def smallI (L : List Fil) (k : Nat) : Nat := ((L.take k).map fun x => min x.bytes.length 1048576).sum
theorem small_take (L : List Fil) (k : Nat) (hk : k < L.length) : smallI L (k + 1) = smallI L k + min L[k].bytes.length 1048576 := by
  unfold smallI
  rw [List.take_add_one, List.getElem?_eq_getElem hk, Option.toList_some, List.map_append, List.sum_append]
  simp

set_option maxHeartbeats 1000000 in
theorem large_any (w : World) (a : Option Addr) (c : Nat) (L : List Fil) (h : ListAt w a L) :
    Calls Try.prog 8 #[.agg #[.slice a L.length c]] w fun e w' => ∃ b : Bool, e = .returned (.bool b) ∧ Hid ((b = false → L.length ≤ 500) ∧ Below w.heap.size w w') := by
  have hm := h.2.1
  have HL : Hid (ListAt w a L) := h
  clear h
  go_enter Try.func8, Try.ntmps8
  go_wp2
  go_loopw [3, 9] (fun n i wr => ∃ k : Nat, k ≤ L.length ∧ i = .int .i64 k ∧ n = .int .i64 (smallI L k : Nat) ∧ smallI L k ≤ 1048576 ∧ wr.cell? ⟨w.heap.size, 0, none⟩ = some (.slice a L.length c) ∧ w.heap.size < wr.heap.size ∧ Below w.heap.size w wr) (fun _ i _ => L.length - (intOf i).toNat)
  case atStart => exact ⟨0, Nat.zero_le _, rfl, rfl, by simp [smallI], by simp, by simp, (Below.refl _ _).alloc (Nat.le_refl _) _⟩
  case round =>
    obtain ⟨k, hk, rfl, rfl, hs, hcw, hz, hbw⟩ := hrel
    by_cases hkl : k < L.length
    · obtain ⟨b, o, rfl, hc⟩ := HL.out.2.2 (by omega)
      obtain ⟨h1, a2, c2, h2, _, h4, h5⟩ := (hc k hkl).later hbw
      have HT : Hid _ := small_take L k hkl
      have HB : Hid (Below w.heap.size w wr) := hbw
      clear hc h5 hbw
      generalize L[k] = x at h1 h2 HT
      generalize smallI L k = U at HT hs ⊢
      go_wp2
      · go_ret
        exact ⟨true, rfl, fun h => (by cases h), HB.out.alloc HB.out.size _⟩
      · go_roundw
        case rel =>
          have hle : (U : Int) + min (x.bytes.length : Int) 1048576 ≤ 1048576 := by assumption
          exact ⟨k + 1, by omega, by go_num, by rw [HT.out]; go_num, by rw [HT.out]; omega, cell_later ((Below.refl _ wr).alloc (Nat.le_refl _) _) hcw, by simp; omega, HB.out.alloc HB.out.size _⟩
        case measure => simp [intOf]; omega
    · have HB : Hid (Below w.heap.size w wr) := hbw
      clear hbw
      go_wp2
      go_ret
      exact ⟨decide ((500 : Int) < (L.length : Int)), rfl, fun h => (by have := of_decide_eq_false h; omega), HB.out⟩

/-- bytes as a string. -/
def strOf (l : List Nat) : ByteArray := ⟨(l.map fun n => UInt8.ofNat n).toArray⟩
theorem strOf_nums (l : List Nat) : strOfNums (l.map fun n : Nat => (n : Int)) = strOf l := by
  unfold strOfNums strOf
  rw [List.map_map]
  rfl
theorem row_convert {w : World} {a : Option Addr} {l : List Nat} (h : Row w a l) (c : Nat) : (convert 35 9 (.slice a l.length c)).run Try.prog w = .ok (.string (strOf l)) w := by
  rcases Nat.eq_zero_or_pos l.length with h0 | h0
  · obtain rfl : l = [] := List.eq_nil_of_length_eq_zero h0
    rw [run_convert_bytes_string w 35 9 5 _ _ c Try.underlying35 Try.underlying5 Try.underlying9]
    cases a <;> simp [Conv.bytesToString, loadCells]
    all_goals rfl
  · obtain ⟨b, off, rfl, hc⟩ := h.2.2 h0
    rw [← strOf_nums]
    refine run_convert_bytes_arg w 35 5 Try.underlying35 Try.underlying5 b off l.length c (l.map fun n : Nat => (n : Int)) (by simp) (fun i hi => ?_) 9 Try.underlying9
    rw [hc i hi, List.getD_eq_getElem?_getD, List.getD_eq_getElem?_getD, List.getElem?_map, List.getElem?_eq_getElem hi]
    rfl
theorem byte_inj {x y : Nat} (hx : x < 256) (hy : y < 256) (h : UInt8.ofNat x = UInt8.ofNat y) : x = y := by
  have := congrArg UInt8.toNat h
  simp only [UInt8.toNat_ofNat'] at this
  omega
theorem map_inj {l m : List Nat} (hl : ∀ x ∈ l, x < 256) (hm : ∀ x ∈ m, x < 256) (h : (l.map fun n => UInt8.ofNat n) = (m.map fun n => UInt8.ofNat n)) : l = m := by
  induction l generalizing m with
  | nil => cases m with
    | nil => rfl
    | cons y r => simp at h
  | cons x r ih => cases m with
    | nil => simp at h
    | cons y t =>
      simp only [List.map_cons, List.cons.injEq] at h
      rw [byte_inj (hl x List.mem_cons_self) (hm y List.mem_cons_self) h.1, ih (fun z hz => hl z (List.mem_cons_of_mem _ hz)) (fun z hz => hm z (List.mem_cons_of_mem _ hz)) h.2]
theorem str_eq {l m : List Nat} (hl : ∀ x ∈ l, x < 256) (hm : ∀ x ∈ m, x < 256) : ((strOf l).toList == (strOf m).toList) = decide (l = m) := by
  have e : ∀ l : List Nat, (strOf l).toList = l.map fun n => UInt8.ofNat n := fun l => by
    simp [strOf, ByteArray.toList_eq]
  rw [e, e]
  by_cases h : l = m
  · subst h; simp
  · rw [decide_eq_false h]
    exact beq_eq_false_iff_ne.2 (fun h1 => h (map_inj hl hm h1))

set_option maxHeartbeats 400000 in
theorem bytesEqual_any (a b : Option Addr) (c d : Nat) (l m : List Nat) (w : World) (hr : Row w a l) (hs : Row w b m) :
    Calls Try.prog 50 #[.slice a l.length c, .slice b m.length d] w fun e w' => e = .returned (.bool (decide (l = m))) ∧ w' = w := by
  have h1 := row_convert hr c
  have h2 := row_convert hs d
  have HE : Hid (((strOf l).toList == (strOf m).toList) = decide (l = m)) := str_eq hr.1 hs.1
  clear hr hs
  generalize strOf l = s at h1 HE
  generalize strOf m = t at h2 HE
  go_enter Try.func50, Try.ntmps50
  go_wp2
  go_ret
  exact ⟨ret_bool HE.out, rfl⟩

set_option maxHeartbeats 400000 in
theorem equal_any (a b : Option Addr) (c d : Nat) (l m : List Nat) (w : World) (hr : Row w a l) (hs : Row w b m) :
    Calls Try.prog 24 #[.slice a l.length c, .slice b m.length d] w fun e w' => e = .returned (.bool (decide (l = m))) ∧ w = w' := by
  have HR : Hid (Row w a l) := hr
  have HS : Hid (Row w b m) := hs
  clear hr hs
  go_enter Try.func24, Try.ntmps24
  go_wp2_with fail
  refine (bytesEqual_any _ _ _ _ _ _ _ HR.out HS.out).mono ?_
  rintro e w' ⟨rfl, rfl⟩
  go_wp2
  go_ret
  exact ⟨rfl, rfl⟩

end Go.Proofs.Ytfocejmfmnijpaa
