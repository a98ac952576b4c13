/- The walks of readName and readBytes. -/
import Derived.Test.YtfocejmfmnijpaaONumber
import Derived.Test.YtfocejmfmnijpaaEPut
import Derived.Laws.BytesArg
namespace Go.Proofs.Ytfocejmfmnijpaa
open Go.RowKit

/-- the text of bytes. -/
def nameOf (l : List Nat) : ByteArray := strOfNums (l.map fun x : Nat => (x : Int))
theorem nameOf_size (l : List Nat) : (nameOf l).size = l.length := by
  unfold nameOf strOfNums
  simp [ByteArray.size]
theorem nbytes_nameOf (l : List Nat) (h : ∀ x ∈ l, x < 256) : nbytes (nameOf l) = l := by
  unfold nbytes nameOf strOfNums
  simp only [List.map_map]
  conv => rhs; rw [← List.map_id l]
  refine List.map_congr_left fun x hx => ?_
  have := h x hx
  simp
  omega
theorem nameOf_nbytes (s : ByteArray) : nameOf (nbytes s) = s := by
  apply ByteArray.ext
  apply Array.ext'
  unfold nameOf strOfNums nbytes
  simp only [List.map_map]
  conv => rhs; rw [← List.map_id s.data.toList]
  refine List.map_congr_left fun x hx => ?_
  simp

/-- a number of k bytes, and as many bytes as it says. -/
def counts (l : List Nat) (k : Nat) (at_ : Nat) (er : Int) : List Nat × Nat × Int := takes l (takes l at_ er k).2.1 (takes l at_ er k).2.2 (numN (takes l at_ er k).1)
theorem takes_byte {l : List Nat} {at_ : Nat} {er : Int} {n : Nat} (h : ∀ x ∈ l, x < 256) : ∀ x ∈ (takes l at_ er n).1, x < 256 := by
  unfold takes
  split
  · simp
  · split
    · intro x hx; exact h x (List.mem_of_mem_drop (List.mem_of_mem_take hx))
    · simp
theorem takes_num {l : List Nat} {at_ : Nat} {er : Int} {n : Nat} (h : ∀ x ∈ l, x < 256) (hn : n ≤ 2) : numN (takes l at_ er n).1 < 65536 := by
  have h1 := numN_lt (takes l at_ er n).1 (takes_byte h)
  have h2 := takes_len (l := l) (at_ := at_) (er := er) (n := n)
  exact Nat.lt_of_lt_of_le h1 (Nat.pow_le_pow_right (n := 256) (j := 2) (by omega) (by omega))

theorem Reads.trans {a b c : World} {p q : Nat} {l : List Nat} {s t : List Nat × Nat × Int} (h : Reads a p q l s b) (k : Reads b p q l t c) : Reads a p q l t c := ⟨k.1, h.2.trans k.2 (fun _ _ t => t)⟩

set_option maxHeartbeats 2000000 in
theorem readBytes_any (w : World) (p q : Nat) (l : List Nat) (at_ : Nat) (er : Int) (h : Rd w p q l at_ er) (hz : l.length ≤ 140737488351232) :
    Calls Try.prog 64 #[.pointer (some ⟨p, 0, none⟩)] w fun e w' => ∃ g, e = .returned (.slice (some ⟨g, 0, none⟩) (counts l 2 at_ er).1.length (counts l 2 at_ er).1.length) ∧ Hid (Bs w' g (counts l 2 at_ er).1 ∧ w.heap.size ≤ g ∧ Reads w p q l (counts l 2 at_ er) w') := by
  have HN := u16_any w p q l at_ er h hz
  have hb := takes_num (l := l) (at_ := at_) (er := er) (n := 2) h.all.byte (by omega)
  unfold counts
  generalize takes l at_ er 2 = t at HN hb ⊢
  have HW : Hid (∀ w1, Rd w1 p q l t.2.1 t.2.2 → Calls Try.prog 76 #[.pointer (some ⟨p, 0, none⟩), .int .i64 (numN t.1 : Nat)] w1 fun e w' => ∃ g, e = .returned (.slice (some ⟨g, 0, none⟩) (takes l t.2.1 t.2.2 (numN t.1)).1.length (takes l t.2.1 t.2.2 (numN t.1)).1.length) ∧ Hid (Bs w' g (takes l t.2.1 t.2.2 (numN t.1)).1 ∧ w1.heap.size ≤ g ∧ Reads w1 p q l (takes l t.2.1 t.2.2 (numN t.1)) w')) := fun w1 h1 => raw_any w1 p q l t.2.1 t.2.2 (numN t.1) h1 hz (by omega)
  generalize takes l t.2.1 t.2.2 (numN t.1) = s at HW ⊢
  generalize numN t.1 = X at HN HW hb
  go_enter Try.func64, Try.ntmps64
  go_wp2_with (first | (go_at_call 46; refine HN.mono ?_; rintro e w1 ⟨rfl, hq1⟩) | (go_at_call 76; refine (HW.out w1 hq1.out.1).mono ?_; rintro e w2 ⟨g, rfl, hq2⟩))
  go_ret
  exact ⟨g, rfl, hq2.out.1, Nat.le_trans hq1.out.2.size hq2.out.2.1, hq1.out.trans hq2.out.2.2⟩

theorem conv_name {w : World} {g : Nat} {m : List Nat} (h : Bs w g m) (c : Nat) : (convert 35 9 (.slice (some ⟨g, 0, none⟩) m.length c)).run Try.prog w = .ok (.string (nameOf m)) w :=
  run_convert_bytes_arg w 35 5 Try.underlying35 Try.underlying5 g 0 m.length c (m.map fun x : Nat => (x : Int)) (by simp) (fun i hi => by
    obtain ⟨b, off, he, hc⟩ := h.row.2.2 (by omega)
    cases he
    rw [hc i hi]
    simp [List.getD_eq_getElem?_getD, List.getElem?_eq_getElem hi]) 9 Try.underlying9

set_option maxHeartbeats 2000000 in
theorem readName_any (w : World) (p q : Nat) (l : List Nat) (at_ : Nat) (er : Int) (h : Rd w p q l at_ er) (hz : l.length ≤ 140737488351232) :
    Calls Try.prog 63 #[.pointer (some ⟨p, 0, none⟩)] w fun e w' => e = .returned (.string (nameOf (counts l 1 at_ er).1)) ∧ Hid (Reads w p q l (counts l 1 at_ er) w') := by
  have HN := u8_any w p q l at_ er h hz
  have hb := takes_num (l := l) (at_ := at_) (er := er) (n := 1) h.all.byte (by omega)
  unfold counts
  generalize takes l at_ er 1 = t at HN hb ⊢
  have HW : Hid (∀ w1, Rd w1 p q l t.2.1 t.2.2 → Calls Try.prog 76 #[.pointer (some ⟨p, 0, none⟩), .int .i64 (numN t.1 : Nat)] w1 fun e w' => ∃ g, e = .returned (.slice (some ⟨g, 0, none⟩) (takes l t.2.1 t.2.2 (numN t.1)).1.length (takes l t.2.1 t.2.2 (numN t.1)).1.length) ∧ Hid (Bs w' g (takes l t.2.1 t.2.2 (numN t.1)).1 ∧ w1.heap.size ≤ g ∧ Reads w1 p q l (takes l t.2.1 t.2.2 (numN t.1)) w')) := fun w1 h1 => raw_any w1 p q l t.2.1 t.2.2 (numN t.1) h1 hz (by omega)
  generalize takes l t.2.1 t.2.2 (numN t.1) = s at HW ⊢
  generalize numN t.1 = X at HN HW hb
  go_enter Try.func63, Try.ntmps63
  go_wp2_with (first | (go_at_call 66; refine HN.mono ?_; rintro e w1 ⟨rfl, hq1⟩) | (go_at_call 76; refine (HW.out w1 hq1.out.1).mono ?_; rintro e w2 ⟨g, rfl, hq2⟩; have hcv := conv_name hq2.out.1 s.1.length))
  go_ret
  exact ⟨rfl, hq1.out.trans hq2.out.2.2⟩
end Go.Proofs.Ytfocejmfmnijpaa
