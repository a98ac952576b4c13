/- The walks of octet's put, Put16 and fresh. -/
import Derived.Test.YtfocejmfmnijpaaFClone
import Derived.Laws.CopyOwn
namespace Go.Proofs.Ytfocejmfmnijpaa
open Go.RowKit

/-- the bytes of a number, the lowest first. -/
def leN (s : Nat) : Nat → List Nat
  | 0 => []
  | k + 1 => leN s k ++ [s / 256 ^ k % 256]
theorem le_length (s k : Nat) : (leN s k).length = k := by
  induction k with
  | zero => rfl
  | succ k ih => simp [leN, ih]
theorem le_byte (s k : Nat) : ∀ x ∈ leN s k, x < 256 := by
  induction k with
  | zero => intro x hx; simp [leN] at hx
  | succ k ih =>
    intro x hx
    rw [leN] at hx
    rcases List.mem_append.1 hx with hx | hx
    · exact ih x hx
    · rw [List.mem_singleton.1 hx]; exact Nat.mod_lt _ (by omega)
theorem le_succ (s k : Nat) : leN s (k + 1) = leN s k ++ [s / 256 ^ k % 256] := rfl
theorem div_succ (s k : Nat) : s / 256 ^ (k + 1) = s / 256 ^ k / 256 := by rw [Nat.pow_succ, Nat.div_div_eq_div_mul]

/-- the bytes l fill a block of their own. -/
structure Bs (w : World) (g : Nat) (l : List Nat) : Prop where
  here : w.heap[g]? = some (.cells (cells l).toArray 5 (0, 0))
  byte : ∀ x ∈ l, x < 256
  len : l.length ≤ maxLen

theorem Bs.row {w : World} {g : Nat} {l : List Nat} (h : Bs w g l) : Row w (some ⟨g, 0, none⟩) l :=
  ⟨h.byte, h.len, fun _ => ⟨g, 0, rfl, fun i hi => by
    rw [cell_of h.here, Nat.zero_add]
    simp only [List.getElem?_toArray]
    unfold cells
    rw [List.getElem?_map, List.getD_eq_getElem?_getD, List.getElem?_eq_getElem hi]
    rfl⟩⟩
theorem Bs.off {w w' : World} {g : Nat} {l : List Nat} {S : Nat → Prop} (h : Bs w g l) (ho : Off S w w') (hn : ¬ S g) : Bs w' g l := ⟨ho.at h.here hn, h.byte, h.len⟩
theorem Bs.later {w w' : World} {g : Nat} {l : List Nat} (h : Bs w g l) (ho : Below w.heap.size w w') : Bs w' g l := h.off (S := fun _ => False) (Off.of_below ho) id

/-- the bytes of a number, the highest first. -/
def be (x k : Nat) : List Nat := (leN x k).reverse
theorem be_length (x k : Nat) : (be x k).length = k := by simp [be, le_length]
theorem be_byte (x k : Nat) : ∀ y ∈ be x k, y < 256 := fun y hy => le_byte x k y (List.mem_reverse.1 hy)
theorem be_succ (x k : Nat) : be x (k + 1) = x / 256 ^ k % 256 :: be x k := by simp [be, le_succ]

theorem Try.size5 : (Try.prog.info? 5).map (·.size) = some 1 := by kernel_rfl

theorem made_bytes {w w1 : World} {n : Nat} (hown : w1.ownsRow w.heap.size 5 1 (.slice (some ⟨w.heap.size, 0, none⟩) n n) n (madeCells (Value.int .u8 0).cells (n * 1)).toList) (hg : w.grownBy w1 none) :
    w1.heap[w.heap.size]? = some (.cells (cells (List.replicate n 0)).toArray 5 (0, 0)) ∧ Below w.heap.size w w1 := by
  obtain ⟨_, ⟨h, _⟩ | ⟨g, cap, cur, hv, _, hcur, _, _, hsz, ht⟩⟩ := hown
  · cases h
  · simp only [Value.slice.injEq, Option.some.injEq, Addr.mk.injEq, and_true, true_and] at hv
    obtain ⟨rfl, rfl⟩ := hv
    refine ⟨?_, (Below.refl _ w).grown hg (Nat.le_refl _) (fun _ e => by cases e)⟩
    rw [hcur]
    have h3 : cur.toList.take (n * 1) = cur.toList := List.take_of_length_le (by simp [hsz])
    rw [h3] at ht
    have h4 : cur.toList = cells (List.replicate n 0) := by
      rw [ht]
      unfold cells madeCells
      rw [List.map_replicate, List.eq_replicate_iff]
      refine ⟨by simp, ?_⟩
      intro x hx
      simp only [Array.toList_map, List.mem_map, Value.cells] at hx
      obtain ⟨i, _, rfl⟩ := hx
      simp [Nat.mod_one]
    rw [← h4]

theorem row_src {w : World} {a : Option Addr} {l : List Nat} (h : Row w a l) : 0 < (cells l).length → ∃ ad, a = some ad ∧ ∀ j v, (cells l)[j]? = some v → w.cell? (ad.add j) = some v := by
  intro h0
  rw [cells_length] at h0
  obtain ⟨b, off, rfl, hc⟩ := h.2.2 h0
  refine ⟨_, rfl, fun j u hu => ?_⟩
  have hj : j < l.length := by rw [← cells_length l]; exact (List.getElem?_eq_some_iff.1 hu).1
  rw [Go.WideShapes.add_plain, hc j hj]
  unfold cells at hu
  rw [List.getElem?_map, List.getElem?_eq_getElem hj] at hu
  simp only [Option.map_some, Option.some.injEq] at hu
  rw [← hu, List.getD_eq_getElem?_getD, List.getElem?_eq_getElem hj]
  rfl

set_option maxRecDepth 20000 in
set_option maxHeartbeats 1000000 in
theorem fresh_any (a : Option Addr) (cap : Nat) (l : List Nat) (w : World) (hr : Row w a l) (hz : l.length ≤ 140737488351232) :
    Calls Try.prog 62 #[.slice a l.length cap] w fun e w' => e = .returned (.slice (some ⟨w.heap.size, 0, none⟩) l.length l.length) ∧ Bs w' w.heap.size l ∧ Below w.heap.size w w' := by
  obtain ⟨i0, hi, hz0, hz1, hz2⟩ := info_parts Try.info5
  have HI : Hid _ := hi
  have HR : Hid (Row w a l) := hr
  clear hi hr
  have hb2 : i0.bytes * l.length ≤ 281474976710656 := by rw [hz2]; omega
  go_enter Try.func62, Try.ntmps62
  go_wp2_with (first | (at_make; refine wpList_make_full _ rfl _ _ 35 rfl w.heap.size 5 i0 _ 1 Try.underlying35 HI.out hz0 hz1 .i64 .i64 _ _ l.length (by rfl) (by rfl) rfl rfl hb2 (by unfold maxLen; omega) (Nat.le_refl _) ?_; intro w1 hown hgrow; obtain ⟨hm1, hm2⟩ := made_bytes hown hgrow; have HM1 : Hid _ := hm1; have HM2 : Hid _ := hm2; clear hown hgrow hm1 hm2) | ((refine wpList_copy_splice rfl _ _ 35 35 rfl 5 Try.underlying35 Try.size5 _ _ _ _ _ _ (by rfl) (by rfl) w.heap.size 0 _ 5 HM1.out (cells l) (by simp [cells_length]) (fun h0 => ⟨rfl, row_src (HR.out.later HM2.out) h0⟩) (by simp [cells_length]) (one_cell l) w.heap.size w HM2.out (Nat.le_refl _) ?_); intro w2 HC HB; have HB2 : Hid _ := HB; clear HB))
  go_ret
  refine ⟨rfl, ⟨?_, HR.out.1, HR.out.2.1⟩, HB2.out⟩
  rw [HC.out]
  simp [splice, cells_length]

theorem put_set (l : List Nat) (m : Nat) (r : List Nat) (b : Nat) : (cells (l ++ List.replicate (m + 1) 0 ++ r)).toArray.setIfInBounds (l.length + m) (.int .u8 (b : Nat)) = (cells (l ++ List.replicate m 0 ++ (b :: r))).toArray := by
  have h : l ++ List.replicate (m + 1) 0 ++ r = (l ++ List.replicate m 0) ++ 0 :: r := by simp [List.replicate_succ']
  rw [h, cells_append (l ++ List.replicate m 0) (0 :: r), cells_append (l ++ List.replicate m 0) (b :: r)]
  rw [List.setIfInBounds_toArray]
  congr 1
  rw [List.set_append_right _ _ (by rw [cells_length]; simp)]
  congr 1
  have : l.length + m - (cells (l ++ List.replicate m 0)).length = 0 := by rw [cells_length]; simp
  rw [this]
  rfl

set_option maxRecDepth 20000 in
set_option maxHeartbeats 2000000 in
theorem put_any (a : Option Addr) (cap : Nat) (l : List Nat) (x k : Nat) (w : World) (hr : Row w a l) (hz : l.length ≤ 140737488351232) (hx : x < 18446744073709551616) (hk : k ≤ 8) :
    Calls Try.prog 75 #[.slice a l.length cap, .int .u64 x, .int .i64 k] w fun e w' => e = .returned (.slice (some ⟨w.heap.size, 0, none⟩) (l.length + k) (l.length + k)) ∧ Bs w' w.heap.size (l ++ be x k) ∧ Below w.heap.size w w' := by
  obtain ⟨i0, hi, hz0, hz1, hz2⟩ := info_parts Try.info5
  have HI : Hid _ := hi
  have HR : Hid (Row w a l) := hr
  clear hi hr
  have hb2 : i0.bytes * (l.length + k) ≤ 281474976710656 := by rw [hz2]; omega
  go_enter Try.func75, Try.ntmps75
  go_wp2_with (first | (at_make; refine wpList_make_full _ rfl _ _ 35 rfl w.heap.size 5 i0 _ 1 Try.underlying35 HI.out hz0 hz1 .i64 .i64 _ _ (l.length + k) (by rfl) (by rfl) (by omega) (by omega) hb2 (by unfold maxLen; omega) (Nat.le_refl _) ?_; intro w1 hown hgrow; obtain ⟨hm1, hm2⟩ := made_bytes hown hgrow; have HM1 : Hid _ := hm1; have HM2 : Hid _ := hm2; clear hown hgrow hm1 hm2) | ((refine wpList_copy_splice rfl _ _ 35 35 rfl 5 Try.underlying35 Try.size5 _ _ _ _ _ _ (by rfl) (by rfl) w.heap.size 0 _ 5 HM1.out (cells l) (by simp [cells_length]) (fun h0 => ⟨rfl, row_src (HR.out.later HM2.out) h0⟩) (by simp [cells_length]) (one_cell l) w.heap.size w HM2.out (Nat.le_refl _) ?_); intro w2 HC HB; have HB2 : Hid _ := HB; clear HB))
  have HS : Hid (w2.heap[w.heap.size]? = some (.cells (cells (l ++ List.replicate k 0 ++ be x 0)).toArray 5 (0, 0))) := by
    show _ = _
    rw [HC.out]
    simp only [splice, List.take_zero, List.nil_append, Nat.zero_add, cells_length]
    have h1 : (cells (List.replicate (l.length + k) 0)).drop l.length = cells (List.replicate k 0) := by
      simp [cells, List.map_replicate]
    rw [h1, cells_append, cells_append]
    simp [be, leN, cells]
  clear HC HM1 HM2
  go_loopw [1, 8] (fun u i wr => ∃ j : Nat, j ≤ k ∧ u = .int .u64 (x / 256 ^ j : Nat) ∧ i = .int .i64 ((l.length : Int) + (k : Int) - 1 - (j : Int)) ∧ Hid (wr.heap[w.heap.size]? = some (.cells (cells (l ++ List.replicate (k - j) 0 ++ be x j)).toArray 5 (0, 0)) ∧ Below w.heap.size w wr))
    (fun _ i _ => (intOf i + 1).toNat)
  case atStart => exact ⟨0, by omega, by simp, by simp, HS.out, HB2.out⟩
  case round =>
    obtain ⟨j, hj, rfl, rfl, HJ⟩ := hrel
    have hq : x / 256 ^ j < 18446744073709551616 := Nat.lt_of_le_of_lt (Nat.div_le_self _ _) hx
    have HD : Hid (x / 256 ^ (j + 1) = x / 256 ^ j / 256) := div_succ x j
    have HL : Hid (be x (j + 1) = x / 256 ^ j % 256 :: be x j) := be_succ x j
    generalize x / 256 ^ j = q at hq HD HL ⊢
    by_cases hjk : j < k
    · obtain ⟨m, hm⟩ : ∃ m, k = m + 1 + j := ⟨k - 1 - j, by omega⟩
      have HM : Hid (k = m + 1 + j) := hm
      rw [show (l.length : Int) + (k : Int) - 1 - (j : Int) = ((l.length + m : Nat) : Int) by omega]
      have i1 : (0 : Int) ≤ ((l.length + m : Nat) : Int) := Int.natCast_nonneg _
      have i2 : ((l.length + m : Nat) : Int) < ((l.length + k : Nat) : Int) := by omega
      have i3 : l.length + m < l.length + k := by omega
      have hblk : wr.heap[w.heap.size]? = some (.cells (cells (l ++ List.replicate (m + 1) 0 ++ be x j)).toArray 5 (0, 0)) := by
        rw [show m + 1 = k - j by omega]; exact HJ.out.1
      have hcell : ∃ u, wr.cell? ⟨w.heap.size, l.length + m, none⟩ = some u := by
        rw [cell_of hblk]
        exact ⟨_, Array.getElem?_eq_getElem (by simp [cells_length]; omega)⟩
      obtain ⟨u, hcell⟩ := hcell
      have hfr := frozen_of hblk (l.length + m)
      have HN : Hid ((wr.setCell ⟨w.heap.size, l.length + m, none⟩ (.int .u8 ((q % 256 : Nat) : Int))).heap[w.heap.size]? = some (.cells (cells (l ++ List.replicate (k - (j + 1)) 0 ++ be x (j + 1))).toArray 5 (0, 0)) ∧ Below w.heap.size w (wr.setCell ⟨w.heap.size, l.length + m, none⟩ (.int .u8 ((q % 256 : Nat) : Int)))) := by
        refine ⟨?_, HJ.out.2.setCell (p := ⟨w.heap.size, l.length + m, none⟩) (Nat.le_refl _) _⟩
        rw [heap_setCell_same _ _ _ _ _ _ hblk, HL.out, show k - (j + 1) = m by omega, put_set]
      clear hm hblk i2
      go_wp2
      have hm := HM.out
      refine ⟨⟨j + 1, by omega, ?_, ?_, HN⟩, ?_⟩
      · rw [HD.out]; congr 1
      · congr 1; omega
      · simp only [intOf]; omega
    · obtain rfl : j = k := by omega
      rw [show (l.length : Int) + (j : Int) - 1 - (j : Int) = (l.length : Int) - 1 by omega]
      go_wp2
      go_ret
      refine ⟨rfl, ⟨?_, ?_, ?_⟩, HJ.out.2⟩
      · have := HJ.out.1
        rw [Nat.sub_self, List.replicate_zero, List.append_nil] at this
        exact this
      · intro y hy
        rcases List.mem_append.1 hy with h | h
        · exact HR.out.1 y h
        · exact be_byte _ _ y h
      · rw [List.length_append, be_length]; unfold maxLen; omega

/-- a number's bytes behind l, in new memory. -/
def Puts (w : World) (m : List Nat) (e : Ending) (w' : World) : Prop := e = .returned (.slice (some ⟨w.heap.size, 0, none⟩) m.length m.length) ∧ Bs w' w.heap.size m ∧ Below w.heap.size w w'

theorem put16_any (a : Option Addr) (cap : Nat) (l : List Nat) (x : Nat) (w : World) (hr : Row w a l) (hz : l.length ≤ 140737488351232) (hx : x < 65536) : Calls Try.prog 61 #[.slice a l.length cap, .int .u16 x] w fun e w' => Puts w (l ++ be x 2) e w' := by
  have h := put_any a cap l x 2 w hr hz (by omega) (by omega)
  have hl : (l ++ be x 2).length = l.length + 2 := by rw [List.length_append, be_length]
  unfold Puts
  rw [hl]
  go_enter Try.func61, Try.ntmps61
  go_wp2_with (go_at_call 75; refine h.mono ?_; rintro e w' ⟨rfl, h1⟩)
  go_ret
  exact ⟨rfl, h1⟩

end Go.Proofs.Ytfocejmfmnijpaa
