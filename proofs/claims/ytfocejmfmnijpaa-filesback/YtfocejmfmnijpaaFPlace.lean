/- The walks of strings.Compare, slices.BinarySearchFunc at place's closure, and files.place. -/
import Derived.Test.YtfocejmfmnijpaaFNames
namespace Go.Proofs.Ytfocejmfmnijpaa
open Go.RowKit

set_option maxHeartbeats 1000000 in
set_option maxRecDepth 100000 in
theorem compareString_any (a b : ByteArray) (w : World) :
    Calls Try.prog 78 #[.string a, .string b] w fun e w' => e = .returned (.int .i64 (cmpI a b)) ∧ w' = w := by
  go_enter Try.func78, Try.ntmps78
  go_wp2
  rw [run_callFunc_extern Try.func82 (by kernel_rfl) (by kernel_rfl) (by kernel_rfl) (e := Extern.BytealgCompare.compare) (by kernel_rfl), Lib.run_compareString]
  simp only [Result.andThen]
  rw [Oper.upon_value]
  go_wp2
  go_ret
  exact ⟨rfl, rfl⟩

set_option maxHeartbeats 1000000 in
theorem compare_any (a b : ByteArray) (w : World) :
    Calls Try.prog 69 #[.string a, .string b] w fun e w' => e = .returned (.int .i64 (cmpI a b)) ∧ w' = w := by
  go_enter Try.func69, Try.ntmps69
  go_wp2_with (go_at_call 78; refine (compareString_any _ _ _).mono ?_; rintro e w' ⟨rfl, rfl⟩)
  go_ret
  exact ⟨rfl, rfl⟩

theorem place1_any (s n : ByteArray) (v : Value) (w : World) :
    Calls Try.prog 68 #[.agg #[.string s, v], .string n] w fun e w' => e = .returned (.int .i64 (cmpI s n)) ∧ w' = w.alloc (.cells #[.string s, v] 53) := by
  go_enter Try.func68, Try.ntmps68
  go_wp2_with (go_at_call 69; refine (compare_any _ _ _).mono ?_; rintro e w' ⟨rfl, rfl⟩)
  go_ret
  exact ⟨rfl, rfl⟩

theorem there_pos {L : List Fil} {n : ByteArray} (h : atS L n < L.length) : thereB L n = decide (cmpI L[atS L n].name n = 0) := by
  unfold thereB
  rw [List.getElem?_eq_getElem h]
  simp only [cmp_zero]
theorem there_neg {L : List Fil} {n : ByteArray} (h : ¬ atS L n < L.length) : thereB L n = false := by
  unfold thereB
  rw [List.getElem?_eq_none (by omega)]

set_option maxHeartbeats 1000000 in
set_option maxRecDepth 1000000 in
theorem search_any (w : World) (a : Option Addr) (c : Nat) (L : List Fil) (h : ListAt w a L) (n : ByteArray) (hr : risingB L = true) :
    Calls Try.prog 67 #[.slice a L.length c, .string n, .func (.func 68) #[] #[]] w fun e w' => e = .returned (.tuple #[.int .i64 (atS L n : Nat), .bool (thereB L n)]) ∧ Below w.heap.size w w' := by
  have hm := h.2.1
  have HL : Hid (ListAt w a L) := h
  have HR : Hid (risingB L = true) := hr
  have hp := atS_le L n
  clear h hr
  go_enter Try.func67, Try.ntmps67
  go_wp2
  go_loopw [9, 10] (fun i j wr => ∃ x y : Nat, i = .int .i64 x ∧ j = .int .i64 y ∧ x ≤ atS L n ∧ atS L n ≤ y ∧ y ≤ L.length ∧ Below w.heap.size w wr) (fun i j _ => (intOf j - intOf i).toNat)
  case atStart => exact ⟨0, L.length, rfl, rfl, Nat.zero_le _, hp, Nat.le_refl _, Below.refl _ _⟩
  case round =>
    obtain ⟨x, y, rfl, rfl, hx, hy, hyl, hbw⟩ := hrel
    by_cases hxy : x < y
    · obtain ⟨b, o, rfl, hc⟩ := HL.out.2.2 (by omega)
      have hh : (x + y) / 2 < L.length := by omega
      obtain ⟨h1, a2, c2, h2, _⟩ := (hc _ hh).later hbw
      have HB : Hid (Below w.heap.size w wr) := hbw
      have HA : Hid (∀ i (hi : i < L.length), atS L n ≤ i → lessB L[i].name n = false) := fun i hi => atS_above HR.out n i hi
      have HA2 : Hid (∀ i (hi : i < L.length), i < atS L n → lessB L[i].name n = true) := fun i hi => atS_below L n i hi
      clear hc hbw
      by_cases hl : cmpI L[(x + y) / 2].name n < 0
      · have hlt : (x + y) / 2 < atS L n := by
          rcases Nat.lt_or_ge ((x + y) / 2) (atS L n) with h | h
          · exact h
          · rw [cmp_less, HA.out _ hh h] at hl; cases hl
        clear HA HA2
        generalize L[(x + y) / 2] = z at h1 h2 hl
        go_wp2_with (go_at_call 68; refine (place1_any _ _ _ _).mono ?_; rintro e w' ⟨rfl, rfl⟩)
        go_roundw
        case rel => exact ⟨(x + y) / 2 + 1, y, by go_num, rfl, by omega, hy, hyl, HB.out.alloc HB.out.size _⟩
        case measure => simp [intOf]; omega
      · have hge : atS L n ≤ (x + y) / 2 := by
          rcases Nat.lt_or_ge ((x + y) / 2) (atS L n) with h | h
          · rw [cmp_less, HA2.out _ hh h] at hl; exact absurd rfl hl
          · exact h
        clear HA HA2
        generalize L[(x + y) / 2] = z at h1 h2 hl
        go_wp2_with (go_at_call 68; refine (place1_any _ _ _ _).mono ?_; rintro e w' ⟨rfl, rfl⟩)
        go_roundw
        case rel => exact ⟨x, (x + y) / 2, rfl, by go_num, hx, hge, by omega, HB.out.alloc HB.out.size _⟩
        case measure => simp [intOf]; omega
    · obtain rfl : x = atS L n := by omega
      have HB : Hid (Below w.heap.size w wr) := hbw
      by_cases hn : atS L n < L.length
      · obtain ⟨b, o, rfl, hc⟩ := HL.out.2.2 (by omega)
        obtain ⟨h1, a2, c2, h2, _⟩ := (hc _ hn).later hbw
        have HT : Hid (thereB L n = decide (cmpI L[atS L n].name n = 0)) := there_pos hn
        clear hc hbw
        generalize L[atS L n] = z at h1 h2 HT
        go_wp2_with (go_at_call 68; refine (place1_any _ _ _ _).mono ?_; rintro e w' ⟨rfl, rfl⟩)
        go_ret2
        exact ⟨by rw [HT.out]; rfl, HB.out.alloc HB.out.size _⟩
      · have HT : Hid (thereB L n = false) := there_neg hn
        clear hbw
        go_wp2
        go_ret2
        exact ⟨by rw [HT.out]; rfl, HB.out⟩

theorem place_any (w : World) (a : Option Addr) (c : Nat) (L : List Fil) (h : ListAt w a L) (n : ByteArray) (hr : risingB L = true) :
    Calls Try.prog 51 #[.slice a L.length c, .string n] w fun e w' => e = .returned (.tuple #[.int .i64 (atS L n : Nat), .bool (thereB L n)]) ∧ Below w.heap.size w w' := by
  go_enter Try.func51, Try.ntmps51
  go_wp2_with (go_at_call 67; refine (search_any w a c L h n hr).mono ?_; rintro e w' ⟨rfl, hb⟩)
  go_ret2
  exact ⟨rfl, hb⟩
end Go.Proofs.Ytfocejmfmnijpaa
