/- The walk of the reference's Rows; bytes that are none. -/
import Derived.Test.YthhoafhkdioboaaSOwn
namespace Go.Proofs.Ythhoafhkdioboaa
open Go.RowKit
set_option linter.unusedVariables false

def lenOf : Value → Nat | .slice _ n _ => n | _ => 0
set_option maxRecDepth 20000 in
set_option maxHeartbeats 1000000 in
theorem rrows_some (w : World) (b o c : Nat) (l : List Nat) (n : Nat) (hr : Row w (some ⟨b, o, none⟩) l) (hz : l.length ≤ 140737488351232) (hc : l.length ≤ c) (hn : n ≤ 65536) :
    Calls Try.prog 18 #[.slice (some ⟨b, o, none⟩) l.length c, .int .i64 n] w fun e w' => RowsR w (rowsA n [] 0 l) e w' := by
  have HR : Hid (Row w (some ⟨b, o, none⟩) l) := hr
  have HC : Hid (∃ C, C = rowsA n [] 0 l) := ⟨_, rfl⟩
  obtain ⟨C, hC⟩ := HC.out
  rw [← hC]
  have HCE : Hid (rowsA n [] 0 l = C) := hC.symm
  clear hC HC hr
  go_enter Try.func18, Try.ntmps18
  go_wp2
  go_loopw [7, 8] (fun u p wr => ∃ (k q : Nat) (acc : List Nat), k ≤ n ∧ p = .int .i64 q ∧ q ≤ l.length ∧ (∃ A cA, u = .slice A k cA) ∧ Hid (acc.length = k ∧ wr.ownsRow w.heap.size 26 1 u k (cells64 acc) ∧ rowsA (n - k) acc q l = C ∧ Below w.heap.size w wr)) (fun u _ _ => n - lenOf u)
  case atStart => exact ⟨0, 0, [], by omega, rfl, by omega, ⟨none, 0, rfl⟩, rfl, none64 w _, HCE.out, Below.refl _ _⟩
  case round =>
    obtain ⟨k, q, acc, hk, rfl, hq, ⟨A0, cA, rfl⟩, HD⟩ := hrel
    by_cases hlt : k < n
    · obtain ⟨A, hA, hrow⟩ := row_part (HR.out.later HD.out.2.2.2) q hq hc
      have hz2 : (l.drop q).length ≤ 140737488351232 := by rw [List.length_drop]; omega
      have HG : ∀ c, Calls Try.prog 17 #[.slice (some A) (l.length - q) c] wr fun e w' => e = .returned (.tuple #[.int .u64 ((getS (l.drop q)).1 : Nat), .int .i64 ((getS (l.drop q)).2.1 : Nat), .int .i64 (getS (l.drop q)).2.2]) ∧ wr = w' := fun c => by
        have := rget_any wr (some A) c (l.drop q) hrow hz2
        rw [List.length_drop] at this
        exact this
      have HK : Hid (rowsA (n - k) acc q l = if (getS (l.drop q)).2.2 = 0 then rowsA (n - (k + 1)) (acc ++ [(getS (l.drop q)).1]) (q + (getS (l.drop q)).2.1) l else ([], 0, (getS (l.drop q)).2.2)) := by
        show _ = _
        rw [show n - k = (n - (k + 1)) + 1 by omega, rowsA]
      have hlt2 := get_lt (l.drop q) (drop_byte HR.out.1 q)
      rw [List.length_drop] at hlt2
      have h00 := get_err0 (l.drop q)
      have i1 : (q : Int) ≤ (l.length : Int) := by omega
      have i2 : (q : Int) ≤ (c : Int) := by omega
      clear hrow hz2
      generalize getS (l.drop q) = G at HG HK hlt2 h00
      obtain ⟨x, y, E⟩ := G
      simp only at HG HK hlt2 h00
      rcases h00 with rfl | ⟨rfl, rfl, hE⟩
      · have HK2 : Hid (rowsA (n - (k + 1)) (acc ++ [x]) (q + y) l = C) := by show _ = _; rw [← HD.out.2.2.1, HK.out, if_pos rfl]
        have hx : x < 18446744073709551616 := hlt2.1
        have hy : q + y ≤ l.length := by omega
        clear HK hlt2
        go_wp2_with (first | (go_at_call 17; refine (HG _).mono ?_; rintro e w1 ⟨rfl, rfl⟩) | (at_builtin; (refine wpList_append_64 rfl _ _ rfl w.heap.size (.slice A0 k cA) acc k rfl ((Off.refl (fun _ => False) wr).alloc _ |>.owns HD.out.2.1 (fun _ _ => id)) _ _ x rfl (heap_alloc_new wr _) (by omega) (by have := HD.out.2.2.2.size; simp; omega) ?_); intro g2 c2 w2 ho2 hb2 hc2))
        go_roundw
        case rel => exact ⟨k + 1, q + y, acc ++ [x], by omega, by go_num, hy, ⟨_, _, rfl⟩, by simp [HD.out.1], ho2, HK2.out, (HD.out.2.2.2.alloc HD.out.2.2.2.size _).trans hb2⟩
        case measure => simp [lenOf]; omega
      · have HK2 : Hid (C = ([], 0, E)) := by show _ = _; rw [← HD.out.2.2.1, HK.out, if_neg hE]
        have hE2 : (E != 0) = true := by simpa using hE
        clear HK hlt2 hE
        go_wp2_with (first | (go_at_call 17; refine (HG _).mono ?_; rintro e w1 ⟨rfl, rfl⟩))
        go_ret3
        rw [HK2.out]
        exact ⟨_, rfl, none64 _ _, HD.out.2.2.2⟩
    · obtain rfl : k = n := by omega
      have HK2 : Hid (C = (acc, q, 0)) := by show _ = _; rw [← HD.out.2.2.1, Nat.sub_self]; rfl
      go_wp2
      go_ret3
      rw [HK2.out]
      exact ⟨_, rfl, by rw [HD.out.1]; exact HD.out.2.1, HD.out.2.2.2⟩
set_option maxRecDepth 20000 in
set_option maxHeartbeats 1000000 in
theorem rrows_arg (w : World) (a : Option Addr) (m c : Nat) (n : Int) (hn : n < 0 ∨ 65536 < n) :
    Calls Try.prog 18 #[.slice a m c, .int .i64 n] w fun e w' => e = .returned (.tuple #[.slice none 0 0, .int .i64 0, .int .i64 2]) ∧ w = w' := by
  rcases hn with hn | hn
  · have h1 : decide (n < 0) = true := by simp; omega
    go_enter Try.func18, Try.ntmps18
    go_wp2
    go_ret3
    exact ⟨rfl, rfl⟩
  · have h1 : decide (n < 0) = false := by simp; omega
    have h2 : decide (65536 < n) = true := by simp; omega
    go_enter Try.func18, Try.ntmps18
    go_wp2
    go_ret3
    exact ⟨rfl, rfl⟩
set_option maxRecDepth 20000 in
set_option maxHeartbeats 1000000 in
theorem rrows_none0 (w : World) (c : Nat) : Calls Try.prog 18 #[.slice none 0 c, .int .i64 0] w fun e w' => e = .returned (.tuple #[.slice none 0 0, .int .i64 0, .int .i64 0]) ∧ w = w' := by
  go_enter Try.func18, Try.ntmps18
  go_wp2
  go_loop [7, 8] (fun u p => u = .slice none 0 0 ∧ p = .int .i64 0) (fun _ _ => 0)
  case atStart => exact ⟨rfl, rfl⟩
  case round =>
    obtain ⟨rfl, rfl⟩ := hrel
    go_wp2
    go_ret3
    exact ⟨rfl, rfl⟩
set_option maxRecDepth 20000 in
set_option maxHeartbeats 1000000 in
theorem rrows_none1 (w : World) (c n : Nat) (hn : n ≤ 65536) (h0 : 0 < n) (E : Int) (hE : (E != 0) = true) (HG : ∀ c, Calls Try.prog 17 #[.slice none 0 c] w fun e w' => e = .returned (.tuple #[.int .u64 0, .int .i64 0, .int .i64 E]) ∧ w = w') : Calls Try.prog 18 #[.slice none 0 c, .int .i64 n] w fun e w' => e = .returned (.tuple #[.slice none 0 0, .int .i64 0, .int .i64 E]) ∧ w = w' := by
  go_enter Try.func18, Try.ntmps18
  go_wp2
  go_loop [7, 8] (fun u p => u = .slice none 0 0 ∧ p = .int .i64 0) (fun _ _ => 0)
  case atStart => exact ⟨rfl, rfl⟩
  case round =>
    obtain ⟨rfl, rfl⟩ := hrel
    go_wp2_with (go_at_call 17; refine (HG _).mono ?_; rintro e w1 ⟨rfl, rfl⟩)
    go_ret3
    exact ⟨rfl, rfl⟩
set_option maxRecDepth 20000 in
set_option maxHeartbeats 1000000 in
theorem rrows_empty0 (w : World) (ad : Addr) (c : Nat) : Calls Try.prog 18 #[.slice (some ad) 0 c, .int .i64 0] w fun e w' => e = .returned (.tuple #[.slice none 0 0, .int .i64 0, .int .i64 0]) ∧ w = w' := by
  go_enter Try.func18, Try.ntmps18
  go_wp2
  go_loop [7, 8] (fun u p => u = .slice none 0 0 ∧ p = .int .i64 0) (fun _ _ => 0)
  case atStart => exact ⟨rfl, rfl⟩
  case round =>
    obtain ⟨rfl, rfl⟩ := hrel
    go_wp2
    go_ret3
    exact ⟨rfl, rfl⟩
set_option maxRecDepth 20000 in
set_option maxHeartbeats 1000000 in
theorem rrows_empty1 (w : World) (ad : Addr) (c : Nat) (n : Nat) (hn : n ≤ 65536) (h0 : 0 < n) (E : Int) (hE : (E != 0) = true) (HG : ∀ a c, Calls Try.prog 17 #[.slice a 0 c] w fun e w' => e = .returned (.tuple #[.int .u64 0, .int .i64 0, .int .i64 E]) ∧ w = w') : Calls Try.prog 18 #[.slice (some ad) 0 c, .int .i64 n] w fun e w' => e = .returned (.tuple #[.slice none 0 0, .int .i64 0, .int .i64 E]) ∧ w = w' := by
  go_enter Try.func18, Try.ntmps18
  go_wp2
  go_loop [7, 8] (fun u p => u = .slice none 0 0 ∧ p = .int .i64 0) (fun _ _ => 0)
  case atStart => exact ⟨rfl, rfl⟩
  case round =>
    obtain ⟨rfl, rfl⟩ := hrel
    go_wp2_with (go_at_call 17; refine (HG _ _).mono ?_; rintro e w1 ⟨rfl, rfl⟩)
    all_goals
      go_ret3
      exact ⟨rfl, rfl⟩
theorem rrows_empty (w : World) (ad : Addr) (c n : Nat) (hn : n ≤ 65536) : Calls Try.prog 18 #[.slice (some ad) 0 c, .int .i64 n] w fun e w' => RowsR w (rowsA n [] 0 []) e w' := by
  rcases Nat.eq_zero_or_pos n with rfl | h0
  · refine (rrows_empty0 w ad c).mono ?_
    rintro e w' ⟨rfl, rfl⟩
    exact ⟨_, rfl, none64 _ _, Below.refl _ _⟩
  · refine (rrows_empty1 w ad c n hn h0 7 rfl (fun a c => rget_none w a c)).mono ?_
    rintro e w' ⟨rfl, rfl⟩
    obtain ⟨m, rfl⟩ : ∃ m, n = m + 1 := ⟨n - 1, by omega⟩
    exact ⟨_, rfl, none64 _ _, Below.refl _ _⟩
theorem rrows_none (w : World) (c n : Nat) (hn : n ≤ 65536) : Calls Try.prog 18 #[.slice none 0 c, .int .i64 n] w fun e w' => RowsR w (rowsA n [] 0 []) e w' := by
  rcases Nat.eq_zero_or_pos n with rfl | h0
  · refine (rrows_none0 w c).mono ?_
    rintro e w' ⟨rfl, rfl⟩
    exact ⟨_, rfl, none64 _ _, Below.refl _ _⟩
  · refine (rrows_none1 w c n hn h0 7 rfl (fun c => rget_none w none c)).mono ?_
    rintro e w' ⟨rfl, rfl⟩
    obtain ⟨m, rfl⟩ : ∃ m, n = m + 1 := ⟨n - 1, by omega⟩
    exact ⟨_, rfl, none64 _ _, Below.refl _ _⟩
/-- what Rows tells of whatever count. -/
def rowsN (n : Int) (l : List Nat) : List Nat × Nat × Int := if n < 0 ∨ 65536 < n then ([], 0, 2) else rowsA n.toNat [] 0 l
theorem rows_all (w : World) (g c : Nat) (l : List Nat) (n : Int) (m : Nat) (hm : l.length = m) (hr : Row w (some ⟨g, 0, none⟩) l) (hz : m ≤ 140737488351232) (hc : m ≤ c) :
    Calls Try.prog 19 #[.slice (some ⟨g, 0, none⟩) m c, .int .i64 n] w fun e w' => RowsR w (rowsN n l) e w' := by
  subst hm
  unfold rowsN
  by_cases hn : n < 0 ∨ 65536 < n
  · rw [if_pos hn]
    refine (rows_arg w _ _ _ n hn).mono ?_
    rintro e w' ⟨rfl, rfl⟩
    exact ⟨_, rfl, none64 _ _, Below.refl _ _⟩
  · rw [if_neg hn]
    obtain ⟨k, rfl⟩ : ∃ k : Nat, n = k := ⟨n.toNat, by omega⟩
    exact rows_some w g 0 c l k hr hz hc (by omega)
theorem rrows_all (w : World) (a : Option Addr) (c : Nat) (l : List Nat) (n : Int) (m : Nat) (hm : l.length = m) (hr : Row w a l) (hz : m ≤ 140737488351232) (hc : m ≤ c) :
    Calls Try.prog 18 #[.slice a m c, .int .i64 n] w fun e w' => RowsR w (rowsN n l) e w' := by
  subst hm
  unfold rowsN
  by_cases hn : n < 0 ∨ 65536 < n
  · rw [if_pos hn]
    refine (rrows_arg w _ _ _ n hn).mono ?_
    rintro e w' ⟨rfl, rfl⟩
    exact ⟨_, rfl, none64 _ _, Below.refl _ _⟩
  · rw [if_neg hn]
    obtain ⟨k, rfl⟩ : ∃ k : Nat, n = k := ⟨n.toNat, by omega⟩
    cases a with
    | none =>
      obtain rfl := row_none hr
      exact rrows_none w c k (by omega)
    | some ad =>
      rcases Nat.eq_zero_or_pos l.length with h0 | h0
      · obtain rfl : l = [] := List.eq_nil_of_length_eq_zero h0
        exact rrows_empty w ad c k (by omega)
      · obtain ⟨b, o, e, _⟩ := hr.2.2 h0
        cases e
        exact rrows_some w b o c l k hr hz hc (by omega)
end Go.Proofs.Ythhoafhkdioboaa
