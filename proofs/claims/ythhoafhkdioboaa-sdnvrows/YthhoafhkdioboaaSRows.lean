/- Numbers out of a row of bytes; the walk of sdnv.Rows. -/
import Derived.Test.YthhoafhkdioboaaSRow
namespace Go.Proofs.Ythhoafhkdioboaa
open Go.RowKit
set_option linter.unusedVariables false

/-- the next n numbers of b, behind those that were got. -/
def rowsA : Nat → List Nat → Nat → List Nat → List Nat × Nat × Int
  | 0, acc, at_, _ => (acc, at_, 0)
  | n + 1, acc, at_, b => if (getS (b.drop at_)).2.2 = 0 then rowsA n (acc ++ [(getS (b.drop at_)).1]) (at_ + (getS (b.drop at_)).2.1) b else ([], 0, (getS (b.drop at_)).2.2)
theorem get_err0 (b : List Nat) : (getS b).2.2 = 0 ∨ (getS b).1 = 0 ∧ (getS b).2.1 = 0 ∧ (getS b).2.2 ≠ 0 := by
  rcases get_err b with ⟨n, k, h⟩ | h | h | h
  · exact .inl (by rw [h])
  all_goals exact .inr (by rw [h]; exact ⟨rfl, rfl, by decide⟩)
theorem drop_byte {b : List Nat} (h : ∀ x ∈ b, x < 256) (k : Nat) : ∀ x ∈ b.drop k, x < 256 := fun x hx => h x (List.mem_of_mem_drop hx)
/-- what comes of it: in bounds. -/
theorem rowsA_bound (n : Nat) : ∀ (acc : List Nat) (at_ : Nat) (b : List Nat), (∀ x ∈ b, x < 256) → (∀ x ∈ acc, x < 18446744073709551616) → at_ ≤ b.length → (∀ x ∈ (rowsA n acc at_ b).1, x < 18446744073709551616) ∧ (rowsA n acc at_ b).1.length ≤ acc.length + n ∧ (rowsA n acc at_ b).2.1 ≤ b.length := by
  induction n with
  | zero => intro acc at_ b _ ha hat; exact ⟨ha, by simp [rowsA], hat⟩
  | succ n ih =>
    intro acc at_ b hb ha hat
    have hg := get_lt (b.drop at_) (drop_byte hb at_)
    rw [rowsA]
    by_cases h0 : (getS (b.drop at_)).2.2 = 0
    · rw [if_pos h0]
      obtain ⟨h1, h2, h3⟩ := ih (acc ++ [(getS (b.drop at_)).1]) (at_ + (getS (b.drop at_)).2.1) b hb (fun x hx => (List.mem_append.1 hx).elim (ha x) (fun h => by rw [List.mem_singleton.1 h]; exact hg.1)) (by have := hg.2; rw [List.length_drop] at this; omega)
      refine ⟨h1, ?_, h3⟩
      rw [List.length_append, List.length_singleton] at h2
      omega
    · rw [if_neg h0]
      exact ⟨by simp, by simp, by simp⟩
/-- numbers in a row are got in a row. -/
theorem rowsA_row (R : List Nat) : ∀ (acc P t : List Nat), (∀ x ∈ R, x < 18446744073709551616) → rowsA R.length acc P.length (P ++ (rowL R ++ t)) = (acc ++ R, P.length + (rowL R).length, 0) := by
  induction R with
  | nil => intro acc P t _; simp [rowsA, rowL]
  | cons n r ih =>
    intro acc P t h
    have hg := get_sd n (h n List.mem_cons_self) (rowL r ++ t)
    have hd : (P ++ (rowL (n :: r) ++ t)).drop P.length = sd n ++ (rowL r ++ t) := by rw [List.drop_left, rowL, List.append_assoc]
    rw [List.length_cons, rowsA, hd, hg, if_pos rfl]
    have := ih (acc ++ [n]) (P ++ sd n) t (fun x hx => h x (List.mem_cons_of_mem _ hx))
    simp only
    rw [show P.length + sz n = (P ++ sd n).length by rw [List.length_append]; rfl, show P ++ (rowL (n :: r) ++ t) = P ++ sd n ++ (rowL r ++ t) by simp [rowL], this]
    simp [rowL, Nat.add_assoc]
/-- the end of bytes. -/
theorem row_part {w : World} {b o c : Nat} {l : List Nat} (h : Row w (some ⟨b, o, none⟩) l) (f : Nat) (hn : f ≤ l.length) (hc : l.length ≤ c) : ∃ A, (if c = f then some (⟨b, o, none⟩ : Addr) else some ⟨b, o + f, none⟩) = some A ∧ Row w (some A) (l.drop f) := by
  have hl : (l.drop f).length = l.length - f := by rw [List.length_drop]
  by_cases hcf : c = f
  · refine ⟨_, by rw [if_pos hcf], fun x hx => h.1 x (List.mem_of_mem_drop hx), by have := h.2.1; omega, fun h0 => absurd h0 (by omega)⟩
  · refine ⟨_, by rw [if_neg hcf], fun x hx => h.1 x (List.mem_of_mem_drop hx), by have := h.2.1; omega, fun h0 => ⟨b, o + f, rfl, fun i hi => ?_⟩⟩
    obtain ⟨b', off, he, hcl⟩ := h.2.2 (by omega)
    cases he
    have := hcl (f + i) (by omega)
    rw [← Nat.add_assoc] at this
    rw [this, List.getD_eq_getElem?_getD, List.getD_eq_getElem?_getD, List.getElem?_drop]
/-- what Rows comes to. -/
def RowsR (w : World) (C : List Nat × Nat × Int) (e : Ending) (w' : World) : Prop :=
  ∃ v, e = .returned (.tuple #[v, .int .i64 (C.2.1 : Nat), .int .i64 C.2.2]) ∧ Hid (w'.ownsRow w.heap.size 26 1 v C.1.length (cells64 C.1) ∧ Below w.heap.size w w')
set_option maxRecDepth 20000 in
set_option maxHeartbeats 1000000 in
theorem rows_some (w : World) (b o c : Nat) (l : List Nat) (n : Nat) (hr : Row w (some ⟨b, o, none⟩) l) (hz : l.length ≤ 140737488351232) (hc : l.length ≤ c) (hn : n ≤ 65536) :
    Calls Try.prog 19 #[.slice (some ⟨b, o, none⟩) l.length c, .int .i64 n] w fun e w' => RowsR w (rowsA n [] 0 l) e w' := by
  have HR : Hid (Row w (some ⟨b, o, none⟩) l) := hr
  have HC : Hid (∃ C, C = rowsA n [] 0 l) := ⟨_, rfl⟩
  obtain ⟨C, hC⟩ := HC.out
  rw [← hC]
  have HCE : Hid (rowsA n [] 0 l = C) := hC.symm
  clear hC HC hr
  go_enter Try.func19, Try.ntmps19
  go_wp2
  go_loopw [7, 8, 19] (fun u p i wr => ∃ (k q : Nat) (acc : List Nat), k ≤ n ∧ i = .int .i64 k ∧ p = .int .i64 q ∧ q ≤ l.length ∧ Hid (acc.length = k ∧ wr.ownsRow w.heap.size 26 1 u k (cells64 acc) ∧ rowsA (n - k) acc q l = C ∧ Below w.heap.size w wr)) (fun _ _ i _ => n - (intOf i).toNat)
  case atStart => exact ⟨0, 0, [], by omega, rfl, rfl, by omega, rfl, none64 w _, HCE.out, Below.refl _ _⟩
  case round =>
    obtain ⟨k, q, acc, hk, rfl, rfl, hq, HD⟩ := hrel
    by_cases hlt : k < n
    · obtain ⟨A, hA, hrow⟩ := row_part (HR.out.later HD.out.2.2.2) q hq hc
      have hz2 : (l.drop q).length ≤ 140737488351232 := by rw [List.length_drop]; omega
      have HG : ∀ c, Calls Try.prog 16 #[.slice (some A) (l.length - q) c] wr fun e w' => e = .returned (.tuple #[.int .u64 ((getS (l.drop q)).1 : Nat), .int .i64 ((getS (l.drop q)).2.1 : Nat), .int .i64 (getS (l.drop q)).2.2]) ∧ wr = w' := fun c => by
        have := get_any wr (some A) c (l.drop q) hrow hz2
        rw [List.length_drop] at this
        exact this
      have HK : Hid (rowsA (n - k) acc q l = if (getS (l.drop q)).2.2 = 0 then rowsA (n - (k + 1)) (acc ++ [(getS (l.drop q)).1]) (q + (getS (l.drop q)).2.1) l else ([], 0, (getS (l.drop q)).2.2)) := by
        show _ = _
        rw [show n - k = (n - (k + 1)) + 1 by omega, rowsA]
      have hlt2 := get_lt (l.drop q) (drop_byte HR.out.1 q)
      rw [List.length_drop] at hlt2
      have h00 := get_err0 (l.drop q)
      have i1 : (q : Int) ≤ (l.length : Int) := by omega
      have i2 : (q : Int) ≤ (c : Int) := by omega
      clear hrow hz2
      generalize getS (l.drop q) = G at HG HK hlt2 h00
      obtain ⟨x, y, E⟩ := G
      simp only at HG HK hlt2 h00
      rcases h00 with rfl | ⟨rfl, rfl, hE⟩
      · have HK2 : Hid (rowsA (n - (k + 1)) (acc ++ [x]) (q + y) l = C) := by show _ = _; rw [← HD.out.2.2.1, HK.out, if_pos rfl]
        have hx : x < 18446744073709551616 := hlt2.1
        have hy : q + y ≤ l.length := by omega
        clear HK hlt2
        go_wp2_with (first | (go_at_call 16; refine (HG _).mono ?_; rintro e w1 ⟨rfl, rfl⟩) | (at_builtin; (refine wpList_append_64 rfl _ _ rfl w.heap.size u7 acc k rfl ((Off.refl (fun _ => False) wr).alloc _ |>.owns HD.out.2.1 (fun _ _ => id)) _ _ x rfl (heap_alloc_new wr _) (by omega) (by have := HD.out.2.2.2.size; simp; omega) ?_); intro g2 c2 w2 ho2 hb2 hc2))
        go_roundw
        case rel => exact ⟨k + 1, q + y, acc ++ [x], by omega, by go_num, by go_num, hy, by simp [HD.out.1], ho2, HK2.out, (HD.out.2.2.2.alloc HD.out.2.2.2.size _).trans hb2⟩
        case measure => simp [intOf]; omega
      · have HK2 : Hid (C = ([], 0, E)) := by show _ = _; rw [← HD.out.2.2.1, HK.out, if_neg hE]
        have hE2 : (E != 0) = true := by simpa using hE
        clear HK hlt2 hE
        go_wp2_with (first | (go_at_call 16; refine (HG _).mono ?_; rintro e w1 ⟨rfl, rfl⟩))
        go_ret3
        rw [HK2.out]
        exact ⟨_, rfl, none64 _ _, HD.out.2.2.2⟩
    · obtain rfl : k = n := by omega
      have HK2 : Hid (C = (acc, q, 0)) := by show _ = _; rw [← HD.out.2.2.1, Nat.sub_self]; rfl
      go_wp2
      go_ret3
      rw [HK2.out]
      exact ⟨_, rfl, by rw [HD.out.1]; exact HD.out.2.1, HD.out.2.2.2⟩
set_option maxRecDepth 20000 in
set_option maxHeartbeats 1000000 in
theorem rows_arg (w : World) (a : Option Addr) (m c : Nat) (n : Int) (hn : n < 0 ∨ 65536 < n) :
    Calls Try.prog 19 #[.slice a m c, .int .i64 n] w fun e w' => e = .returned (.tuple #[.slice none 0 0, .int .i64 0, .int .i64 2]) ∧ w = w' := by
  rcases hn with hn | hn
  · have h1 : decide (n < 0) = true := by simp; omega
    go_enter Try.func19, Try.ntmps19
    go_wp2
    go_ret3
    exact ⟨rfl, rfl⟩
  · have h1 : decide (n < 0) = false := by simp; omega
    have h2 : decide (65536 < n) = true := by simp; omega
    go_enter Try.func19, Try.ntmps19
    go_wp2
    go_ret3
    exact ⟨rfl, rfl⟩
end Go.Proofs.Ythhoafhkdioboaa
