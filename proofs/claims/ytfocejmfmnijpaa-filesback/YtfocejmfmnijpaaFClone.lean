/- The walks of bytes.Clone and slices.Clone of files. -/
import Derived.Test.YtfocejmfmnijpaaFOwn
namespace Go.Proofs.Ytfocejmfmnijpaa
open Go.RowKit

theorem Try.info5 : (Try.prog.info? 5).map (fun i => (i.zero, i.size, i.bytes)) = some (some (.int .u8 0), 1, 1) := by kernel_rfl
theorem Try.info53 : (Try.prog.info? 53).map (fun i => (i.zero, i.size, i.bytes)) = some (some (.agg #[.string ⟨#[]⟩, .slice none 0 0]), 2, 40) := by kernel_rfl
theorem eqlBytes (w : World) (a : Option Addr) (n c n' c' : Nat) : (binOp .eql 35 (.slice a n c) (.slice none n' c')).run Try.prog w = .ok (.bool a.isNone) w := Lib.run_eql_slice_nil w _ _ a n c n' c' Try.underlying35
theorem eqlFiles (w : World) (a : Option Addr) (n c n' c' : Nat) : (binOp .eql 22 (.slice a n c) (.slice none n' c')).run Try.prog w = .ok (.bool a.isNone) w := Lib.run_eql_slice_nil w _ _ a n c n' c' Try.underlying22

theorem row_none {w : World} {l : List Nat} (h : Row w none l) : l = [] := by
  rcases Nat.eq_zero_or_pos l.length with h0 | h0
  · exact List.eq_nil_of_length_eq_zero h0
  · obtain ⟨_, _, h1, _⟩ := h.2.2 h0
    cases h1

/-- Bytes of the call's own. -/
structure Fresh (w0 w : World) (a : Option Addr) (c : Nat) (l : List Nat) : Prop where
  row : Row w a l
  le : l.length ≤ c
  cap : c ≤ maxLen
  new : ∀ b, a = some b → w0.heap.size ≤ b.block

theorem fresh_of {w0 w : World} {v : Value} {n : Nat} {l : List Nat} (h : w.ownsRow w0.heap.size 5 1 v n (cells l)) (hb : ∀ x ∈ l, x < 256) (hm : l.length ≤ maxLen) : ∃ a c, v = .slice a l.length c ∧ Fresh w0 w a c l := by
  obtain ⟨a, c, rfl, h1, h2, h3⟩ := own_row h hb hm
  exact ⟨a, c, rfl, h3, h1, h2, fun b hb => own_ge h b.block (by rw [hb]; rfl)⟩

set_option maxRecDepth 20000 in
set_option maxHeartbeats 1000000 in
theorem bclone_any (w : World) (a : Option Addr) (cap : Nat) (l : List Nat) (hr : Row w a l) (hz : l.length ≤ 1000000) :
    Calls Try.prog 52 #[.slice a l.length cap] w fun e w' => ∃ a' c', e = .returned (.slice a' l.length c') ∧ Hid (Fresh w w' a' c' l ∧ Below w.heap.size w w') := by
  have q := eqlBytes
  cases a with
  | none =>
    obtain rfl := row_none hr
    go_enter Try.func52, Try.ntmps52
    go_wp2
    go_ret
    exact ⟨none, 0, rfl, ⟨hr, Nat.le_refl _, Nat.zero_le _, fun b hb => by cases hb⟩, Below.refl _ _⟩
  | some ad =>
    obtain ⟨i0, hi, hz0, hz1, hz2⟩ := info_parts Try.info5
    have HI : Hid _ := hi
    have HR : Hid (Row w (some ad) l) := hr
    clear hi hr
    go_enter Try.func52, Try.ntmps52
    go_wp2_with (at_builtin; go_must (refine wpList_append_own _ rfl _ _ 35 rfl w.heap.size 5 i0 (.int .u8 0) 1 1 Try.underlying35 HI.out hz0 hz1 hz2 rfl (by decide) _ _ _ rfl (World.ownsRow_made w #[] 0 (Nat.le_refl _) (Nat.zero_le _) rfl) ad l.length cap (cells l) rfl (by rw [cells_length, Nat.mul_one]) (row_cells (HR.out.later ((Below.refl _ w).alloc (Nat.le_refl _) _)) _ rfl) (one_cell l) (by unfold maxLen; omega) (by omega) (by simp) ?_); intro v' w1 hown hgrow hnil)
    have HO : Hid (w1.ownsRow w.heap.size 5 1 v' l.length (cells l) ∧ Below w.heap.size w w1) := ⟨by simpa using hown, ((Below.refl _ w).alloc (Nat.le_refl _) _).grown hgrow (by simp) (by intro k hk; cases hk; exact Nat.le_refl _)⟩
    clear hown hgrow hnil
    go_wp2
    go_ret
    obtain ⟨a', c', he, hf⟩ := fresh_of HO.out.1 HR.out.1 HR.out.2.1
    exact ⟨a', c', by rw [← he]; rfl, hf, HO.out.2⟩

set_option maxRecDepth 20000 in
set_option maxHeartbeats 1000000 in
theorem sclone_any (w : World) (a : Option Addr) (cap : Nat) (X : List FX) (hz : X.length ≤ 1000000) (hc : 0 < X.length → ∃ b o, a = some ⟨b, o, none⟩ ∧ ∀ j u, (fcells X)[j]? = some u → w.cell? ⟨b, o + j, none⟩ = some u) :
    Calls Try.prog 56 #[.slice a X.length cap] w fun e w' => ∃ v, e = .returned v ∧ Hid (w'.ownsRow w.heap.size 53 2 v X.length (fcells X) ∧ Below w.heap.size w w') := by
  have q := eqlFiles
  cases a with
  | none =>
    obtain rfl : X = [] := by
      rcases Nat.eq_zero_or_pos X.length with h0 | h0
      · exact List.eq_nil_of_length_eq_zero h0
      · obtain ⟨_, _, h1, _⟩ := hc h0
        cases h1
    go_enter Try.func56, Try.ntmps56
    go_wp2
    go_ret
    exact ⟨_, rfl, World.ownsRow_nil w _ _ _, Below.refl _ _⟩
  | some ad =>
    obtain ⟨i0, hi, hz0, hz1, hz2⟩ := info_parts Try.info53
    have HI : Hid _ := hi
    have HC : Hid (∀ j u, (fcells X)[j]? = some u → w.cell? (ad.add j) = some u) := by
      intro j u hu
      have hj := (List.getElem?_eq_some_iff.1 hu).1
      rw [fcells_length] at hj
      obtain ⟨b, o, hb, hcc⟩ := hc (by omega)
      cases hb
      rw [Go.WideShapes.add_plain]
      exact hcc j u hu
    clear hi hc
    go_enter Try.func56, Try.ntmps56
    go_wp2_with (at_builtin; go_must (refine wpList_append_own _ rfl _ _ 22 rfl w.heap.size 53 i0 (.agg #[.string ⟨#[]⟩, .slice none 0 0]) 2 40 Try.underlying22 HI.out hz0 hz1 hz2 rfl (by decide) _ _ _ rfl (World.ownsRow_made w #[] 0 (Nat.le_refl _) (Nat.zero_le _) rfl) ad X.length cap (fcells X) rfl (by rw [fcells_length]) (fun j u hu => cell_later ((Below.refl _ w).alloc (Nat.le_refl _) _) (HC.out j u hu)) (fcells_one X) (by unfold maxLen; omega) (by omega) (by simp) ?_); intro v' w1 hown hgrow hnil)
    have HO : Hid (w1.ownsRow w.heap.size 53 2 v' X.length (fcells X) ∧ Below w.heap.size w w1) := ⟨by simpa using hown, ((Below.refl _ w).alloc (Nat.le_refl _) _).grown hgrow (by simp) (by intro k hk; cases hk; exact Nat.le_refl _)⟩
    clear hown hgrow hnil
    go_wp2
    go_ret
    exact ⟨v', rfl, HO⟩

end Go.Proofs.Ytfocejmfmnijpaa
