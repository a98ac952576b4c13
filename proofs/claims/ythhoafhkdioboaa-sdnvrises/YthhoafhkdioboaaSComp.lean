/- The walks of bytes.HasPrefix and bytes.Compare. -/
import Derived.Test.YthhoafhkdioboaaSBack
import Derived.Lib.Bytealg
import Derived.Laws.Externs
namespace Go.Proofs.Ythhoafhkdioboaa
open Go.RowKit
set_option linter.unusedVariables false

theorem load_bytes (P : Program) (w : World) (b : Nat) : ∀ (l : List Nat) (off : Nat) (acc : ByteArray), (∀ i, i < l.length → w.cell? ⟨b, off + i, none⟩ = some (.int .u8 ((l.getD i 0 : Nat) : Int))) →
    (Extern.Bytes.loadBytes ⟨b, off, none⟩ l.length acc).run P w = .ok ⟨acc.data ++ (l.map fun n => UInt8.ofNat n).toArray⟩ w := by
  intro l
  induction l with
  | nil => intro off acc _; simp [Extern.Bytes.loadBytes]
  | cons x r ih =>
    intro off acc h
    have h0 := h 0 (by simp)
    simp only [List.getD_cons_zero, Nat.add_zero] at h0
    rw [List.length_cons, Extern.Bytes.loadBytes]
    have hl : (load ⟨b, off, none⟩).run P w = .ok (.int .u8 (x : Nat)) w := by rw [run_load, h0]
    rw [Sem.run_bind, hl]
    simp only [Result.andThen]
    rw [Go.WideShapes.add_plain, ih (off + 1) _ (fun i hi => by
      have := h (i + 1) (by simpa using hi)
      rw [show off + 1 + i = off + (i + 1) by omega, this]
      rfl)]
    congr 2
    simp [ByteArray.push]
theorem bytes_of {w : World} {a : Option Addr} {l : List Nat} (P : Program) (h : Row w a l) (c : Nat) : (Extern.Bytes.bytesOf (.slice a l.length c)).run P w = .ok (strOf l) w := by
  cases a with
  | none =>
    obtain rfl := row_none h
    rfl
  | some ad =>
    rcases Nat.eq_zero_or_pos l.length with h0 | h0
    · obtain rfl : l = [] := List.eq_nil_of_length_eq_zero h0
      rfl
    · obtain ⟨b, off, e, hc⟩ := h.2.2 h0
      cases e
      have := load_bytes P w b l off .empty hc
      rw [Extern.Bytes.bytesOf, this]
      unfold strOf
      congr 2
      show #[] ++ _ = _
      simp
theorem byte_lt {x y : Nat} (hx : x < 256) (hy : y < 256) : (UInt8.ofNat x < UInt8.ofNat y) ↔ x < y := by
  rw [UInt8.lt_iff_toNat_lt, UInt8.toNat_ofNat', UInt8.toNat_ofNat', Nat.mod_eq_of_lt hx, Nat.mod_eq_of_lt hy]
theorem comp_less : ∀ (l m : List Nat), (∀ x ∈ l, x < 256) → (∀ x ∈ m, x < 256) → less l m → Lib.compareBytes (l.map fun n => UInt8.ofNat n) (m.map fun n => UInt8.ofNat n) = -1
  | [], [], _, _, h => h.elim
  | [], _ :: _, _, _, h => h.elim
  | _ :: _, [], _, _, h => h.elim
  | x :: r, y :: s, hl, hm, h => by
    have hx := hl x List.mem_cons_self
    have hy := hm y List.mem_cons_self
    rw [List.map_cons, List.map_cons, Lib.compareBytes]
    rcases h with h | ⟨rfl, h⟩
    · rw [if_pos ((byte_lt hx hy).2 h)]
    · rw [if_neg (UInt8.lt_irrefl _), if_neg (UInt8.lt_irrefl _)]
      exact comp_less r s (fun z hz => hl z (List.mem_cons_of_mem _ hz)) (fun z hz => hm z (List.mem_cons_of_mem _ hz)) h
theorem run_less {w : World} {a b : Option Addr} {c d : Nat} {l m : List Nat} (hr : Row w a l) (hs : Row w b m) (h : less l m) :
    (Extern.BytealgCompare.compare #[.slice a l.length c, .slice b m.length d]).run Try.prog w = .ok (.int .i64 (-1)) w := by
  change Sem.run Try.prog (do pure (goInt (Extern.BytealgCompare.cmp (← Extern.Bytes.bytesOf (.slice a l.length c)) (← Extern.Bytes.bytesOf (.slice b m.length d))))) w = _
  simp only [Sem.run_bind, bytes_of Try.prog hr c, bytes_of Try.prog hs d, Sem.run_pure, Result.andThen]
  rw [Lib.cmp_eq]
  simp only [strOf]
  rw [comp_less l m hr.1 hs.1 h]
  rfl
set_option maxRecDepth 100000 in
set_option maxHeartbeats 1000000 in
theorem compare_less (w : World) (a b : Option Addr) (c d : Nat) (l m : List Nat) (hr : Row w a l) (hs : Row w b m) (h : less l m) :
    Calls Try.prog 21 #[.slice a l.length c, .slice b m.length d] w fun e w' => e = .returned (.int .i64 (-1)) ∧ w' = w := by
  have HR := run_less (c := c) (d := d) hr hs h
  clear hr hs h
  go_enter Try.func21, Try.ntmps21
  go_wp2
  rw [run_callFunc_extern Try.func23 (by kernel_rfl) (by kernel_rfl) (by kernel_rfl) (e := Extern.BytealgCompare.compare) (by kernel_rfl), HR]
  simp only [Result.andThen]
  rw [Oper.upon_value]
  go_wp2
  go_ret
  exact ⟨rfl, rfl⟩
/-- whether the one row begins with the other one. -/
def pfx (l m : List Nat) : Bool := decide (m.length ≤ l.length) && decide (l.take m.length = m)
set_option maxRecDepth 20000 in
set_option maxHeartbeats 1000000 in
theorem hasPrefix_any (w : World) (a b : Option Addr) (c d : Nat) (l m : List Nat) (hr : Row w a l) (hs : Row w b m) (hc : l.length ≤ c) (hz : l.length ≤ 140737488351232) :
    Calls Try.prog 20 #[.slice a l.length c, .slice b m.length d] w fun e w' => e = .returned (.bool (pfx l m)) ∧ w' = w := by
  by_cases hlt : m.length ≤ l.length
  · have HE : Calls Try.prog 13 #[.slice a m.length c, .slice b m.length d] w fun e w' => e = .returned (.bool (pfx l m)) ∧ w' = w := by
      have := bytesEqual_any a b c d (l.take m.length) m w (row_take hr _) hs
      rw [List.length_take, show min m.length l.length = m.length by omega] at this
      unfold pfx
      rw [decide_eq_true hlt]
      exact this
    have i1 : (m.length : Int) ≤ (l.length : Int) := by omega
    have i2 : (m.length : Int) ≤ (c : Int) := by omega
    clear hr hs
    generalize pfx l m = B at HE ⊢
    go_enter Try.func20, Try.ntmps20
    go_wp2_with (go_at_call 13; refine HE.mono ?_; rintro e w1 ⟨rfl, rfl⟩)
    go_ret
    exact ⟨rfl, rfl⟩
  · have HE : Hid (pfx l m = false) := by show _ = _; unfold pfx; rw [decide_eq_false hlt]; rfl
    clear hr hs
    generalize pfx l m = B at HE ⊢
    go_enter Try.func20, Try.ntmps20
    go_wp2
    go_ret
    exact ⟨ret_bool HE.out.symm, rfl⟩
end Go.Proofs.Ythhoafhkdioboaa
