/- How bytes and files lie in memory. -/
import Derived.Test.YtfocejmfmnijpaaRows
import Derived.WalkKit
import Derived.WalkSpells
import Derived.WalkLawsBesides
import Derived.OpenShut
import Derived.Laws.Rows
import Derived.Deep.QuietTactic
import Derived.BigQuiet
namespace Go.Proofs.Ytfocejmfmnijpaa
open Go.RowKit

theorem ret_int {k : IntKind} {a b : Int} (h : a = b) : Ending.returned (.int k a) = .returned (.int k b) := by rw [h]
theorem ret_bool {a b : Bool} (h : a = b) : Ending.returned (.bool a) = .returned (.bool b) := by rw [h]

/-- The bytes l lie in memory from a on. -/
def Row (w : World) (a : Option Addr) (l : List Nat) : Prop :=
  (∀ x ∈ l, x < 256) ∧ l.length ≤ maxLen ∧ (0 < l.length → ∃ b off, a = some ⟨b, off, none⟩ ∧ ∀ i, i < l.length → w.cell? ⟨b, off + i, none⟩ = some (.int .u8 ((l.getD i 0 : Nat) : Int)))

theorem Row.later {w w' : World} {a : Option Addr} {l : List Nat} (h : Row w a l) (hb : Below w.heap.size w w') : Row w' a l := by
  obtain ⟨h1, h2, h3⟩ := h
  refine ⟨h1, h2, fun h0 => ?_⟩
  obtain ⟨b, off, rfl, hc⟩ := h3 h0
  exact ⟨b, off, rfl, fun i hi => cell_later hb (hc i hi)⟩

theorem below_of {w w1 w2 : World} (h : Below w.heap.size w w1) (k : Below w1.heap.size w1 w2) : Below w.heap.size w w2 := h.trans (k.mono h.size)

def cells (l : List Nat) : List Value := l.map fun x => Value.int .u8 (x : Nat)
theorem cells_length (l : List Nat) : (cells l).length = l.length := by simp [cells]
theorem cells_append (l m : List Nat) : cells (l ++ m) = cells l ++ cells m := by simp [cells]
theorem cells_one (x : Nat) : cells [x] = [Value.int .u8 (x : Nat)] := rfl
theorem one_cell (l : List Nat) : ∀ u ∈ cells l, u.oneCell' = true := by
  intro u hu
  obtain ⟨x, _, rfl⟩ := List.mem_map.1 hu
  rfl

/-- A file: its name, its bytes. -/
structure Fil where
  name : ByteArray
  bytes : List Nat

/-- A file lies at the place o of the block b. -/
def FileAt (w : World) (b o : Nat) (x : Fil) : Prop :=
  w.cell? ⟨b, o, none⟩ = some (.string x.name) ∧ ∃ a c, w.cell? ⟨b, o + 1, none⟩ = some (.slice a x.bytes.length c) ∧ x.bytes.length ≤ c ∧ c ≤ maxLen ∧ Row w a x.bytes

/-- Files lie in memory from a on. -/
def ListAt (w : World) (a : Option Addr) (L : List Fil) : Prop :=
  (∀ x ∈ L, x.name.size ≤ 140737488351232) ∧ L.length ≤ 140737488351232 ∧ (0 < L.length → ∃ b o, a = some ⟨b, o, none⟩ ∧ ∀ i (h : i < L.length), FileAt w b (o + i * 2) L[i])

theorem FileAt.later {w w' : World} {b o : Nat} {x : Fil} (h : FileAt w b o x) (hb : Below w.heap.size w w') : FileAt w' b o x := by
  obtain ⟨h1, a, c, h2, h3, h4, h5⟩ := h
  exact ⟨cell_later hb h1, a, c, cell_later hb h2, h3, h4, h5.later hb⟩
theorem ListAt.later {w w' : World} {a : Option Addr} {L : List Fil} (h : ListAt w a L) (hb : Below w.heap.size w w') : ListAt w' a L := by
  obtain ⟨h1, h2, h3⟩ := h
  refine ⟨h1, h2, fun h0 => ?_⟩
  obtain ⟨b, o, rfl, hc⟩ := h3 h0
  exact ⟨b, o, rfl, fun i hi => (hc i hi).later hb⟩

/-- The bytes of all names and files. -/
def costS (L : List Fil) : Nat := (L.map fun x => x.name.size + x.bytes.length).sum
theorem cost_take (L : List Fil) (k : Nat) (hk : k < L.length) : costS (L.take (k + 1)) = costS (L.take k) + (L[k].name.size + L[k].bytes.length) := by
  unfold costS
  rw [List.take_add_one, List.getElem?_eq_getElem hk, Option.toList_some, List.map_append, List.sum_append]
  simp
theorem cost_le (L : List Fil) (k : Nat) : costS (L.take k) ≤ costS L := by
  unfold costS
  rw [← List.take_append_drop k L, List.map_append, List.sum_append, List.take_append_drop]
  omega

end Go.Proofs.Ytfocejmfmnijpaa
