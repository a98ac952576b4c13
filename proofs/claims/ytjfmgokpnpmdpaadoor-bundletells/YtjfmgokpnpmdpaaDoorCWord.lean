/- The walk of utf8.word over bytes. -/
import Derived.Test.YtjfmgokpnpmdpaaDoorGMem
namespace Go.Proofs.YtjfmgokpnpmdpaaDoor
open Go.RowKit
set_option linter.unusedVariables false

def wdI (b0 b1 b2 b3 b4 b5 b6 b7 : Nat) : Int := bits .or .u64 (bits .or .u64 (bits .or .u64 (bits .or .u64 (bits .or .u64 (bits .or .u64 (bits .or .u64 (b0 : Int) ((b1 : Int) * 256)) ((b2 : Int) * 65536)) ((b3 : Int) * 16777216)) ((b4 : Int) * 4294967296)) ((b5 : Int) * 1099511627776)) ((b6 : Int) * 281474976710656)) ((b7 : Int) * 72057594037927936)
/-- eight bytes as one number. -/
def wdL (r : List Nat) : Int := wdI (r.getD 0 0) (r.getD 1 0) (r.getD 2 0) (r.getD 3 0) (r.getD 4 0) (r.getD 5 0) (r.getD 6 0) (r.getD 7 0)

set_option maxRecDepth 20000 in
set_option maxHeartbeats 4000000 in
theorem word_any (w : World) (b o c n : Nat) (b0 b1 b2 b3 b4 b5 b6 b7 : Nat) (hn : 8 ≤ n) (hn2 : n ≤ 140737488351232)
    (c0 : w.cell? ⟨b, o, none⟩ = some (.int .u8 b0)) (c1 : w.cell? ⟨b, o + 1, none⟩ = some (.int .u8 b1)) (c2 : w.cell? ⟨b, o + 2, none⟩ = some (.int .u8 b2)) (c3 : w.cell? ⟨b, o + 3, none⟩ = some (.int .u8 b3)) (c4 : w.cell? ⟨b, o + 4, none⟩ = some (.int .u8 b4)) (c5 : w.cell? ⟨b, o + 5, none⟩ = some (.int .u8 b5)) (c6 : w.cell? ⟨b, o + 6, none⟩ = some (.int .u8 b6)) (c7 : w.cell? ⟨b, o + 7, none⟩ = some (.int .u8 b7))
    (h0 : b0 < 256) (h1 : b1 < 256) (h2 : b2 < 256) (h3 : b3 < 256) (h4 : b4 < 256) (h5 : b5 < 256) (h6 : b6 < 256) (h7 : b7 < 256) :
    Calls Tryd.prog 72 #[.slice (some ⟨b, o, none⟩) n c] w fun e w' => e = .returned (.int .u64 (wdI b0 b1 b2 b3 b4 b5 b6 b7)) ∧ ∃ q, w' = w.drewN q := by
  have q0 : (0 : Int) < (n : Int) := by omega
  have q1 : (1 : Int) < (n : Int) := by omega
  have q2 : (2 : Int) < (n : Int) := by omega
  have q3 : (3 : Int) < (n : Int) := by omega
  have q4 : (4 : Int) < (n : Int) := by omega
  have q5 : (5 : Int) < (n : Int) := by omega
  have q6 : (6 : Int) < (n : Int) := by omega
  have q7 : (7 : Int) < (n : Int) := by omega
  go_enter Tryd.func72, Tryd.ntmps72
  go_wp2
  go_quiet (fail)
  go_wp2
  go_ret
  exact ⟨rfl, _, rfl⟩

theorem word_row (w : World) (A : Option Addr) (c : Nat) (r : List Nat) (hr : Row w A r) (hn : 8 ≤ r.length) (hz : r.length ≤ 140737488351232) :
    Calls Tryd.prog 72 #[.slice A r.length c] w fun e w' => e = .returned (.int .u64 (wdL r)) ∧ ∃ q, w' = w.drewN q := by
  obtain ⟨b, o, rfl, hc⟩ := hr.2.2 (by omega)
  have hb : ∀ i, i < r.length → r.getD i 0 < 256 := fun i hi => by
    rw [List.getD_eq_getElem?_getD, List.getElem?_eq_getElem hi]
    exact hr.1 _ (List.getElem_mem hi)
  exact word_any w b o c r.length _ _ _ _ _ _ _ _ hn hz (hc 0 (by omega)) (hc 1 (by omega)) (hc 2 (by omega)) (hc 3 (by omega)) (hc 4 (by omega)) (hc 5 (by omega)) (hc 6 (by omega)) (hc 7 (by omega)) (hb 0 (by omega)) (hb 1 (by omega)) (hb 2 (by omega)) (hb 3 (by omega)) (hb 4 (by omega)) (hb 5 (by omega)) (hb 6 (by omega)) (hb 7 (by omega))
/-- bytes from the k-th one on. -/
theorem row_drop {w : World} {b o : Nat} {r : List Nat} (h : Row w (some ⟨b, o, none⟩) r) (k o' : Nat) (hk : k ≤ r.length) (ho : 0 < r.length - k → o' = o + k) : Row w (some ⟨b, o', none⟩) (r.drop k) := by
  refine ⟨fun x hx => h.1 x (List.mem_of_mem_drop hx), by rw [List.length_drop]; have := h.2.1; omega, fun h0 => ⟨b, o', rfl, fun i hi => ?_⟩⟩
  rw [List.length_drop] at h0 hi
  obtain rfl := ho h0
  obtain ⟨b2, o2, he, hc⟩ := h.2.2 (by omega)
  cases he
  rw [Nat.add_assoc, hc (k + i) (by omega), List.getD_eq_getElem?_getD, List.getD_eq_getElem?_getD, List.getElem?_drop]
end Go.Proofs.YtjfmgokpnpmdpaaDoor
