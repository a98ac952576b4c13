/- How items lie in memory. -/
import Derived.Test.YtjfmgokpnpmdpaaDoorCIt
namespace Go.Proofs.YtjfmgokpnpmdpaaDoor
open Go.RowKit
set_option linter.unusedVariables false

/-- the four cells of an item lie at the place o of the block b. -/
def Cells4 (w : World) (b o : Nat) (x : T) (b1 : Option Addr) (c1 : Nat) (b2 : Option Addr) (c2 : Nat) : Prop :=
  w.cell? ⟨b, o, none⟩ = some (.int .i64 (kd x)) ∧ w.cell? ⟨b, o + 1, none⟩ = some (.int .u64 (nm x)) ∧ w.cell? ⟨b, o + 2, none⟩ = some (.slice b1 (bs x).length c1) ∧ w.cell? ⟨b, o + 3, none⟩ = some (.slice b2 (its x).length c2)
/-- items lie in memory from a on, outside A. -/
def AtL (A : Nat → Prop) (w : World) (P : Option Addr → T → Option Addr → Prop) (a : Option Addr) (L : List T) : Prop :=
  L.length ≤ 1000000000000 ∧ (0 < L.length → ∃ b o, a = some ⟨b, o, none⟩ ∧ ¬ A b ∧ ∀ i (h : i < L.length), ∃ b1 c1 b2 c2, Cells4 w b (o + i * 4) L[i] b1 c1 b2 c2 ∧ P b1 L[i] b2 ∧ (bs L[i]).length ≤ c1)
/-- what an item says lies in memory: its bytes from a1 on, its Items from a2 on, outside A; it is at most n deep. -/
def Lie (A : Nat → Prop) (w : World) : Nat → Option Addr → T → Option Addr → Prop
  | 0, _, _, _ => False
  | n + 1, a1, x, a2 => (nm x < 18446744073709551616 ∧ -9223372036854775808 ≤ kd x ∧ kd x ≤ 9223372036854775807 ∧ (bs x).length ≤ 140737488351232) ∧ Row w a1 (bs x) ∧ (0 < (bs x).length → ∀ b, a1 = some b → ¬ A b.block) ∧ AtL A w (Lie A w n) a2 (its x)
abbrev LieL (A : Nat → Prop) (w : World) (n : Nat) (a : Option Addr) (L : List T) : Prop := AtL A w (Lie A w n) a L
def Free : Nat → Prop := fun _ => False

theorem Cells4.off {w w' : World} {b o : Nat} {x : T} {b1 b2 : Option Addr} {c1 c2 : Nat} {S : Nat → Prop} (h : Cells4 w b o x b1 c1 b2 c2) (ho : Off S w w') (hn : ¬ S b) : Cells4 w' b o x b1 c1 b2 c2 :=
  ⟨ho.cell h.1 hn, ho.cell h.2.1 hn, ho.cell h.2.2.1 hn, ho.cell h.2.2.2 hn⟩
theorem AtL.off {A S : Nat → Prop} {w w' : World} {P Q : Option Addr → T → Option Addr → Prop} {a : Option Addr} {L : List T} (h : AtL A w P a L) (ho : Off S w w') (hS : ∀ k, S k → A k) (hP : ∀ b1 x b2, x ∈ L → P b1 x b2 → Q b1 x b2) : AtL A w' Q a L := by
  refine ⟨h.1, fun h0 => ?_⟩
  obtain ⟨b, o, rfl, hn, hc⟩ := h.2 h0
  refine ⟨b, o, rfl, hn, fun i hi => ?_⟩
  obtain ⟨b1, c1, b2, c2, h1, h2, h3⟩ := hc i hi
  exact ⟨b1, c1, b2, c2, h1.off ho (fun hs => hn (hS b hs)), hP _ _ _ (List.getElem_mem hi) h2, h3⟩
theorem Lie.off {A S : Nat → Prop} {w w' : World} (ho : Off S w w') (hS : ∀ k, S k → A k) : ∀ (n : Nat) {a1 : Option Addr} {x : T} {a2 : Option Addr}, Lie A w n a1 x a2 → Lie A w' n a1 x a2
  | 0, _, _, _, h => h
  | n + 1, a1, x, a2, ⟨h1, h2, h3, h4⟩ => ⟨h1, h2.off ho (fun h0 b hb s => h3 h0 b hb (hS _ s)), h3, h4.off ho hS (fun _ _ _ _ h => Lie.off ho hS n h)⟩
theorem LieL.off {A S : Nat → Prop} {w w' : World} {n : Nat} {a : Option Addr} {L : List T} (h : LieL A w n a L) (ho : Off S w w') (hS : ∀ k, S k → A k) : LieL A w' n a L := AtL.off h ho hS (fun _ _ _ _ h => Lie.off ho hS n h)
theorem Lie.later {A : Nat → Prop} {w w' : World} {n : Nat} {a1 : Option Addr} {x : T} {a2 : Option Addr} (h : Lie A w n a1 x a2) (hb : Below w.heap.size w w') : Lie A w' n a1 x a2 := Lie.off (S := fun _ => False) (Off.of_below hb) (fun _ h => h.elim) n h
theorem LieL.later {A : Nat → Prop} {w w' : World} {n : Nat} {a : Option Addr} {L : List T} (h : LieL A w n a L) (hb : Below w.heap.size w w') : LieL A w' n a L := LieL.off (S := fun _ => False) h (Off.of_below hb) (fun _ h => h.elim)

theorem AtL.map {A : Nat → Prop} {w : World} {P Q : Option Addr → T → Option Addr → Prop} {a : Option Addr} {L : List T} (h : AtL A w P a L) (hP : ∀ b1 x b2, x ∈ L → P b1 x b2 → Q b1 x b2) : AtL A w Q a L := AtL.off (S := fun _ => False) h (Off.refl _ w) (fun _ h => h.elim) hP
theorem Lie.up {A : Nat → Prop} {w : World} : ∀ (n : Nat) {a1 : Option Addr} {x : T} {a2 : Option Addr}, Lie A w n a1 x a2 → Lie A w (n + 1) a1 x a2
  | 0, _, _, _, h => h.elim
  | n + 1, _, _, _, ⟨h1, h2, h3, h4⟩ => ⟨h1, h2, h3, h4.map (fun _ _ _ _ h => Lie.up n h)⟩
theorem Lie.le {A : Nat → Prop} {w : World} {n m : Nat} {a1 : Option Addr} {x : T} {a2 : Option Addr} (h : Lie A w n a1 x a2) (hm : n ≤ m) : Lie A w m a1 x a2 := by
  obtain ⟨d, rfl⟩ : ∃ d, m = n + d := ⟨m - n, by omega⟩
  clear hm
  induction d with
  | zero => exact h
  | succ d ih => exact Lie.up (n + d) ih
theorem cell_lt {w : World} {b o : Nat} {v : Value} (h : w.cell? ⟨b, o, none⟩ = some v) : b < w.heap.size := by
  rcases Nat.lt_or_ge b w.heap.size with hlt | hge
  · exact hlt
  · rw [World.cell?, Array.getElem?_eq_none hge] at h; cases h
/-- outside another set. -/
theorem Lie.apart {A B : Nat → Prop} {w : World} (hB : ∀ k, k < w.heap.size → B k → A k) : ∀ (n : Nat) {a1 : Option Addr} {x : T} {a2 : Option Addr}, Lie A w n a1 x a2 → Lie B w n a1 x a2
  | 0, _, _, _, h => h.elim
  | n + 1, _, x, _, ⟨h1, h2, h3, h4⟩ => by
    refine ⟨h1, h2, fun h0 b hb s => h3 h0 b hb (hB _ (h2.lt h0 b hb) s), h4.1, fun h0 => ?_⟩
    obtain ⟨b, o, rfl, hn, hc⟩ := h4.2 h0
    refine ⟨b, o, rfl, fun s => hn (hB b ?_ s), fun i hi => ?_⟩
    · obtain ⟨_, _, _, _, h5, _⟩ := hc 0 h0
      exact cell_lt h5.1
    · obtain ⟨b1, c1, b2, c2, h5, h6, h7⟩ := hc i hi
      exact ⟨b1, c1, b2, c2, h5, Lie.apart hB n h6, h7⟩
theorem LieL.apart {A B : Nat → Prop} {w : World} {n : Nat} {a : Option Addr} {L : List T} (hB : ∀ k, k < w.heap.size → B k → A k) (h : LieL A w n a L) : LieL B w n a L := by
  refine ⟨h.1, fun h0 => ?_⟩
  obtain ⟨b, o, rfl, hn, hc⟩ := h.2 h0
  refine ⟨b, o, rfl, fun s => hn (hB b ?_ s), fun i hi => ?_⟩
  · obtain ⟨_, _, _, _, h5, _⟩ := hc 0 h0
    exact cell_lt h5.1
  · obtain ⟨b1, c1, b2, c2, h5, h6, h7⟩ := hc i hi
    exact ⟨b1, c1, b2, c2, h5, Lie.apart hB n h6, h7⟩
theorem Lie.fit {A : Nat → Prop} {w : World} : ∀ (n : Nat) {a1 : Option Addr} {x : T} {a2 : Option Addr}, Lie A w n a1 x a2 → fitT n x
  | 0, _, _, _, h => h.elim
  | n + 1, _, x, _, ⟨h1, h2, h3, h4⟩ => by
    refine ⟨h1.1, h2.1, fun y hy => ?_⟩
    obtain ⟨i, hi, rfl⟩ := List.getElem_of_mem hy
    obtain ⟨b, o, rfl, hn, hc⟩ := h4.2 (by omega)
    obtain ⟨b1, c1, b2, c2, h5, h6, _⟩ := hc i hi
    exact Lie.fit n h6
theorem LieL.nil (A : Nat → Prop) (w : World) (P : Option Addr → T → Option Addr → Prop) (a : Option Addr) : AtL A w P a [] := ⟨by simp, fun h => absurd h (by simp)⟩
/-- an item without Items. -/
theorem Lie.flat {A : Nat → Prop} {w : World} {a1 : Option Addr} (k : Int) (n : Nat) (b : List Nat) (m : Nat) (a2 : Option Addr) (h1 : n < 18446744073709551616) (h2 : -9223372036854775808 ≤ k ∧ k ≤ 9223372036854775807) (h3 : b.length ≤ 140737488351232) (hr : Row w a1 b) (hA : 0 < b.length → ∀ c, a1 = some c → ¬ A c.block) : Lie A w (m + 1) a1 (mkI k n b []) a2 :=
  ⟨⟨h1, h2.1, h2.2, h3⟩, hr, hA, LieL.nil _ _ _ _⟩

/-- an item by value. -/
abbrev iv (x : T) (a1 : Option Addr) (c1 : Nat) (a2 : Option Addr) (c2 : Nat) : Value := .agg #[.int .i64 (kd x), .int .u64 (nm x), .slice a1 (bs x).length c1, .slice a2 (its x).length c2]
abbrev ic (x : T) (a1 : Option Addr) (c1 : Nat) (a2 : Option Addr) (c2 : Nat) : Obj := .cells #[.int .i64 (kd x), .int .u64 (nm x), .slice a1 (bs x).length c1, .slice a2 (its x).length c2] 52
end Go.Proofs.YtjfmgokpnpmdpaaDoor
