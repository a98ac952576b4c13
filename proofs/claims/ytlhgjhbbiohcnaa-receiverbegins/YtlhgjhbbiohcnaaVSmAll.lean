/- The reference's SameAll, of no segment or of one. -/
import Derived.Test.YtlhgjhbbiohcnaaTRSame
import Derived.Test.YtlhgjhbbiohcnaaVTake2
import Derived.Deep.RegionHeld3
namespace Go.Proofs.Ytlhgjhbbiohcnaa
open Go.RowKit
set_option linter.unusedVariables false
set_option maxRecDepth 20000 in
set_option maxHeartbeats 4000000 in
theorem sameAll0_any (c d : Nat) (w : World) : Calls Try.prog 17 #[.slice none 0 c, .slice none 0 d] w fun e w' => e = .returned (.bool true) ∧ Hid (Below w.heap.size w w') := by
  have HB : Hid (Below w.heap.size w w) := Below.refl _ _
  go_enter Try.func17, Try.ntmps17
  go_wp2
  go_loopw [5] (fun i wr => i = .int .i64 0 ∧ Hid (Below w.heap.size w wr)) (fun _ _ => 0)
  case atStart => exact ⟨rfl, HB.out⟩
  case round =>
    obtain ⟨rfl, HW⟩ := hrel
    go_wp2
    go_ret
    exact ⟨rfl, HW.out⟩
set_option maxRecDepth 20000 in
set_option maxHeartbeats 4000000 in
theorem sameAll1_any (g1 c1 g2 c2 : Nat) (x y : Sg) (xa : Option Addr) (xc : Nat) (xb : Option Addr) (xd : Nat) (ya : Option Addr) (yc : Nat) (yb : Option Addr) (yd : Nat) (w : World) (hx : w.rangeAt g1 0 (sgcells x xa xc xb xd)) (hy : w.rangeAt g2 0 (sgcells y ya yc yb yd)) (h1 : Row w xa x.dat) (h2 : RowC w xb x.cls) (h3 : Row w ya y.dat) (h4 : RowC w yb y.cls) (z1 : x.cls.length ≤ 140737488351232) (z2 : y.cls.length ≤ 140737488351232) :
    Calls Try.prog 17 #[.slice (some ⟨g1, 0, none⟩) 1 c1, .slice (some ⟨g2, 0, none⟩) 1 c2] w fun e w' => e = .returned (.bool (sameS x y)) ∧ Hid (Below w.heap.size w w') := by
  have HB : Hid (Below w.heap.size w w) := Below.refl _ _
  go_enter Try.func17, Try.ntmps17
  have HSM : Hid (∀ W, Below w.heap.size w W → Calls Try.prog 35 #[sv x xa xc xb xd, sv y ya yc yb yd] W fun e w' => e = .returned (.bool (sameS x y)) ∧ Hid (Below W.heap.size W w')) := fun W hb => rsameS_any x y xa xc xb xd ya yc yb yd W (h1.later hb) (h2.later hb) (h3.later hb) (h4.later hb) z1 z2
  have p0 : w.cell? ⟨g1, 0, none⟩ = some (.int .i64 x.knd) := by have := hx 0 _ rfl; simpa using this
  have p1 : w.cell? ⟨g1, 1, none⟩ = some (.int .i64 x.src) := by have := hx 1 _ rfl; simpa using this
  have p2 : w.cell? ⟨g1, 2, none⟩ = some (.int .u32 (x.ses : Nat)) := by have := hx 2 _ rfl; simpa using this
  have p3 : w.cell? ⟨g1, 3, none⟩ = some (.int .u32 (x.ser : Nat)) := by have := hx 3 _ rfl; simpa using this
  have p4 : w.cell? ⟨g1, 4, none⟩ = some (.int .u32 (x.cks : Nat)) := by have := hx 4 _ rfl; simpa using this
  have p5 : w.cell? ⟨g1, 5, none⟩ = some (.int .i64 x.off) := by have := hx 5 _ rfl; simpa using this
  have p6 : w.cell? ⟨g1, 6, none⟩ = some (.int .i64 x.tot) := by have := hx 6 _ rfl; simpa using this
  have p7 : w.cell? ⟨g1, 7, none⟩ = some (.int .i64 x.low) := by have := hx 7 _ rfl; simpa using this
  have p8 : w.cell? ⟨g1, 8, none⟩ = some (.int .i64 x.upp) := by have := hx 8 _ rfl; simpa using this
  have p9 : w.cell? ⟨g1, 9, none⟩ = some (.int .i64 x.rea) := by have := hx 9 _ rfl; simpa using this
  have p10 : w.cell? ⟨g1, 10, none⟩ = some (.bool x.chk) := by have := hx 10 _ rfl; simpa using this
  have p11 : w.cell? ⟨g1, 11, none⟩ = some (.slice xa x.dat.length xc) := by have := hx 11 _ rfl; simpa using this
  have p12 : w.cell? ⟨g1, 12, none⟩ = some (.slice xb x.cls.length xd) := by have := hx 12 _ rfl; simpa using this
  have q0 : w.cell? ⟨g2, 0, none⟩ = some (.int .i64 y.knd) := by have := hy 0 _ rfl; simpa using this
  have q1 : w.cell? ⟨g2, 1, none⟩ = some (.int .i64 y.src) := by have := hy 1 _ rfl; simpa using this
  have q2 : w.cell? ⟨g2, 2, none⟩ = some (.int .u32 (y.ses : Nat)) := by have := hy 2 _ rfl; simpa using this
  have q3 : w.cell? ⟨g2, 3, none⟩ = some (.int .u32 (y.ser : Nat)) := by have := hy 3 _ rfl; simpa using this
  have q4 : w.cell? ⟨g2, 4, none⟩ = some (.int .u32 (y.cks : Nat)) := by have := hy 4 _ rfl; simpa using this
  have q5 : w.cell? ⟨g2, 5, none⟩ = some (.int .i64 y.off) := by have := hy 5 _ rfl; simpa using this
  have q6 : w.cell? ⟨g2, 6, none⟩ = some (.int .i64 y.tot) := by have := hy 6 _ rfl; simpa using this
  have q7 : w.cell? ⟨g2, 7, none⟩ = some (.int .i64 y.low) := by have := hy 7 _ rfl; simpa using this
  have q8 : w.cell? ⟨g2, 8, none⟩ = some (.int .i64 y.upp) := by have := hy 8 _ rfl; simpa using this
  have q9 : w.cell? ⟨g2, 9, none⟩ = some (.int .i64 y.rea) := by have := hy 9 _ rfl; simpa using this
  have q10 : w.cell? ⟨g2, 10, none⟩ = some (.bool y.chk) := by have := hy 10 _ rfl; simpa using this
  have q11 : w.cell? ⟨g2, 11, none⟩ = some (.slice ya y.dat.length yc) := by have := hy 11 _ rfl; simpa using this
  have q12 : w.cell? ⟨g2, 12, none⟩ = some (.slice yb y.cls.length yd) := by have := hy 12 _ rfl; simpa using this
  obtain ⟨SS, hSS⟩ : ∃ SS, sameS x y = SS := ⟨_, rfl⟩
  rw [hSS] at HSM ⊢
  clear hx hy h1 h2 h3 h4 hSS z1 z2
  go_wp2
  go_loopw [5] (fun i wr => i = .int .i64 0 ∧ Hid (wr = w) ∨ i = .int .i64 1 ∧ Hid (SS = true ∧ Below w.heap.size w wr)) (fun i _ => (1 - intOf i).toNat)
  case atStart => exact .inl ⟨rfl, rfl⟩
  case round =>
    rcases hrel with ⟨rfl, HW⟩ | ⟨rfl, HW⟩
    · have hw := HW.out
      subst hw
      go_wp2_with fail
      have hX : Below wr.heap.size wr wr.drew := (Below.refl _ _).drew
      go_region_held3 (fun W' => W'.cell? ⟨g1, 0, none⟩ = some (.int .i64 x.knd) ∧ W'.cell? ⟨g1, 1, none⟩ = some (.int .i64 x.src) ∧ W'.cell? ⟨g1, 2, none⟩ = some (.int .u32 (x.ses : Nat)) ∧ W'.cell? ⟨g1, 3, none⟩ = some (.int .u32 (x.ser : Nat)) ∧ W'.cell? ⟨g1, 4, none⟩ = some (.int .u32 (x.cks : Nat)) ∧ W'.cell? ⟨g1, 5, none⟩ = some (.int .i64 x.off) ∧ W'.cell? ⟨g1, 6, none⟩ = some (.int .i64 x.tot) ∧ W'.cell? ⟨g1, 7, none⟩ = some (.int .i64 x.low) ∧ W'.cell? ⟨g1, 8, none⟩ = some (.int .i64 x.upp) ∧ W'.cell? ⟨g1, 9, none⟩ = some (.int .i64 x.rea) ∧ W'.cell? ⟨g1, 10, none⟩ = some (.bool x.chk) ∧ W'.cell? ⟨g1, 11, none⟩ = some (.slice xa x.dat.length xc) ∧ W'.cell? ⟨g1, 12, none⟩ = some (.slice xb x.cls.length xd) ∧ W'.cell? ⟨g2, 0, none⟩ = some (.int .i64 y.knd) ∧ W'.cell? ⟨g2, 1, none⟩ = some (.int .i64 y.src) ∧ W'.cell? ⟨g2, 2, none⟩ = some (.int .u32 (y.ses : Nat)) ∧ W'.cell? ⟨g2, 3, none⟩ = some (.int .u32 (y.ser : Nat)) ∧ W'.cell? ⟨g2, 4, none⟩ = some (.int .u32 (y.cks : Nat)) ∧ W'.cell? ⟨g2, 5, none⟩ = some (.int .i64 y.off) ∧ W'.cell? ⟨g2, 6, none⟩ = some (.int .i64 y.tot) ∧ W'.cell? ⟨g2, 7, none⟩ = some (.int .i64 y.low) ∧ W'.cell? ⟨g2, 8, none⟩ = some (.int .i64 y.upp) ∧ W'.cell? ⟨g2, 9, none⟩ = some (.int .i64 y.rea) ∧ W'.cell? ⟨g2, 10, none⟩ = some (.bool y.chk) ∧ W'.cell? ⟨g2, 11, none⟩ = some (.slice ya y.dat.length yc) ∧ W'.cell? ⟨g2, 12, none⟩ = some (.slice yb y.cls.length yd)) (first | exact ⟨p0, p1, p2, p3, p4, p5, p6, p7, p8, p9, p10, p11, p12, q0, q1, q2, q3, q4, q5, q6, q7, q8, q9, q10, q11, q12⟩ | exact ⟨cell_later hX p0, cell_later hX p1, cell_later hX p2, cell_later hX p3, cell_later hX p4, cell_later hX p5, cell_later hX p6, cell_later hX p7, cell_later hX p8, cell_later hX p9, cell_later hX p10, cell_later hX p11, cell_later hX p12, cell_later hX q0, cell_later hX q1, cell_later hX q2, cell_later hX q3, cell_later hX q4, cell_later hX q5, cell_later hX q6, cell_later hX q7, cell_later hX q8, cell_later hX q9, cell_later hX q10, cell_later hX q11, cell_later hX q12⟩) (first | (go_at_call 35; refine (HSM.out _ hX).mono ?_; rintro e w5 ⟨rfl, hq5⟩; have hX := below_of hX hq5.out))
      have HW5 : Hid (Below wr.heap.size wr w5) := hX
      all_goals
        cases SS with
        | false =>
          go_wp2
          go_ret
          exact ⟨rfl, HW5.out⟩
        | true =>
          go_wp2
          go_roundw
          case rel => exact .inr ⟨by go_num, trivial, HW5.out⟩
          case measure => simp [intOf]
    · go_wp2
      go_ret
      exact ⟨ret_bool HW.out.1.symm, HW.out.2⟩
end Go.Proofs.Ytlhgjhbbiohcnaa
