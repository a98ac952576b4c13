/- (*turn).takeReport. -/
import Derived.Test.YtnjcaolkcmpdcaaUNew
import Derived.Test.YtnjcaolkcmpdcaaUNone
import Derived.Test.YtnjcaolkcmpdcaaUSeen
import Derived.Test.YtnjcaolkcmpdcaaUIn
namespace Go.Proofs.Ytnjcaolkcmpdcaa
open Go.RowKit Go.Shelf
set_option linter.unusedVariables false
/-- what answers a report. -/
def ackS (s : Sn) (x : Sg) : Sg := ⟨3, s.bgn.src, s.bgn.ses, x.ser, 0, 0, 0, 0, 0, 0, false, [], []⟩
/-- what a report's acknowledgement leaves. -/
structure AckO (w w' : World) (tb n0 : Nat) (v v' : Value) (s : Sn) (p : Pt) (L : List SD) (x : Sg) : Prop where
  sy : Sy w' tb n0 s p v' (L ++ [⟨ackS s x, none, 0, none, 0⟩])
  off : Off (fun i => i = tb ∨ v.ownBlock = some i) w w'
  vo : ∀ k, v'.ownBlock = some k → v.ownBlock = some k ∨ w.heap.size ≤ k
theorem AckO.drew {w w' : World} {tb n0 : Nat} {v v' : Value} {s : Sn} {p : Pt} {L : List SD} {x : Sg} (h : AckO w w' tb n0 v v' s p L x) : AckO w w'.drew tb n0 v v' s p L x := ⟨⟨h.sy.box, h.sy.own, h.sy.lt, h.sy.le⟩, h.off.drew, h.vo⟩
theorem ack_any (s : Sn) (p : Pt) (v : Value) (tb n0 : Nat) (L : List SD) (x : Sg) (X : Obj) (w : World) (h : Sy w tb n0 s p v L) (hz : L.length ≤ 10) :
    Calls Try.prog 49 #[.pointer (some ⟨tb, 0, none⟩), .agg #[.int .i64 3, .int .i64 0, .int .u32 0, .int .u32 (x.ser : Nat), .int .u32 0, .int .i64 0, .int .i64 0, .int .i64 0, .int .i64 0, .int .i64 0, .bool false, .slice none 0 0, .slice none 0 0]] (w.alloc X) fun e w' => e = .returned (.tuple #[]) ∧ ∃ v', Hid (w'.heap[tb]? = some (tnc s p v')) ∧ Hid (w'.heap[w.heap.size]? = some X) ∧ Hid (AckO w w' tb n0 v v' s p L x) := by
  have hb : Below w.heap.size w (w.alloc X) := (Below.refl _ w).alloc (Nat.le_refl _) _
  have h1 : Sy (w.alloc X) tb n0 s p v L := ⟨old_block hb h.box, (Off.of_below (S := fun _ => False) hb).owns h.own (fun _ _ t => t), h.lt, Nat.le_trans h.le hb.size⟩
  refine (say_any s p v tb n0 L ⟨⟨3, 0, 0, x.ser, 0, 0, 0, 0, 0, 0, false, [], []⟩, none, 0, none, 0⟩ (w.alloc X) h1 (by omega)).mono ?_
  rintro e w' ⟨rfl, hq⟩
  obtain ⟨v', q1, q2, q3⟩ := hq.out
  refine ⟨rfl, v', q1.box, q2.at (heap_alloc_new w X) (fun t => ?_), q1, (Off.of_below hb).trans q2 (fun _ _ t => t), fun k e => ?_⟩
  · rcases t with t | t
    · have := h.lt; have := h.le; have : w.heap.size = tb := t; omega
    · have := own_in h.own _ t; omega
  rcases q3 k e with t | t
  · exact .inl t
  · exact .inr (Nat.le_trans hb.size t)
set_option maxRecDepth 20000 in
set_option maxHeartbeats 8000000 in
theorem rep_a (s : Sn) (p : Pt) (v : Value) (tb n0 : Nat) (L : List SD) (x : Sg) (xa : Option Addr) (xc : Nat) (a2 : Option Addr) (c2 : Nat) (now : Int) (w : World) (h : Sy w tb n0 s p v L) (hz : L.length ≤ 10) (hs : (s.sta != 1) = true) :
    Calls Try.prog 48 #[.pointer (some ⟨tb, 0, none⟩), sv x xa xc a2 c2, .int .i64 now] w fun e w' => e = .returned (.tuple #[]) ∧ ∃ v', Hid (AckO w w' tb n0 v v' s p L x) := by
  have HSY : Hid (Calls Try.prog 49 #[.pointer (some ⟨tb, 0, none⟩), .agg #[.int .i64 3, .int .i64 0, .int .u32 0, .int .u32 (x.ser : Nat), .int .u32 0, .int .i64 0, .int .i64 0, .int .i64 0, .int .i64 0, .int .i64 0, .bool false, .slice none 0 0, .slice none 0 0]] (w.alloc (sc x xa xc a2 c2)) fun e w' => e = .returned (.tuple #[]) ∧ ∃ v', Hid (w'.heap[tb]? = some (tnc s p v')) ∧ Hid (w'.heap[w.heap.size]? = some (sc x xa xc a2 c2)) ∧ Hid (AckO w w' tb n0 v v' s p L x)) := ack_any s p v tb n0 L x _ w h hz
  clear h
  go_enter Try.func48, Try.ntmps48
  go_wp2_with (go_at_call 49; refine HSY.out.mono ?_; rintro e w2 ⟨rfl, v', HB2, HB1, HA⟩; have k5 := (tcells_get HB2.out).2.2.2.2.2.1)
  have hs1 : ¬ s.sta = 1 := by simpa using hs
  have hs2 : decide (s.sta = 1) = false := by simpa using hs
  generalize s.sta = q at k5 hs hs1 hs2
  first | go_region_with (fail) | fail
  all_goals
    go_wp2
    refine bodyPost_ret (results_none rfl _ _ _) rfl ?_
    exact ⟨rfl, v', HA.out.drew⟩
/-- the numbers of a session lie apart of a turn's block and of what it sends. -/
structure SeenAt (w : World) (tb n0 : Nat) (v : Value) (s : Sn) (p : Pt) (m : Nat) : Prop where
  own : w.ownsRow m 22 1 (.slice p.an s.sen.length p.cn) s.sen.length (cells32 s.sen)
  tb : ∀ k, (Value.slice p.an s.sen.length p.cn).ownBlock = some k → k ≠ tb ∧ v.ownBlock ≠ some k
  lt : ∀ y ∈ s.sen, y < 4294967296
  le : s.sen.length ≤ 32
theorem SeenAt.ack {w w' : World} {tb n0 m : Nat} {v v' : Value} {s : Sn} {p : Pt} {L : List SD} {x : Sg} (h : SeenAt w tb n0 v s p m) (ha : AckO w w' tb n0 v v' s p L x) (hk : ∀ k, (Value.slice p.an s.sen.length p.cn).ownBlock = some k → k < w.heap.size) : SeenAt w' tb n0 v' s p m :=
  ⟨ha.off.owns h.own (fun g e t => by
    obtain ⟨h1, h2⟩ := h.tb g e
    rcases t with t | t
    · exact h1 t
    · exact h2 t), fun k e => ⟨(h.tb k e).1, fun t => by
      rcases ha.vo k t with q | q
      · exact (h.tb k e).2 q
      · have := hk k e; omega⟩, h.lt, h.le⟩
theorem SeenAt.row {w : World} {tb n0 m : Nat} {v : Value} {s : Sn} {p : Pt} (h : SeenAt w tb n0 v s p m) : Row32 w p.an s.sen := by
  obtain ⟨a, c, e, _, _, hr⟩ := own32_row h.own h.lt (by have := h.le; unfold maxLen; omega)
  cases e
  exact hr
theorem SeenAt.in {w : World} {tb n0 m : Nat} {v : Value} {s : Sn} {p : Pt} (h : SeenAt w tb n0 v s p m) : ∀ k, (Value.slice p.an s.sen.length p.cn).ownBlock = some k → k < w.heap.size := fun k e => own_in h.own k e
set_option maxRecDepth 20000 in
set_option maxHeartbeats 8000000 in
theorem rep_b (s : Sn) (p : Pt) (v : Value) (tb n0 m : Nat) (L : List SD) (x : Sg) (xa : Option Addr) (xc : Nat) (a2 : Option Addr) (c2 : Nat) (now : Int) (w : World) (h : Sy w tb n0 s p v L) (hz : L.length ≤ 10) (hx : x.ser < 4294967296) (hq : SeenAt w tb n0 v s p m) (hs : (s.sta != 1) = false) (hc : s.sen.contains x.ser = true) :
    Calls Try.prog 48 #[.pointer (some ⟨tb, 0, none⟩), sv x xa xc a2 c2, .int .i64 now] w fun e w' => e = .returned (.tuple #[]) ∧ ∃ v', Hid (AckO w w' tb n0 v v' s p L x) := by
  have HSY : Hid (Calls Try.prog 49 #[.pointer (some ⟨tb, 0, none⟩), .agg #[.int .i64 3, .int .i64 0, .int .u32 0, .int .u32 (x.ser : Nat), .int .u32 0, .int .i64 0, .int .i64 0, .int .i64 0, .int .i64 0, .int .i64 0, .bool false, .slice none 0 0, .slice none 0 0]] (w.alloc (sc x xa xc a2 c2)) fun e w' => e = .returned (.tuple #[]) ∧ ∃ v', Hid (w'.heap[tb]? = some (tnc s p v')) ∧ Hid (w'.heap[w.heap.size]? = some (sc x xa xc a2 c2)) ∧ Hid (AckO w w' tb n0 v v' s p L x)) := ack_any s p v tb n0 L x _ w h hz
  have HQ : Hid (SeenAt w tb n0 v s p m) := hq
  have hl := hq.le
  have HXS : Hid (∀ W : World, W.heap[w.heap.size]? = some (sc x xa xc a2 c2) → W.cell? ⟨w.heap.size, 3, none⟩ = some (.int .u32 (x.ser : Nat))) := fun W e => by rw [cell_of e]; rfl
  have HCN : Hid (∀ W : World, Row32 W p.an s.sen → Calls Try.prog 74 #[.slice p.an s.sen.length p.cn, .int .u32 (x.ser : Nat)] W fun e w' => e = .returned (.bool true) ∧ W = w') := fun W hr => by
    have := contains32_any W p.an p.cn s.sen x.ser hr (by omega) hx
    rw [hc] at this
    exact this
  clear h hq hc
  go_enter Try.func48, Try.ntmps48
  go_wp2_with (first | (go_at_call 49; refine HSY.out.mono ?_; rintro e w2 ⟨rfl, v', HB2, HB1, HA⟩; obtain ⟨_, _, _, _, _, k5, _, _, _, _, _, _, _, _, _, _, _, _, _, _, _, _, k22, _, _⟩ := tcells_get HB2.out; have hrow : Hid (Row32 w2.drew p.an s.sen) := (HQ.out.ack HA.out HQ.out.in).row; have x3 := HXS.out w2 HB1.out) | (go_at_call 74; fail))
  have hs1 : s.sta = 1 := by simpa using hs
  rw [hs1] at k5
  have HCD := HCN.out _ hrow.out
  have HCE : Hid (Calls Try.prog 74 #[.slice p.an s.sen.length p.cn, .int .u32 (x.ser : Nat)] w2.drew fun e w' => e = .returned (.bool true) ∧ w2.drew = w') := HCD
  clear HCD HCN HXS hs hs1
  first | go_region_with (go_at_call 74; refine HCE.out.mono ?_; rintro e w3 ⟨rfl, rfl⟩) | fail
  all_goals
    go_wp2
    refine bodyPost_ret (results_none rfl _ _ _) rfl ?_
    exact ⟨rfl, v', HA.out.drew⟩
end Go.Proofs.Ytnjcaolkcmpdcaa
