/- The walk of files.set: bytes become those of the file of a name. -/
import Derived.Test.YtfocejmfmnijpaaFDelete
namespace Go.Proofs.Ytfocejmfmnijpaa
open Go.RowKit

/-- The files with one. -/
def putS (L : List Fil) (n : ByteArray) (b : List Nat) : List Fil :=
  if thereB L n then L.set (atS L n) ⟨n, b⟩ else L.take (atS L n) ++ ⟨n, b⟩ :: L.drop (atS L n)

/-- Files that were turned, behind a call. -/
structure Turned (w w' : World) (p : Nat) (v v' : Value) (X' : List FX) : Prop where
  turn : Turn w' p v' X'
  off : Off (own p v) w w'
  new : ∀ k, own p v' k → own p v k ∨ w.heap.size ≤ k
theorem Turned.refl {w : World} {p : Nat} {v : Value} {X : List FX} (h : Turn w p v X) : Turned w w p v v X := ⟨h, Off.refl _ w, fun _ hk => .inl hk⟩
theorem Turned.trans {a b c : World} {p : Nat} {u v v' : Value} {X Y : List FX} (h : Turned a b p u v X) (k : Turned b c p v v' Y) : Turned a c p u v' Y :=
  ⟨k.turn, h.off.trans k.off (fun i hi hk => (h.new i hk).elim id (fun hge => by omega)), fun i hi => (k.new i hi).elim (h.new i) (fun hge => .inr (Nat.le_trans h.off.size hge))⟩
/-- ahead of it nothing but new memory was made. -/
theorem Turned.ahead {a b c : World} {p : Nat} {v v' : Value} {X : List FX} (h : Below a.heap.size a b) (k : Turned b c p v v' X) : Turned a c p v v' X :=
  ⟨k.turn, (Off.of_below (S := own p v) h).trans k.off (fun _ _ t => t), fun i hi => (k.new i hi).elim .inl (fun hge => .inr (Nat.le_trans h.size hge))⟩


theorem turn_moved {w w2 : World} {p : Nat} {v v' : Value} {X X' : List FX} (h : Turn w p v X) (hm : Moved w w2 v v') (ho : w2.ownsRow 0 53 2 v' X'.length (fcells X')) (hX : ∀ x ∈ X', Good w (own p v) x) (hn : X'.length ≤ 1000000) :
    Turned w (w2.setCell ⟨p, 0, none⟩ v') p v v' X' := by
  have hp := h.plt
  have hpv : v'.ownBlock ≠ some p := fun e => (hm.new p e).elim h.pv (fun hge => by omega)
  have ho1 : Off (own p v) w w2 := hm.off.mono (fun k _ hk => .inr hk)
  have ho2 : Off (own p v) w (w2.setCell ⟨p, 0, none⟩ v') := ho1.setCell (p := ⟨p, 0, none⟩) (.inr (.inl rfl)) _
  have hos : Off (fun k => k = p) w2 (w2.setCell ⟨p, 0, none⟩ v') := (Off.refl (fun k => k = p) w2).setCell (p := ⟨p, 0, none⟩) (.inr rfl) _
  have hnew : ∀ k, own p v' k → own p v k ∨ w.heap.size ≤ k := by
    rintro k (hk | hk)
    · exact .inl (.inl hk)
    · exact (hm.new k hk).elim (fun h => .inl (.inr h)) .inr
  refine ⟨⟨?_, hos.owns ho (fun g hg e => hpv (by rw [hg, e])), hpv, fun x hx => ?_, hn⟩, ho2, hnew⟩
  · rw [heap_setCell_same w2 p 0 #[v] 59 v' (hm.off.at h.here h.pv)]; rfl
  · obtain ⟨g1, g2, g3, g4, g5⟩ := hX x hx
    refine ⟨g1, g2, g3, g4.off ho2 g5, fun h0 b hb hk => ?_⟩
    exact (hnew _ hk).elim (g5 h0 b hb) (fun hge => by have := g4.lt h0 b hb; omega)

theorem below_off {S : Nat → Prop} {a b : World} (h : Below a.heap.size a b) : Off S a b := Off.of_below h
theorem atS_fil_le (X : List FX) (n : ByteArray) : atS (X.map FX.fil) n ≤ X.length := by have := atS_le (X.map FX.fil) n; simpa using this

set_option maxHeartbeats 2000000 in
theorem set_there (w : World) (p : Nat) (v : Value) (X : List FX) (hT : Turn w p v X) (n : ByteArray) (a : Option Addr) (c : Nat) (b : List Nat) (hg : Good w (own p v) ⟨n, a, c, b⟩) (hr : risingB (X.map FX.fil) = true) (ht : thereB (X.map FX.fil) n = true) :
    Calls Try.prog 79 #[.pointer (some ⟨p, 0, none⟩), .string n, .slice a b.length c] w fun e w' => e = .returned (.tuple #[]) ∧ ∃ v' X', Hid (Turned w w' p v v' X' ∧ X'.map FX.fil = putS (X.map FX.fil) n b ∧ X'.length ≤ X.length + 1) := by
  obtain ⟨hlt, hnm⟩ := there_get ht
  have hlx : atS (X.map FX.fil) n < X.length := by simpa using hlt
  obtain ⟨va, vc, rfl, hv1, hv2⟩ := hT.form
  obtain ⟨g, rfl⟩ := hT.at (by omega)
  have hfew := hT.few
  have hc := hT.cell
  have hL : ListAt w (some ⟨g, 0, none⟩) (X.map FX.fil) := hT.listAt.1
  have HP := place_any w (some ⟨g, 0, none⟩) vc (X.map FX.fil) hL n hr
  rw [List.length_map, ht] at HP
  have HT : Hid (Turn w p (.slice (some ⟨g, 0, none⟩) X.length vc) X) := hT
  have HG : Hid (Good w (own p (.slice (some ⟨g, 0, none⟩) X.length vc)) ⟨n, a, c, b⟩) := hg
  have HS : Hid (putS (X.map FX.fil) n b = (X.map FX.fil).set (atS (X.map FX.fil) n) ⟨n, b⟩) := by show putS _ _ _ = _; unfold putS; rw [ht]; rfl
  have HM : Hid (X[atS (X.map FX.fil) n].name = n) := by
    have : ((X.map FX.fil)[atS (X.map FX.fil) n]).name = n := hnm
    rw [List.getElem_map] at this
    exact this
  clear hT hg hr ht hL hnm hlt
  generalize atS (X.map FX.fil) n = i at *
  go_enter Try.func79, Try.ntmps79
  go_wp2_with (go_at_call 51; refine HP.mono ?_; rintro e w1 ⟨rfl, hb⟩; have d1 := cell_later hb hc; have d2 := HT.out.later hb |>.val i hlx; have d3 := HT.out.later hb |>.gfrozen (i * 2 + 1); have HB : Hid (Below w.heap.size w w1) := hb; clear hb)
  have hT1 := HT.out.later HB.out
  have hG1 : Good w1 (own p (.slice (some ⟨g, 0, none⟩) X.length vc)) ⟨n, a, c, b⟩ := HG.out.off (T := fun _ => False) (below_off HB.out) (fun _ h => h.elim)
  obtain ⟨t1, t2⟩ := hT1.store i hlx ⟨n, a, c, b⟩ HM.out.symm hG1
  refine bodyPost_ret (results_none rfl _ _ _) rfl ?_
  refine ⟨rfl, _, X.set i ⟨n, a, c, b⟩, Turned.ahead HB.out ⟨t1, t2, fun k hk => .inl hk⟩, ?_, by simp⟩
  rw [HS.out, List.map_set]
  rfl

set_option maxHeartbeats 2000000 in
theorem set_new (w : World) (p : Nat) (v : Value) (X : List FX) (hT : Turn w p v X) (n : ByteArray) (a : Option Addr) (c : Nat) (b : List Nat) (hg : Good w (own p v) ⟨n, a, c, b⟩) (hr : risingB (X.map FX.fil) = true) (ht : thereB (X.map FX.fil) n = false) (hn : X.length ≤ 1000) :
    Calls Try.prog 79 #[.pointer (some ⟨p, 0, none⟩), .string n, .slice a b.length c] w fun e w' => e = .returned (.tuple #[]) ∧ ∃ v' X', Hid (Turned w w' p v v' X' ∧ X'.map FX.fil = putS (X.map FX.fil) n b ∧ X'.length ≤ X.length + 1) := by
  obtain ⟨va, vc, rfl, hv1, hv2⟩ := hT.form
  have hc := hT.cell
  have hf := hT.frozen
  have hL : ListAt w va (X.map FX.fil) := hT.listAt.1
  have HP := place_any w va vc (X.map FX.fil) hL n hr
  rw [List.length_map, ht] at HP
  have HT : Hid (Turn w p (.slice va X.length vc) X) := hT
  have HG : Hid (Good w (own p (.slice va X.length vc)) ⟨n, a, c, b⟩) := hg
  have HS : Hid (putS (X.map FX.fil) n b = (X.map FX.fil).take (atS (X.map FX.fil) n) ++ ⟨n, b⟩ :: (X.map FX.fil).drop (atS (X.map FX.fil) n)) := by show putS _ _ _ = _; unfold putS; rw [ht]; rfl
  have hix : atS (X.map FX.fil) n ≤ X.length := atS_fil_le X n
  have hplt := hT.plt
  clear hT hg hr ht hL
  generalize atS (X.map FX.fil) n = i at *
  go_enter Try.func79, Try.ntmps79
  go_wp2_with (first | (go_at_call 51; refine HP.mono ?_; rintro e w1 ⟨rfl, hb⟩; have d1 := cell_later hb hc; have hz := hb.size; have HB : Hid (Below w.heap.size w w1) := hb; clear hb) | (go_at_call 83; refine (insert_any (w1.alloc (.cells #[.string n, .slice a b.length c] 53)) 0 i _ X ⟨n, a, c, b⟩ w1.heap.size ((HT.out.later HB.out).list.alloc _) (heap_alloc_new w1 _) (fun e => by have := (HT.out.later HB.out).vlt _ e; omega) hn hix (Nat.zero_le _)).mono ?_; rintro e w2 ⟨v', rfl, hq⟩; obtain ⟨a2, c2, rfl, hv3, hv4⟩ := own_form hq.out.1; have hp2 : w2.heap[p]? = some (.cells #[.slice va X.length vc] 59 (0, 0)) := hq.out.2.off.at ((Below.heap_alloc _ _ _ (by omega)).trans (HT.out.later HB.out).here) HT.out.pv; have e1 := cell_of hp2 0; simp only [List.getElem?_toArray, List.getElem?_cons_zero] at e1; have e2 := frozen_of hp2 0))
  have hb3 : Below w.heap.size w (w1.alloc (.cells #[.string n, .slice a b.length c] 53)) := HB.out.alloc HB.out.size _
  have hT1 := HT.out.later hb3
  have hG1 : Good (w1.alloc (.cells #[.string n, .slice a b.length c] 53)) (own p (.slice va X.length vc)) ⟨n, a, c, b⟩ := HG.out.off (T := fun _ => False) (below_off hb3) (fun _ h => h.elim)
  have hlen : (insX X i ⟨n, a, c, b⟩).length = X.length + 1 := insX_length _ _ _ hix
  have ht := turn_moved hT1 hq.out.2 (X' := insX X i ⟨n, a, c, b⟩) (by rw [hlen]; exact hq.out.1) (fun x hx => by
    unfold insX at hx
    rcases List.mem_append.1 hx with hx | hx
    · exact hT1.files x (List.mem_of_mem_take hx)
    · rcases List.mem_cons.1 hx with rfl | hx
      · exact hG1
      · exact hT1.files x (List.mem_of_mem_drop hx)) (by rw [hlen]; omega)
  go_end0
  refine ⟨rfl, _, _, Turned.ahead hb3 ht, ?_, by rw [hlen]; omega⟩
  rw [HS.out]
  simp [insX, FX.fil, List.map_take, List.map_drop]

theorem set_any (w : World) (p : Nat) (v : Value) (X : List FX) (hT : Turn w p v X) (n : ByteArray) (a : Option Addr) (c : Nat) (b : List Nat) (hg : Good w (own p v) ⟨n, a, c, b⟩) (hr : risingB (X.map FX.fil) = true) (hn : X.length ≤ 1000) :
    Calls Try.prog 79 #[.pointer (some ⟨p, 0, none⟩), .string n, .slice a b.length c] w fun e w' => e = .returned (.tuple #[]) ∧ ∃ v' X', Hid (Turned w w' p v v' X' ∧ X'.map FX.fil = putS (X.map FX.fil) n b ∧ X'.length ≤ X.length + 1) := by
  cases ht : thereB (X.map FX.fil) n with
  | true => exact set_there w p v X hT n a c b hg hr ht
  | false => exact set_new w p v X hT n a c b hg hr ht hn

end Go.Proofs.Ytfocejmfmnijpaa
