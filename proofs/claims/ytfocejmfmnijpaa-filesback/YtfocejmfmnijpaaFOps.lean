/- The walks of put, write, rename and drop. -/
import Derived.Test.YtfocejmfmnijpaaFOver
namespace Go.Proofs.Ytfocejmfmnijpaa
open Go.RowKit

/-- The bytes of the file of a name. -/
def bytesOf (L : List Fil) (n : ByteArray) : List Nat := (L[atS L n]?.map Fil.bytes).getD []
/-- The files without one. -/
def dropS (L : List Fil) (n : ByteArray) : List Fil := L.take (atS L n) ++ L.drop (atS L n + 1)
def putE (L : List Fil) (n : ByteArray) (b : List Nat) : Except Int (List Fil) := if 4096 < b.length then .error 3 else .ok (putS L n b)
def writeE (L : List Fil) (n : ByteArray) (at_ : Int) (b : List Nat) : Except Int (List Fil) :=
  if thereB L n = false then .error 4 else if at_ < 0 ∨ ((bytesOf L n).length : Int) < at_ then .error 2 else if 4096 < at_ + (b.length : Int) then .error 3 else .ok (L.set (atS L n) ⟨n, overS (bytesOf L n) at_.toNat b⟩)
def renameE (L : List Fil) (n m : ByteArray) : Except Int (List Fil) := if nameB m = false then .error 2 else if thereB L n = false then .error 4 else .ok (putS (dropS L n) m (bytesOf L n))
def dropE (L : List Fil) (n : ByteArray) : Except Int (List Fil) := if thereB L n = false then .error 4 else .ok (dropS L n)

theorem bytesOf_at {L : List Fil} {n : ByteArray} (h : atS L n < L.length) : bytesOf L n = L[atS L n].bytes := by
  unfold bytesOf
  rw [List.getElem?_eq_getElem h]
  rfl

/-- what is done: the files that come of it. -/
def Done (w : World) (p : Nat) (v : Value) (X : List FX) (L' : List Fil) (w' : World) : Prop :=
  ∃ v' X', Turned w w' p v v' X' ∧ X'.map FX.fil = L' ∧ X'.length ≤ X.length + 1

theorem Done.ahead {a b c : World} {p : Nat} {v : Value} {X : List FX} {L' : List Fil} (h : Below a.heap.size a b) (k : Done b p v X L' c) : Done a p v X L' c := by
  obtain ⟨v', X', h1, h2⟩ := k
  exact ⟨v', X', Turned.ahead h h1, h2⟩

theorem good_later {w w' : World} {S : Nat → Prop} {x : FX} (h : Good w S x) (hb : Below w.heap.size w w') : Good w' S x := h.off (T := fun _ => False) (below_off hb) (fun _ h => h.elim)

set_option maxHeartbeats 2000000 in
theorem put_ok (w : World) (p : Nat) (v : Value) (X : List FX) (hT : Turn w p v X) (n : ByteArray) (a : Option Addr) (c : Nat) (b : List Nat) (hr : risingB (X.map FX.fil) = true) (hn : X.length ≤ 1000) (hnm : n.size ≤ 140737488351232) (hb : Row w a b) (hl : b.length ≤ 4096) :
    Calls Try.prog 71 #[.pointer (some ⟨p, 0, none⟩), .string n, .slice a b.length c] w fun e w' => e = .returned (.int .i64 0) ∧ Hid (Done w p v X (putS (X.map FX.fil) n b) w') := by
  have HT : Hid (Turn w p v X) := hT
  have HB : Hid (Row w a b) := hb
  have HR : Hid (risingB (X.map FX.fil) = true) := hr
  clear hT hb hr
  go_enter Try.func71, Try.ntmps71
  go_wp2_with (first | (go_at_call 52; refine (bclone_any _ _ _ b HB.out (by omega)).mono ?_; rintro e w1 ⟨a1, c1, rfl, hq⟩) | (go_at_call 79; refine (set_any w1 p v X (HT.out.later hq.out.2) n a1 c1 b (good_fresh hq.out.1 hnm HT.out.lt) HR.out hn).mono ?_; rintro e w2 ⟨rfl, v', X', hs⟩))
  go_ret
  exact ⟨rfl, Done.ahead hq.out.2 ⟨v', X', hs.out.1, hs.out.2⟩⟩

theorem put_long (w : World) (p : Nat) (n : ByteArray) (a : Option Addr) (c len : Nat) (hl : 4096 < len) :
    Calls Try.prog 71 #[.pointer (some ⟨p, 0, none⟩), .string n, .slice a len c] w fun e w' => e = .returned (.int .i64 3) ∧ w = w' := by
  have : (4096 : Int) < (len : Int) := by omega
  go_enter Try.func71, Try.ntmps71
  go_wp2
  go_ret
  exact ⟨rfl, rfl⟩

theorem Turned.good {a b : World} {p : Nat} {v v' : Value} {X : List FX} {y : FX} (h : Turned a b p v v' X) (hy : Good a (own p v) y) : Good b (own p v') y :=
  ⟨hy.1, hy.2.1, hy.2.2.1, hy.2.2.2.1.off h.off hy.2.2.2.2, fun h0 b hb hk => (h.new _ hk).elim (hy.2.2.2.2 h0 b hb) (fun hge => by have := hy.2.2.2.1.lt h0 b hb; omega)⟩
theorem turn_drop {w1 w2 : World} {p g vc i : Nat} {X : List FX} (hT1 : Turn w1 p (.slice (some ⟨g, 0, none⟩) X.length vc) X) (hlx : i < X.length) (hq : w2.ownsRow 0 53 2 (.slice (some ⟨g, 0, none⟩) (X.length - 1) vc) (X.length - 1) (fcells (delX X i)) ∧ Off (fun k => k = g) w1 w2) :
    Turned w1 (w2.setCell ⟨p, 0, none⟩ (.slice (some ⟨g, 0, none⟩) (X.length - 1) vc)) p (.slice (some ⟨g, 0, none⟩) X.length vc) (.slice (some ⟨g, 0, none⟩) (X.length - 1) vc) (delX X i) := by
  have hlen : (delX X i).length = X.length - 1 := delX_length X i hlx
  have hfew := hT1.few
  refine turn_moved (X' := delX X i) hT1 ⟨hq.2.mono (fun k _ hk => by rw [hk]; rfl), fun k hk => .inl hk⟩ (by rw [hlen]; exact hq.1) (fun x hx => hT1.files x ?_) (by rw [hlen]; omega)
  unfold delX at hx
  rcases List.mem_append.1 hx with hx | hx
  · exact List.mem_of_mem_take hx
  · exact List.mem_of_mem_drop hx

set_option maxHeartbeats 2000000 in
theorem drop_ok (w : World) (p : Nat) (v : Value) (X : List FX) (hT : Turn w p v X) (n : ByteArray) (hr : risingB (X.map FX.fil) = true) (hn : X.length ≤ 1000) (ht : thereB (X.map FX.fil) n = true) :
    Calls Try.prog 74 #[.pointer (some ⟨p, 0, none⟩), .string n] w fun e w' => e = .returned (.int .i64 0) ∧ Hid (Done w p v X (dropS (X.map FX.fil) n) w') := by
  obtain ⟨hlt, hnm⟩ := there_get ht
  have hlx : atS (X.map FX.fil) n < X.length := by simpa using hlt
  obtain ⟨va, vc, rfl, hv1, hv2⟩ := hT.form
  obtain ⟨g, rfl⟩ := hT.at (by omega)
  have hc := hT.cell
  have hL : ListAt w (some ⟨g, 0, none⟩) (X.map FX.fil) := hT.listAt.1
  have HP := place_any w (some ⟨g, 0, none⟩) vc (X.map FX.fil) hL n hr
  rw [List.length_map, ht] at HP
  have HT : Hid (Turn w p (.slice (some ⟨g, 0, none⟩) X.length vc) X) := hT
  have HS : Hid (dropS (X.map FX.fil) n = (delX X (atS (X.map FX.fil) n)).map FX.fil) := by
    show _ = _
    simp [dropS, delX, List.map_take, List.map_drop]
  clear hT hr ht hL hnm hlt
  generalize atS (X.map FX.fil) n = i at *
  have HD := fun w1 (h : Below w.heap.size w w1) => delete_any w1 0 g vc i X.length X rfl (HT.out.later h).list hn hlx
  simp only [Int.natCast_add, Int.natCast_one] at HD
  go_enter Try.func74, Try.ntmps74
  go_wp2_with (first | (go_at_call 51; refine HP.mono ?_; rintro e w1 ⟨rfl, hb⟩; have d1 := cell_later hb hc; have HB : Hid (Below w.heap.size w w1) := hb; clear hb) | (go_at_call 81; refine (HD w1 HB.out).mono ?_; rintro e w2 ⟨rfl, hq⟩; have hp2 := hq.out.2.at (HT.out.later HB.out).here (fun e => HT.out.pv (by rw [e]; rfl)); have e1 := cell_of hp2 0; simp only [List.getElem?_toArray, List.getElem?_cons_zero] at e1; have e2 := frozen_of hp2 0))
  have hlen : (delX X i).length = X.length - 1 := delX_length X i hlx
  have ht := turn_drop (HT.out.later HB.out) hlx hq.out
  go_ret
  exact ⟨rfl, Done.ahead HB.out ⟨_, _, ht, HS.out.symm, by rw [hlen]; omega⟩⟩

set_option maxHeartbeats 2000000 in
theorem drop_none (w : World) (p : Nat) (v : Value) (X : List FX) (hT : Turn w p v X) (n : ByteArray) (hr : risingB (X.map FX.fil) = true) (ht : thereB (X.map FX.fil) n = false) :
    Calls Try.prog 74 #[.pointer (some ⟨p, 0, none⟩), .string n] w fun e w' => e = .returned (.int .i64 4) ∧ Hid (Below w.heap.size w w') := by
  obtain ⟨va, vc, rfl, hv1, hv2⟩ := hT.form
  have hc := hT.cell
  have HP := place_any w va vc (X.map FX.fil) hT.listAt.1 n hr
  rw [List.length_map, ht] at HP
  clear hT hr ht
  go_enter Try.func74, Try.ntmps74
  go_wp2_with (go_at_call 51; refine HP.mono ?_; rintro e w1 ⟨rfl, hb⟩; have HB : Hid (Below w.heap.size w w1) := hb; clear hb)
  go_ret
  exact ⟨rfl, HB⟩

theorem dropS_rising {L : List Fil} (n : ByteArray) (h : risingB L = true) : risingB (dropS L n) = true := by
  rw [rising_iff]
  intro i hi
  unfold dropS at hi ⊢
  have hl : (L.take (atS L n)).length = atS L n := by rw [List.length_take]; have := atS_le L n; omega
  have hg : ∀ j (hj : j < (L.take (atS L n) ++ L.drop (atS L n + 1)).length), (L.take (atS L n) ++ L.drop (atS L n + 1))[j]? = L[if j < atS L n then j else j + 1]? := by
    intro j hj
    by_cases hjl : j < atS L n
    · rw [if_pos hjl, List.getElem?_append_left (by omega), List.getElem?_take_of_lt hjl]
    · rw [if_neg hjl, List.getElem?_append_right (by omega), List.getElem?_drop, hl]
      congr 1; omega
  have hlen : (L.take (atS L n) ++ L.drop (atS L n + 1)).length ≤ L.length := by simp; omega
  have e1 := hg i (by omega)
  have e2 := hg (i + 1) hi
  rw [List.getElem?_eq_getElem (by omega)] at e1
  rw [List.getElem?_eq_getElem hi] at e2
  have f1 := (List.getElem?_eq_some_iff.1 e1.symm)
  have f2 := (List.getElem?_eq_some_iff.1 e2.symm)
  obtain ⟨f1, f1'⟩ := f1
  obtain ⟨f2, f2'⟩ := f2
  rw [← f1', ← f2']
  refine rising_lt h _ _ f2 ?_
  split <;> split <;> omega

set_option maxHeartbeats 2000000 in
theorem rename_ok (w : World) (p : Nat) (v : Value) (X : List FX) (hT : Turn w p v X) (n m : ByteArray) (hr : risingB (X.map FX.fil) = true) (hn : X.length ≤ 1000) (hm : nameB m = true) (ht : thereB (X.map FX.fil) n = true) :
    Calls Try.prog 73 #[.pointer (some ⟨p, 0, none⟩), .string n, .string m] w fun e w' => e = .returned (.int .i64 0) ∧ Hid (Done w p v X (putS (dropS (X.map FX.fil) n) m (bytesOf (X.map FX.fil) n)) w') := by
  obtain ⟨hlt, hnm⟩ := there_get ht
  have hlx : atS (X.map FX.fil) n < X.length := by simpa using hlt
  obtain ⟨va, vc, rfl, hv1, hv2⟩ := hT.form
  obtain ⟨g, rfl⟩ := hT.at (by omega)
  have hc := hT.cell
  have hfew := hT.few
  have hL : ListAt w (some ⟨g, 0, none⟩) (X.map FX.fil) := hT.listAt.1
  have HP := place_any w (some ⟨g, 0, none⟩) vc (X.map FX.fil) hL n hr
  rw [List.length_map, ht] at HP
  have HT : Hid (Turn w p (.slice (some ⟨g, 0, none⟩) X.length vc) X) := hT
  have HS : Hid (dropS (X.map FX.fil) n = (delX X (atS (X.map FX.fil) n)).map FX.fil) := by
    show _ = _
    simp [dropS, delX, List.map_take, List.map_drop]
  have HRI : Hid (risingB ((delX X (atS (X.map FX.fil) n)).map FX.fil) = true) := by rw [← HS.out]; exact dropS_rising n hr
  have HBY : Hid (bytesOf (X.map FX.fil) n = X[atS (X.map FX.fil) n].bytes) := by
    show _ = _
    rw [bytesOf_at hlt, List.getElem_map]; rfl
  have hm24 : m.size ≤ 24 ∧ 1 ≤ m.size := by have := of_decide_eq_true hm; omega
  have HM : Hid (nameB m = true) := hm
  clear hT hr ht hL hnm hlt hm
  generalize atS (X.map FX.fil) n = i at *
  have HD := fun w1 (h : Below w.heap.size w w1) => delete_any w1 0 g vc i X.length X rfl (HT.out.later h).list hn hlx
  simp only [Int.natCast_add, Int.natCast_one] at HD
  have hlen : (delX X i).length = X.length - 1 := delX_length X i hlx
  have hgood := HT.out.files _ (List.getElem_mem hlx)
  obtain ⟨y, hy⟩ : ∃ y, y = X[i] := ⟨_, rfl⟩
  have HV : Hid (∀ w1, Below w.heap.size w w1 → w1.cell? ⟨g, i * 2 + 1, none⟩ = some (.slice y.ad y.bytes.length y.cap)) := fun w1 h => by rw [hy]; exact (HT.out.later h).val i hlx
  rw [← hy] at hgood HBY
  have HY : Hid (Good w (own p (.slice (some ⟨g, 0, none⟩) X.length vc)) y) := hgood
  have HG2 : Hid (∀ w1, Below w.heap.size w w1 → Good w1 (own p (.slice (some ⟨g, 0, none⟩) X.length vc)) ⟨m, y.ad, y.cap, y.bytes⟩) := fun w1 h => by
    have := good_later HY.out h
    exact ⟨by show m.size ≤ _; omega, this.2⟩
  clear hgood hy
  go_enter Try.func73, Try.ntmps73
  go_wp2_with (first | (go_at_call 55; refine (isName_any m _ (by omega)).mono ?_; rw [HM.out]; rintro e w0 ⟨rfl, rfl⟩) | (go_at_call 51; refine HP.mono ?_; rintro e w1 ⟨rfl, hb⟩; have d1 := cell_later hb hc; have d2 := HV.out w1 hb; have HB : Hid (Below w.heap.size w w1) := hb; clear hb) | (go_at_call 81; refine (HD w1 HB.out).mono ?_; rintro e w2 ⟨rfl, hq⟩; have hp2 := hq.out.2.at (HT.out.later HB.out).here (fun e => HT.out.pv (by rw [e]; rfl)); have e1 := cell_of hp2 0; simp only [List.getElem?_toArray, List.getElem?_cons_zero] at e1; have e2 := frozen_of hp2 0) | (go_at_call 79; refine (set_any _ p (.slice (some ⟨g, 0, none⟩) (X.length - 1) vc) (delX X i) (turn_drop (HT.out.later HB.out) hlx hq.out).turn m y.ad y.cap y.bytes ((turn_drop (HT.out.later HB.out) hlx hq.out).good (y := ⟨m, y.ad, y.cap, y.bytes⟩) (HG2.out w1 HB.out)) HRI.out (by omega)).mono ?_; rintro e w3 ⟨rfl, v', X', hs⟩))
  go_ret
  have ht := turn_drop (HT.out.later HB.out) hlx hq.out
  exact ⟨rfl, Done.ahead HB.out ⟨v', X', ht.trans hs.out.1, by rw [hs.out.2.1, HS.out, HBY.out], by have := hs.out.2.2; omega⟩⟩

set_option maxHeartbeats 2000000 in
theorem rename_arg (w : World) (p : Nat) (n m : ByteArray) (hs : m.size ≤ 140737488351232) (hm : nameB m = false) :
    Calls Try.prog 73 #[.pointer (some ⟨p, 0, none⟩), .string n, .string m] w fun e w' => e = .returned (.int .i64 2) ∧ w = w' := by
  go_enter Try.func73, Try.ntmps73
  go_wp2_with (go_at_call 55; refine (isName_any m _ hs).mono ?_; rw [hm]; rintro e w0 ⟨rfl, rfl⟩)
  go_ret
  exact ⟨rfl, rfl⟩

set_option maxHeartbeats 2000000 in
theorem rename_none (w : World) (p : Nat) (v : Value) (X : List FX) (hT : Turn w p v X) (n m : ByteArray) (hs : m.size ≤ 140737488351232) (hr : risingB (X.map FX.fil) = true) (hm : nameB m = true) (ht : thereB (X.map FX.fil) n = false) :
    Calls Try.prog 73 #[.pointer (some ⟨p, 0, none⟩), .string n, .string m] w fun e w' => e = .returned (.int .i64 4) ∧ Hid (Below w.heap.size w w') := by
  obtain ⟨va, vc, rfl, hv1, hv2⟩ := hT.form
  have hc := hT.cell
  have HP := place_any w va vc (X.map FX.fil) hT.listAt.1 n hr
  rw [List.length_map, ht] at HP
  have HM : Hid (nameB m = true) := hm
  clear hT hr ht hm
  go_enter Try.func73, Try.ntmps73
  go_wp2_with (first | (go_at_call 55; refine (isName_any m _ hs).mono ?_; rw [HM.out]; rintro e w0 ⟨rfl, rfl⟩) | (go_at_call 51; refine HP.mono ?_; rintro e w1 ⟨rfl, hb⟩; have HB : Hid (Below w.heap.size w w1) := hb; clear hb))
  go_ret
  exact ⟨rfl, HB⟩

set_option maxHeartbeats 2000000 in
theorem write_none (w : World) (p : Nat) (v : Value) (X : List FX) (hT : Turn w p v X) (n : ByteArray) (at_ : Int) (b : Value) (hr : risingB (X.map FX.fil) = true) (ht : thereB (X.map FX.fil) n = false) :
    Calls Try.prog 72 #[.pointer (some ⟨p, 0, none⟩), .string n, .int .i64 at_, b] w fun e w' => e = .returned (.int .i64 4) ∧ Hid (Below w.heap.size w w') := by
  obtain ⟨va, vc, rfl, hv1, hv2⟩ := hT.form
  have hc := hT.cell
  have HP := place_any w va vc (X.map FX.fil) hT.listAt.1 n hr
  rw [List.length_map, ht] at HP
  clear hT hr ht
  go_enter Try.func72, Try.ntmps72
  go_wp2_with (go_at_call 51; refine HP.mono ?_; rintro e w1 ⟨rfl, hb⟩; have HB : Hid (Below w.heap.size w w1) := hb; clear hb)
  go_ret
  exact ⟨rfl, HB⟩

set_option maxHeartbeats 2000000 in
theorem write_arg (w : World) (p : Nat) (v : Value) (X : List FX) (hT : Turn w p v X) (n : ByteArray) (at_ : Int) (b : Value) (hr : risingB (X.map FX.fil) = true) (ht : thereB (X.map FX.fil) n = true) (ha : at_ < 0 ∨ ((bytesOf (X.map FX.fil) n).length : Int) < at_) :
    Calls Try.prog 72 #[.pointer (some ⟨p, 0, none⟩), .string n, .int .i64 at_, b] w fun e w' => e = .returned (.int .i64 2) ∧ Hid (Below w.heap.size w w') := by
  obtain ⟨hlt, hnm⟩ := there_get ht
  have hlx : atS (X.map FX.fil) n < X.length := by simpa using hlt
  rw [bytesOf_at hlt, List.getElem_map] at ha
  obtain ⟨va, vc, rfl, hv1, hv2⟩ := hT.form
  obtain ⟨g, rfl⟩ := hT.at (by omega)
  have hc := hT.cell
  have hfew := hT.few
  have HP := place_any w _ vc (X.map FX.fil) hT.listAt.1 n hr
  rw [List.length_map, ht] at HP
  have HV : Hid (∀ w1, Below w.heap.size w w1 → w1.cell? ⟨g, atS (X.map FX.fil) n * 2 + 1, none⟩ = some (.slice X[atS (X.map FX.fil) n].ad X[atS (X.map FX.fil) n].bytes.length X[atS (X.map FX.fil) n].cap)) := fun w1 h => (hT.later h).val _ hlx
  change at_ < 0 ∨ (X[atS (X.map FX.fil) n].bytes.length : Int) < at_ at ha
  clear hT hr ht hnm hlt
  generalize atS (X.map FX.fil) n = i at *
  generalize X[i] = y at HV ha
  by_cases h0 : at_ < 0
  · clear ha
    go_enter Try.func72, Try.ntmps72
    go_wp2_with (go_at_call 51; refine HP.mono ?_; rintro e w1 ⟨rfl, hb⟩; have d1 := cell_later hb hc; have d2 := HV.out w1 hb; have HB : Hid (Below w.heap.size w w1) := hb; clear hb)
    go_ret
    exact ⟨rfl, HB⟩
  · have h1 : (y.bytes.length : Int) < at_ := by omega
    clear ha
    go_enter Try.func72, Try.ntmps72
    go_wp2_with (go_at_call 51; refine HP.mono ?_; rintro e w1 ⟨rfl, hb⟩; have d1 := cell_later hb hc; have d2 := HV.out w1 hb; have HB : Hid (Below w.heap.size w w1) := hb; clear hb)
    go_ret
    exact ⟨rfl, HB⟩

set_option maxHeartbeats 2000000 in
theorem write_long (w : World) (p : Nat) (v : Value) (X : List FX) (hT : Turn w p v X) (n : ByteArray) (at_ : Nat) (a : Option Addr) (len c : Nat) (hr : risingB (X.map FX.fil) = true) (ht : thereB (X.map FX.fil) n = true) (ha : at_ ≤ (bytesOf (X.map FX.fil) n).length) (hby : (bytesOf (X.map FX.fil) n).length ≤ 4096) (hl : 4096 < at_ + len) (hlm : len ≤ 140737488351232) :
    Calls Try.prog 72 #[.pointer (some ⟨p, 0, none⟩), .string n, .int .i64 at_, .slice a len c] w fun e w' => e = .returned (.int .i64 3) ∧ Hid (Below w.heap.size w w') := by
  obtain ⟨hlt, hnm⟩ := there_get ht
  have hlx : atS (X.map FX.fil) n < X.length := by simpa using hlt
  rw [bytesOf_at hlt, List.getElem_map] at ha hby
  obtain ⟨va, vc, rfl, hv1, hv2⟩ := hT.form
  obtain ⟨g, rfl⟩ := hT.at (by omega)
  have hc := hT.cell
  have hfew := hT.few
  have HP := place_any w _ vc (X.map FX.fil) hT.listAt.1 n hr
  rw [List.length_map, ht] at HP
  have HV : Hid (∀ w1, Below w.heap.size w w1 → w1.cell? ⟨g, atS (X.map FX.fil) n * 2 + 1, none⟩ = some (.slice X[atS (X.map FX.fil) n].ad X[atS (X.map FX.fil) n].bytes.length X[atS (X.map FX.fil) n].cap)) := fun w1 h => (hT.later h).val _ hlx
  change at_ ≤ X[atS (X.map FX.fil) n].bytes.length at ha
  change X[atS (X.map FX.fil) n].bytes.length ≤ 4096 at hby
  clear hT hr ht hnm hlt
  generalize atS (X.map FX.fil) n = i at *
  generalize X[i] = y at HV ha hby
  go_enter Try.func72, Try.ntmps72
  go_wp2_with (go_at_call 51; refine HP.mono ?_; rintro e w1 ⟨rfl, hb⟩; have d1 := cell_later hb hc; have d2 := HV.out w1 hb; have HB : Hid (Below w.heap.size w w1) := hb; clear hb)
  go_ret
  exact ⟨rfl, HB⟩

set_option maxHeartbeats 4000000 in
theorem write_ok (w : World) (p : Nat) (v : Value) (X : List FX) (hT : Turn w p v X) (n : ByteArray) (at_ : Nat) (a : Option Addr) (c : Nat) (b : List Nat) (hr : risingB (X.map FX.fil) = true) (ht : thereB (X.map FX.fil) n = true) (ha : at_ ≤ (bytesOf (X.map FX.fil) n).length) (hby : (bytesOf (X.map FX.fil) n).length ≤ 4096) (hl : at_ + b.length ≤ 4096) (hrow : Row w a b) :
    Calls Try.prog 72 #[.pointer (some ⟨p, 0, none⟩), .string n, .int .i64 at_, .slice a b.length c] w fun e w' => e = .returned (.int .i64 0) ∧ Hid (Done w p v X ((X.map FX.fil).set (atS (X.map FX.fil) n) ⟨n, overS (bytesOf (X.map FX.fil) n) at_ b⟩) w') := by
  obtain ⟨hlt, hnm⟩ := there_get ht
  have hlx : atS (X.map FX.fil) n < X.length := by simpa using hlt
  rw [bytesOf_at hlt, List.getElem_map] at ha hby ⊢
  rw [List.getElem_map] at hnm
  obtain ⟨va, vc, rfl, hv1, hv2⟩ := hT.form
  obtain ⟨g, rfl⟩ := hT.at (by omega)
  have hc := hT.cell
  have hfew := hT.few
  have HP := place_any w _ vc (X.map FX.fil) hT.listAt.1 n hr
  rw [List.length_map, ht] at HP
  have HT : Hid (Turn w p (.slice (some ⟨g, 0, none⟩) X.length vc) X) := hT
  have HROW : Hid (Row w a b) := hrow
  change at_ ≤ X[atS (X.map FX.fil) n].bytes.length at ha
  change X[atS (X.map FX.fil) n].bytes.length ≤ 4096 at hby
  change X[atS (X.map FX.fil) n].name = n at hnm
  change Calls _ _ _ _ fun e w' => e = _ ∧ Hid (Done w p _ X ((X.map FX.fil).set (atS (X.map FX.fil) n) ⟨n, overS X[atS (X.map FX.fil) n].bytes at_ b⟩) w')
  clear hT hr ht hlt hrow
  generalize atS (X.map FX.fil) n = i at *
  obtain ⟨y, hy⟩ : ∃ y, y = X[i] := ⟨_, rfl⟩
  rw [← hy] at ha hby hnm ⊢
  have HY : Hid (y = X[i]) := hy
  have HNM : Hid (y.name = n) := hnm
  clear hy hnm
  go_enter Try.func72, Try.ntmps72
  go_wp2_with (go_at_call 51; refine HP.mono ?_; rintro e w1 ⟨rfl, hb⟩; have d1 := cell_later hb hc; have d2 : w1.cell? ⟨g, i * 2 + 1, none⟩ = some (.slice y.ad y.bytes.length y.cap) := (by rw [HY.out]; exact (HT.out.later hb).val i hlx); have HB : Hid (Below w.heap.size w w1) := hb; clear hb)
  have hT1 := HT.out.later HB.out
  have hgood := hT1.files _ (List.getElem_mem hlx)
  rw [← HY.out] at hgood
  have HR1 : Hid (Row w1.drew y.ad y.bytes) := hgood.2.2.2.1.later ((Below.refl _ w1).drew)
  have HR2 : Hid (Row w1.drew a b) := (HROW.out.later HB.out).later ((Below.refl _ w1).drew)
  have f1 := hT1.gfrozen (i * 2 + 1)
  have hglt := hT1.vlt g rfl
  have n1 : p ≠ g := fun e => hT1.pv (by rw [e]; rfl)
  have hi1 : (i : Int) < (X.length : Int) := by omega
  have hna : n.size ≤ 140737488351232 := by rw [← HNM.out]; exact hgood.1
  have c1 : w1.drew.cell? ⟨p, 0, none⟩ = some (.slice (some ⟨g, 0, none⟩) X.length vc) := d1
  have c2 : w1.drew.cell? ⟨g, i * 2 + 1, none⟩ = some (.slice y.ad y.bytes.length y.cap) := d2
  have c3 : w1.drew.frozen? ⟨g, i * 2 + 1, none⟩ = false := f1
  have HT1 : Hid (Turn w1 p (.slice (some ⟨g, 0, none⟩) X.length vc) X) := hT1
  clear hgood hT1
  go_region_held3 (fun w' => w'.cell? ⟨p, 0, none⟩ = some (.slice (some ⟨g, 0, none⟩) X.length vc)) (first | (exact c1) | assumption | (exact cell_later hq.out.2 c1) | (exact cell_other (cell_later hq.out.2 c1) n1)) (first | (go_at_call 80; refine (overlaid_any w1.drew y.ad a y.cap c y.bytes b at_ HR1.out HR2.out ha hby hl).mono ?_; rintro e w2 ⟨a3, c4, rfl, hq⟩; have e3 := cell_later hq.out.2 c2; have e4 : w2.frozen? ⟨g, i * 2 + 1, none⟩ = false := (hq.out.2.frozen (p := ⟨g, i * 2 + 1, none⟩) hglt).trans c3))
  have HQ : Hid (Fresh w1.drew w2 a3 c4 (overS y.bytes at_ b) ∧ Below w1.drew.heap.size w1.drew w2) := hq.out
  clear hq e3 e4 c1 c2 c3 d1 d2
  have hb2 : Below w1.heap.size w1 w2 := ((Below.refl _ w1).drew).trans HQ.out.2
  have hg2 : Good w2 (own p (.slice (some ⟨g, 0, none⟩) X.length vc)) ⟨n, a3, c4, overS y.bytes at_ b⟩ := good_fresh HQ.out.1 hna HT1.out.lt
  obtain ⟨t1, t2⟩ := (HT1.out.later hb2).store i hlx ⟨n, a3, c4, overS y.bytes at_ b⟩ (by rw [← HY.out]; exact HNM.out.symm) hg2
  go_wp2
  go_ret
  refine ⟨rfl, Done.ahead HB.out (Done.ahead hb2 ⟨_, X.set i ⟨n, a3, c4, overS y.bytes at_ b⟩, ⟨t1, t2, fun k hk => .inl hk⟩, ?_, by simp⟩)⟩
  rw [List.map_set]
  rfl

end Go.Proofs.Ytfocejmfmnijpaa
