/- The walk of files.Apply. -/
import Derived.Test.YtfocejmfmnijpaaFDo
namespace Go.Proofs.Ytfocejmfmnijpaa
open Go.RowKit

/-- An operation lies at the place o of the block b. -/
def OpAt (w : World) (b o : Nat) (x : OpS) : Prop :=
  w.cell? ⟨b, o, none⟩ = some (.int .i64 x.kind) ∧ w.cell? ⟨b, o + 1, none⟩ = some (.string x.name) ∧ w.cell? ⟨b, o + 2, none⟩ = some (.string x.new) ∧ w.cell? ⟨b, o + 3, none⟩ = some (.int .i64 x.at_) ∧
  ∃ a c, w.cell? ⟨b, o + 4, none⟩ = some (.slice a x.bytes.length c) ∧ x.bytes.length ≤ c ∧ c ≤ maxLen ∧ Row w a x.bytes
/-- what is asked of an operation's sizes. -/
def OpFits (x : OpS) : Prop := x.name.size ≤ 140737488351232 ∧ x.new.size ≤ 140737488351232 ∧ x.bytes.length ≤ 140737488351232
/-- Operations lie in memory from a on. -/
def OpsAt (w : World) (a : Option Addr) (l : List OpS) : Prop :=
  (∀ x ∈ l, OpFits x) ∧ l.length ≤ 140737488351232 ∧ (0 < l.length → ∃ b o, a = some ⟨b, o, none⟩ ∧ ∀ i (h : i < l.length), OpAt w b (o + i * 5) l[i])
theorem OpAt.later {w w' : World} {b o : Nat} {x : OpS} (h : OpAt w b o x) (hb : Below w.heap.size w w') : OpAt w' b o x := by
  obtain ⟨h1, h2, h3, h4, a, c, h5, h6, h7, h8⟩ := h
  exact ⟨cell_later hb h1, cell_later hb h2, cell_later hb h3, cell_later hb h4, a, c, cell_later hb h5, h6, h7, h8.later hb⟩
theorem OpsAt.later {w w' : World} {a : Option Addr} {l : List OpS} (h : OpsAt w a l) (hb : Below w.heap.size w w') : OpsAt w' a l := by
  obtain ⟨h1, h2, h3⟩ := h
  refine ⟨h1, h2, fun h0 => ?_⟩
  obtain ⟨b, o, rfl, hc⟩ := h3 h0
  exact ⟨b, o, rfl, fun i hi => (hc i hi).later hb⟩

/-- operations, one behind the other. -/
def foldE : List Fil → List OpS → Except Int (List Fil)
  | L, [] => .ok L
  | L, o :: r => match doE L o with
    | .error e => .error e
    | .ok L' => foldE L' r
/-- What Apply answers. -/
def applyE (L : List Fil) (l : List OpS) : Except Int (List Fil) := if rightB L = false then .error 150 else if 64 < l.length then .error 3 else foldE L l

theorem doE_err {L : List Fil} {o : OpS} {e : Int} (he : doE L o = .error e) : (e != 0) = true := by
  unfold doE at he
  split at he
  · cases he; rfl
  · split at he
    · rename_i hk
      cases he
      rcases byKind_err hk with rfl | rfl | rfl <;> rfl
    · split at he
      · cases he; rfl
      · cases he

def ApplyPost (w : World) (res : Except Int (List Fil)) (e : Ending) (w' : World) : Prop :=
  (∃ L' a' c', res = .ok L' ∧ e = .returned (.tuple #[.agg #[.slice a' L'.length c'], .int .i64 0]) ∧ Hid (ListAt w' a' L' ∧ L'.length ≤ c' ∧ c' ≤ maxLen ∧ rightB L' = true ∧ Below w.heap.size w w')) ∨
  (∃ r, res = .error r ∧ e = .returned (.tuple #[.agg #[.slice none 0 0], .int .i64 r]) ∧ Hid (Below w.heap.size w w'))

theorem two_new {w w1 : World} {A B : Obj} (hb : Below ((w.alloc A).alloc B).heap.size ((w.alloc A).alloc B) w1) : w1.heap[w.heap.size]? = some A ∧ w1.heap[w.heap.size + 1]? = some B ∧ Below w.heap.size w w1 ∧ w.heap.size + 1 < w1.heap.size := by
  have hz := hb.size
  simp at hz
  refine ⟨?_, ?_, (((Below.refl _ w).alloc (Nat.le_refl _) A).alloc (by simp) B).trans (hb.mono (by simp; omega)), by omega⟩
  · rw [hb.block _ (by simp; omega), Below.heap_alloc _ _ _ (by simp)]; exact heap_alloc_new w _
  · rw [hb.block _ (by simp)]
    have := heap_alloc_new (w.alloc A) B
    simpa using this

set_option maxHeartbeats 4000000 in
theorem apply_wrong (w : World) (a a2 : Option Addr) (c c2 n2 : Nat) (L : List Fil) (h : ListAt w a L) (hb : costS L ≤ 4611686018427387904) (hr : rightB L = false) :
    Calls Try.prog 9 #[.agg #[.slice a L.length c], .slice a2 n2 c2] w fun e w' => e = .returned (.tuple #[.agg #[.slice none 0 0], .int .i64 150]) ∧ Hid (Below w.heap.size w w') := by
  have HL : Hid (ListAt w a L) := h
  have HC : Hid (checkI L = 150) := check_no hr
  clear h hr
  go_enter Try.func9, Try.ntmps9
  go_wp2_with (go_at_call 26; refine (check_any _ a c L (HL.out.later (((Below.refl _ w).alloc (Nat.le_refl _) _).alloc (by simp) _)) hb).mono ?_; rw [HC.out]; rintro e w1 ⟨rfl, hbw⟩; obtain ⟨_, h2, h3, hz⟩ := two_new hbw; have d1 := cell_of h2 0; simp only [List.getElem?_toArray, List.getElem?_cons_zero] at d1; have d2 := frozen_of h2 0; have HB : Hid (Below w.heap.size w w1) := h3; clear h2 h3 hbw)
  refine bodyPost_ret (v := .tuple #[.agg #[.slice none 0 0], .int .i64 150]) (by simp [results, Try.results9, go_sem, d1]) rfl ⟨rfl, HB.out.setCell (by simp) _⟩

set_option maxHeartbeats 4000000 in
theorem apply_many (w : World) (a a2 : Option Addr) (c c2 n2 : Nat) (L : List Fil) (h : ListAt w a L) (hb : costS L ≤ 4611686018427387904) (hr : rightB L = true) (hn : 64 < n2) :
    Calls Try.prog 9 #[.agg #[.slice a L.length c], .slice a2 n2 c2] w fun e w' => e = .returned (.tuple #[.agg #[.slice none 0 0], .int .i64 3]) ∧ Hid (Below w.heap.size w w') := by
  have HL : Hid (ListAt w a L) := h
  have HC : Hid (checkI L = 0) := check_yes hr
  have hn2 : (64 : Int) < (n2 : Int) := by omega
  clear h hr
  go_enter Try.func9, Try.ntmps9
  go_wp2_with (go_at_call 26; refine (check_any _ a c L (HL.out.later (((Below.refl _ w).alloc (Nat.le_refl _) _).alloc (by simp) _)) hb).mono ?_; rw [HC.out]; rintro e w1 ⟨rfl, hbw⟩; obtain ⟨_, h2, h3, hz⟩ := two_new hbw; have d1 := cell_of h2 0; simp only [List.getElem?_toArray, List.getElem?_cons_zero] at d1; have d2 := frozen_of h2 0; have HB : Hid (Below w.heap.size w w1) := h3; clear h2 h3 hbw)
  refine bodyPost_ret (v := .tuple #[.agg #[.slice none 0 0], .int .i64 3]) (by simp [results, Try.results9, go_sem, d1]) rfl ⟨rfl, HB.out.setCell (by simp) _⟩


/-- bytes lie in no block of slices. -/
theorem Row.apart {w : World} {a : Option Addr} {l : List Nat} {q : Nat} {t : TypeId} {x : Option Addr} {n c : Nat} (h : Row w a l) (hq : w.heap[q]? = some (.cells #[.slice x n c] t (0, 0))) (h0 : 0 < l.length) : ∀ b, a = some b → ¬ b.block = q := by
  intro b hb e
  obtain ⟨b', off, rfl, hc⟩ := h.2.2 h0
  cases hb
  have h1 := hc 0 h0
  simp only at e
  rw [e, cell_of hq] at h1
  rcases Nat.eq_zero_or_pos (off + 0) with h2 | h2
  · rw [h2] at h1; simp at h1
  · rw [Array.getElem?_eq_none (by simp; omega)] at h1; cases h1

theorem apply_end {w w1 wr : World} {p : Nat} {a : Option Addr} {c : Nat} {X : List FX} (hT : Turn wr p (.slice a X.length c) X) (hN : wr.heap[w.heap.size + 1]? = some (.cells #[.slice none 0 0] 24 (0, 0))) (hown : ∀ k, own p (.slice a X.length c) k → w1.heap.size ≤ k) (hz : w.heap.size + 1 < w1.heap.size) (v : Value) : ListAt (wr.setCell ⟨w.heap.size + 1, 0, none⟩ v) a (X.map FX.fil) := by
  have ho : Off (fun k => k = w.heap.size + 1) wr (wr.setCell ⟨w.heap.size + 1, 0, none⟩ v) := (Off.refl (fun k => k = w.heap.size + 1) wr).setCell (p := ⟨w.heap.size + 1, 0, none⟩) (.inr rfl) _
  exact (hT.off ho (fun k hk e => by have := hown k hk; omega) (fun x hx h0 b hb => (hT.files x hx).2.2.2.1.apart hN h0 b hb)).listAt.1

set_option maxHeartbeats 8000000 in
theorem apply_fold (w : World) (a a2 : Option Addr) (c c2 : Nat) (L : List Fil) (l : List OpS) (h : ListAt w a L) (ho : OpsAt w a2 l) (hb : costS L ≤ 4611686018427387904) (hr : rightB L = true) (hn : l.length ≤ 64) :
    Calls Try.prog 9 #[.agg #[.slice a L.length c], .slice a2 l.length c2] w fun e w' => ApplyPost w (foldE L l) e w' := by
  have HL : Hid (ListAt w a L) := h
  have HO : Hid (OpsAt w a2 l) := ho
  have HR : Hid (rightB L = true) := hr
  have HC : Hid (checkI L = 0) := check_yes hr
  have HLB : Hid (∀ x ∈ L, x.bytes.length ≤ 4096) := right_bytes hr
  have hl64 : L.length ≤ 64 := (right_over hr).1
  obtain ⟨res, hres⟩ : ∃ res, foldE L l = res := ⟨_, rfl⟩
  rw [hres]
  have HRES : Hid (foldE L l = res) := hres
  clear h hr ho hres
  go_enter Try.func9, Try.ntmps9
  go_wp2_with (first | (go_at_call 26; refine (check_any _ a c L (HL.out.later (((Below.refl _ w).alloc (Nat.le_refl _) _).alloc (by simp) _)) hb).mono ?_; rw [HC.out]; rintro e w1 ⟨rfl, hbw⟩; obtain ⟨h1, h2, h3, hz⟩ := two_new hbw; have d1 := cell_of h1 0; simp only [List.getElem?_toArray, List.getElem?_cons_zero] at d1; have HN : Hid (w1.heap[w.heap.size + 1]? = some (.cells #[.slice none 0 0] 24 (0, 0))) := h2; have HB : Hid (Below w.heap.size w w1) := h3; clear h1 h2 h3 hbw) | (go_at_call 27; refine (turn_any w1 a c L (HL.out.later HB.out) HLB.out hl64).mono ?_; rintro e w2 ⟨p, v, X, rfl, hq⟩))
  go_loopw [25] (fun i wr => ∃ (k : Nat) (v : Value) (X : List FX), k ≤ l.length ∧ i = .int .i64 k ∧ Hid (Turn wr p v X ∧ foldE (X.map FX.fil) (l.drop k) = res ∧ rightB (X.map FX.fil) = true ∧ Below w1.heap.size w1 wr ∧ ∀ k, own p v k → w1.heap.size ≤ k)) (fun i _ => l.length - (intOf i).toNat)
  case atStart =>
    refine ⟨0, v, X, Nat.zero_le _, rfl, hq.out.1, ?_, ?_, hq.out.2.2.1, hq.out.2.2.2⟩
    · rw [hq.out.2.1]; exact HRES.out
    · rw [hq.out.2.1]; exact HR.out
  case round =>
    clear hq d1
    obtain ⟨k, v, X, hk, rfl, hq⟩ := hrel
    have hN2 : wr.heap[w.heap.size + 1]? = some (.cells #[.slice none 0 0] 24 (0, 0)) := by rw [hq.out.2.2.2.1.block _ hz]; exact HN.out
    by_cases hkl : k < l.length
    · obtain ⟨b, o, rfl, hc⟩ := HO.out.2.2 (by omega)
      have hb2 : Below w.heap.size w wr := below_of HB.out hq.out.2.2.2.1
      obtain ⟨c0, c1, c2', c3, ab, cb, c4, _, _, hrow⟩ := (hc k hkl).later hb2
      have hfit := HO.out.1 _ (List.getElem_mem hkl)
      have HD : Hid (l.drop k = l[k] :: l.drop (k + 1)) := List.drop_eq_getElem_cons hkl
      have HROW : Hid (Row wr ab l[k].bytes) := hrow
      have HB2 : Hid (Below w.heap.size w wr) := hb2
      obtain ⟨x, hx⟩ : ∃ x, x = l[k] := ⟨_, rfl⟩
      rw [← hx] at c0 c1 c2' c3 c4 hfit HD HROW
      clear hc hrow hb2 hx
      have hbx : Below wr.heap.size wr (wr.alloc (opc x ab cb)) := opc_below wr x ab cb
      cases hd : doE (X.map FX.fil) x with
      | ok L2 =>
        have HC2 := do_ok (wr.alloc (opc x ab cb)) p v X (hq.out.1.later hbx) x ab cb hq.out.2.2.1 hfit.1 (HROW.out.later hbx) L2 hd
        have HRR : Hid (foldE L2 (l.drop (k + 1)) = res ∧ rightB L2 = true) := by
          refine ⟨?_, do_right hq.out.2.2.1 hd⟩
          have := hq.out.2.1
          rw [HD.out, foldE, hd] at this
          exact this
        have HBX : Hid (Below wr.heap.size wr (wr.alloc (opc x ab cb))) := hbx
        clear hbx hd hfit hN2
        obtain ⟨xk, xn, xm, xt, xb⟩ := x
        simp only [opv, opc] at *
        go_wp2_with (go_at_call 28; refine HC2.mono ?_; rintro e w3 ⟨rfl, hdn⟩)
        go_roundw
        case rel =>
          obtain ⟨v', X', ht, hX, hlX⟩ := hdn.out
          have ht2 := Turned.ahead HBX.out ht
          refine ⟨k + 1, v', X', by omega, by go_num, ht2.turn, by rw [hX]; exact HRR.out.1, by rw [hX]; exact HRR.out.2, hq.out.2.2.2.1.trans (ht2.off.below hq.out.2.2.2.1.size hq.out.2.2.2.2), fun j hj => (ht2.new j hj).elim (hq.out.2.2.2.2 j) (fun hge => Nat.le_trans hq.out.2.2.2.1.size hge)⟩
        case measure => simp [intOf]; omega
      | error r =>
        have hr0 := doE_err hd
        have HC2 := do_no (wr.alloc (opc x ab cb)) p v X (hq.out.1.later hbx) x ab cb hq.out.2.2.1 hfit.1 hfit.2.1 hfit.2.2 (HROW.out.later hbx) r hd
        have HRR : Hid (res = .error r) := by
          have := hq.out.2.1
          rw [HD.out, foldE, hd] at this
          exact this.symm
        have HBX : Hid (Below wr.heap.size wr (wr.alloc (opc x ab cb))) := hbx
        have HN2 : Hid (∀ w3, Off (own p v) (wr.alloc (opc x ab cb)) w3 → w3.heap[w.heap.size + 1]? = some (.cells #[.slice none 0 0] 24 (0, 0))) := fun w3 h3 => h3.at ((Below.heap_alloc _ _ _ (by have := hq.out.2.2.2.1.size; omega)).trans hN2) (fun ho => by have := hq.out.2.2.2.2 _ ho; omega)
        have HB3 : Hid (∀ w3, Off (own p v) (wr.alloc (opc x ab cb)) w3 → Below w.heap.size w w3) := fun w3 h3 => (HB2.out.alloc HB2.out.size _).trans (h3.below (by have := HB2.out.size; simp; omega) (fun j hj => Nat.le_trans HB.out.size (hq.out.2.2.2.2 j hj)))
        clear hbx hd hfit hN2
        obtain ⟨xk, xn, xm, xt, xb⟩ := x
        simp only [opv, opc] at *
        go_wp2_with (go_at_call 28; refine HC2.mono ?_; rintro e w3 ⟨rfl, hoff⟩; have hn3 := HN2.out w3 hoff.out; have d1 := cell_of hn3 0; simp only [List.getElem?_toArray, List.getElem?_cons_zero] at d1; have d2 := frozen_of hn3 0)
        refine bodyPost_ret (v := .tuple #[.agg #[.slice none 0 0], .int .i64 r]) (by simp [results, Try.results9, go_sem, d1]) rfl (.inr ⟨r, HRR.out, rfl, (HB3.out w3 hoff.out).setCell (by simp) _⟩)
    · obtain rfl : k = l.length := by omega
      obtain ⟨a3, c3, rfl, hv1, hv2⟩ := hq.out.1.form
      have d1 := hq.out.1.cell
      have d2 := cell_of hN2 0
      simp only [List.getElem?_toArray, List.getElem?_cons_zero] at d2
      have d3 := frozen_of hN2 0
      have HE : Hid (ListAt (wr.setCell ⟨w.heap.size + 1, 0, none⟩ (.slice a3 X.length c3)) a3 (X.map FX.fil)) := apply_end hq.out.1 hN2 hq.out.2.2.2.2 hz _
      have HRR : Hid (res = .ok (X.map FX.fil)) := by
        have := hq.out.2.1
        rw [List.drop_length, foldE] at this
        exact this.symm
      have HB4 : Hid (Below w.heap.size w wr) := below_of HB.out hq.out.2.2.2.1
      clear hN2
      go_wp2
      refine bodyPost_ret (v := .tuple #[.agg #[.slice a3 X.length c3], .int .i64 0]) (by simp [results, Try.results9, go_sem, d2]) rfl (.inl ⟨X.map FX.fil, a3, c3, HRR.out, by rw [List.length_map], HE.out, by rw [List.length_map]; exact hv1, hv2, hq.out.2.2.1, HB4.out.setCell (by simp) _⟩)

theorem apply_any (w : World) (a a2 : Option Addr) (c c2 : Nat) (L : List Fil) (l : List OpS) (h : ListAt w a L) (ho : OpsAt w a2 l) (hb : costS L ≤ 4611686018427387904) :
    Calls Try.prog 9 #[.agg #[.slice a L.length c], .slice a2 l.length c2] w fun e w' => ApplyPost w (applyE L l) e w' := by
  unfold applyE
  cases hr : rightB L with
  | false =>
    refine (apply_wrong w a a2 c c2 l.length L h hb hr).mono ?_
    rintro e w' ⟨rfl, hq⟩
    exact .inr ⟨150, rfl, rfl, hq⟩
  | true =>
    by_cases hn : 64 < l.length
    · refine (apply_many w a a2 c c2 l.length L h hb hr hn).mono ?_
      rintro e w' ⟨rfl, hq⟩
      exact .inr ⟨3, by simp [hn], rfl, hq⟩
    · simp only [Bool.true_eq_false, if_false, hn]
      exact apply_fold w a a2 c c2 L l h ho hb hr (by omega)

end Go.Proofs.Ytfocejmfmnijpaa
