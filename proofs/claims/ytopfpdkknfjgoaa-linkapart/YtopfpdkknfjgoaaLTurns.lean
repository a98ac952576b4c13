/- The walk of LinkTurns. -/
import Derived.Test.YtopfpdkknfjgoaaLWakes
import Derived.Test.YtopfpdkknfjgoaaLCor
import Derived.Test.YtopfpdkknfjgoaaLOpen
namespace Go.Proofs.Ytopfpdkknfjgoaa
open Go.RowKit
set_option linter.unusedVariables false

theorem pf_self (x : Fl) : [x].filter (pf x.frm x.to) = [x] := by simp [pf]
/-- Deliver of the only flight. -/
theorem del_one (w : World) (N : Nat → Prop) (lb mb n : Nat) (x : Fl) (hx : OkF x) (h : Lk N w lb mb n [x]) (hn : n < 1000000000) (hN : ∀ k, N k → k < w.heap.size) :
    Calls Try.prog 20 #[.pointer (some ⟨lb, 0, none⟩), .int .i64 x.frm, .int .i64 x.to, .int .i64 x.at_, .int .i64 0] w fun e w' => ∃ a c, e = .returned (.tuple #[.slice a x.bytes.length c, .int .i64 0]) ∧ Hid (Row w' a x.bytes ∧ Lk N w' lb mb (n + 1) [] ∧ Off (fun k => k = mb) w w') := by
  refine (deliver_raw w N lb mb n [x] h hn hN x.frm x.to x.at_ 0 hx.in1 hx.in2).mono ?_
  rintro e w' ⟨X, hX, hc⟩
  rw [pf_self] at hX hc
  obtain ⟨y, rfl, hy⟩ : ∃ y, X = [y] ∧ y.x = x := by
    match X, hX with
    | [], h => cases h
    | [y], h => exact ⟨y, rfl, by simpa using h⟩
    | _ :: _ :: _, h => simp at h
  have hk : arrK [y] x.at_ [y].length = [0] := by
    show arrK [y] x.at_ 1 = [0]
    rw [arrK_succ (y := y) rfl, if_pos (by rw [hy]; exact Int.le_refl _)]
    rfl
  rw [hk] at hc
  rcases hc with ⟨i, x2, a', c', _, h1, h2, rfl, H⟩ | ⟨h1, _⟩
  · cases h1
    cases h2
    refine ⟨a', c', rfl, H.out.1, ?_, H.out.2.2.2⟩
    have := H.out.2.2.1
    have hd : dropF (pf x.frm x.to) 0 [x] = [] := by unfold dropF; simp [pf]
    rw [hd] at this
    exact this
  · exact absurd ⟨by omega, by decide⟩ h1
theorem del_none (w : World) (N : Nat → Prop) (lb mb n : Nat) (x : Fl) (hx : OkF x) (h : Lk N w lb mb n []) (hn : n < 1000000000) (hN : ∀ k, N k → k < w.heap.size) :
    Calls Try.prog 20 #[.pointer (some ⟨lb, 0, none⟩), .int .i64 x.frm, .int .i64 x.to, .int .i64 x.at_, .int .i64 0] w fun e w' => e = .returned (.tuple #[.slice none 0 0, .int .i64 4]) ∧ Hid (Below w.heap.size w w') := by
  refine (deliver_raw w N lb mb n [] h hn hN x.frm x.to x.at_ 0 hx.in1 hx.in2).mono ?_
  rintro e w' ⟨X, hX, hc⟩
  obtain rfl : X = [] := by simpa using hX
  rcases hc with ⟨i, x2, a', c', _, h1, _⟩ | ⟨_, rfl, H⟩
  · simp [arrK] at h1
  · exact ⟨rfl, H.out.2⟩
theorem arr_none (x : Fl) : arrN [x] x.frm x.to (x.at_ - 1) = 0 := by
  unfold arrN
  rw [pf_self]
  simp
  omega
def xv (f t a : Int) (V : List Nat) : Fl := ⟨f, t, a, V⟩
theorem cor_one (f t a : Int) (V : List Nat) (b : Int) : corE [xv f t a V] f t 0 b = (if 0 ≤ b ∧ b ≤ 8 * (V.length : Int) - 1 then 0 else 2) ∧ corL [xv f t a V] f t 0 b = (if 0 ≤ b ∧ b ≤ 8 * (V.length : Int) - 1 then [xv f t a (turnB V b.toNat)] else [xv f t a V]) := by
  have hf : [xv f t a V].filter (pf f t) = [xv f t a V] := pf_self (xv f t a V)
  have h0 : hasE [xv f t a V] f t 0 = 0 := by unfold hasE; rw [hf]; rfl
  have hl : lenAt [xv f t a V] f t 0 = V.length := by unfold lenAt; rw [hf]; rfl
  have hE : corE [xv f t a V] f t 0 b = (if 0 ≤ b ∧ b ≤ 8 * (V.length : Int) - 1 then 0 else 2) := by unfold corE; rw [if_pos h0, hl]
  refine ⟨hE, ?_⟩
  unfold corL
  rw [hE]
  by_cases hb : 0 ≤ b ∧ b ≤ 8 * (V.length : Int) - 1
  · rw [if_pos hb, if_pos hb, if_pos rfl]
    unfold turnF
    have : pf f t (xv f t a V) = true := by simp [pf, xv]
    rw [this]
    rfl
  · rw [if_neg hb, if_neg hb]
    rfl
/-- bytes that the call owns, with one written over. -/
theorem own_set {w : World} {base g n c : Nat} {l : List Nat} (h : w.ownsRow base 5 1 (.slice (some ⟨g, 0, none⟩) n c) n (cells l)) (i x : Nat) (hi : i < n) : (w.setCell ⟨g, i, none⟩ (.int .u8 (x : Nat))).ownsRow base 5 1 (.slice (some ⟨g, 0, none⟩) n c) n (cells (l.set i x)) := by
  obtain ⟨h1, h2⟩ := h
  refine ⟨by rw [cells_length] at h1 ⊢; rw [List.length_set]; exact h1, ?_⟩
  rcases h2 with ⟨he, _⟩ | ⟨g', cap, cur, he, a2, a3, a4, a5, a6, a7⟩
  · cases he
  · cases he
    refine .inr ⟨g, c, cur.setIfInBounds i (.int .u8 (x : Nat)), rfl, a2, ?_, a4, a5, by simpa using a6, ?_⟩
    · rw [heap_setCell_same _ _ _ _ _ _ a3]
    · rw [Array.toList_setIfInBounds, List.take_set, a7]
      unfold cells
      rw [List.map_set]

/-- between two bits. -/
structure Tr (w wr : World) (N : Nat → Prop) (lb mb n : Nat) (f t a : Int) (V : List Nat) (M B gw cw base g cap : Nat) : Prop where
  lk : Lk N wr lb mb n [xv f t a V]
  want : wr.ownsRow base 5 1 (.slice (some ⟨gw, 0, none⟩) M cw) M (cells V)
  box : wr.heap[B]? = some (.cells #[.int .i64 f, .int .i64 t, .int .i64 a, .slice (some ⟨g, 0, none⟩) M cap] 32 (0, 0))
  bel : Below w.heap.size w wr
  len : V.length = M
  byte : ∀ x ∈ V, x < 256
  ok : OkF (xv f t a V)
  inN : N gw
  sizeN : ∀ k, N k → k < wr.heap.size
  mbw : w.heap.size ≤ mb
theorem Tr.corrupt {w wr w3 : World} {N : Nat → Prop} {lb mb n : Nat} {f t a : Int} {V V' : List Nat} {M B gw cw base g cap : Nat} (h : Tr w wr N lb mb n f t a V M B gw cw base g cap) (hl : Lk N w3 lb mb (n + 1) [xv f t a V']) (ho : Off (fun k => k = mb) wr w3) :
    w3.ownsRow base 5 1 (.slice (some ⟨gw, 0, none⟩) M cw) M (cells V) ∧ w3.heap[B]? = some (.cells #[.int .i64 f, .int .i64 t, .int .i64 a, .slice (some ⟨g, 0, none⟩) M cap] 32 (0, 0)) ∧ Below w.heap.size w w3 ∧ ∀ k, N k → k < w3.heap.size := by
  have hmap := h.lk.mb
  refine ⟨ho.owns h.want (fun g' e => ?_), off_at ho hmap h.box, ?_, fun k hk => Nat.lt_of_lt_of_le (h.sizeN k hk) ho.size⟩
  · cases e
    intro e2
    exact h.lk.notm (by show N mb; rw [← e2]; exact h.inN)
  · exact h.bel.trans (ho.below (Nat.le_trans h.bel.size (Nat.le_refl _)) (fun i e => by rw [e]; exact h.mbw))
theorem Tr.same {w wr w3 : World} {N : Nat → Prop} {lb mb n : Nat} {f t a : Int} {V : List Nat} {M B gw cw base g cap : Nat} (h : Tr w wr N lb mb n f t a V M B gw cw base g cap) (hl : Lk N w3 lb mb (n + 1) [xv f t a V]) (ho : Off (fun k => k = mb) wr w3) : Tr w w3 N lb mb (n + 1) f t a V M B gw cw base g cap :=
  let ⟨q1, q2, q3, q4⟩ := h.corrupt hl ho
  ⟨hl, q1, q2, q3, h.len, h.byte, h.ok, h.inN, q4, h.mbw⟩
theorem Tr.turn {w wr w3 : World} {N : Nat → Prop} {lb mb n z : Nat} {f t a : Int} {V : List Nat} {M B gw cw base g cap : Nat} (h : Tr w wr N lb mb n f t a V M B gw cw base g cap) (hz : z < 8 * M) (hl : Lk N w3 lb mb (n + 1) [xv f t a (turnB V z)]) (ho : Off (fun k => k = mb) wr w3) (hBg : B ≠ gw) (hgw : w.heap.size ≤ gw) (hmg : mb ≠ gw) (x : Nat) (hx : V.getD (z / 8) 0 = x) :
    Tr w ((w3.setCell ⟨gw, z / 8, none⟩ (.int .u8 ((flp x (z % 8) : Nat) : Int))).drew) N lb mb (n + 1) f t a (turnB V z) M B gw cw base g cap := by
  obtain ⟨q1, q2, q3, q4⟩ := h.corrupt hl ho
  have hs : Off (fun k => k = gw) w3 ((w3.setCell ⟨gw, z / 8, none⟩ (.int .u8 ((flp x (z % 8) : Nat) : Int))).drew) := ((Off.refl (fun k => k = gw) w3).setCell (p := ⟨gw, z / 8, none⟩) (.inr rfl) _).drew
  have hv : V.getD (z / 8) 0 < 256 := by
    rw [List.getD_eq_getElem?_getD]
    cases hq : V[z / 8]? with
    | none => simp
    | some u => exact h.byte u (List.mem_of_getElem? hq)
  refine ⟨hl.off hs hmg (fun k C t fr _ e => by rw [e]; exact h.inN), ?_, hs.at q2 hBg, (q3.setCell (p := ⟨gw, z / 8, none⟩) hgw _).drew, by rw [turnB_length]; exact h.len, ?_, h.ok.turn z, h.inN, fun k hk => Nat.lt_of_lt_of_le (q4 k hk) hs.size, h.mbw⟩
  · have := own_set q1 (z / 8) (flp x (z % 8)) (by omega)
    subst hx
    exact this
  · exact set_bytes h.byte (flp_is hv (Nat.mod_lt _ (by omega))).2
/-- bytes copied onto nothing. -/
structure Copied (w1 w' : World) (g cap n : Nat) (m : List Nat) : Prop where
  own : w'.ownsRow w1.heap.size 5 1 (.slice (some ⟨g, 0, none⟩) n cap) n (cells m)
  bel : Below w1.heap.size w1 w'
  ge : w1.heap.size ≤ g
  lt : g < w'.heap.size
  le : n ≤ cap
theorem wpList_append_copy {ops : Array Oper} {rest : List Oper} {o : Oper} {a : Act} {w1 : World} {Q : Exit → Act → World → Prop} (hgd : o.guard = none) (s x : Operand)
    (ho : o.op = .call { callee := .builtin .append, args := #[s, x], argTypes := #[30, 30] }) (hs : a.eval s = .slice (some ⟨w1.heap.size, 0, none⟩) 0 0) (src : Option Addr) (c n : Nat) (m : List Nat) (hnm : m.length = n) (hx : a.eval x = .slice src n c) (hr : Row w1 src m) (hz : n ≤ 140737488351232)
    (h : ∀ g cap w', Hid (Copied w1 w' g cap n m) → wpList Try.prog ops Q rest (a.put o.dst (.slice (some ⟨g, 0, none⟩) n cap)) w') : wpList Try.prog ops Q (o :: rest) a (w1.alloc (.cells #[] 5)) := by
  refine wpList_append_some hgd s x ho w1.heap.size w1.heap.size 0 [] 0 n hs (made_none w1) src c m hnm hx (hr.later ((Below.refl _ w1).alloc (Nat.le_refl _) _)) (by omega) (by simp) ?_
  intro g cap w' h1 h2 h3
  simp only [Nat.zero_add, List.nil_append] at h1 h2 h3 ⊢
  refine h g cap w' ⟨h1, app_below (made_none w1) h2, own_ge h1 g rfl, ?_, h3⟩
  rcases h1.2 with ⟨he, _⟩ | ⟨g', cap', cur, he, _, h4, _⟩
  · cases he
  · cases he; exact (Array.getElem?_eq_some_iff.1 h4).1
theorem Copied.row {w1 w' : World} {g cap n : Nat} {m : List Nat} (h : Copied w1 w' g cap n m) (hb : ∀ x ∈ m, x < 256) (hl : m.length ≤ 140737488351232) : Row w' (some ⟨g, 0, none⟩) m := (own_some h.own hb (by unfold maxLen; omega)).1
/-- New behind the flight's bytes. -/
structure Nw (w w3 : World) (lb mb : Nat) (f t a : Int) (g m c : Nat) (L : List Nat) : Prop where
  lk : Lk No w3 lb mb 0 []
  box : w3.heap[w.heap.size]? = some (.cells #[.int .i64 f, .int .i64 t, .int .i64 a, .slice (some ⟨g, 0, none⟩) m c] 32 (0, 0))
  row : Row w3 (some ⟨g, 0, none⟩) L
  bel : Below w.heap.size w w3
  mbw : w.heap.size ≤ mb
theorem new_here {w w1 w2 : World} {f t a : Int} {ya : Option Addr} {n yc g m c : Nat} {L : List Nat} (ht : w1.heap[w.heap.size]? = some (.cells #[.int .i64 f, .int .i64 t, .int .i64 a, .slice ya n yc] 32 (0, 0))) (hb : Below w.heap.size w w1) (hC : Copied w1 w2 g c m L) (hL : (∀ x ∈ L, x < 256) ∧ L.length ≤ 400) :
    Calls Try.prog 10 #[] (w2.setCell ⟨w.heap.size, 3, none⟩ (.slice (some ⟨g, 0, none⟩) m c)) fun e w' => ∃ lb mb, e = .returned (.pointer (some ⟨lb, 0, none⟩)) ∧ Hid (Nw w w' lb mb f t a g m c L) := by
  have s1 : w.heap.size < w1.heap.size := (Array.getElem?_eq_some_iff.1 ht).1
  have h2 := old_block hC.bel ht
  have hbw : Below w.heap.size w (w2.setCell ⟨w.heap.size, 3, none⟩ (.slice (some ⟨g, 0, none⟩) m c)) := (below_of hb hC.bel).setCell (p := ⟨w.heap.size, 3, none⟩) (Nat.le_refl _) _
  have hset : (w2.setCell ⟨w.heap.size, 3, none⟩ (.slice (some ⟨g, 0, none⟩) m c)).heap[w.heap.size]? = some (.cells #[.int .i64 f, .int .i64 t, .int .i64 a, .slice (some ⟨g, 0, none⟩) m c] 32 (0, 0)) := by
    rw [heap_setCell_same _ _ _ _ _ _ h2]; rfl
  have hrow : Row (w2.setCell ⟨w.heap.size, 3, none⟩ (.slice (some ⟨g, 0, none⟩) m c)) (some ⟨g, 0, none⟩) L := (hC.row hL.1 (by omega)).off ((Off.refl (fun k => k = w.heap.size) w2).setCell (p := ⟨w.heap.size, 3, none⟩) (.inr rfl) _) (fun _ b hb e => by cases hb; have e2 : g = w.heap.size := e; have := hC.ge; omega)
  refine (new_any _).mono ?_
  rintro e w' ⟨rfl, rfl⟩
  have hn : Below (w2.setCell ⟨w.heap.size, 3, none⟩ (.slice (some ⟨g, 0, none⟩) m c)).heap.size (w2.setCell ⟨w.heap.size, 3, none⟩ (.slice (some ⟨g, 0, none⟩) m c)) (((w2.setCell ⟨w.heap.size, 3, none⟩ (.slice (some ⟨g, 0, none⟩) m c)).alloc (.map #[] 0)).alloc (.cells #[.map (some (w2.setCell ⟨w.heap.size, 3, none⟩ (.slice (some ⟨g, 0, none⟩) m c)).heap.size)] 64)) := ((Below.refl _ _).alloc (Nat.le_refl _) _).alloc (by simp) _
  exact ⟨_, _, rfl, lk_new _ No (fun _ hf => hf.elim), old_block hn hset, hrow.later hn, below_of hbw hn, hbw.size⟩
theorem send_no {w w3 : World} {lb mb : Nat} {f t a : Int} {g m c : Nat} {L : List Nat} (h : Nw w w3 lb mb f t a g m c L) (hm : L.length = m) (hr : rightB f t a L.length = false) (hl : L.length ≤ 400) :
    Calls Try.prog 16 #[.pointer (some ⟨lb, 0, none⟩), .agg #[.int .i64 f, .int .i64 t, .int .i64 a, .slice (some ⟨g, 0, none⟩) m c]] w3 fun e w' => e = .returned (.int .i64 2) ∧ Hid (Lk No w' lb mb 1 [] ∧ Below w.heap.size w w') := by
  subst hm
  have := send_any w3 No lb mb 0 [] h.lk (by omega) (fun _ hf => hf.elim) ⟨⟨f, t, a, L⟩, some ⟨g, 0, none⟩, c⟩ h.row (by show L.length ≤ _; omega)
  have hs := sendL_no (L := []) (x := ⟨f, t, a, L⟩) hr
  rw [hs.1, hs.2] at this
  exact this.mono (by
    rintro e w' ⟨rfl, H⟩
    exact ⟨rfl, H.out.1, h.bel.trans (H.out.2.below h.bel.size (fun i e => by rw [e]; exact h.mbw))⟩)
/-- the one flight is on its way. -/
structure Sn (w w4 : World) (lb mb : Nat) (f t a : Int) (g m c : Nat) (L : List Nat) : Prop where
  lk : Lk No w4 lb mb 1 [xv f t a L]
  box : w4.heap[w.heap.size]? = some (.cells #[.int .i64 f, .int .i64 t, .int .i64 a, .slice (some ⟨g, 0, none⟩) m c] 32 (0, 0))
  row : Row w4 (some ⟨g, 0, none⟩) L
  bel : Below w.heap.size w w4
  mbw : w.heap.size ≤ mb
  ok : OkF (xv f t a L)
theorem send_yes {w w3 : World} {lb mb : Nat} {f t a : Int} {g m c : Nat} {L : List Nat} (h : Nw w w3 lb mb f t a g m c L) (hm : L.length = m) (hr : rightB f t a L.length = true) (hl : L.length ≤ 400) :
    Calls Try.prog 16 #[.pointer (some ⟨lb, 0, none⟩), .agg #[.int .i64 f, .int .i64 t, .int .i64 a, .slice (some ⟨g, 0, none⟩) m c]] w3 fun e w' => e = .returned (.int .i64 0) ∧ Hid (Sn w w' lb mb f t a g m c L) := by
  subst hm
  have := send_any w3 No lb mb 0 [] h.lk (by omega) (fun _ hf => hf.elim) ⟨⟨f, t, a, L⟩, some ⟨g, 0, none⟩, c⟩ h.row (by show L.length ≤ _; omega)
  have hs := sendL_yes (L := []) (x := ⟨f, t, a, L⟩) hr (by simp)
  rw [hs.1, hs.2] at this
  have hok : OkF (xv f t a L) := right_ok.1 hr
  have hmap := h.lk.mb
  exact this.mono (by
    rintro e w' ⟨rfl, H⟩
    exact ⟨rfl, H.out.1, off_at H.out.2 hmap h.box, h.row.off H.out.2 (fun h0 b hb e => by obtain ⟨C, t, fr, he⟩ := h.row.is h0 b hb; obtain ⟨es, c, hm⟩ := hmap; rw [e, hm] at he; cases he), h.bel.trans (H.out.2.below h.bel.size (fun i e => by rw [e]; exact h.mbw)), h.mbw, hok⟩)
theorem tr_start {w w4 w5 : World} {lb mb : Nat} {f t a : Int} {g m c gw cw : Nat} {L : List Nat} (h : Sn w w4 lb mb f t a g m c L) (hm : L.length = m) (hD : Copied w4 w5 gw cw m L) (hb : ∀ x ∈ L, x < 256) :
    Tr w w5 (fun k => w4.heap.size ≤ k ∧ k < w5.heap.size) lb mb 1 f t a L m w.heap.size gw cw w4.heap.size g c ∧ gw ≠ w.heap.size ∧ w.heap.size ≤ gw ∧ mb ≠ gw := by
  have h1 := h.lk.mb_lt
  have h2 := hD.ge
  have h3 := h.bel.size
  have h4 := (Array.getElem?_eq_some_iff.1 h.box).1
  refine ⟨⟨(h.lk.sub (M := fun k => w4.heap.size ≤ k ∧ k < w5.heap.size) (fun k hk hM => by omega)).later hD.bel, hD.own, old_block hD.bel h.box, below_of h.bel hD.bel, hm, hb, h.ok, ⟨hD.ge, hD.lt⟩, fun k hk => hk.2, h.mbw⟩, by omega, by omega, by omega⟩
theorem row_offm {w w' : World} {mb : Nat} {a : Option Addr} {l : List Nat} (h : Row w a l) (ho : Off (fun k => k = mb) w w') (hm : ∃ es c, w.heap[mb]? = some (.map es c)) : Row w' a l :=
  h.off ho (fun h0 b hb e => by obtain ⟨C, t, fr, he⟩ := h.is h0 b hb; obtain ⟨es, c, hm⟩ := hm; rw [e, hm] at he; cases he)
theorem Tr.row {w wr : World} {N : Nat → Prop} {lb mb n : Nat} {f t a : Int} {V : List Nat} {M B gw cw base g cap : Nat} (h : Tr w wr N lb mb n f t a V M B gw cw base g cap) : Row wr (some ⟨gw, 0, none⟩) V := (own_some h.want h.byte (by have := h.ok.b2; show V.length ≤ _; have h2 : V.length ≤ 400 := this; unfold maxLen; omega)).1
theorem Tr.arrived {w wr : World} {N : Nat → Prop} {lb mb n : Nat} {f t a : Int} {V : List Nat} {M B gw cw base g cap : Nat} (h : Tr w wr N lb mb n f t a V M B gw cw base g cap) :
    Calls Try.prog 23 #[.pointer (some ⟨lb, 0, none⟩), .int .i64 f, .int .i64 t, .int .i64 (a - 1)] wr fun e w' => e = .returned (.int .i64 0) ∧ Hid (Below wr.heap.size wr w') := by
  have := arrived_any wr N lb mb n _ h.lk f t (a - 1) h.ok.in1 h.ok.in2
  have e := arr_none (xv f t a V)
  change arrN [xv f t a V] f t (a - 1) = 0 at e
  rw [e] at this
  exact this
theorem Tr.later {w wr w' : World} {N : Nat → Prop} {lb mb n : Nat} {f t a : Int} {V : List Nat} {M B gw cw base g cap : Nat} (h : Tr w wr N lb mb n f t a V M B gw cw base g cap) (hb : Below wr.heap.size wr w') : Tr w w' N lb mb n f t a V M B gw cw base g cap :=
  ⟨h.lk.later hb, (Off.of_below (S := fun _ => False) hb).owns h.want (fun _ _ => id), old_block hb h.box, below_of h.bel hb, h.len, h.byte, h.ok, h.inN, fun k hk => Nat.lt_of_lt_of_le (h.sizeN k hk) hb.size, h.mbw⟩
theorem Tr.deliver {w wr : World} {N : Nat → Prop} {lb mb n : Nat} {f t a : Int} {V : List Nat} {M B gw cw base g cap : Nat} (h : Tr w wr N lb mb n f t a V M B gw cw base g cap) (hn : n < 1000000) :
    Calls Try.prog 20 #[.pointer (some ⟨lb, 0, none⟩), .int .i64 f, .int .i64 t, .int .i64 a, .int .i64 0] wr fun e w' => ∃ a' c', e = .returned (.tuple #[.slice a' M c', .int .i64 0]) ∧ Hid (Row w' a' V ∧ Row w' (some ⟨gw, 0, none⟩) V ∧ Lk N w' lb mb (n + 1) [] ∧ Below w.heap.size w w' ∧ (∀ k, N k → k < w'.heap.size)) ∧ Hid (w'.heap[B]? = some (.cells #[.int .i64 f, .int .i64 t, .int .i64 a, .slice (some ⟨g, 0, none⟩) M cap] 32 (0, 0))) := by
  refine (del_one wr N lb mb n (xv f t a V) h.ok h.lk (by omega) h.sizeN).mono ?_
  rintro e w' ⟨a', c', rfl, H⟩
  have hm := h.lk.mb
  refine ⟨a', c', by show _ = Ending.returned (.tuple #[.slice a' M c', .int .i64 0]); rw [← h.len]; rfl, ⟨H.out.1, row_offm h.row H.out.2.2 hm, H.out.2.1, h.bel.trans (H.out.2.2.below h.bel.size (fun i e => by rw [e]; exact h.mbw)), fun k hk => Nat.lt_of_lt_of_le (h.sizeN k hk) H.out.2.2.size⟩, off_at H.out.2.2 hm h.box⟩
theorem equal_same (a b : Option Addr) (c d n : Nat) (l : List Nat) (hl : l.length = n) (w : World) (hr : Row w a l) (hs : Row w b l) : Calls Try.prog 25 #[.slice a n c, .slice b n d] w fun e w' => e = .returned (.bool true) ∧ w' = w := by
  subst hl
  have := bytesEqual_any a b c d l l w hr hs
  rw [decide_eq_true rfl] at this
  exact this
theorem want_cell {w : World} {base g n c i x : Nat} {V : List Nat} (h : w.ownsRow base 5 1 (.slice (some ⟨g, 0, none⟩) n c) n (cells V)) (hl : i < V.length) (hi : i < n) (hx : V.getD i 0 = x) : w.cell? ⟨g, i, none⟩ = some (.int .u8 (x : Nat)) ∧ w.frozen? ⟨g, i, none⟩ = false := by
  obtain ⟨_, _, cur, hv, _, _, _, h4⟩ := own_pos h (by omega)
  cases hv
  refine ⟨?_, frozen_of h4 _⟩
  rw [h.cellAt i (by omega)]
  unfold cells
  rw [List.getElem?_map, List.getElem?_eq_getElem hl, ← hx, List.getD_eq_getElem?_getD, List.getElem?_eq_getElem hl]
  rfl
theorem cor_in {w wr : World} {N : Nat → Prop} {lb mb n z : Nat} {f t a : Int} {V : List Nat} {M B gw cw base g cap : Nat} (h : Tr w wr N lb mb n f t a V M B gw cw base g cap) (hn : n < 1000000) (hz : z < 8 * M) :
    Calls Try.prog 22 #[.pointer (some ⟨lb, 0, none⟩), .int .i64 f, .int .i64 t, .int .i64 0, .int .i64 (z : Nat)] wr fun e w' => e = .returned (.int .i64 0) ∧ Hid (Lk N w' lb mb (n + 1) [xv f t a (turnB V z)] ∧ Off (fun k => k = mb) wr w') := by
  have hl : 0 ≤ (z : Int) ∧ (z : Int) ≤ 8 * (V.length : Int) - 1 := by rw [h.len]; omega
  have := corrupt_any wr N lb mb n _ h.lk (by omega) h.sizeN f t 0 (z : Nat) h.ok.in1 h.ok.in2
  rw [(cor_one f t a V (z : Nat)).1, (cor_one f t a V (z : Nat)).2, if_pos hl, if_pos hl] at this
  exact this
theorem cor_out {w wr : World} {N : Nat → Prop} {lb mb n : Nat} {b f t a : Int} {V : List Nat} {M B gw cw base g cap : Nat} (h : Tr w wr N lb mb n f t a V M B gw cw base g cap) (hn : n < 1000000) (hb : ¬ (0 ≤ b ∧ b ≤ 8 * (M : Int) - 1)) :
    Calls Try.prog 22 #[.pointer (some ⟨lb, 0, none⟩), .int .i64 f, .int .i64 t, .int .i64 0, .int .i64 b] wr fun e w' => e = .returned (.int .i64 2) ∧ Hid (Lk N w' lb mb (n + 1) [xv f t a V] ∧ Off (fun k => k = mb) wr w') := by
  rw [← h.len] at hb
  have := corrupt_any wr N lb mb n _ h.lk (by omega) h.sizeN f t 0 b h.ok.in1 h.ok.in2
  rw [(cor_one f t a V b).1, (cor_one f t a V b).2, if_neg hb, if_neg hb] at this
  exact this
set_option maxRecDepth 20000 in
set_option maxHeartbeats 8000000 in
theorem turns_no (w : World) (y : FX) (hy : CameF w y) (ab : Option Addr) (cb : Nat) (bits : List Int) (hbits : RowI w ab bits) (hbl : bits.length ≤ 140737488351232) (h4 : (y.x.bytes.length : Int) ≤ 400) (hr : rightB y.x.frm y.x.to y.x.at_ y.x.bytes.length = false) :
    Calls Try.prog 8 #[.agg #[.int .i64 y.x.frm, .int .i64 y.x.to, .int .i64 y.x.at_, .slice y.a y.x.bytes.length y.c], .slice ab bits.length cb] w fun e w' => e = .returned (.bool true) ∧ Hid (Below w.heap.size w w') := by
  obtain ⟨⟨f, t, a, l⟩, ya, yc⟩ := y
  have HY : Hid (Row w ya l ∧ In64 f ∧ In64 t ∧ In64 a ∧ l.length ≤ 140737488351232) := ⟨hy.row, hy.i1, hy.i2, hy.i3, hy.len⟩
  have hle : l.length ≤ yc := hy.le
  have hcp : yc ≤ maxLen := hy.cap
  unfold maxLen at hcp
  have HW : Hid (∀ W, Calls Try.prog 9 #[] W fun e w' => e = .returned (.bool true) ∧ Hid (Below W.heap.size W w')) := wakes_any
  have HB : Hid (RowI w ab bits) := hbits
  clear hy hbits
  change (l.length : Int) ≤ 400 at h4
  change rightB f t a l.length = false at hr
  obtain ⟨L', hL'⟩ : ∃ L', L' = l := ⟨_, rfl⟩
  have HLM : Hid (L'.length = l.length) := by show _ = _; rw [hL']
  have HRL : Hid (Row w ya L') := by show Row w ya L'; rw [hL']; exact HY.out.1
  rw [← hL'] at hr
  have HLB : Hid ((∀ x ∈ L', x < 256) ∧ L'.length ≤ 400) := ⟨HRL.out.1, by rw [HLM.out]; omega⟩
  have HR : Hid (rightB f t a L'.length = false) := hr
  clear hL' hr
  go_enter Try.func8, Try.ntmps8
  go_wp2_with (first
    | (go_at_call 9; refine (HW.out _).mono ?_; rintro e w1 ⟨rfl, H1⟩; have hh1 := old_block H1.out (heap_alloc_new w _); have z3 := cell_of hh1 3; simp only [List.getElem?_toArray, List.getElem?_cons_zero, List.getElem?_cons_succ] at z3; have HT1 : Hid _ := hh1; have z3' : ∀ A, (w1.alloc A).cell? ⟨w.heap.size, 3, none⟩ = some (.slice ya l.length yc) := (fun A => cell_later ((Below.refl _ w1).alloc (Nat.le_refl _) A) z3); have HB1 : Hid (Below w.heap.size w w1) := below_of ((Below.refl _ w).alloc (Nat.le_refl _) _) H1.out; have s1 : w.heap.size < w1.heap.size := (Array.getElem?_eq_some_iff.1 hh1).1; have tk : True := trivial; clear hh1)
    | (have _t := tk; at_builtin; go_must (refine wpList_append_copy rfl (.tmp 16) (.tmp 23) rfl rfl ya yc _ L' HLM.out rfl (HRL.out.later HB1.out) (by omega) ?_); clear tk; intro g2 c2 w2 HC; have hh2 := old_block HC.out.bel HT1.out; have y3 := cell_of hh2 3; have y3f := frozen_of hh2 3; simp only [List.getElem?_toArray, List.getElem?_cons_zero, List.getElem?_cons_succ] at y3; clear hh2)
    | (go_at_call 10; refine (new_here HT1.out HB1.out HC.out HLB.out).mono ?_; rintro e w3 ⟨lb, mb, rfl, H3⟩; have u0 := cell_of H3.out.box 0; have u1 := cell_of H3.out.box 1; have u2 := cell_of H3.out.box 2; have u3 := cell_of H3.out.box 3; simp only [List.getElem?_toArray, List.getElem?_cons_zero, List.getElem?_cons_succ] at u0 u1 u2 u3)
    | (go_at_call 16; refine (send_no H3.out HLM.out HR.out HLB.out.2).mono ?_; rintro e w4 ⟨rfl, H4⟩)
    | (go_at_call 18; refine (len_any _ No lb mb _ [] H4.out.1).mono ?_; rintro e w5 ⟨rfl, H5⟩))
  all_goals
    go_ret
    exact ⟨rfl, below_of H4.out.2 H5.out⟩
set_option maxRecDepth 20000 in
set_option maxHeartbeats 8000000 in
theorem turns_yes (w : World) (y : FX) (hy : CameF w y) (ab : Option Addr) (cb : Nat) (bits : List Int) (hbits : RowI w ab bits) (hbl : bits.length ≤ 140737488351232) (h4 : (y.x.bytes.length : Int) ≤ 400) (hr : rightB y.x.frm y.x.to y.x.at_ y.x.bytes.length = true) :
    Calls Try.prog 8 #[.agg #[.int .i64 y.x.frm, .int .i64 y.x.to, .int .i64 y.x.at_, .slice y.a y.x.bytes.length y.c], .slice ab bits.length cb] w fun e w' => e = .returned (.bool true) ∧ Hid (Below w.heap.size w w') := by
  obtain ⟨⟨f, t, a, l⟩, ya, yc⟩ := y
  have HY : Hid (Row w ya l ∧ In64 f ∧ In64 t ∧ In64 a ∧ l.length ≤ 140737488351232) := ⟨hy.row, hy.i1, hy.i2, hy.i3, hy.len⟩
  have hle : l.length ≤ yc := hy.le
  have hcp : yc ≤ maxLen := hy.cap
  unfold maxLen at hcp
  have HW : Hid (∀ W, Calls Try.prog 9 #[] W fun e w' => e = .returned (.bool true) ∧ Hid (Below W.heap.size W w')) := wakes_any
  have HB : Hid (RowI w ab bits) := hbits
  clear hy hbits
  change (l.length : Int) ≤ 400 at h4
  change rightB f t a l.length = true at hr
  obtain ⟨L', hL'⟩ : ∃ L', L' = l := ⟨_, rfl⟩
  have HLM : Hid (L'.length = l.length) := by show _ = _; rw [hL']
  have HRL : Hid (Row w ya L') := by show Row w ya L'; rw [hL']; exact HY.out.1
  rw [← hL'] at hr
  have HLB : Hid ((∀ x ∈ L', x < 256) ∧ L'.length ≤ 400) := ⟨HRL.out.1, by rw [HLM.out]; omega⟩
  have HR : Hid (rightB f t a L'.length = true) := hr
  clear hL' hr
  go_enter Try.func8, Try.ntmps8
  go_wp2_with (first
    | (go_at_call 9; refine (HW.out _).mono ?_; rintro e w1 ⟨rfl, H1⟩; have hh1 := old_block H1.out (heap_alloc_new w _); have z3 := cell_of hh1 3; simp only [List.getElem?_toArray, List.getElem?_cons_zero, List.getElem?_cons_succ] at z3; have HT1 : Hid _ := hh1; have z3' : ∀ A, (w1.alloc A).cell? ⟨w.heap.size, 3, none⟩ = some (.slice ya l.length yc) := (fun A => cell_later ((Below.refl _ w1).alloc (Nat.le_refl _) A) z3); have HB1 : Hid (Below w.heap.size w w1) := below_of ((Below.refl _ w).alloc (Nat.le_refl _) _) H1.out; have s1 : w.heap.size < w1.heap.size := (Array.getElem?_eq_some_iff.1 hh1).1; have tk : True := trivial; clear hh1)
    | (have _t := tk; at_builtin; go_must (refine wpList_append_copy rfl (.tmp 16) (.tmp 23) rfl rfl ya yc _ L' HLM.out rfl (HRL.out.later HB1.out) (by omega) ?_); clear tk; intro g2 c2 w2 HC; have hh2 := old_block HC.out.bel HT1.out; have y3 := cell_of hh2 3; have y3f := frozen_of hh2 3; simp only [List.getElem?_toArray, List.getElem?_cons_zero, List.getElem?_cons_succ] at y3; clear hh2)
    | (go_at_call 10; refine (new_here HT1.out HB1.out HC.out HLB.out).mono ?_; rintro e w3 ⟨lb, mb, rfl, H3⟩; have u0 := cell_of H3.out.box 0; have u1 := cell_of H3.out.box 1; have u2 := cell_of H3.out.box 2; have u3 := cell_of H3.out.box 3; simp only [List.getElem?_toArray, List.getElem?_cons_zero, List.getElem?_cons_succ] at u0 u1 u2 u3)
    | (go_at_call 16; refine (send_yes H3.out HLM.out HR.out HLB.out.2).mono ?_; rintro e w4 ⟨rfl, H4⟩; have v3 := cell_of H4.out.box 3; simp only [List.getElem?_toArray, List.getElem?_cons_zero, List.getElem?_cons_succ] at v3; have v3' : ∀ A, (w4.alloc A).cell? ⟨w.heap.size, 3, none⟩ = some (.slice (some ⟨g2, 0, none⟩) l.length c2) := (fun A => cell_later ((Below.refl _ w4).alloc (Nat.le_refl _) A) v3); have tk2 : True := trivial)
    | (have _t := tk2; at_builtin; go_must (refine wpList_append_copy rfl (.tmp 34) (.tmp 36) rfl rfl _ _ _ L' HLM.out rfl H4.out.row (by omega) ?_); clear tk2; intro gw cw w5 HD))
  obtain ⟨hTr, n1, n2, n3⟩ := tr_start H4.out HLM.out HD.out HLB.out.1
  clear z3 z3' y3 y3f u0 u1 u2 u3 v3 v3' H3 HT1 HC HB1 H1 HW
  have hM4 : l.length ≤ 400 := by have := HLB.out.2; rw [HLM.out] at this; exact this
  obtain ⟨N, hNN⟩ : ∃ N : Nat → Prop, N = fun k => w4.heap.size ≤ k ∧ k < w5.heap.size := ⟨_, rfl⟩
  rw [← hNN] at hTr
  clear hNN HD H4
  have HTr0 : Hid _ := hTr
  have h0a : 0 ≤ a := hTr.ok.a1
  have h1a : a ≤ 1048576 := hTr.ok.a2
  have h0M : 1 ≤ l.length := by have := hTr.ok.b1; have h2 := hTr.len; rw [← h2]; exact this
  have HNN : Hid (gw ≠ w.heap.size ∧ w.heap.size ≤ gw ∧ mb ≠ gw) := ⟨n1, n2, n3⟩
  clear hTr n1 n2 n3
  go_loopw [40] (fun i wr => ∃ (k n : Nat) (V : List Nat), k ≤ bits.length ∧ k ≤ 40 ∧ n ≤ k + 1 ∧ i = .int .i64 k ∧ Hid (Tr w wr N lb mb n f t a V l.length w.heap.size gw cw w4.heap.size g2 c2)) (fun i _ => bits.length - (intOf i).toNat)
  case atStart => exact ⟨0, 1, L', Nat.zero_le _, Nat.zero_le _, Nat.le_refl _, rfl, HTr0⟩
  case round =>
    obtain ⟨k, n, V, hk, hk40, hnk, rfl, HT⟩ := hrel
    have x0 := cell_of HT.out.box 0
    have x1 := cell_of HT.out.box 1
    have x2 := cell_of HT.out.box 2
    simp only [List.getElem?_toArray, List.getElem?_cons_zero, List.getElem?_cons_succ] at x0 x1 x2
    clear HTr0
    by_cases hlt : k < bits.length
    · obtain ⟨bb, ob, rfl, hbc⟩ := HB.out.here (by omega)
      have hbk := cell_later HT.out.bel (hbc k hlt)
      have hbr := HB.out.rng (bits.getD k 0) (by rw [List.getD_eq_getElem?_getD, List.getElem?_eq_getElem hlt]; exact List.getElem_mem _)
      clear hbc
      generalize bits.getD k 0 = bv at hbk hbr
      by_cases h40 : k = 40
      · subst h40
        have tk3 : True := trivial
        go_wp2_with (first
          | (go_at_call 23; refine HT.out.arrived.mono ?_; rintro e w7 ⟨rfl, H7⟩; have HT7 : Hid _ := HT.out.later H7.out; have x3 := cell_of HT7.out.box 0; have x4 := cell_of HT7.out.box 1; have x5 := cell_of HT7.out.box 2; simp only [List.getElem?_toArray, List.getElem?_cons_zero, List.getElem?_cons_succ] at x3 x4 x5)
          | (have _t := tk3; go_at_call 20; refine (HT7.out.deliver (by omega)).mono ?_; clear tk3; rintro e w8 ⟨a8, c8, rfl, H8, H8b⟩; have x6 := cell_of H8b.out 0; have x7 := cell_of H8b.out 1; have x8 := cell_of H8b.out 2; simp only [List.getElem?_toArray, List.getElem?_cons_zero, List.getElem?_cons_succ] at x6 x7 x8)
          | (go_at_call 20; refine (del_none _ N lb mb _ (xv f t a V) HT.out.ok H8.out.2.2.1 (by omega) H8.out.2.2.2.2).mono ?_; rintro e w9 ⟨rfl, H9⟩)
          | (go_at_call 25; refine (equal_same _ _ _ _ _ V HT.out.len _ (H8.out.1.later H9.out) (H8.out.2.1.later H9.out)).mono ?_; rintro e w' ⟨rfl, rfl⟩))
        go_ret
        exact ⟨rfl, below_of H8.out.2.2.2.1 H9.out⟩
      · have hq : ((k : Int) == 40) = false := by simp; omega
        by_cases hin : 0 ≤ bv ∧ bv ≤ 8 * ((l.length : Nat) : Int) - 1
        · obtain ⟨z, rfl⟩ := Int.eq_ofNat_of_zero_le hin.1
          have hz8 : z < 8 * l.length := by omega
          have j1 : ¬ ((z : Int) < 0) := by omega
          have j2 : ¬ (8 * ((l.length : Nat) : Int) ≤ (z : Int)) := by omega
          have hz9 : z / 8 < l.length := by omega
          clear hin hbr
          obtain ⟨xx, hxx⟩ : ∃ xx, V.getD (z / 8) 0 = xx := ⟨_, rfl⟩
          have HXX : Hid (V.getD (z / 8) 0 = xx) := hxx
          have hx256 : xx < 256 := by
            rw [← hxx, List.getD_eq_getElem?_getD, List.getElem?_eq_getElem (by have := HT.out.len; omega)]
            exact HT.out.byte _ (List.getElem_mem _)
          go_wp2_with (go_at_call 22; refine (cor_in HT.out (by omega) hz8).mono ?_; rintro e w6 ⟨rfl, H6⟩; obtain ⟨q1, q2⟩ := want_cell (HT.out.corrupt H6.out.1 H6.out.2).1 (by have := HT.out.len; omega) hz9 HXX.out)
          go_region
          go_wp2
          go_roundw
          case rel => exact ⟨k + 1, n + 1, turnB V z, by omega, by omega, by omega, by go_num, by rw [(flp_is hx256 (Nat.mod_lt z (by omega))).1]; exact HT.out.turn hz8 H6.out.1 H6.out.2 (Ne.symm HNN.out.1) HNN.out.2.1 HNN.out.2.2 xx HXX.out⟩
          case measure => simp [intOf]; omega
        · by_cases hneg : bv < 0
          · go_wp2_with (go_at_call 22; refine (cor_out HT.out (by omega) hin).mono ?_; rintro e w6 ⟨rfl, H6⟩)
            go_roundw
            case rel => exact ⟨k + 1, n + 1, V, by omega, by omega, by omega, by go_num, HT.out.same H6.out.1 H6.out.2⟩
            case measure => simp [intOf]; omega
          · have j2 : 8 * ((l.length : Nat) : Int) ≤ bv := by omega
            go_wp2_with (go_at_call 22; refine (cor_out HT.out (by omega) hin).mono ?_; rintro e w6 ⟨rfl, H6⟩)
            go_roundw
            case rel => exact ⟨k + 1, n + 1, V, by omega, by omega, by omega, by go_num, HT.out.same H6.out.1 H6.out.2⟩
            case measure => simp [intOf]; omega
    · have tk3 : True := trivial
      go_wp2_with (first
        | (go_at_call 23; refine HT.out.arrived.mono ?_; rintro e w7 ⟨rfl, H7⟩; have HT7 : Hid _ := HT.out.later H7.out; have x3 := cell_of HT7.out.box 0; have x4 := cell_of HT7.out.box 1; have x5 := cell_of HT7.out.box 2; simp only [List.getElem?_toArray, List.getElem?_cons_zero, List.getElem?_cons_succ] at x3 x4 x5)
        | (have _t := tk3; go_at_call 20; refine (HT7.out.deliver (by omega)).mono ?_; clear tk3; rintro e w8 ⟨a8, c8, rfl, H8, H8b⟩; have x6 := cell_of H8b.out 0; have x7 := cell_of H8b.out 1; have x8 := cell_of H8b.out 2; simp only [List.getElem?_toArray, List.getElem?_cons_zero, List.getElem?_cons_succ] at x6 x7 x8)
        | (go_at_call 20; refine (del_none _ N lb mb _ (xv f t a V) HT.out.ok H8.out.2.2.1 (by omega) H8.out.2.2.2.2).mono ?_; rintro e w9 ⟨rfl, H9⟩)
        | (go_at_call 25; refine (equal_same _ _ _ _ _ V HT.out.len _ (H8.out.1.later H9.out) (H8.out.2.1.later H9.out)).mono ?_; rintro e w' ⟨rfl, rfl⟩))
      go_ret
      exact ⟨rfl, below_of H8.out.2.2.2.1 H9.out⟩
set_option maxRecDepth 20000 in
set_option maxHeartbeats 8000000 in
theorem turns_noB (w : World) (y : FX) (hy : CameF w y) (ab : Option Addr) (cb : Nat) (bits : List Int) (hbits : RowI w ab bits) (hbl : bits.length ≤ 140737488351232) (h4 : ¬ (y.x.bytes.length : Int) ≤ 400) (hr : rightB y.x.frm y.x.to y.x.at_ (y.x.bytes.take 400).length = false) :
    Calls Try.prog 8 #[.agg #[.int .i64 y.x.frm, .int .i64 y.x.to, .int .i64 y.x.at_, .slice y.a y.x.bytes.length y.c], .slice ab bits.length cb] w fun e w' => e = .returned (.bool true) ∧ Hid (Below w.heap.size w w') := by
  obtain ⟨⟨f, t, a, l⟩, ya, yc⟩ := y
  have HY : Hid (Row w ya l ∧ In64 f ∧ In64 t ∧ In64 a ∧ l.length ≤ 140737488351232) := ⟨hy.row, hy.i1, hy.i2, hy.i3, hy.len⟩
  have hle : l.length ≤ yc := hy.le
  have hcp : yc ≤ maxLen := hy.cap
  unfold maxLen at hcp
  have HW : Hid (∀ W, Calls Try.prog 9 #[] W fun e w' => e = .returned (.bool true) ∧ Hid (Below W.heap.size W w')) := wakes_any
  have HB : Hid (RowI w ab bits) := hbits
  clear hy hbits
  change ¬ (l.length : Int) ≤ 400 at h4
  change rightB f t a (l.take 400).length = false at hr
  obtain ⟨L', hL'⟩ : ∃ L', L' = l.take 400 := ⟨_, rfl⟩
  have HLM : Hid (L'.length = 400) := by show _ = _; rw [hL', List.length_take]; omega
  have HRL : Hid (Row w ya L') := by show Row w ya L'; rw [hL']; exact row_take HY.out.1 400
  have h5 : (400 : Int) < l.length := by omega
  have h6 : (400 : Int) ≤ (yc : Int) := by omega
  rw [← hL'] at hr
  have HLB : Hid ((∀ x ∈ L', x < 256) ∧ L'.length ≤ 400) := ⟨HRL.out.1, by rw [HLM.out]; omega⟩
  have HR : Hid (rightB f t a L'.length = false) := hr
  clear hL' hr
  go_enter Try.func8, Try.ntmps8
  go_wp2_with (first
    | (go_at_call 9; refine (HW.out _).mono ?_; rintro e w1 ⟨rfl, H1⟩; have hh1 := old_block H1.out (heap_alloc_new w _); have z3 := cell_of hh1 3; simp only [List.getElem?_toArray, List.getElem?_cons_zero, List.getElem?_cons_succ] at z3; have HT1 : Hid _ := hh1; have z3' : ∀ A, (w1.alloc A).cell? ⟨w.heap.size, 3, none⟩ = some (.slice ya l.length yc) := (fun A => cell_later ((Below.refl _ w1).alloc (Nat.le_refl _) A) z3); have HB1 : Hid (Below w.heap.size w w1) := below_of ((Below.refl _ w).alloc (Nat.le_refl _) _) H1.out; have s1 : w.heap.size < w1.heap.size := (Array.getElem?_eq_some_iff.1 hh1).1; have tk : True := trivial; clear hh1)
    | (have _t := tk; at_builtin; go_must (refine wpList_append_copy rfl (.tmp 16) (.tmp 23) rfl rfl ya yc _ L' HLM.out rfl (HRL.out.later HB1.out) (by omega) ?_); clear tk; intro g2 c2 w2 HC; have hh2 := old_block HC.out.bel HT1.out; have y3 := cell_of hh2 3; have y3f := frozen_of hh2 3; simp only [List.getElem?_toArray, List.getElem?_cons_zero, List.getElem?_cons_succ] at y3; clear hh2)
    | (go_at_call 10; refine (new_here HT1.out HB1.out HC.out HLB.out).mono ?_; rintro e w3 ⟨lb, mb, rfl, H3⟩; have u0 := cell_of H3.out.box 0; have u1 := cell_of H3.out.box 1; have u2 := cell_of H3.out.box 2; have u3 := cell_of H3.out.box 3; simp only [List.getElem?_toArray, List.getElem?_cons_zero, List.getElem?_cons_succ] at u0 u1 u2 u3)
    | (go_at_call 16; refine (send_no H3.out HLM.out HR.out HLB.out.2).mono ?_; rintro e w4 ⟨rfl, H4⟩)
    | (go_at_call 18; refine (len_any _ No lb mb _ [] H4.out.1).mono ?_; rintro e w5 ⟨rfl, H5⟩))
  all_goals
    go_ret
    exact ⟨rfl, below_of H4.out.2 H5.out⟩
set_option maxRecDepth 20000 in
set_option maxHeartbeats 8000000 in
theorem turns_yesB (w : World) (y : FX) (hy : CameF w y) (ab : Option Addr) (cb : Nat) (bits : List Int) (hbits : RowI w ab bits) (hbl : bits.length ≤ 140737488351232) (h4 : ¬ (y.x.bytes.length : Int) ≤ 400) (hr : rightB y.x.frm y.x.to y.x.at_ (y.x.bytes.take 400).length = true) :
    Calls Try.prog 8 #[.agg #[.int .i64 y.x.frm, .int .i64 y.x.to, .int .i64 y.x.at_, .slice y.a y.x.bytes.length y.c], .slice ab bits.length cb] w fun e w' => e = .returned (.bool true) ∧ Hid (Below w.heap.size w w') := by
  obtain ⟨⟨f, t, a, l⟩, ya, yc⟩ := y
  have HY : Hid (Row w ya l ∧ In64 f ∧ In64 t ∧ In64 a ∧ l.length ≤ 140737488351232) := ⟨hy.row, hy.i1, hy.i2, hy.i3, hy.len⟩
  have hle : l.length ≤ yc := hy.le
  have hcp : yc ≤ maxLen := hy.cap
  unfold maxLen at hcp
  have HW : Hid (∀ W, Calls Try.prog 9 #[] W fun e w' => e = .returned (.bool true) ∧ Hid (Below W.heap.size W w')) := wakes_any
  have HB : Hid (RowI w ab bits) := hbits
  clear hy hbits
  change ¬ (l.length : Int) ≤ 400 at h4
  change rightB f t a (l.take 400).length = true at hr
  obtain ⟨L', hL'⟩ : ∃ L', L' = l.take 400 := ⟨_, rfl⟩
  have HLM : Hid (L'.length = 400) := by show _ = _; rw [hL', List.length_take]; omega
  have HRL : Hid (Row w ya L') := by show Row w ya L'; rw [hL']; exact row_take HY.out.1 400
  have h5 : (400 : Int) < l.length := by omega
  have h6 : (400 : Int) ≤ (yc : Int) := by omega
  rw [← hL'] at hr
  have HLB : Hid ((∀ x ∈ L', x < 256) ∧ L'.length ≤ 400) := ⟨HRL.out.1, by rw [HLM.out]; omega⟩
  have HR : Hid (rightB f t a L'.length = true) := hr
  clear hL' hr
  go_enter Try.func8, Try.ntmps8
  go_wp2_with (first
    | (go_at_call 9; refine (HW.out _).mono ?_; rintro e w1 ⟨rfl, H1⟩; have hh1 := old_block H1.out (heap_alloc_new w _); have z3 := cell_of hh1 3; simp only [List.getElem?_toArray, List.getElem?_cons_zero, List.getElem?_cons_succ] at z3; have HT1 : Hid _ := hh1; have z3' : ∀ A, (w1.alloc A).cell? ⟨w.heap.size, 3, none⟩ = some (.slice ya l.length yc) := (fun A => cell_later ((Below.refl _ w1).alloc (Nat.le_refl _) A) z3); have HB1 : Hid (Below w.heap.size w w1) := below_of ((Below.refl _ w).alloc (Nat.le_refl _) _) H1.out; have s1 : w.heap.size < w1.heap.size := (Array.getElem?_eq_some_iff.1 hh1).1; have tk : True := trivial; clear hh1)
    | (have _t := tk; at_builtin; go_must (refine wpList_append_copy rfl (.tmp 16) (.tmp 23) rfl rfl ya yc _ L' HLM.out rfl (HRL.out.later HB1.out) (by omega) ?_); clear tk; intro g2 c2 w2 HC; have hh2 := old_block HC.out.bel HT1.out; have y3 := cell_of hh2 3; have y3f := frozen_of hh2 3; simp only [List.getElem?_toArray, List.getElem?_cons_zero, List.getElem?_cons_succ] at y3; clear hh2)
    | (go_at_call 10; refine (new_here HT1.out HB1.out HC.out HLB.out).mono ?_; rintro e w3 ⟨lb, mb, rfl, H3⟩; have u0 := cell_of H3.out.box 0; have u1 := cell_of H3.out.box 1; have u2 := cell_of H3.out.box 2; have u3 := cell_of H3.out.box 3; simp only [List.getElem?_toArray, List.getElem?_cons_zero, List.getElem?_cons_succ] at u0 u1 u2 u3)
    | (go_at_call 16; refine (send_yes H3.out HLM.out HR.out HLB.out.2).mono ?_; rintro e w4 ⟨rfl, H4⟩; have v3 := cell_of H4.out.box 3; simp only [List.getElem?_toArray, List.getElem?_cons_zero, List.getElem?_cons_succ] at v3; have v3' : ∀ A, (w4.alloc A).cell? ⟨w.heap.size, 3, none⟩ = some (.slice (some ⟨g2, 0, none⟩) 400 c2) := (fun A => cell_later ((Below.refl _ w4).alloc (Nat.le_refl _) A) v3); have tk2 : True := trivial)
    | (have _t := tk2; at_builtin; go_must (refine wpList_append_copy rfl (.tmp 34) (.tmp 36) rfl rfl _ _ _ L' HLM.out rfl H4.out.row (by omega) ?_); clear tk2; intro gw cw w5 HD))
  obtain ⟨hTr, n1, n2, n3⟩ := tr_start H4.out HLM.out HD.out HLB.out.1
  clear z3 z3' y3 y3f u0 u1 u2 u3 v3 v3' H3 HT1 HC HB1 H1 HW
  have hM4 : 400 ≤ 400 := by have := HLB.out.2; rw [HLM.out] at this; exact this
  obtain ⟨N, hNN⟩ : ∃ N : Nat → Prop, N = fun k => w4.heap.size ≤ k ∧ k < w5.heap.size := ⟨_, rfl⟩
  rw [← hNN] at hTr
  clear hNN HD H4
  have HTr0 : Hid _ := hTr
  have h0a : 0 ≤ a := hTr.ok.a1
  have h1a : a ≤ 1048576 := hTr.ok.a2
  have h0M : 1 ≤ 400 := by have := hTr.ok.b1; have h2 := hTr.len; rw [← h2]; exact this
  have HNN : Hid (gw ≠ w.heap.size ∧ w.heap.size ≤ gw ∧ mb ≠ gw) := ⟨n1, n2, n3⟩
  clear hTr n1 n2 n3
  go_loopw [40] (fun i wr => ∃ (k n : Nat) (V : List Nat), k ≤ bits.length ∧ k ≤ 40 ∧ n ≤ k + 1 ∧ i = .int .i64 k ∧ Hid (Tr w wr N lb mb n f t a V 400 w.heap.size gw cw w4.heap.size g2 c2)) (fun i _ => bits.length - (intOf i).toNat)
  case atStart => exact ⟨0, 1, L', Nat.zero_le _, Nat.zero_le _, Nat.le_refl _, rfl, HTr0⟩
  case round =>
    obtain ⟨k, n, V, hk, hk40, hnk, rfl, HT⟩ := hrel
    have x0 := cell_of HT.out.box 0
    have x1 := cell_of HT.out.box 1
    have x2 := cell_of HT.out.box 2
    simp only [List.getElem?_toArray, List.getElem?_cons_zero, List.getElem?_cons_succ] at x0 x1 x2
    clear HTr0
    by_cases hlt : k < bits.length
    · obtain ⟨bb, ob, rfl, hbc⟩ := HB.out.here (by omega)
      have hbk := cell_later HT.out.bel (hbc k hlt)
      have hbr := HB.out.rng (bits.getD k 0) (by rw [List.getD_eq_getElem?_getD, List.getElem?_eq_getElem hlt]; exact List.getElem_mem _)
      clear hbc
      generalize bits.getD k 0 = bv at hbk hbr
      by_cases h40 : k = 40
      · subst h40
        have tk3 : True := trivial
        go_wp2_with (first
          | (go_at_call 23; refine HT.out.arrived.mono ?_; rintro e w7 ⟨rfl, H7⟩; have HT7 : Hid _ := HT.out.later H7.out; have x3 := cell_of HT7.out.box 0; have x4 := cell_of HT7.out.box 1; have x5 := cell_of HT7.out.box 2; simp only [List.getElem?_toArray, List.getElem?_cons_zero, List.getElem?_cons_succ] at x3 x4 x5)
          | (have _t := tk3; go_at_call 20; refine (HT7.out.deliver (by omega)).mono ?_; clear tk3; rintro e w8 ⟨a8, c8, rfl, H8, H8b⟩; have x6 := cell_of H8b.out 0; have x7 := cell_of H8b.out 1; have x8 := cell_of H8b.out 2; simp only [List.getElem?_toArray, List.getElem?_cons_zero, List.getElem?_cons_succ] at x6 x7 x8)
          | (go_at_call 20; refine (del_none _ N lb mb _ (xv f t a V) HT.out.ok H8.out.2.2.1 (by omega) H8.out.2.2.2.2).mono ?_; rintro e w9 ⟨rfl, H9⟩)
          | (go_at_call 25; refine (equal_same _ _ _ _ _ V HT.out.len _ (H8.out.1.later H9.out) (H8.out.2.1.later H9.out)).mono ?_; rintro e w' ⟨rfl, rfl⟩))
        go_ret
        exact ⟨rfl, below_of H8.out.2.2.2.1 H9.out⟩
      · have hq : ((k : Int) == 40) = false := by simp; omega
        by_cases hin : 0 ≤ bv ∧ bv ≤ 8 * ((400 : Nat) : Int) - 1
        · obtain ⟨z, rfl⟩ := Int.eq_ofNat_of_zero_le hin.1
          have hz8 : z < 8 * 400 := by omega
          have j1 : ¬ ((z : Int) < 0) := by omega
          have j2 : ¬ (8 * ((400 : Nat) : Int) ≤ (z : Int)) := by omega
          have hz9 : z / 8 < 400 := by omega
          clear hin hbr
          obtain ⟨xx, hxx⟩ : ∃ xx, V.getD (z / 8) 0 = xx := ⟨_, rfl⟩
          have HXX : Hid (V.getD (z / 8) 0 = xx) := hxx
          have hx256 : xx < 256 := by
            rw [← hxx, List.getD_eq_getElem?_getD, List.getElem?_eq_getElem (by have := HT.out.len; omega)]
            exact HT.out.byte _ (List.getElem_mem _)
          go_wp2_with (go_at_call 22; refine (cor_in HT.out (by omega) hz8).mono ?_; rintro e w6 ⟨rfl, H6⟩; obtain ⟨q1, q2⟩ := want_cell (HT.out.corrupt H6.out.1 H6.out.2).1 (by have := HT.out.len; omega) hz9 HXX.out)
          go_region
          go_wp2
          go_roundw
          case rel => exact ⟨k + 1, n + 1, turnB V z, by omega, by omega, by omega, by go_num, by rw [(flp_is hx256 (Nat.mod_lt z (by omega))).1]; exact HT.out.turn hz8 H6.out.1 H6.out.2 (Ne.symm HNN.out.1) HNN.out.2.1 HNN.out.2.2 xx HXX.out⟩
          case measure => simp [intOf]; omega
        · by_cases hneg : bv < 0
          · go_wp2_with (go_at_call 22; refine (cor_out HT.out (by omega) hin).mono ?_; rintro e w6 ⟨rfl, H6⟩)
            go_roundw
            case rel => exact ⟨k + 1, n + 1, V, by omega, by omega, by omega, by go_num, HT.out.same H6.out.1 H6.out.2⟩
            case measure => simp [intOf]; omega
          · have j2 : 8 * ((400 : Nat) : Int) ≤ bv := by omega
            go_wp2_with (go_at_call 22; refine (cor_out HT.out (by omega) hin).mono ?_; rintro e w6 ⟨rfl, H6⟩)
            go_roundw
            case rel => exact ⟨k + 1, n + 1, V, by omega, by omega, by omega, by go_num, HT.out.same H6.out.1 H6.out.2⟩
            case measure => simp [intOf]; omega
    · have tk3 : True := trivial
      go_wp2_with (first
        | (go_at_call 23; refine HT.out.arrived.mono ?_; rintro e w7 ⟨rfl, H7⟩; have HT7 : Hid _ := HT.out.later H7.out; have x3 := cell_of HT7.out.box 0; have x4 := cell_of HT7.out.box 1; have x5 := cell_of HT7.out.box 2; simp only [List.getElem?_toArray, List.getElem?_cons_zero, List.getElem?_cons_succ] at x3 x4 x5)
        | (have _t := tk3; go_at_call 20; refine (HT7.out.deliver (by omega)).mono ?_; clear tk3; rintro e w8 ⟨a8, c8, rfl, H8, H8b⟩; have x6 := cell_of H8b.out 0; have x7 := cell_of H8b.out 1; have x8 := cell_of H8b.out 2; simp only [List.getElem?_toArray, List.getElem?_cons_zero, List.getElem?_cons_succ] at x6 x7 x8)
        | (go_at_call 20; refine (del_none _ N lb mb _ (xv f t a V) HT.out.ok H8.out.2.2.1 (by omega) H8.out.2.2.2.2).mono ?_; rintro e w9 ⟨rfl, H9⟩)
        | (go_at_call 25; refine (equal_same _ _ _ _ _ V HT.out.len _ (H8.out.1.later H9.out) (H8.out.2.1.later H9.out)).mono ?_; rintro e w' ⟨rfl, rfl⟩))
      go_ret
      exact ⟨rfl, below_of H8.out.2.2.2.1 H9.out⟩
theorem turns_any (w : World) (y : FX) (hy : CameF w y) (ab : Option Addr) (cb : Nat) (bits : List Int) (hbl : bits.length ≤ 140737488351232) (hbits : RowI w ab bits) :
    Calls Try.prog 8 #[.agg #[.int .i64 y.x.frm, .int .i64 y.x.to, .int .i64 y.x.at_, .slice y.a y.x.bytes.length y.c], .slice ab bits.length cb] w fun e w' => e = .returned (.bool true) ∧ Hid (Below w.heap.size w w') := by
  by_cases h4 : (y.x.bytes.length : Int) ≤ 400
  · cases hr : rightB y.x.frm y.x.to y.x.at_ y.x.bytes.length
    · exact turns_no w y hy ab cb bits hbits hbl h4 hr
    · exact turns_yes w y hy ab cb bits hbits hbl h4 hr
  · cases hr : rightB y.x.frm y.x.to y.x.at_ (y.x.bytes.take 400).length
    · exact turns_noB w y hy ab cb bits hbits hbl h4 hr
    · exact turns_yesB w y hy ab cb bits hbits hbl h4 hr
end Go.Proofs.Ytopfpdkknfjgoaa
