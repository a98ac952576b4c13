/- ReceiverWhole: where its loops stand. -/
import Derived.Test.YthmolodkaboakaaVWhS
namespace Go.Proofs.Ythmolodkaboakaa
open Go.RowKit
set_option linter.unusedVariables false
theorem due_ok2 {s : Tk} (h : okK s = true) : (0 ≤ s.due ∧ s.due ≤ 1114112) ∧ (1 ≤ s.lif ∧ s.lif ≤ 65536) := by
  unfold okK numsK at h
  simp only [Bool.and_eq_true] at h
  exact ⟨inB_of h.1.2.2.2.2.2, inB_of h.1.2.2.2.2.1⟩
abbrev zsgW : Obj := .cells #[.int .i64 0, .int .i64 0, .int .u32 0, .int .u32 0, .int .u32 0, .int .i64 0, .int .i64 0, .int .i64 0, .int .i64 0, .int .i64 0, .bool false, .slice none 0 0, .slice none 0 0] 28
theorem sgw_there {W : World} {b : Nat} {cs : List Value} {t : TypeId} (h : W.heap[b]? = some (.cells cs.toArray t (0, 0))) {m : Nat} (hm : m ≤ cs.length) : W.there b 0 m := by
  intro j hj
  rw [Nat.zero_add]
  refine ⟨?_, frozen_of h j⟩
  rw [cell_of h, Array.getElem?_eq_getElem (by simp; omega)]
  rfl
theorem sgw_stored (wr : World) (ct : List Value) (h : ct.length = 13) : Below wr.heap.size wr ((wr.alloc zsgW).setCells wr.heap.size 0 ct) ∧ ((wr.alloc zsgW).setCells wr.heap.size 0 ct).heap[wr.heap.size]? = some (.cells ct.toArray 28 (0, 0)) := by
  have ho := setC_off (wr.alloc zsgW) wr.heap.size 0 ct
  have hb : Below wr.heap.size wr (wr.alloc zsgW) := (Below.refl _ wr).alloc (Nat.le_refl _) _
  exact ⟨hb.trans (ho.below hb.size (fun i e => by have : i = wr.heap.size := e; omega)), block_stored (zs := sgcells zeroS none 0 none 0) (heap_alloc_new wr _) (by rw [h]; rfl)⟩
theorem rangew {W : World} {b : Nat} {ct : List Value} {t : TypeId} (h : W.heap[b]? = some (.cells ct.toArray t (0, 0))) : W.rangeAt b 0 ct := by
  intro j v hv
  rw [Nat.zero_add, cell_of h]
  rw [← List.getElem?_toArray] at hv
  exact hv
theorem size_w {W : World} {n : Nat} {o : Obj} (h : W.heap[n]? = some o) : n < W.heap.size := (Array.getElem?_eq_some_iff.1 h).1
/-- the row of what has come in. -/
def bcl (C : Nat → Bool) (N : Nat) : List Value := (List.range N).map (fun i => Value.bool (C i))
theorem bcl_len (C : Nat → Bool) (N : Nat) : (bcl C N).length = N := by simp [bcl]
theorem bcl_get {C : Nat → Bool} {N i : Nat} (h : i < N) : (bcl C N)[i]? = some (.bool (C i)) := by simp [bcl, h]
def upC (C : Nat → Bool) (i : Nat) (k : Nat) : Bool := C k || decide (k = i)
theorem bcl_up {C : Nat → Bool} {N i : Nat} (h : i < N) : (bcl C N).set i (.bool true) = bcl (upC C i) N := by
  apply List.ext_getElem?
  intro k
  rw [List.getElem?_set, bcl_len]
  by_cases hk : k < N
  · rw [bcl_get hk]
    by_cases e : i = k
    · subst e
      rw [if_pos rfl, if_pos h, bcl_get h]
      simp [upC]
    · rw [if_neg e, bcl_get hk]
      have : ¬ k = i := fun x => e x.symm
      simp [upC, this]
  · rw [List.getElem?_eq_none (l := bcl (upC C i) N) (by rw [bcl_len]; omega), if_neg (by omega)]
    exact List.getElem?_eq_none (by rw [bcl_len]; omega)
theorem or_zero (C : Nat → Bool) (o : Nat) : orC C o 0 = C := by
  funext i
  unfold orC
  by_cases h : o ≤ i
  · have : ¬ i < o := by omega
    simp [this]
  · simp [h]
theorem or_succ (C : Nat → Bool) (o j : Nat) : orC C o (j + 1) = upC (orC C o j) (o + j) := by
  funext i
  unfold orC upC
  rw [Bool.or_assoc]
  congr 1
  by_cases h1 : o ≤ i
  · by_cases h2 : i < o + j
    · rw [decide_eq_true h1, decide_eq_true h2, decide_eq_true (show i < o + (j + 1) by omega)]; simp
    · by_cases h3 : i = o + j
      · rw [decide_eq_true h1, decide_eq_false h2, decide_eq_true h3, decide_eq_true (show i < o + (j + 1) by omega)]; simp
      · rw [decide_eq_true h1, decide_eq_false h2, decide_eq_false h3, decide_eq_false (show ¬ i < o + (j + 1) by omega)]; simp
  · rw [decide_eq_false h1, decide_eq_false (show ¬ i = o + j by omega)]; simp
theorem up_same {C : Nat → Bool} {i : Nat} (h : C i = true) : upC C i = C := by
  funext k
  unfold upC
  by_cases e : k = i
  · rw [e, h]; simp
  · simp [e]
theorem cnt_up {C : Nat → Bool} {i : Nat} (h : C i = false) : ∀ N, cntC (upC C i) N = cntC C N + (if i < N then 1 else 0)
  | 0 => by simp [cntC]
  | N + 1 => by
    rw [cntC, cntC, cnt_up h N]
    by_cases e : N = i
    · subst e
      have : upC C N N = true := by simp [upC]
      rw [if_pos this, if_neg (show ¬ C N = true by rw [h]; simp), if_neg (show ¬ N < N by omega), if_pos (show N < N + 1 by omega)]
    · have : upC C i N = C N := by unfold upC; simp [e]
      rw [this]
      by_cases h2 : i < N
      · rw [if_pos h2, if_pos (show i < N + 1 by omega)]; omega
      · rw [if_neg h2, if_neg (show ¬ i < N + 1 by omega)]; omega
theorem or_at {C : Nat → Bool} {o n t : Nat} (h1 : o ≤ t) (h2 : t < o + n) : orC C o n t = true := by
  unfold orC
  simp [h1, h2]
theorem or_old {C : Nat → Bool} {o n t : Nat} (h : C t = true) : orC C o n t = true := by
  unfold orC
  simp [h]
/-- a session that may be, and whose rows are the call's own, is as Check takes it. -/
theorem came_wh {B : List Nat} {C : Nat → Bool} {s : Tk} {n : Nat} {w : World} {a : Option Addr} {c : Nat} {g : Option Addr} {d : Nat} (h : WhK B C s) (hk : KN n w s a c g d) : CameK w s a c g d := by
  obtain ⟨⟨ht1, ht2⟩, hbl, hgl, hlf, hcl, hst⟩ := smallK h.ok
  obtain ⟨⟨d0, d1⟩, _⟩ := due_ok2 h.ok
  obtain ⟨r1, r2, r3, r4⟩ := kn_rows hk (by unfold maxLen; omega)
  have hgin : ∀ c ∈ s.got, in64 c.1 ∧ in64 c.2 := by
    intro c hc
    have hb : ∀ (l : List (Int × Int)) (least : Int), 0 ≤ least → clsOk s.tot least l = true → c ∈ l → 0 ≤ c.1 ∧ 1 ≤ c.2 ∧ c.1 + c.2 ≤ s.tot := by
      intro l
      induction l with
      | nil => intro _ _ _ hm; simp at hm
      | cons r rs ih =>
        intro least h0 hk hm
        obtain ⟨p1, p2, p3, p4⟩ := cls_parts hk
        rcases List.mem_cons.1 hm with rfl | hm
        · omega
        · exact ih _ (by omega) p4 hm
    have := hb _ 0 (Int.le_refl 0) hcl hc
    unfold in64
    omega
  have hsta : s.sta = 1 ∨ s.sta = 2 := by
    unfold stateK at hst
    split at hst
    · exact .inl (by assumption)
    · split at hst
      · exact .inr (by assumption)
      · exact absurd (by simpa using hst) h.sta
  refine ⟨r1, r2, r3, r4, by omega, by omega, hgin, by rw [h.src]; unfold in64; omega, by rw [h.ses]; omega, by unfold in64; omega, h.ser, by unfold in64; omega, by unfold in64; omega, by unfold in64; omega⟩
theorem sz_piece {B : List Nat} {o n ser : Nat} (h : Pc B o n ser) (hB : B.length ≤ 512) : Sz (pieceS B o n ser) := by
  have h1 := h.n1
  have h2 := h.n2
  have h3 := h.fit
  have h4 := h.sm
  have h5 := piece_len h
  constructor
  all_goals first
    | (show in64 _; unfold in64 pieceS; simp only; omega)
    | (show _ < _; unfold pieceS; simp only; omega)
    | (show _ ≤ _; rw [h5]; omega)
    | (intro c hc; exact absurd hc (by simp [pieceS]))
    | (unfold pieceS; simp)
theorem sent_lat {n : Nat} {W W' : World} {v : Value} {L : List Sg} (h : Sent n W v L) (hb : Below W.heap.size W W') : Sent n W' v L := h.off (S := fun _ => False) (Off.of_below hb) (fun _ t => t.elim)
theorem pc_cells {B : List Nat} {o n ser : Nat} (h : Pc B o n ser) (bb bo c : Nat) : pcell B.length bb bo c (o, n, ser) = sgcells (pieceS B o n ser) (some ⟨bb, bo + o, none⟩) (c - o) none 0 := by
  unfold sgcells
  rw [piece_len h]
  rfl
theorem row_pt {w : World} {b o : Nat} {l : List Nat} (h : Row w (some ⟨b, o, none⟩) l) (A n : Nat) (hn : A + n ≤ l.length) : Row w (some ⟨b, o + A, none⟩) ((l.drop A).take n) := by
  have hl : ((l.drop A).take n).length = n := by rw [List.length_take, List.length_drop]; omega
  refine ⟨fun x hx => h.1 x (List.mem_of_mem_drop (List.mem_of_mem_take hx)), by have := h.2.1; omega, fun h0 => ⟨b, o + A, rfl, fun i hi => ?_⟩⟩
  rw [hl] at hi
  obtain ⟨_, _, he, hc⟩ := h.2.2 (by omega)
  cases he
  have := hc (A + i) (by omega)
  rw [Nat.add_assoc, this, List.getD_eq_getElem?_getD, List.getD_eq_getElem?_getD, List.getElem?_take_of_lt hi, List.getElem?_drop]
theorem came_piece {w : World} {B : List Nat} {bb bo c o n ser : Nat} (hr : Row w (some ⟨bb, bo, none⟩) B) (h : Pc B o n ser) (hB : B.length ≤ 512) (hc : B.length ≤ c) (hcm : c ≤ maxLen) : Came w (pieceS B o n ser) (some ⟨bb, bo + o, none⟩) (c - o) none 0 := by
  have h1 := h.n1
  have h3 := h.fit
  refine ⟨sz_piece h hB, ?_, rowC_nil _ _, by rw [piece_len h]; omega, by omega, by simp [pieceS], by simp⟩
  exact row_pt hr o n h3
/-- a piece in its row. -/
theorem pcells_at (N bb bo c : Nat) : ∀ (P : List PT) (k : Nat) (hk : k < P.length) (j : Nat), j < 13 → (pcells N bb bo c P)[k * 13 + j]? = (pcell N bb bo c P[k])[j]?
  | p :: r, 0, _, j, hj => by
    unfold pcells
    rw [List.flatMap_cons, Nat.zero_mul, Nat.zero_add, List.getElem?_append_left (by rw [pcell_len]; exact hj)]
    rfl
  | p :: r, k + 1, hk, j, hj => by
    have := pcells_at N bb bo c r k (by simpa using hk) j hj
    unfold pcells at this ⊢
    rw [List.flatMap_cons, List.getElem?_append_right (by rw [pcell_len]; omega), pcell_len, show (k + 1) * 13 + j - 13 = k * 13 + j by omega, this]
    rfl
theorem pieces_at {w : World} {n0 N bb bo c : Nat} {v : Value} {P : List PT} (h : w.ownsRow n0 28 13 v P.length (pcells N bb bo c P)) (hP : 0 < P.length) : ∃ pg pc, v = .slice (some ⟨pg, 0, none⟩) P.length pc ∧ n0 ≤ pg ∧ pg < w.heap.size ∧ ∀ k (hk : k < P.length), w.rangeAt pg (k * 13) (pcell N bb bo c P[k]) := by
  rcases h.2 with ⟨_, h0⟩ | ⟨g, cap, cur, rfl, hg, hb, hcap, _, hcs, ht⟩
  · omega
  · refine ⟨g, cap, rfl, hg, (Array.getElem?_eq_some_iff.1 hb).1, fun k hk j v hv => ?_⟩
    have hj : j < 13 := by
      have := (List.getElem?_eq_some_iff.1 hv).1
      simpa [pcell_len] using this
    rw [← pcells_at N bb bo c P k hk j hj, ← ht, List.getElem?_take_of_lt (by omega)] at hv
    rw [cell_of hb, ← Array.getElem?_toList]
    exact hv
/-- what stands between the statements of a round. -/
structure Rd (W4 wd : World) (sb gb xb N : Nat) (C : Nat → Bool) (s : Tk) (a : Option Addr) (c : Nat) (g : Option Addr) (d : Nat) (ct : List Value) (v : Value) (L : List Sg) : Prop where
  off : Off (fun i => i = sb ∨ i = gb) W4 wd
  row : wd.heap[gb]? = some (.cells (bcl C N).toArray 4 (0, 0))
  box : wd.heap[sb]? = some (kc s a c g d)
  kn : KN W4.heap.size wd s a c g d
  seg : wd.heap[xb]? = some (.cells ct.toArray 28 (0, 0))
  sent : Sent W4.heap.size wd v L
theorem Rd.later {W4 wd wx : World} {sb gb xb N : Nat} {C : Nat → Bool} {s : Tk} {a : Option Addr} {c : Nat} {g : Option Addr} {d : Nat} {ct : List Value} {v : Value} {L : List Sg} (h : Rd W4 wd sb gb xb N C s a c g d ct v L) (hb : Below wd.heap.size wd wx) : Rd W4 wx sb gb xb N C s a c g d ct v L :=
  ⟨h.off.trans (Off.of_below (S := fun _ => False) hb) (fun _ _ t => t.elim), old_block hb h.row, old_block hb h.box, h.kn.later hb, old_block hb h.seg, sent_lat h.sent hb⟩
theorem Rd.up {W4 wd : World} {sb gb xb N : Nat} {C : Nat → Bool} {s : Tk} {a : Option Addr} {c : Nat} {g : Option Addr} {d : Nat} {ct : List Value} {v : Value} {L : List Sg} (h : Rd W4 wd sb gb xb N C s a c g d ct v L) (hsg : sb ≠ gb) (hgx : gb ≠ xb) (hg : gb < W4.heap.size) {i : Nat} (hi : i < N) : Rd W4 (wd.setCell ⟨gb, i, none⟩ (.bool true)) sb gb xb N (upC C i) s a c g d ct v L := by
  have ho : Off (fun k => k = gb) wd (wd.setCell ⟨gb, i, none⟩ (.bool true)) := (Off.refl (fun k => k = gb) wd).setCell (p := ⟨gb, i, none⟩) (.inr rfl) _
  refine ⟨h.off.trans ho (fun _ _ t => .inr t), ?_, ho.at h.box (fun e => hsg e), h.kn.off ho (fun k e => by have : k = gb := e; omega), ho.at h.seg (fun e => hgx e.symm), h.sent.off ho (fun k e => by have : k = gb := e; omega)⟩
  rw [heap_setCell_same _ _ _ _ _ _ h.row, List.setIfInBounds_toArray, bcl_up hi]
theorem Rd.get {W4 wd : World} {sb gb xb N : Nat} {C : Nat → Bool} {s : Tk} {a : Option Addr} {c : Nat} {g : Option Addr} {d : Nat} {ct : List Value} {v : Value} {L : List Sg} (h : Rd W4 wd sb gb xb N C s a c g d ct v L) {i : Nat} (hi : i < N) : wd.cell? ⟨gb, i, none⟩ = some (.bool (C i)) ∧ wd.frozen? ⟨gb, i, none⟩ = false := by
  refine ⟨?_, frozen_of h.row i⟩
  rw [cell_of h.row, List.getElem?_toArray, bcl_get hi]
/-- where the loop over the pieces stands. -/
structure WhI (W4 wr : World) (sb gb : Nat) (B : List Nat) (P : List PT) (k : Nat) (C : Nat → Bool) (s : Tk) (a : Option Addr) (c : Nat) (g : Option Addr) (d : Nat) : Prop where
  off : Off (fun i => i = sb ∨ i = gb) W4 wr
  row : wr.heap[gb]? = some (.cells (bcl C B.length).toArray 4 (0, 0))
  box : wr.heap[sb]? = some (kc s a c g d)
  kn : KN W4.heap.size wr s a c g d
  cov : ∀ p ∈ P.take k, ∀ i, p.1 ≤ i → i < p.1 + p.2.1 → C i = true
  st : (k = 0 ∧ C = fun _ => false) ∨ (0 < k ∧ WhK B C s)
/-- the session's box takes what was answered. -/
theorem rd_set {W4 w5 : World} {sb gb xb N : Nat} {C : Nat → Bool} {R : Tk} {a : Option Addr} {c : Nat} {g : Option Addr} {d n : Nat} {ct : List Value} {v : Value} {L : List Sg} {s0 : Tk} {a0 : Option Addr} {c0 : Nat} {g0 : Option Addr} {d0 : Nat} (ho : Off (fun i => i = sb ∨ i = gb) W4 w5) (hrow : w5.heap[gb]? = some (.cells (bcl C N).toArray 4 (0, 0))) (hbx : w5.heap[sb]? = some (kc s0 a0 c0 g0 d0)) (hk : KN n w5 R a c g d) (hs : Sent n w5 v L) (hx : w5.heap[xb]? = some (.cells ct.toArray 28 (0, 0))) (hn : W4.heap.size ≤ n) (hsb : sb < W4.heap.size) (hsg : sb ≠ gb) (hsx : sb ≠ xb) : Rd W4 (w5.setCells sb 0 (kcells R a c g d)) sb gb xb N C R a c g d ct v L := by
  have h1 := setC_off w5 sb 0 (kcells R a c g d)
  exact ⟨ho.trans h1 (fun _ _ t => .inl t), h1.at hrow (fun e => hsg e.symm), block_stored (zs := kcells s0 a0 c0 g0 d0) hbx rfl, (hk.off h1 (fun k e => by have : k = sb := e; omega)).base hn, h1.at hx (fun e => hsx e.symm), (hs.off h1 (fun k e => by have : k = sb := e; omega)).base hn⟩
theorem row_lt {w : World} {b o : Nat} {l : List Nat} (h : Row w (some ⟨b, o, none⟩) l) (h0 : 0 < l.length) : b < w.heap.size := by
  obtain ⟨b', o', e, hc⟩ := h.2.2 h0
  cases e
  have hk := hc 0 h0
  rcases Nat.lt_or_ge b w.heap.size with hlt | hge
  · exact hlt
  · rw [World.cell?, Array.getElem?_eq_none hge] at hk; cases hk
theorem came_rep {B : List Nat} {C : Nat → Bool} {u : Tk} {ser : Nat} (h : WhK B C u) (hB : B.length ≤ 512) (hs : ser < 4294967296) {w : World} {a2 : Option Addr} {c2 : Nat} (hr : RowC w a2 (repK u ser).cls) (hl : (repK u ser).cls.length ≤ c2) (hm : c2 ≤ maxLen) : Came w (repK u ser) none 0 a2 c2 := by
  obtain ⟨⟨ht1, ht2⟩, hbl, hgl, hlf, hcl, hst⟩ := smallK h.ok
  have hlen : (repK u ser).cls.length ≤ 512 := by
    show (u.got.take 20).length ≤ 512
    rw [List.length_take]
    omega
  refine ⟨⟨?_, ?_, ?_, ?_, hs, ?_, ?_, ?_, ?_, ?_, by simp [repK], by omega, fun c hc => ?_⟩, row_nil _ _, hr, by simp [repK], by simp, hl, hm⟩
  · show in64 2; unfold in64; omega
  · show in64 u.src; rw [h.src]; unfold in64; omega
  · show u.ses < _; rw [h.ses]; omega
  · exact (next_pos _ h.ser).2
  · show in64 0; unfold in64; omega
  · show in64 0; unfold in64; omega
  · show in64 0; unfold in64; omega
  · show in64 u.tot; unfold in64; omega
  · show in64 0; unfold in64; omega
  · obtain ⟨⟨b1, b2, b3⟩, _⟩ := rep_claims (ser := ser) h c hc
    unfold in64
    omega
/-- a round's end. -/
theorem rd_next {W4 wd : World} {sb gb xb : Nat} {B : List Nat} {P : List PT} {k o n ser : Nat} {C : Nat → Bool} {s : Tk} {a : Option Addr} {c : Nat} {g : Option Addr} {d : Nat} {ct : List Value} {v : Value} {L : List Sg} (h : Rd W4 wd sb gb xb B.length (orC C o n) s a c g d ct v L) (hw : WhK B (orC C o n) s) (hk : k < P.length) (hp : P[k] = (o, n, ser)) (hc : ∀ p ∈ P.take k, ∀ i, p.1 ≤ i → i < p.1 + p.2.1 → C i = true) : WhI W4 wd sb gb B P (k + 1) (orC C o n) s a c g d := by
  refine ⟨h.off, h.row, h.box, h.kn, fun p hm i h1 h2 => ?_, .inr ⟨by omega, hw⟩⟩
  rw [List.take_add_one, List.getElem?_eq_getElem hk, hp] at hm
  rcases List.mem_append.1 hm with hm | hm
  · exact or_old (hc p hm i h1 h2)
  · simp at hm
    subst hm
    exact or_at h1 h2
end Go.Proofs.Ythmolodkaboakaa
