/- The walks of link's turned, Corrupt. -/
import Derived.Test.YtopfpdkknfjgoaaLLose
namespace Go.Proofs.Ytopfpdkknfjgoaa
open Go.RowKit
set_option linter.unusedVariables false

theorem own_pos {w : World} {base n : Nat} {e : TypeId} {size : Nat} {v : Value} {xs : List Value} (h : w.ownsRow base e size v n xs) (h0 : 0 < n) : ∃ g c cur, v = .slice (some ⟨g, 0, none⟩) n c ∧ base ≤ g ∧ n ≤ c ∧ c ≤ maxLen ∧ w.heap[g]? = some (.cells cur e (0, 0)) := by
  rcases h.2 with ⟨_, h1⟩ | ⟨g, cap, cur, rfl, a2, a3, a4, a5, _⟩
  · omega
  · exact ⟨g, cap, cur, rfl, a2, a4, a5, a3⟩
theorem own_cell3 {w1 w2 : World} {base g c m k g2 : Nat} {X : List FX} (h : w1.ownsRow base 32 4 (.slice (some ⟨g, 0, none⟩) m c) m (fcells X)) (hb : Below w1.heap.size w1 w2) (hg2 : w1.heap.size ≤ g2) (hm : X.length = m) (hk : k < m) : w2.cell? ⟨g, k * 4 + 3, none⟩ = some (.slice (X[k]'(by omega)).a (X[k]'(by omega)).x.bytes.length (X[k]'(by omega)).c) ∧ w2.frozen? ⟨g, k * 4 + 3, none⟩ = false ∧ ¬ g = g2 := by
  obtain ⟨_, _, cur, hv, _, _, _, h4⟩ := own_pos h (by omega)
  cases hv
  have hlt := (Array.getElem?_eq_some_iff.1 h4).1
  have e3 := (fcells_at X k (by omega)).2.2.2
  refine ⟨?_, frozen_of (old_block hb h4) _, by omega⟩
  have := h.cellAt (k * 4 + 3) (by omega)
  rw [e3] at this
  exact cell_later hb this

/-- a byte with the j-th bit turned, counted from the highest on. -/
def flp (x j : Nat) : Nat := if x / 2 ^ (7 - j) % 2 = 1 then x - 2 ^ (7 - j) else x + 2 ^ (7 - j)
theorem flp_all : ∀ x : Fin 256, ∀ j : Fin 8, bits BinOp.xor IntKind.u8 ((x.val : Nat) : Int) (128 / 2 ^ j.val) = ((flp x.val j.val : Nat) : Int) ∧ flp x.val j.val < 256 := by decide +kernel
theorem flp_is {x j : Nat} (hx : x < 256) (hj : j < 8) : bits BinOp.xor IntKind.u8 (x : Int) (128 / 2 ^ j) = ((flp x j : Nat) : Int) ∧ flp x j < 256 := flp_all ⟨x, hx⟩ ⟨j, hj⟩
/-- bytes with the q-th bit turned. -/
def turnB (l : List Nat) (q : Nat) : List Nat := l.set (q / 8) (flp (l.getD (q / 8) 0) (q % 8))
theorem turnB_length (l : List Nat) (q : Nat) : (turnB l q).length = l.length := by simp [turnB]
theorem fcells_set : ∀ (X : List FX) (k : Nat) (hk : k < X.length) (l : List Nat) (a : Option Addr) (c : Nat), fcells (X.set k ⟨⟨X[k].x.frm, X[k].x.to, X[k].x.at_, l⟩, a, c⟩) = (fcells X).set (k * 4 + 3) (.slice a l.length c)
  | [], _, h, _, _, _ => by simp at h
  | x :: r, 0, _, _, _, _ => rfl
  | x :: r, k + 1, h, l, a, c => by
    have := fcells_set r k (by simpa using h) l a c
    rw [show (k + 1) * 4 + 3 = (k * 4 + 3) + 1 + 1 + 1 + 1 by omega]
    simp only [List.set_cons_succ, fcells, List.getElem_cons_succ]
    rw [this]
theorem set_bytes {l : List Nat} {p v : Nat} (h : ∀ x ∈ l, x < 256) (hv : v < 256) : ∀ x ∈ l.set p v, x < 256 := fun x hx => by
  rcases List.mem_or_eq_of_mem_set hx with h1 | h1
  · exact h x h1
  · rw [h1]; exact hv
theorem cell_set_off {w : World} {p q : Addr} {v : Value} (h : p ≠ q) : (w.setCell p v).cell? q = w.cell? q := by simp [go_sem, h]
theorem turned_fin {N : Nat → Prop} {w w1 w2 : World} {a0 : Option Addr} {X : List FX} {m k q g c g2 c2 : Nat} {y : FX} (hX : FxAt N w a0 X) (hN : ∀ k, N k → k < w.heap.size) (hm : X.length = m) (hk : k < m) (hy : X[k]? = some y) (hq : q / 8 < y.x.bytes.length) (hlm : y.x.bytes.length ≤ 400)
    (h1 : w1.ownsRow w.heap.size 32 4 (.slice (some ⟨g, 0, none⟩) m c) m (fcells X)) (hb1 : Below w.heap.size w w1) (h2 : w2.ownsRow w1.heap.size 5 1 (.slice (some ⟨g2, 0, none⟩) y.x.bytes.length c2) y.x.bytes.length (cells y.x.bytes)) (hb2 : Below w1.heap.size w1 w2) :
    FxAt N ((w2.setCell ⟨g2, q / 8, none⟩ (.int .u8 ((flp (y.x.bytes.getD (q / 8) 0) (q % 8) : Nat) : Int))).setCell ⟨g, k * 4 + 3, none⟩ (.slice (some ⟨g2, 0, none⟩) y.x.bytes.length c2)) (some ⟨g, 0, none⟩) (X.set k ⟨⟨y.x.frm, y.x.to, y.x.at_, turnB y.x.bytes q⟩, some ⟨g2, 0, none⟩, c2⟩)
      ∧ Below w.heap.size w ((w2.setCell ⟨g2, q / 8, none⟩ (.int .u8 ((flp (y.x.bytes.getD (q / 8) 0) (q % 8) : Nat) : Int))).setCell ⟨g, k * 4 + 3, none⟩ (.slice (some ⟨g2, 0, none⟩) y.x.bytes.length c2)) := by
  have hyk : X[k]'(by omega) = y := (List.getElem?_eq_some_iff.1 hy).2
  obtain ⟨_, _, cur, hv, hgw, _, _, h4⟩ := own_pos h1 (by omega)
  cases hv
  obtain ⟨_, _, cur2, hv, hgw2, _, _, h5⟩ := own_pos h2 (by omega)
  cases hv
  have hg := (Array.getElem?_eq_some_iff.1 h4).1
  have hgg : g ≠ g2 := by omega
  have hbel : Below w.heap.size w ((w2.setCell ⟨g2, q / 8, none⟩ (.int .u8 ((flp (y.x.bytes.getD (q / 8) 0) (q % 8) : Nat) : Int))).setCell ⟨g, k * 4 + 3, none⟩ (.slice (some ⟨g2, 0, none⟩) y.x.bytes.length c2)) := ((below_of hb1 hb2).setCell (p := ⟨g2, q / 8, none⟩) (by have := hb1.size; show _ ≤ g2; omega) _).setCell (p := ⟨g, k * 4 + 3, none⟩) hgw _
  have hx256 : y.x.bytes.getD (q / 8) 0 < 256 := by
    rw [List.getD_eq_getElem?_getD, List.getElem?_eq_getElem hq]
    exact (hX.rows y (List.mem_of_getElem? hy)).1.1 _ (List.getElem_mem _)
  have hfl := flp_is (j := q % 8) hx256 (Nat.mod_lt _ (by omega))
  refine ⟨⟨fun z hz => ?_, fun h0 => ⟨g, 0, rfl, fun hn => by have := hN g hn; omega, fun j u hu => ?_⟩⟩, hbel⟩
  · rcases List.mem_or_eq_of_mem_set hz with hz | rfl
    · exact ⟨(hX.rows z hz).1.later hbel, (hX.rows z hz).2⟩
    · refine ⟨⟨set_bytes (hX.rows y (List.mem_of_getElem? hy)).1.1 hfl.2, by show (turnB y.x.bytes q).length ≤ _; rw [turnB_length]; unfold maxLen; omega, fun _ => ⟨g2, 0, rfl, fun i hi => ?_⟩⟩, fun _ b hb hn => ?_⟩
      · have hi' : i < y.x.bytes.length := by rw [← turnB_length y.x.bytes q]; exact hi
        rw [cell_set_off (fun e => hgg (congrArg Addr.block e)), Nat.zero_add]
        have hc0 := h2.cellAt i (by omega)
        unfold cells at hc0
        rw [List.getElem?_map, List.getElem?_eq_getElem hi'] at hc0
        show _ = some (Value.int .u8 (((turnB y.x.bytes q).getD i 0 : Nat) : Int))
        unfold turnB
        generalize flp (y.x.bytes.getD (q / 8) 0) (q % 8) = F
        rw [List.getD_eq_getElem?_getD, List.getElem?_set]
        by_cases hiq : q / 8 = i
        · subst hiq
          rw [if_pos rfl, if_pos hq]
          exact World.cell?_setCell_same' _ _ _ (by rw [hc0]; rfl)
        · rw [if_neg hiq, cell_set_off (fun e => hiq (congrArg Addr.off e)), hc0, List.getElem?_eq_getElem hi']
          rfl
      · cases hb
        have := hN _ hn
        have := hb1.size
        simp at *
        omega
  · have hs := fcells_set X k (by omega) (turnB y.x.bytes q) (some ⟨g2, 0, none⟩) c2
    rw [hyk] at hs
    rw [hs, turnB_length, List.getElem?_set] at hu
    rw [Nat.zero_add]
    by_cases hj : k * 4 + 3 = j
    · subst hj
      have hlt : k * 4 + 3 < (fcells X).length := by rw [fcells_length]; omega
      rw [if_pos rfl, if_pos hlt] at hu
      cases hu
      have hc0 := cell_later hb2 ((h1.cellAt (k * 4 + 3) (by omega)).trans (List.getElem?_eq_getElem hlt))
      exact World.cell?_setCell_same' _ _ _ (by rw [cell_set_off (fun e => hgg (congrArg Addr.block e).symm), hc0]; rfl)
    · rw [if_neg hj] at hu
      have hjl := (List.getElem?_eq_some_iff.1 hu).1
      rw [fcells_length] at hjl
      rw [cell_set_off (fun e => hj (congrArg Addr.off e)), cell_set_off (fun e => hgg (congrArg Addr.block e).symm)]
      exact cell_later hb2 ((h1.cellAt j (by omega)).trans hu)

set_option maxRecDepth 20000 in
set_option maxHeartbeats 4000000 in
theorem turned_any (w : World) (N : Nat → Prop) (ad : Option Addr) (X : List FX) (m k q : Nat) (hX : FxAt N w ad X) (hm : X.length = m) (hk : k < m) (hz : m ≤ 512) (hN : ∀ k, N k → k < w.heap.size) (y : FX) (hy : X[k]? = some y) (hq : q < 8 * y.x.bytes.length) (hl : y.x.bytes.length ≤ 400) :
    Calls Try.prog 45 #[.slice ad m m, .int .i64 k, .int .i64 q] w fun e w' => ∃ a c g2 c2, e = .returned (.slice a m c) ∧ Hid (FxAt N w' a (X.set k ⟨⟨y.x.frm, y.x.to, y.x.at_, turnB y.x.bytes q⟩, some ⟨g2, 0, none⟩, c2⟩) ∧ m ≤ c ∧ c ≤ maxLen ∧ Below w.heap.size w w') := by
  have hyk : X[k]'(by omega) = y := by
    have := List.getElem?_eq_some_iff.1 hy; exact this.2
  obtain ⟨b, o, rfl, y0, y1, y2, y3⟩ := hX.cells4 k (by omega)
  rw [hyk] at y0 y1 y2 y3
  obtain ⟨b', o', hbo, hnb, hc⟩ := hX.here (by omega)
  cases hbo
  have HX : Hid (FxAt N w (some ⟨b, o, none⟩) X ∧ (∀ k, N k → k < w.heap.size) ∧ X.length = m ∧ X[k]? = some y) := ⟨hX, hN, hm, hy⟩
  have HC : Hid (Calls Try.prog 51 #[.slice (some ⟨b, o, none⟩) m m] w fun e w' => ∃ g c, e = .returned (.slice (some ⟨g, 0, none⟩) m c) ∧ Hid (w'.ownsRow w.heap.size 32 4 (.slice (some ⟨g, 0, none⟩) m c) m (fcells X) ∧ Below w.heap.size w w') ∧ m ≤ c ∧ Hid (c ≤ maxLen)) := by
    have := fclone_any w ⟨b, o, none⟩ m X (by omega) (fun j u hu => by rw [Go.WideShapes.add_plain]; exact hc j u hu)
    rw [hm] at this
    refine this.mono ?_
    rintro e w' ⟨v, rfl, H⟩
    obtain ⟨g, c, cur, rfl, q1, q2, q3, q4⟩ := own_pos H.out.1 (by omega)
    exact ⟨g, c, rfl, H, q2, q3⟩
  have HR : Hid (Row w y.a y.x.bytes ∧ (0 < y.x.bytes.length → ∀ b, y.a = some b → ¬ N b.block)) := hX.rows y (List.mem_of_getElem? hy)
  clear hX hc hN hm hy hyk y0 y1 y2
  have HBC : Hid (∀ W, Below w.heap.size w W → Calls Try.prog 36 #[.slice y.a y.x.bytes.length y.c] W fun e w' => ∃ g c, e = .returned (.slice (some ⟨g, 0, none⟩) y.x.bytes.length c) ∧ Hid (w'.ownsRow W.heap.size 5 1 (.slice (some ⟨g, 0, none⟩) y.x.bytes.length c) y.x.bytes.length (cells y.x.bytes) ∧ Below W.heap.size W w' ∧ W.heap.size ≤ g) ∧ w'.cell? ⟨g, q / 8, none⟩ = some (.int .u8 ((y.x.bytes.getD (q / 8) 0 : Nat) : Int)) ∧ w'.frozen? ⟨g, q / 8, none⟩ = false) := fun W hb => (bclone_own W y.a y.c y.x.bytes (HR.out.1.later hb) (by omega)).mono (by
    rintro e w' ⟨a', c', rfl, H⟩
    obtain ⟨g, c, cur, hv, q1, q2, q3, q4⟩ := own_pos H.out.1 (by omega)
    cases hv
    obtain ⟨b2, o2, h2, h3⟩ := H.out.2.1.row.2.2 (by omega)
    cases h2
    have := h3 (q / 8) (by omega)
    rw [Nat.zero_add] at this
    exact ⟨g, _, rfl, ⟨H.out.1, H.out.2.2, q1⟩, this, frozen_of q4 _⟩)
  have hx256 : y.x.bytes.getD (q / 8) 0 < 256 := by
    rw [List.getD_eq_getElem?_getD, List.getElem?_eq_getElem (by omega)]
    exact HR.out.1.1 _ (List.getElem_mem _)
  generalize hxx : y.x.bytes.getD (q / 8) 0 = x at HBC hx256
  have hq8 : q / 8 < y.x.bytes.length := by omega
  go_enter Try.func45, Try.ntmps45
  go_wp2_with (first
    | (go_at_call 51; refine HC.out.mono ?_; rintro e w1 ⟨g, c, rfl, HO, hmc, HCM⟩; have z3 := cell_later HO.out.2 y3)
    | (go_at_call 36; refine (HBC.out _ HO.out.2).mono ?_; rintro e w2 ⟨g2, c2, rfl, HO2, x1, x2⟩; obtain ⟨zg1, zg2, zg3⟩ := own_cell3 HO.out.1 HO2.out.2.1 HO2.out.2.2 HX.out.2.2.1 hk))
  go_region
  go_wp2
  go_ret
  have hF := turned_fin HX.out.1 HX.out.2.1 HX.out.2.2.1 hk HX.out.2.2.2 hq8 hl HO.out.1 HO.out.2 HO2.out.1 HO2.out.2.1
  rw [hxx] at hF
  rw [(flp_is hx256 (Nat.mod_lt q (by omega))).1]
  exact ⟨_, _, g2, c2, rfl, hF.1.later (Below.refl _ _).drew, hmc, HCM.out, hF.2.drew⟩

def turnX (q : Nat) (x : Fl) : Fl := ⟨x.frm, x.to, x.at_, turnB x.bytes q⟩
/-- the list with a bit of the k-th of those for which p holds turned. -/
def turnF (p : Fl → Bool) (q : Nat) : Nat → List Fl → List Fl
  | _, [] => []
  | k, x :: r => if p x then (match k with | 0 => turnX q x :: r | j + 1 => x :: turnF p q j r) else x :: turnF p q k r
theorem pf_turn (a b : Int) (q : Nat) (x : Fl) : pf a b (turnX q x) = pf a b x := rfl
theorem turnF_filter (a b : Int) (q : Nat) : ∀ (k : Nat) (L : List Fl) (x : Fl), (L.filter (pf a b))[k]? = some x → (turnF (pf a b) q k L).filter (pf a b) = (L.filter (pf a b)).set k (turnX q x)
  | k, [], x, h => by simp at h
  | k, y :: r, x, h => by
    unfold turnF
    cases hp : pf a b y
    · rw [List.filter_cons_of_neg (by simp [hp])] at h
      simp only [Bool.false_eq_true, if_false]
      rw [List.filter_cons_of_neg (by simp [hp]), List.filter_cons_of_neg (by simp [hp]), turnF_filter a b q k r x h]
    · rw [List.filter_cons_of_pos hp] at h
      simp only [if_true]
      rw [List.filter_cons_of_pos (l := r) hp]
      cases k with
      | zero =>
        cases h
        show (turnX q y :: r).filter (pf a b) = _
        rw [List.filter_cons_of_pos (by rw [pf_turn]; exact hp)]; rfl
      | succ j =>
        show (y :: turnF (pf a b) q j r).filter (pf a b) = _
        rw [List.filter_cons_of_pos hp, turnF_filter a b q j r x (by simpa using h)]; rfl
theorem turnF_other (a b c d : Int) (q : Nat) (h : ¬ (c = a ∧ d = b)) : ∀ (k : Nat) (L : List Fl), (turnF (pf a b) q k L).filter (pf c d) = L.filter (pf c d)
  | k, [] => by simp [turnF]
  | k, x :: r => by
    unfold turnF
    cases hp : pf a b x
    · simp only [Bool.false_eq_true, if_false]
      rw [List.filter_cons, List.filter_cons, turnF_other a b c d q h k r]
    · simp only [if_true]
      have hx := pf_apart h x hp
      rw [List.filter_cons_of_neg (a := x) (l := r) (by simp [hx])]
      cases k with
      | zero =>
        show (turnX q x :: r).filter (pf c d) = _
        rw [List.filter_cons_of_neg (by rw [pf_turn]; simp [hx])]
      | succ j =>
        show (x :: turnF (pf a b) q j r).filter (pf c d) = _
        rw [List.filter_cons_of_neg (by simp [hx]), turnF_other a b c d q h j r]
theorem turnF_mem (p : Fl → Bool) (q : Nat) : ∀ (k : Nat) (L : List Fl) (x : Fl), x ∈ turnF p q k L → ∃ y ∈ L, x = y ∨ x = turnX q y
  | k, [], x, h => by simp [turnF] at h
  | k, y :: r, x, h => by
    unfold turnF at h
    cases hp : p y
    · simp only [hp, Bool.false_eq_true, if_false, List.mem_cons] at h
      rcases h with h | h
      · exact ⟨y, by simp, .inl h⟩
      · obtain ⟨z, hz, he⟩ := turnF_mem p q k r x h; exact ⟨z, List.mem_cons_of_mem _ hz, he⟩
    · simp only [hp, if_true] at h
      cases k with
      | zero =>
        rcases List.mem_cons.1 h with h | h
        · exact ⟨y, by simp, .inr h⟩
        · exact ⟨x, List.mem_cons_of_mem _ h, .inl rfl⟩
      | succ j =>
        rcases List.mem_cons.1 h with h | h
        · exact ⟨y, by simp, .inl h⟩
        · obtain ⟨z, hz, he⟩ := turnF_mem p q j r x h; exact ⟨z, List.mem_cons_of_mem _ hz, he⟩
theorem turnF_len (p : Fl → Bool) (q : Nat) : ∀ (k : Nat) (L : List Fl), (turnF p q k L).length = L.length
  | k, [] => by simp [turnF]
  | k, y :: r => by
    unfold turnF
    cases hp : p y
    · simpa using turnF_len p q k r
    · cases k with
      | zero => simp
      | succ j => simpa using turnF_len p q j r
theorem OkF.turn {x : Fl} (h : OkF x) (q : Nat) : OkF (turnX q x) := ⟨h.f1, h.f2, h.t1, h.t2, h.ne, h.a1, h.a2, by show 1 ≤ (turnB x.bytes q).length; rw [turnB_length]; exact h.b1, by show (turnB x.bytes q).length ≤ 400; rw [turnB_length]; exact h.b2⟩
theorem cor_y {L : List Fl} {a b : Int} {X : List FX} {q : Nat} {x : Fl} {hq : q < X.length} {y : FX} (hX : X.map FX.x = L.filter (pf a b)) (hx : (L.filter (pf a b))[q]? = some x) (hy : y = X[q]'hq) : X[q]? = some y ∧ y.x = x := by
  subst hy
  refine ⟨List.getElem?_eq_getElem hq, ?_⟩
  rw [← hX, List.getElem?_map, List.getElem?_eq_getElem hq] at hx
  simpa using hx
/-- what Corrupt answers, and the flights then. -/
def lenAt (L : List Fl) (a b k : Int) : Nat := match (L.filter (pf a b))[k.toNat]? with
  | some x => x.bytes.length
  | none => 0
def corE (L : List Fl) (a b k q : Int) : Int := if hasE L a b k = 0 then (if 0 ≤ q ∧ q ≤ 8 * (lenAt L a b k : Int) - 1 then 0 else 2) else 4
def corL (L : List Fl) (a b k q : Int) : List Fl := if corE L a b k q = 0 then turnF (pf a b) q.toNat k.toNat L else L

set_option maxRecDepth 20000 in
set_option maxHeartbeats 4000000 in
theorem corrupt_any (w : World) (N : Nat → Prop) (lb mb n : Nat) (L : List Fl) (h : Lk N w lb mb n L) (hn : n < 1000000000) (hN : ∀ k, N k → k < w.heap.size) (a b k t : Int) (ha : In64 a) (hb : In64 b) :
    Calls Try.prog 22 #[.pointer (some ⟨lb, 0, none⟩), .int .i64 a, .int .i64 b, .int .i64 k, .int .i64 t] w fun e w' => e = .returned (.int .i64 (corE L a b k t)) ∧ Hid (Lk N w' lb mb (n + 1) (corL L a b k t) ∧ Off (fun k => k = mb) w w') := by
  by_cases hk : 0 ≤ k ∧ k < ((L.filter (pf a b)).length : Int)
  · obtain ⟨q, rfl⟩ := Int.eq_ofNat_of_zero_le hk.1
    have he0 : hasE L a b (q : Int) = 0 := by unfold hasE; rw [if_pos hk]
    have HH : Hid (Lk N w lb mb n L ∧ In64 a ∧ In64 b ∧ q < (L.filter (pf a b)).length ∧ ∀ k, N k → k < w.heap.size) := ⟨h, ha, hb, by omega, hN⟩
    obtain ⟨x, hx⟩ : ∃ x, (L.filter (pf a b))[q]? = some x := ⟨_, List.getElem?_eq_getElem (by omega)⟩
    have hxo : OkF x := h.ok x (List.mem_filter.1 (List.mem_of_getElem? hx)).1
    have he : corE L a b (q : Int) t = if 0 ≤ t ∧ t ≤ 8 * (x.bytes.length : Int) - 1 then 0 else 2 := by unfold corE lenAt; rw [if_pos he0, Int.toNat_natCast, hx]
    have hb2 := hxo.b2
    have HX0 : Hid ((L.filter (pf a b))[q]? = some x) := hx
    generalize hnl : x.bytes.length = nl at he hb2
    have HNL : Hid (x.bytes.length = nl) := hnl
    by_cases ht : 0 ≤ t ∧ t ≤ 8 * (nl : Int) - 1
    · obtain ⟨z, rfl⟩ := Int.eq_ofNat_of_zero_le ht.1
      rw [if_pos ht] at he
      have HL0 : Hid (corL L a b (q : Int) (z : Int) = turnF (pf a b) z q L) := by show _ = _; unfold corL; rw [if_pos he]; rfl
      have H1 : Hid (decide (0 ≤ (z : Int) ∧ (z : Int) ≤ 8 * (nl : Int) - 1) = true) := by show _ = _; rw [decide_eq_true_eq]; exact ht
      have hz8 : z < 8 * nl := by omega
      rw [he]
      clear h ha hb hk hN he he0 hxo hx hnl ht
      go_enter Try.func22, Try.ntmps22
      go_wp2_with (first
        | (go_at_call 38; refine (having_yes _ N lb mb n L HH.out.1 _ _ _ HH.out.2.1 HH.out.2.2.1 HH.out.2.2.2.1).mono ?_; rintro e w1 ⟨ad, X, m, rfl, HX, hqm, hm5⟩; obtain ⟨b0, o0, rfl, y0, y1, y2, y3⟩ := HX.out.1.cells4 q (by rw [HX.out.2.2.2]; exact hqm); obtain ⟨y, hy⟩ : ∃ y, y = X[q]'(by rw [HX.out.2.2.2]; exact hqm) := ⟨_, rfl⟩; have HY : Hid (X[q]? = some y ∧ y.x = x) := cor_y HX.out.2.1 HX0.out hy; rw [← hy, HY.out.2, HNL.out] at y3; clear y0 y1 y2 hy)
        | (go_at_call 44; refine (within_v _ _ _ _ H1.out _).mono ?_; rintro e w' ⟨rfl, rfl⟩)
        | (go_at_call 45; refine (turned_any _ N _ X m q z HX.out.1 HX.out.2.2.2 hqm hm5 (fun k hk => Nat.lt_of_lt_of_le (HH.out.2.2.2.2 k hk) HX.out.2.2.1.size) y HY.out.1 (by rw [HY.out.2, HNL.out]; exact hz8) (by rw [HY.out.2, HNL.out]; exact hb2)).mono ?_; rintro e w2 ⟨a2, c2, g2, c3, rfl, HF⟩)
        | (go_at_call 39; refine (put_at _ N lb mb n L (turnF (pf a b) z q L) _ _ _ _ _ _ (by rw [List.length_set, HX.out.2.2.2]) (HH.out.1.later (below_of HX.out.2.2.1 HF.out.2.2.2)) hn HH.out.2.1 HH.out.2.2.1 HF.out.1 HF.out.2.1 HF.out.2.2.1 (by rw [turnF_filter a b z q L x HX0.out, List.map_set, HX.out.2.1, HY.out.2]; rfl) (fun c d hcd => turnF_other a b c d z hcd _ _) (fun u hu => by obtain ⟨v, hv, he⟩ := turnF_mem _ _ _ _ _ hu; rcases he with rfl | rfl; exact HH.out.1.ok _ hv; exact (HH.out.1.ok _ hv).turn z) (by rw [turnF_len]; exact HH.out.1.len)).mono ?_; rintro e w3 ⟨rfl, HL⟩))
      go_ret
      exact ⟨rfl, by rw [HL0.out]; exact HL.out.1, (Off.of_below (S := fun k => k = mb) (below_of HX.out.2.2.1 HF.out.2.2.2)).trans HL.out.2 (fun _ _ e => e)⟩
    · rw [if_neg ht] at he
      have HL0 : Hid (corL L a b (q : Int) t = L) := by show _ = _; unfold corL; rw [he]; rfl
      have H1 : Hid (decide (0 ≤ t ∧ t ≤ 8 * (nl : Int) - 1) = false) := by show _ = _; rw [decide_eq_false_iff_not]; exact ht
      rw [he]
      clear h ha hb hk hN he he0 hxo hx hnl ht
      go_enter Try.func22, Try.ntmps22
      go_wp2_with (first
        | (go_at_call 38; refine (having_yes _ N lb mb n L HH.out.1 _ _ _ HH.out.2.1 HH.out.2.2.1 HH.out.2.2.2.1).mono ?_; rintro e w1 ⟨ad, X, m, rfl, HX, hqm, hm5⟩; obtain ⟨b0, o0, rfl, y0, y1, y2, y3⟩ := HX.out.1.cells4 q (by rw [HX.out.2.2.2]; exact hqm); obtain ⟨y, hy⟩ : ∃ y, y = X[q]'(by rw [HX.out.2.2.2]; exact hqm) := ⟨_, rfl⟩; have HY : Hid (X[q]? = some y ∧ y.x = x) := cor_y HX.out.2.1 HX0.out hy; rw [← hy, HY.out.2, HNL.out] at y3; clear y0 y1 y2 hy)
        | (go_at_call 44; refine (within_v _ _ _ _ H1.out _).mono ?_; rintro e w' ⟨rfl, rfl⟩))
      go_ret
      exact ⟨rfl, by rw [HL0.out]; exact (HH.out.1.later HX.out.2.2.1).mono (Nat.le_succ n), Off.of_below HX.out.2.2.1⟩
  · have he0 : hasE L a b k = 4 := by unfold hasE; rw [if_neg hk]
    have he : corE L a b k t = 4 := by unfold corE; rw [he0]; rfl
    have hl : corL L a b k t = L := by unfold corL; rw [he]; rfl
    rw [he, hl]
    have HH : Hid (Calls Try.prog 38 #[.pointer (some ⟨lb, 0, none⟩), .agg #[.int .i64 a, .int .i64 b], .int .i64 k] w fun e w' => e = .returned (.tuple #[.slice none 0 0, .int .i64 4]) ∧ Hid (Below w.heap.size w w')) := having_no w N lb mb n L h a b k ha hb hk
    have HK : Hid (Lk N w lb mb n L) := h
    clear h ha hb hk hN he hl he0
    go_enter Try.func22, Try.ntmps22
    go_wp2_with (go_at_call 38; refine HH.out.mono ?_; rintro e w1 ⟨rfl, hq⟩)
    go_ret
    exact ⟨rfl, (HK.out.later hq.out).mono (Nat.le_succ n), Off.of_below hq.out⟩
end Go.Proofs.Ytopfpdkknfjgoaa
