/- The walk of cbor.read: lists. -/
import Derived.Test.YtjfmgokpnpmdpaaDoorCRead
namespace Go.Proofs.YtjfmgokpnpmdpaaDoor
open Go.RowKit
set_option linter.unusedVariables false
attribute [local go_sem] jump_ret jump_normal jump_exit jump_panic jump_goto

/-- what a list comes to, when so many of its Items have been read. -/
def joinL (X : List T) (R : Int × List T × List Nat) : Int × List T × List Nat := if R.1 = 0 then (0, X ++ R.2.1, R.2.2) else (R.1, [], [])
theorem joinL_step (f : List Nat → Int × T × List Nat) (X : List T) (n : Nat) (r : List Nat) (h : (f r).1 = 0) : joinL X (decL f (n + 1) r) = joinL (X ++ [(f r).2.1]) (decL f n (f r).2.2) := by
  unfold joinL
  rw [decL, if_pos h]
  by_cases h2 : (decL f n (f r).2.2).1 = 0
  · simp only [h2, if_true, List.append_assoc, List.cons_append, List.nil_append]
  · simp only [h2, if_false]
theorem joinL_no (f : List Nat → Int × T × List Nat) (X : List T) (n : Nat) (r : List Nat) (h : ¬ (f r).1 = 0) : joinL X (decL f (n + 1) r) = ((f r).1, [], []) := by
  unfold joinL
  rw [decL, if_neg h]
  simp only [h, if_false]

theorem dec_code (V : List Nat → Bool) : ∀ (m : Nat) (r : List Nat), (dec V m r).1 = 0 ∨ (dec V m r).1 = 7 ∨ (dec V m r).1 = 170
  | _, [] => by simp [dec]
  | 0, b :: r => by simp [dec]
  | m + 1, b :: r => by
    have hl : ∀ n r, (decL (dec V m) n r).1 = 0 ∨ (decL (dec V m) n r).1 = 7 ∨ (decL (dec V m) n r).1 = 170 := by
      intro n
      induction n with
      | zero => intro r; simp [decL]
      | succ n ih =>
        intro r
        rw [decL]
        split
        · split
          · simp
          · exact ih _
        · exact dec_code V m r
    rw [dec]
    split
    · simp
    split
    · unfold decB
      split
      · simp
      split
      · split
        · simp
        · exact hl _ _
      split
      · simp
      split
      · simp
      · simp
    · exact rn_code _ _ _

theorem Loc.sety {w : World} {b : Nat} {v0 v1 v2 v3 : Value} (h : Loc w b v0 v1 v2 v3) (u0 u1 u2 u3 : Value) : Loc ((((w.setCell ⟨b + 1 + 1, 0, none⟩ u0).setCell ⟨b + 1 + 1, 1, none⟩ u1).setCell ⟨b + 1 + 1, 2, none⟩ u2).setCell ⟨b + 1 + 1, 3, none⟩ u3) b v0 v1 v2 v3 ∧ ((((w.setCell ⟨b + 1 + 1, 0, none⟩ u0).setCell ⟨b + 1 + 1, 1, none⟩ u1).setCell ⟨b + 1 + 1, 2, none⟩ u2).setCell ⟨b + 1 + 1, 3, none⟩ u3).heap[b + 1 + 1]? = some (.cells #[u0, u1, u2, u3] 52 (0, 0)) ∧ Off (fun k => k = b + 1 + 1) w ((((w.setCell ⟨b + 1 + 1, 0, none⟩ u0).setCell ⟨b + 1 + 1, 1, none⟩ u1).setCell ⟨b + 1 + 1, 2, none⟩ u2).setCell ⟨b + 1 + 1, 3, none⟩ u3) := by
  obtain ⟨y0, y1, y2, y3, hy⟩ := h.y
  obtain ⟨h1, h2⟩ := set4 hy u0 u1 u2 u3
  exact ⟨⟨h2.at h.a (by omega), h2.at h.x (by omega), ⟨_, _, _, _, h1⟩⟩, h1, h2⟩

/-- what stands while a list is read: its Items so far in a row of the call's own. -/
structure Gat (w wr : World) (p q : Nat) (l : List Nat) (m at4 : Nat) (v : Value) (X : List IX) : Prop where
  loc : Loc wr w.heap.size (.int .i64 4) (.int .u64 0) (.slice none 0 0) v
  own : wr.ownsRow (w.heap.size + 1 + 1 + 1) 52 4 v X.length (icells X)
  items : ∀ y ∈ X, Lie (fun k => k < w.heap.size + 1 + 1 + 1 ∨ v.ownBlock = some k) wr m y.a1 y.x y.a2 ∧ (bs y.x).length ≤ y.c1
  rd : Rd wr p q l at4 0
  off : Off (fun k => k = p) w wr

theorem Gat.size {w wr : World} {p q : Nat} {l : List Nat} {m at4 : Nat} {v : Value} {X : List IX} (h : Gat w wr p q l m at4 v X) : w.heap.size + 1 + 1 < wr.heap.size := by
  obtain ⟨_, _, _, _, hy⟩ := h.loc.y
  exact (Array.getElem?_eq_some_iff.1 hy).1
/-- the world with the item y stored. -/
abbrev ySet (w5 : World) (b : Nat) (x : T) (b1 : Option Addr) (d1 : Nat) (b2 : Option Addr) (d2 : Nat) : World := (((w5.setCell ⟨b + 1 + 1, 0, none⟩ (.int .i64 (kd x))).setCell ⟨b + 1 + 1, 1, none⟩ (.int .u64 (nm x))).setCell ⟨b + 1 + 1, 2, none⟩ (.slice b1 (bs x).length d1)).setCell ⟨b + 1 + 1, 3, none⟩ (.slice b2 (its x).length d2)
theorem Gat.mid {w wr w5 : World} {p q : Nat} {l : List Nat} {m at4 : Nat} {v : Value} {X : List IX} (h : Gat w wr p q l m at4 v X) (h5 : Off (fun k => k = p) wr w5) (hp : p < w.heap.size) (x : T) (b1 b2 : Option Addr) (d1 d2 : Nat) (Z : Obj) :
    Off (fun k => k < w.heap.size + 1 + 1 + 1) wr ((ySet w5 w.heap.size x b1 d1 b2 d2).alloc Z) ∧ Loc ((ySet w5 w.heap.size x b1 d1 b2 d2).alloc Z) w.heap.size (.int .i64 4) (.int .u64 0) (.slice none 0 0) v ∧ ((ySet w5 w.heap.size x b1 d1 b2 d2).alloc Z).ownsRow (w.heap.size + 1 + 1 + 1) 52 4 v X.length (icells X) := by
  have hsz := h.size
  have hL5 := h.loc.off h5 (by omega) (by omega) (by omega)
  obtain ⟨s1, s2, s3⟩ := hL5.sety (.int .i64 (kd x)) (.int .u64 (nm x)) (.slice b1 (bs x).length d1) (.slice b2 (its x).length d2)
  have ho : Off (fun k => k < w.heap.size + 1 + 1 + 1) wr ((ySet w5 w.heap.size x b1 d1 b2 d2).alloc Z) :=
    ((h5.mono (T := fun k => k < w.heap.size + 1 + 1 + 1) (fun i _ e => by omega)).trans (s3.mono (T := fun k => k < w.heap.size + 1 + 1 + 1) (fun i _ e => by omega)) (fun _ _ t => t)).alloc Z
  exact ⟨ho, s1.off (S := fun _ => False) ((Off.refl _ _).alloc Z) id id id, ho.owns h.own (fun g hg t => by have := own_ge h.own g hg; omega)⟩
/-- an item more. -/
theorem Gat.push {w wr w5 w7 : World} {p q : Nat} {l : List Nat} {m at4 at5 : Nat} {v v' : Value} {X : List IX} (h : Gat w wr p q l m at4 v X) (h5 : Off (fun k => k = p) wr w5) (hrd : Rd w5 p q l at5 0) (hp : p < w.heap.size ∧ q < w.heap.size) (x : T) (b1 b2 : Option Addr) (d1 d2 : Nat) (Z : Obj) (hy : Lie (fun k => k < wr.heap.size) w5 m b1 x b2) (hyc : (bs x).length ≤ d1)
    (ho7 : w7.ownsRow (w.heap.size + 1 + 1 + 1) 52 4 v' (X ++ [IX.mk x b1 d1 b2 d2]).length (icells (X ++ [IX.mk x b1 d1 b2 d2]))) (hg7 : Grew ((ySet w5 w.heap.size x b1 d1 b2 d2).alloc Z) w7 v v') : Gat w (w7.setCell ⟨w.heap.size + 1, 3, none⟩ v') p q l m at5 v' (X ++ [IX.mk x b1 d1 b2 d2]) := by
  have hsz := h.size
  obtain ⟨ho, hl, hown⟩ := h.mid h5 hp.1 x b1 b2 d1 d2 Z
  have hge := own_ge h.own
  have hge7 := own_ge ho7
  have hL7 := hl.off hg7.off (fun e => by have := hge _ e; omega) (fun e => by have := hge _ e; omega) (fun e => by have := hge _ e; omega)
  have hL8 := hL7.setx 3 v' (by omega)
  simp only [if_true, Nat.reduceEqDiff, if_false] at hL8
  have hset := off_set w7 (w.heap.size + 1) 3 v'
  have hL5 := h.loc.off h5 (by omega) (by omega) (by omega)
  obtain ⟨s1, s2, s3⟩ := hL5.sety (.int .i64 (kd x)) (.int .u64 (nm x)) (.slice b1 (bs x).length d1) (.slice b2 (its x).length d2)
  have hbig : ∀ (a1 : Option Addr) (z : T) (a2 : Option Addr), Lie (fun k => k < w.heap.size + 1 + 1 + 1 ∨ v.ownBlock = some k) ((ySet w5 w.heap.size x b1 d1 b2 d2).alloc Z) m a1 z a2 → Lie (fun k => k < w.heap.size + 1 + 1 + 1 ∨ v'.ownBlock = some k) (w7.setCell ⟨w.heap.size + 1, 3, none⟩ v') m a1 z a2 := by
    intro a1 z a2 hz
    have q1 : Lie (fun k => (k < w.heap.size + 1 + 1 + 1 ∨ v.ownBlock = some k) ∨ v'.ownBlock = some k) ((ySet w5 w.heap.size x b1 d1 b2 d2).alloc Z) m a1 z a2 := Lie.apart (fun k hk e => e.elim id (fun e => (hg7.new k e).elim .inr (fun hg => by omega))) m hz
    have q2 := Lie.off hg7.off (fun k e => .inl (.inr e)) m q1
    have q3 : Lie (fun k => k < w.heap.size + 1 + 1 + 1 ∨ v'.ownBlock = some k) w7 m a1 z a2 := Lie.apart (fun k _ e => e.elim (fun e => .inl (.inl e)) .inr) m q2
    exact Lie.off hset (fun k e => .inl (by omega)) m q3
  refine ⟨hL8, hset.owns ho7 (fun g hg e => by have := hge7 g hg; omega), ?_, ?_, ?_⟩
  · intro y hy'
    rcases List.mem_append.1 hy' with hy' | hy'
    · exact ⟨hbig _ _ _ (Lie.off ho (fun k e => .inl e) m (h.items y hy').1), (h.items y hy').2⟩
    · rw [List.mem_singleton.1 hy']
      have q0 : Lie (fun k => k < wr.heap.size) ((ySet w5 w.heap.size x b1 d1 b2 d2).alloc Z) m b1 x b2 := Lie.off (S := fun _ => False) ((Off.refl _ _).alloc Z) (fun _ e => e.elim) m (Lie.off s3 (fun k e => by omega) m hy)
      exact ⟨hbig _ _ _ (Lie.apart (fun k _ e => e.elim (fun e => by omega) (fun e => (h.own.lt k e).2)) m q0), hyc⟩
  · exact (((hrd.off s3 (by omega) (by omega)).later ((Below.refl _ _).alloc (Nat.le_refl _) Z)).off hg7.off (fun e => by have := hge _ e; omega) (fun e => by have := hge _ e; omega)).off hset (by omega) (by omega)
  · have o1 : Off (fun k => k = p) w ((ySet w5 w.heap.size x b1 d1 b2 d2).alloc Z) := (off_put (h.off.trans h5 (fun _ _ t => t)) s3 (by omega)).alloc Z
    have o2 : Off (fun k => k = p) w w7 := o1.trans hg7.off (fun i hi e => by have := hge i e; omega)
    exact off_put o2 hset (by omega)

set_option maxRecDepth 20000 in
set_option maxHeartbeats 4000000 in
theorem read_list (V : List Nat → Bool) (TB : World → Prop) (hT : Txt V TB) (M m : Nat) (hM : M = m + 1) (hs : ReadOk V TB m) (w : World) (p q : Nat) (l : List Nat) (at_ k : Nat) (hk : k + (m + 1) = 4) (hR : Rd w p q l at_ 0) (hw : TB w) (hp1 : 1 < p) (hz : l.length ≤ 140737488000000) (ha : at_ < l.length) (ht : l[at_] / 32 = 4) (h1 : (rn (l[at_] % 32) 64 (l.drop (at_ + 1))).1 = 0) :
    Calls Tryd.prog 68 #[.pointer (some ⟨p, 0, none⟩), .int .i64 k] w fun e w' => ItR p q l M (dec V M (l.drop at_)) w e w' := by
  obtain ⟨D, hD⟩ : ∃ D, rn (l[at_] % 32) 64 (l.drop (at_ + 1)) = D := ⟨_, rfl⟩
  rw [hD] at h1
  have HF : Hid (dec V M (l.drop at_) = if (decL (dec V m) D.2.1 D.2.2).1 = 0 then (0, mkI 4 0 [] (decL (dec V m) D.2.1 D.2.2).2.1, (decL (dec V m) D.2.1 D.2.2).2.2) else ((decL (dec V m) D.2.1 D.2.2).1, .nil, [])) := by
    show _ = _
    rw [hM, List.drop_eq_getElem_cons ha, dec, ht, if_neg (by decide), show limN (kindN 4) = 64 from rfl, hD, if_pos h1, show kindN 4 = 4 from rfl, decB, if_neg (by omega), if_pos rfl]
  obtain ⟨_, hN, hN64⟩ := hd_of (b := l[at_]) (r := l.drop (at_ + 1)) (g := 64) (N := D.2.1) (r2 := D.2.2) (fun x hx => hR.all.byte x (List.mem_of_mem_drop hx)) (by omega) (by rw [hD, ← h1])
  have H1 : Hid (D.1 = 0) := h1
  have hdd : decide (D.1 = 0) = true := decide_eq_true h1
  generalize dec V M (l.drop at_) = C at HF ⊢
  have HTW : Hid (∀ w1, Off (fun k => k = p) w w1 → TB w1) := fun w1 ho => hT.off _ w w1 hw ho (by omega) (by omega)
  have HSO : Hid (∀ w1 at4, Off (fun k => k = p) w w1 → Rd w1 p q l at4 0 → Calls Tryd.prog 68 #[.pointer (some ⟨p, 0, none⟩), .int .i64 ((k : Int) + 1)] w1 fun e w' => ItR p q l m (dec V m (l.drop at4)) w1 e w') := fun w1 at4 ho hr => hs w1 p q l at4 (k + 1) (by omega) (HTW.out w1 ho) hr hp1 hz
  clear hT hw hs
  have hk4' : k < 4 := by omega
  have hb : l[at_] < 256 := hR.all.byte _ (List.getElem_mem ha)
  have HU : Hid (∀ w1, Below w.heap.size w w1 → Calls Tryd.prog 77 #[.pointer (some ⟨p, 0, none⟩)] w1 fun e w' => e = .returned (.int .u8 (l[at_] : Nat)) ∧ Hid (Rd w' p q l (at_ + 1) 0 ∧ Off (fun k => k = p) w1 w')) := fun w1 hb => u8_more w1 p q l at_ (hR.later hb) (by omega) ha
  have HB : Hid (∀ X Y Z : Obj, Below w.heap.size w (((w.alloc X).alloc Y).alloc Z)) := fun X Y Z => (((Below.refl _ w).alloc (Nat.le_refl _) X).alloc (by simp) Y).alloc (by simp; omega) Z
  have hp := hR.lt
  clear hR
  have HK : Hid (∀ w, Calls Tryd.prog 78 #[.int .u8 ((l[at_] : Int) / 32)] w fun e w' => e = .returned (.tuple #[.int .i64 4, .bool true]) ∧ w = w') := fun w => by
    have := kindOf_any w (l[at_] / 32) (by omega)
    rw [ht] at this
    rw [show ((l[at_] : Int) / 32) = ((l[at_] / 32 : Nat) : Int) by omega, ht]
    exact this
  have hand := and31 l[at_] hb
  have HLm : Hid (∀ w, Calls Tryd.prog 80 #[.int .i64 4] w fun e w' => e = .returned (.int .u64 64) ∧ w = w') := fun w => limit_any w 4 (by omega)
  have HRN : Hid (∀ w, Rd w p q l (at_ + 1) 0 → Calls Tryd.prog 79 #[.pointer (some ⟨p, 0, none⟩), .int .u8 (l[at_] % 32 : Nat), .int .u64 64] w fun e w' => NumR p q l D w e w') := fun w hr => by rw [← hD]; exact readNumber_any w p q l (at_ + 1) _ 64 hr (by omega) (by omega) (by omega)
  clear h1 hD ht
  generalize l[at_] % 32 = E at HRN hand
  generalize l[at_] = b at HU hb HK hand
  have hk4 : ((k : Int) == 4) = false := beq_eq_false_iff_ne.2 (by omega)
  generalize hN2 : D.2.1 = N at *
  have hN3 : ((D.2.1 : Nat) : Int) = (N : Int) := by rw [hN2]
  clear hN2
  go_enter Tryd.func68, Tryd.ntmps68
  go_wp2
  refine wp_scope_once 0 rfl ?_
  go_wp2_with (first | (go_at_call 77; refine (HU.out _ (HB.out _ _ _)).mono ?_; rintro e w1 ⟨rfl, hq⟩; have HEr := err_any w1 p q l _ 0 hq.out.1; have HL := (Loc.new w).off hq.out.2 (by omega) (by omega) (by omega); obtain ⟨⟨z0, z1, z2, z3⟩, ⟨x0, x1, x2, x3⟩, fz, fx, hlt⟩ := HL.reads) | (go_at_call 70; refine HEr.mono ?_; rintro e w2 ⟨rfl, rfl⟩) | (go_at_call 78; refine (HK.out _).mono ?_; rintro e w2 ⟨rfl, rfl⟩) | (go_at_call 80; refine (HLm.out _).mono ?_; rintro e w2 ⟨rfl, rfl⟩) | (go_at_call 79; refine (HRN.out _ (hq.out.1.off (off_set w1 (w.heap.size + 1) 0 _) (by omega) (by omega))).mono ?_; rintro e w3 ⟨at3, er3, rfl, hn⟩; have HL3 := (HL.setx 0 (.int .i64 4) (by omega)).off hn.out.2.1 (by omega) (by omega) (by omega); simp only [if_true, Nat.reduceEqDiff, if_false] at HL3; obtain ⟨⟨z0, z1, z2, z3⟩, ⟨x0, x1, x2, x3⟩, fz, fx, hlt⟩ := HL3.reads; obtain ⟨her, hdr⟩ := hn.out.2.2.1 H1.out; subst her; have HDR : Hid (l.drop at3 = D.2.2) := hdr; clear hdr))
  have HG3 : Hid (Gat w w3 p q l m at3 (.slice none 0 0) []) := ⟨HL3, World.ownsRow_nil _ _ _ _, by simp, hn.out.1, (off_put (off_allocs (HB.out _ _ _) hq.out.2) (off_set w1 (w.heap.size + 1) 0 _) (by omega)).trans hn.out.2.1 (fun _ _ t => t)⟩
  clear x0 x1 x2 x3 z0 z1 z2 z3 fz fx HEr
  obtain ⟨CL, hCL⟩ : ∃ CL, decL (dec V m) N D.2.2 = CL := ⟨_, rfl⟩
  rw [hCL] at HF
  have HCL : Hid (joinL [] (decL (dec V m) N (l.drop at3)) = CL) := by
    show _ = _
    rw [HDR.out, hCL]
    unfold joinL
    have hcode : ∀ n r, ¬ (decL (dec V m) n r).1 = 0 → (decL (dec V m) n r).2 = ([], []) := by
      intro n
      induction n with
      | zero => intro r h; simp [decL] at h
      | succ n ih =>
        intro r h
        rw [decL] at h ⊢
        by_cases c1 : (dec V m r).1 = 0
        · simp only [c1, if_true] at h ⊢
          by_cases c2 : (decL (dec V m) n (dec V m r).2.2).1 = 0
          · simp [c2] at h
          · simp [c2]
        · simp [c1]
    split
    · rename_i h0; rw [← h0]; simp
    · rename_i h0
      rw [← hCL] at h0 ⊢
      have := hcode _ _ h0
      rw [← this]
  clear hCL HDR
  go_loopw [72] (fun i wr => ∃ (j at4 : Nat) (v : Value) (X : List IX), j ≤ N ∧ i = .int .u64 j ∧ Hid (X.length = j ∧ Gat w wr p q l m at4 v X ∧ joinL (X.map IX.x) (decL (dec V m) (N - j) (l.drop at4)) = CL)) (fun i _ => N - (intOf i).toNat)
  case atStart => exact ⟨0, at3, _, [], Nat.zero_le _, rfl, rfl, HG3.out, HCL.out⟩
  case round =>
    obtain ⟨j, at4, v, X, hj, rfl, HG⟩ := hrel
    have hlw := HG.out.2.1.off.size
    by_cases hjN : j < N
    · obtain ⟨⟨z0, z1, z2, z3⟩, ⟨x0, x1, x2, x3⟩, fz, fx, hlt⟩ := HG.out.2.1.loc.reads
      have HRD : Hid (Calls Tryd.prog 68 #[.pointer (some ⟨p, 0, none⟩), .int .i64 ((k : Int) + 1)] wr fun e w' => ItR p q l m (dec V m (l.drop at4)) wr e w') := HSO.out wr at4 HG.out.2.1.off HG.out.2.1.rd
      obtain ⟨Y, hY⟩ : ∃ Y, dec V m (l.drop at4) = Y := ⟨_, rfl⟩
      have HYC := dec_code V m (l.drop at4)
      rw [hY] at HRD HYC
      have HYH : Hid (Y.1 = 0 ∨ Y.1 = 7 ∨ Y.1 = 170) := HYC
      clear HYC
      have hsz := HG.out.2.1.size
      by_cases hy0 : Y.1 = 0
      · have hdd2 : decide (Y.1 = 0) = true := decide_eq_true hy0
        have HY0 : Hid (Y.1 = 0) := hy0
        have HJ : Hid (joinL (X.map IX.x ++ [Y.2.1]) (decL (dec V m) (N - (j + 1)) Y.2.2) = CL) := by
          show _ = _
          rw [← HG.out.2.2, show N - j = (N - (j + 1)) + 1 by omega, joinL_step (dec V m) _ _ _ (by rw [hY]; exact hy0), hY]
        have hXl : X.length ≤ 64 := by have := HG.out.1; omega
        clear hy0
        go_wp2_with (first | (go_at_call 68; refine HRD.out.mono ?_; rintro e w5 ⟨b1, d1, b2, d2, at5, er5, rfl, hyy⟩; have HL5 := HG.out.2.1.loc.off hyy.out.2.1 (by omega) (by omega) (by omega); obtain ⟨⟨z0, z1, z2, z3⟩, ⟨x0, x1, x2, x3⟩, fz, fx, hlt⟩ := HL5.reads; obtain ⟨y0, y1, y2, y3, hy5⟩ := HL5.y; have yc0 := cell_of hy5 0; have yc1 := cell_of hy5 1; have yc2 := cell_of hy5 2; have yc3 := cell_of hy5 3; simp at yc0 yc1 yc2 yc3; have fy := frozen_of hy5; clear hy5; have HMID : Hid (∀ Z, _) := (fun Z => HG.out.2.1.mid hyy.out.2.1 hp.1 Y.2.1 b1 b2 d1 d2 Z); have HSRC : Hid (∀ W : World, W.heap.size = w5.heap.size → ∀ j u, (icells [IX.mk Y.2.1 b1 d1 b2 d2])[j]? = some u → (W.alloc (ic Y.2.1 b1 d1 b2 d2)).cell? ((⟨w5.heap.size, 0, none⟩ : Addr).add j) = some u) := (fun W hW => by rw [← hW]; exact item_src (IX.mk Y.2.1 b1 d1 b2 d2))) | (at_builtin; go_must (refine wpList_append_item rfl _ _ rfl (w.heap.size + 1 + 1 + 1) v X rfl (HMID.out _).2.2 _ _ (IX.mk Y.2.1 b1 d1 b2 d2) rfl (HSRC.out _ (by simp)) (by omega) (by have := hyy.out.2.1.size; simp; omega) ?_); intro v' w7 ho7 hg7 hf7; obtain ⟨g7, c7, rfl⟩ := hf7; have HL7 := (HMID.out _).2.1.off hg7.off (fun e => by have := own_ge HG.out.2.1.own _ e; omega) (fun e => by have := own_ge HG.out.2.1.own _ e; omega) (fun e => by have := own_ge HG.out.2.1.own _ e; omega); obtain ⟨_, ⟨x70, x71, x72, x73⟩, fz7, fx7, hlt7⟩ := HL7.reads))
        have hyc := hyy.out.2.2.1 HY0.out
        have her := hyc.1
        subst her
        have HP := HG.out.2.1.push hyy.out.2.1 hyy.out.1 hp Y.2.1 b1 b2 d1 d2 _ hyc.2.2.1 hyc.2.2.2 ho7 hg7
        go_roundw
        case rel =>
          refine ⟨j + 1, at5, _, X ++ [IX.mk Y.2.1 b1 d1 b2 d2], by omega, by go_num, by rw [List.length_append, HG.out.1]; rfl, HP, ?_⟩
          rw [List.map_append, hyc.2.1]
          exact HJ.out
        case measure => simp [intOf]; omega
      · have hdd2 : decide (Y.1 = 0) = false := decide_eq_false hy0
        have HY0 : Hid (¬ Y.1 = 0) := hy0
        have HJ : Hid (C = (Y.1, .nil, [])) := by
          show _ = _
          have : CL = (Y.1, [], []) := by rw [← HG.out.2.2, show N - j = (N - (j + 1)) + 1 by omega, joinL_no (dec V m) _ _ _ (by rw [hY]; exact hy0), hY]
          rw [HF.out, this, if_neg hy0]
        clear hy0
        go_wp2_with ((go_at_call 68; refine HRD.out.mono ?_; rintro e w5 ⟨b1, d1, b2, d2, at5, er5, rfl, hyy⟩; have HL5 := HG.out.2.1.loc.off hyy.out.2.1 (by omega) (by omega) (by omega); obtain ⟨⟨z0, z1, z2, z3⟩, ⟨x0, x1, x2, x3⟩, fz, fx, hlt⟩ := HL5.reads; obtain ⟨y0, y1, y2, y3, hy5⟩ := HL5.y; have yc0 := cell_of hy5 0; have yc1 := cell_of hy5 1; have yc2 := cell_of hy5 2; have yc3 := cell_of hy5 3; simp at yc0 yc1 yc2 yc3; have fy := frozen_of hy5; clear hy5; have HL6 := HL5.sety (.int .i64 (kd Y.2.1)) (.int .u64 (nm Y.2.1)) (.slice b1 (bs Y.2.1).length d1) (.slice b2 (its Y.2.1).length d2)))
        generalize hW6 : (((w5.setCell ⟨w.heap.size + 1 + 1, 0, none⟩ (.int .i64 (kd Y.2.1))).setCell ⟨w.heap.size + 1 + 1, 1, none⟩ (.int .u64 (nm Y.2.1))).setCell ⟨w.heap.size + 1 + 1, 2, none⟩ (.slice b1 (bs Y.2.1).length d1)).setCell ⟨w.heap.size + 1 + 1, 3, none⟩ (.slice b2 (its Y.2.1).length d2) = w6 at HL6 ⊢
        clear hW6
        obtain ⟨⟨z0, z1, z2, z3⟩, ⟨x0, x1, x2, x3⟩, fz, fx, hlt⟩ := HL6.1.reads
        go_step3
        show _ ∧ Code.wp _ _ _ _ _
        refine ⟨rfl, ?_⟩
        go_wp2
        try rw [jump_ret]
        have hs := set4 HL6.1.a (.int .i64 0) (.int .u64 0) (.slice none 0 0) (.slice none 0 0)
        generalize ((((w6.setCell ⟨w.heap.size, 0, none⟩ (.int .i64 0)).setCell ⟨w.heap.size, 1, none⟩ (.int .u64 0)).setCell ⟨w.heap.size, 2, none⟩ (.slice none 0 0)).setCell ⟨w.heap.size, 3, none⟩ (.slice none 0 0)) = W at hs ⊢
        have r0 := cell_of hs.1 0
        have r1 := cell_of hs.1 1
        have r2 := cell_of hs.1 2
        have r3 := cell_of hs.1 3
        simp at r0 r1 r2 r3
        refine bodyPost_ret (v := .tuple #[iv .nil none 0 none 0, .bool false]) (by simp [results, Tryd.results68, go_sem, r0, r1, r2, r3, kd, nm, bs, its]) rfl ?_
        have hc : C.1 = Y.1 ∧ C.2.1 = .nil := by rw [HJ.out]; exact ⟨rfl, rfl⟩
        have hdc : decide (C.1 = 0) = false := by rw [hc.1]; exact hdd2
        exact ⟨none, 0, none, 0, at5, er5, by rw [hdc, hc.2], (hyy.out.1.off HL6.2.2 (by omega) (by omega)).off hs.2 (by omega) (by omega), off_put (off_put (HG.out.2.1.off.trans hyy.out.2.1 (fun _ _ t => t)) HL6.2.2 (by omega)) hs.2 (Nat.le_refl _), fun h => absurd (hc.1 ▸ h) HY0.out, fun h => hyy.out.2.2.2.1 (hc.1 ▸ h), fun h => hyy.out.2.2.2.2.1 (hc.1 ▸ h), fun _ => ⟨hc.2, rfl, rfl, rfl, rfl⟩⟩
    · obtain rfl : j = N := by omega
      obtain ⟨⟨z0, z1, z2, z3⟩, ⟨x0, x1, x2, x3⟩, fz, fx, hlt⟩ := HG.out.2.1.loc.reads
      obtain ⟨va, vc, rfl, hvc, hvm⟩ := own_form HG.out.2.1.own
      have HJ : Hid (C = (0, mkI 4 0 [] (X.map IX.x), l.drop at4)) := by
        show _ = _
        have : CL = (0, X.map IX.x, l.drop at4) := by rw [← HG.out.2.2, Nat.sub_self, decL, joinL]; simp
        rw [HF.out, this, if_pos rfl]
      go_wp2
      try rw [jump_ret]
      have hs := set4 HG.out.2.1.loc.a (.int .i64 4) (.int .u64 0) (.slice none 0 0) (.slice va X.length vc)
      generalize ((((wr.setCell ⟨w.heap.size, 0, none⟩ (.int .i64 4)).setCell ⟨w.heap.size, 1, none⟩ (.int .u64 0)).setCell ⟨w.heap.size, 2, none⟩ (.slice none 0 0)).setCell ⟨w.heap.size, 3, none⟩ (.slice va X.length vc)) = W at hs ⊢
      have r0 := cell_of hs.1 0
      have r1 := cell_of hs.1 1
      have r2 := cell_of hs.1 2
      have r3 := cell_of hs.1 3
      simp at r0 r1 r2 r3
      have hl : (X.map IX.x).length = X.length := by simp
      refine bodyPost_ret (v := .tuple #[iv (mkI 4 0 [] (X.map IX.x)) none 0 va vc, .bool true]) (by simp [results, Tryd.results68, go_sem, r0, r1, r2, r3, kd_mk, nm_mk, bs_mk, its_mk]) rfl ?_
      rw [HJ.out]
      have hge := own_ge HG.out.2.1.own
      refine ⟨none, 0, va, vc, at4, 0, rfl, HG.out.2.1.rd.off hs.2 (by omega) (by omega), off_put HG.out.2.1.off hs.2 (Nat.le_refl _), fun _ => ⟨rfl, rfl, ?_, Nat.le_refl _⟩, fun h => by simp at h, fun h => by simp at h, fun h => absurd rfl h⟩
      rw [hM]
      have hL : LieL (fun k => k < w.heap.size) W m va (X.map IX.x) := (own_items (hs.2.owns HG.out.2.1.own (fun g hg e => by have := hge g hg; omega)) (fun y hy => ⟨Lie.apart (fun k _ e => .inl (by omega)) m (Lie.off hs.2 (fun k e => .inl (by omega)) m (HG.out.2.1.items y hy).1), (HG.out.2.1.items y hy).2⟩) (by have := HG.out.1; omega) (fun g hg e => by have := hge g hg; omega)).1
      exact ⟨⟨by simp [nm_mk], by simp [kd_mk], by simp [kd_mk], by simp [bs_mk]⟩, row_nil _ _, fun h => absurd h (by simp [bs_mk]), hL⟩

end Go.Proofs.YtjfmgokpnpmdpaaDoor
