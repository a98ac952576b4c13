/- bundle.block, Encode, Size. -/
import Derived.Test.YtjfmgokpnpmdpaaDoorBWalk
import Derived.Test.YtjfmgokpnpmdpaaDoorCMake
import Derived.Test.YtjfmgokpnpmdpaaDoorCPut
namespace Go.Proofs.YtjfmgokpnpmdpaaDoor
open Go.RowKit
set_option linter.unusedVariables false

set_option maxRecDepth 20000 in
set_option maxHeartbeats 1000000 in
/-- Encode of what may be: the bytes are the call's own. -/
theorem encode_own (V : List Nat → Bool) (TB : World → Prop) (hT : Txt V TB) (A : Nat → Prop) (w : World) (n : Nat) (hn : 4 ≤ n) (x : T) (a1 a2 : Option Addr) (c1 c2 : Nat) (hw : TB w) (hx : Lie A w n a1 x a2) (hcp : (bs x).length ≤ c1) (hq : okT V 4 x = true) :
    Calls Tryd.prog 27 #[iv x a1 c1 a2 c2] w fun e w' => ∃ a c, e = .returned (.tuple #[.slice a (enc n x).length c, .int .i64 0]) ∧ Hid (Row w' a (enc n x) ∧ (enc n x).length ≤ c ∧ c ≤ maxLen ∧ w'.ownsRow w.heap.size 5 1 (.slice a (enc n x).length c) (enc n x).length (cells (enc n x)) ∧ Below w.heap.size w w') := by
  have HB : Hid (∀ X : Obj, Below w.heap.size w (w.alloc X)) := fun X => (Below.refl _ w).alloc (Nat.le_refl _) X
  have HM : Hid (∀ X : Obj, Calls Tryd.prog 47 #[iv x a1 c1 a2 c2] (w.alloc X) fun e w' => e = .returned (.int .i64 0) ∧ Hid (Below (w.alloc X).heap.size (w.alloc X) w')) := fun X => by
    have h := check_any V TB hT A _ n x a1 a2 c1 c2 (hT.later _ _ hw (HB.out X)) (hx.later (HB.out X)) hcp
    rw [hq, if_pos rfl] at h
    exact h
  have HX : Hid (Lie A w n a1 x a2) := hx
  clear hx hw hT hcp
  have hlen : (enc n x).length ≤ 140000000 := Nat.le_trans (enc_le 4 n x hq hn) (by decide)
  have HEB : Hid (∀ y ∈ enc n x, y < 256) := enc_byte n x (Lie.fit n HX.out)
  have HP : Hid (∀ w1, Below w.heap.size w w1 → Calls Tryd.prog 48 #[.slice none 0 0, iv x a1 c1 a2 c2] w1 fun e w' => Adds w.heap.size w1 (.slice none 0 0) ([] ++ enc n x) e w') := fun w1 hb => put_any n A w w1 x a1 a2 c1 c2 _ [] HX.out hb (World.ownsRow_nil _ _ _ _) (by simp; omega)
  clear hq
  go_enter Tryd.func27, Tryd.ntmps27
  go_wp2_with (first | (go_at_call 47; refine (HM.out _).mono ?_; rintro e w1 ⟨rfl, hb1⟩; have hbx := hb1.out.block w.heap.size (by simp); rw [heap_alloc_new] at hbx; have e0 := cell_of hbx 0; have e1 := cell_of hbx 1; have e2 := cell_of hbx 2; have e3 := cell_of hbx 3; simp at e0 e1 e2 e3) | (go_at_call 48; refine (HP.out _ (below_of (HB.out _) hb1.out)).mono ?_; rintro e w2 ⟨v2, rfl, hq2⟩))
  rw [List.nil_append] at hq2
  obtain ⟨a, c, rfl, h1, h2, h3⟩ := own_row hq2.out.1 HEB.out (by unfold maxLen; omega)
  go_ret2
  exact ⟨a, c, rfl, h3, h1, h2, hq2.out.1, below_of (below_of (HB.out _) hb1.out) (hq2.out.2.off.below (Nat.le_refl _) (fun i hi => by cases hi))⟩
/-- a number as an item of a row. -/
def ixN (n : Nat) : IX := ⟨mkN n, none, 0, none, 0⟩
theorem ixN_map (l : List Nat) : (l.map ixN).map IX.x = l.map mkN := by rw [List.map_map]; rfl
theorem ixN_take (l : List Nat) (k : Nat) (h : k < l.length) : (l.take (k + 1)).map ixN = (l.take k).map ixN ++ [ixN l[k]] := by
  rw [List.take_succ_eq_append_getElem h, List.map_append]
  rfl
theorem lieN {A : Nat → Prop} {w : World} (m n : Nat) (h : n < 18446744073709551616) : Lie A w (m + 1) none (mkN n) none :=
  Lie.flat 1 n [] m none h (by omega) (by simp) (row_nil w none) (fun h => absurd h (by simp))
set_option maxRecDepth 20000 in
set_option maxHeartbeats 2000000 in
theorem block_any (V : List Nat → Bool) (TB : World → Prop) (hT : Txt V TB) (w : World) (g off c : Nat) (l : List Nat) (hl : l.length ≤ 64) (hc : ∀ i (h : i < l.length), w.cell? ⟨g, off + i, none⟩ = some (.int .u64 (l[i] : Nat)) ∧ l[i] < 18446744073709551616) (hw : TB w) :
    Calls Tryd.prog 26 #[.slice (some ⟨g, off, none⟩) l.length c] w fun e w' => ∃ a' c', e = .returned (.slice a' (enc 4 (numT l)).length c') ∧ Hid (Row w' a' (enc 4 (numT l)) ∧ (enc 4 (numT l)).length ≤ c' ∧ c' ≤ maxLen ∧ Below w.heap.size w w') := by
  have HC : Hid (∀ i (h : i < l.length), w.cell? ⟨g, off + i, none⟩ = some (.int .u64 (l[i] : Nat)) ∧ l[i] < 18446744073709551616) := hc
  have HW : Hid (∀ W, Below w.heap.size w W → TB W) := fun W hb => hT.later _ _ hw hb
  have HOK := okNums V l hl
  have HENC : Hid (∀ W A a2 c2, Below w.heap.size w W → Lie A W 2 none (numT l) a2 → Calls Tryd.prog 27 #[iv (numT l) none 0 a2 c2] W fun e w' => ∃ a c, e = .returned (.tuple #[.slice a (enc 4 (numT l)).length c, .int .i64 0]) ∧ Hid (Row w' a (enc 4 (numT l)) ∧ (enc 4 (numT l)).length ≤ c ∧ c ≤ maxLen ∧ Below W.heap.size W w')) := fun W A a2 c2 hb hx => by
    refine (encode_any V TB hT A W 4 (Nat.le_refl _) (numT l) none a2 0 c2 (HW.out W hb) (hx.le (by omega)) (Nat.zero_le _)).mono ?_
    rintro e w' (⟨_, a, c, rfl, hq⟩ | ⟨hno, _⟩)
    · exact ⟨a, c, rfl, hq.out.1, hq.out.2.1, hq.out.2.2.1, hq.out.2.2.2.2⟩
    · rw [HOK] at hno; cases hno
  clear hc hT hw HOK
  go_enter Tryd.func26, Tryd.ntmps26
  go_wp2
  go_loopw [3, 10] (fun v i wr => ∃ k : Nat, k ≤ l.length ∧ i = .int .i64 k ∧ Hid (wr.ownsRow w.heap.size 52 4 v ((l.take k).map ixN).length (icells ((l.take k).map ixN)) ∧ Below w.heap.size w wr)) (fun _ i _ => l.length - (intOf i).toNat)
  case atStart => exact ⟨0, Nat.zero_le _, rfl, World.ownsRow_nil _ _ _ _, Below.refl _ _⟩
  case round =>
    obtain ⟨k, hk, rfl, HD⟩ := hrel
    by_cases hkl : k < l.length
    · have hcell := cell_later HD.out.2 (HC.out k hkl).1
      have hn := (HC.out k hkl).2
      have HT : Hid ((l.take (k + 1)).map ixN = (l.take k).map ixN ++ [ixN l[k]]) := ixN_take l k hkl
      have HL : Hid (((l.take k).map ixN).length ≤ 64) := by show _ ≤ _; rw [List.length_map, List.length_take]; omega
      have HLK : Hid (((l.take k).map ixN).length = k) := by show _ = _; rw [List.length_map, List.length_take]; omega
      generalize l[k] = n at hcell hn HT
      go_wp2_with (first
        | (go_at_call 31; refine (number_made _ n hn).mono ?_; rintro e w1 ⟨rfl, hb1⟩; have HO1 := (Off.of_below (S := fun _ => False) hb1.out).owns HD.out.1 (fun _ _ => id); have HO : Hid _ := (fun X => ((Off.refl (fun _ => False) w1).alloc X).owns HO1 (fun _ _ => id)); clear HO1)
        | (at_builtin; refine wpList_append_item rfl _ _ rfl w.heap.size _ _ rfl (HO.out _) _ _ (ixN n) rfl (item_src (ixN n)) (by have := HL.out; omega) (by have := HD.out.2.size; have := hb1.out.size; simp; omega) ?_; rintro v' w2 ho2 hg2 ⟨q, c2, rfl⟩))
      have HB2 : Hid (Below w.heap.size w w2) := (below_of (below_of HD.out.2 hb1.out) ((Below.refl _ w1).alloc (Nat.le_refl _) _)).trans (hg2.off.below (by have := HD.out.2.size; have := hb1.out.size; simp; omega) (own_ge (HO.out (.cells #[] 0))))
      clear hg2
      go_roundw
      case rel => exact ⟨k + 1, by omega, by go_num, by rw [HT.out]; rw [HLK.out] at ho2; exact ho2, HB2.out⟩
      case measure => simp [intOf]; omega
    · obtain rfl : k = l.length := by omega
      rw [List.take_length] at HD
      obtain ⟨a3, c3, rfl, hc3, _⟩ := own_form HD.out.1
      rw [List.length_map]
      have HLL : Hid (LieL (fun k => k < w.heap.size) wr 1 a3 (l.map mkN)) := by
        have h1 := (own_items (A := fun k => k < w.heap.size) (m := 1) HD.out.1 (fun y hy => by
          obtain ⟨n, hn, rfl⟩ := List.mem_map.1 hy
          obtain ⟨i, hi, rfl⟩ := List.getElem_of_mem hn
          exact ⟨lieN 0 _ (HC.out i hi).2, by simp [ixN, mkN, bs_mk]⟩) (by rw [List.length_map]; omega) (fun q hq e => absurd (own_ge HD.out.1 q hq) (by omega))).1
        rw [ixN_map] at h1
        exact h1
      have HLM : Hid (Calls Tryd.prog 28 #[.slice a3 l.length c3] wr fun e w' => ∃ a' c', e = .returned (iv (numT l) none 0 a' c') ∧ Hid (Lie (fun k => k < wr.heap.size) w' 2 none (numT l) a' ∧ Below wr.heap.size wr w')) := by
        have := list_made 1 _ wr a3 c3 (l.map mkN) HLL.out
        rw [List.length_map] at this
        exact this
      obtain ⟨x, hx⟩ : ∃ x, numT l = x := ⟨_, rfl⟩
      rw [hx] at HENC HLM
      go_wp2_with (first
        | (go_at_call 28; refine HLM.out.mono ?_; rintro e w1 ⟨a4, c4, rfl, hq4⟩)
        | (go_at_call 27; refine (HENC.out w1 _ a4 c4 (below_of HD.out.2 hq4.out.2) hq4.out.1).mono ?_; rintro e w2 ⟨a5, c5, rfl, hq5⟩))
      go_ret
      subst hx
      exact ⟨a5, c5, rfl, hq5.out.1, hq5.out.2.1, hq5.out.2.2.1, below_of (below_of HD.out.2 hq4.out.2) hq5.out.2.2.2⟩
/-- the ten numbers of a first block in a new block of their own. -/
theorem ten_at {w : World} (b : Bn) (h : okB b = true) (hs : b.seq < 4294967296) : ∀ i (hi : i < (numsB b).length), (w.alloc (.cells #[.int .u64 7, .int .u64 b.dst, .int .u64 b.src, .int .u64 (b.seq : Nat), .int .u64 b.cre, .int .u64 b.lif, .int .u64 b.off, .int .u64 b.tot, .int .u64 b.pri, .int .u64 b.lim] 48)).cell? ⟨w.heap.size, 0 + i, none⟩ = some (.int .u64 ((numsB b)[i] : Nat)) ∧ (numsB b)[i] < 18446744073709551616 := by
  intro i hi
  refine ⟨?_, nums_lt b h hs _ (List.getElem_mem hi)⟩
  have hk := okB_of h
  rw [cell_of (heap_alloc_new w _), Nat.zero_add]
  have e : ∀ x : Int, 0 ≤ x → ((x.toNat : Nat) : Int) = x := fun x hx => Int.toNat_of_nonneg hx
  have e1 := e b.dst (by omega)
  have e2 := e b.src (by omega)
  have e3 := e b.cre (by omega)
  have e4 := e b.lif (by omega)
  have e5 := e b.off (by omega)
  have e6 := e b.tot (by omega)
  have e7 := e b.pri (by omega)
  have e8 := e b.lim (by omega)
  match i, hi with
  | 0, _ => rfl
  | 1, _ => simp [numsB, e1]
  | 2, _ => simp [numsB, e2]
  | 3, _ => simp [numsB]
  | 4, _ => simp [numsB, e3]
  | 5, _ => simp [numsB, e4]
  | 6, _ => simp [numsB, e5]
  | 7, _ => simp [numsB, e6]
  | 8, _ => simp [numsB, e7]
  | 9, _ => simp [numsB, e8]
  | i + 10, hi => simp [numsB] at hi; omega
/-- three items in a new block. -/
theorem three_items {A : Nat → Prop} {w : World} {n : Nat} {x y z : T} {a1 a2 b1 b2 c1 c2 : Option Addr} {m1 m2 n1 n2 o1 o2 : Nat} (hx : Lie A w n a1 x a2) (hy : Lie A w n b1 y b2) (hz : Lie A w n c1 z c2) (lx : (bs x).length ≤ m1) (ly : (bs y).length ≤ n1) (lz : (bs z).length ≤ o1) (hA : ¬ A w.heap.size) :
    LieL A (w.alloc (.cells #[.int .i64 (kd x), .int .u64 (nm x), .slice a1 (bs x).length m1, .slice a2 (its x).length m2, .int .i64 (kd y), .int .u64 (nm y), .slice b1 (bs y).length n1, .slice b2 (its y).length n2, .int .i64 (kd z), .int .u64 (nm z), .slice c1 (bs z).length o1, .slice c2 (its z).length o2] 52)) n (some ⟨w.heap.size, 0, none⟩) [x, y, z] := by
  have hb : Below w.heap.size w (w.alloc (.cells #[.int .i64 (kd x), .int .u64 (nm x), .slice a1 (bs x).length m1, .slice a2 (its x).length m2, .int .i64 (kd y), .int .u64 (nm y), .slice b1 (bs y).length n1, .slice b2 (its y).length n2, .int .i64 (kd z), .int .u64 (nm z), .slice c1 (bs z).length o1, .slice c2 (its z).length o2] 52)) := (Below.refl _ w).alloc (Nat.le_refl _) _
  have hg := heap_alloc_new w (.cells #[.int .i64 (kd x), .int .u64 (nm x), .slice a1 (bs x).length m1, .slice a2 (its x).length m2, .int .i64 (kd y), .int .u64 (nm y), .slice b1 (bs y).length n1, .slice b2 (its y).length n2, .int .i64 (kd z), .int .u64 (nm z), .slice c1 (bs z).length o1, .slice c2 (its z).length o2] 52)
  refine ⟨by simp, fun _ => ⟨_, _, rfl, hA, fun i hi => ?_⟩⟩
  match i, hi with
  | 0, _ => exact ⟨a1, m1, a2, m2, ⟨by rw [cell_of hg]; rfl, by rw [cell_of hg]; rfl, by rw [cell_of hg]; rfl, by rw [cell_of hg]; rfl⟩, hx.later hb, lx⟩
  | 1, _ => exact ⟨b1, n1, b2, n2, ⟨by rw [cell_of hg]; rfl, by rw [cell_of hg]; rfl, by rw [cell_of hg]; rfl, by rw [cell_of hg]; rfl⟩, hy.later hb, ly⟩
  | 2, _ => exact ⟨c1, o1, c2, o2, ⟨by rw [cell_of hg]; rfl, by rw [cell_of hg]; rfl, by rw [cell_of hg]; rfl, by rw [cell_of hg]; rfl⟩, hz.later hb, lz⟩
  | i + 3, hi => simp at hi; omega
theorem lie_free {A : Nat → Prop} {w : World} {n : Nat} {a1 : Option Addr} {x : T} {a2 : Option Addr} (h : Lie A w n a1 x a2) : Lie (fun _ => False) w n a1 x a2 := Lie.apart (fun _ _ e => e.elim) n h
/-- what Encode answers. -/
def Enc9 (b : Bn) (w : World) (e : Ending) (w' : World) : Prop :=
  (okB b = true ∧ ∃ a c, e = .returned (.tuple #[.slice a (encB b).length c, .int .i64 0]) ∧ Hid (Row w' a (encB b) ∧ (encB b).length ≤ c ∧ c ≤ maxLen ∧ w'.ownsRow w.heap.size 5 1 (.slice a (encB b).length c) (encB b).length (cells (encB b)) ∧ Below w.heap.size w w')) ∨ (okB b = false ∧ e = .returned (.tuple #[.slice none 0 0, .int .i64 190]) ∧ Hid (Below w.heap.size w w'))
set_option maxRecDepth 20000 in
set_option maxHeartbeats 4000000 in
theorem encode9_no (b : Bn) (w : World) (a : Option Addr) (c : Nat) (hz : b.pay.length ≤ 140737488351232) (ho : okB b = false) :
    Calls Tryd.prog 10 #[bv b a c] w fun e w' => Enc9 b w e w' := by
  have HB : Hid (∀ X : Obj, Below w.heap.size w (w.alloc X)) := fun X => (Below.refl _ w).alloc (Nat.le_refl _) X
  have HC : Hid (∀ W, Calls Tryd.prog 13 #[bv b a c] W fun e w' => e = .returned (.int .i64 190) ∧ Hid (Below W.heap.size W w')) := fun W => by rw [← chk_no ho]; exact check9_any b a c W hz
  have HO : Hid (okB b = false) := ho
  unfold Enc9
  clear ho
  go_enter Tryd.func10, Tryd.ntmps10
  go_wp2_with (go_at_call 13; refine (HC.out _).mono ?_; rintro e w1 ⟨rfl, hb1⟩)
  go_ret2
  exact .inr ⟨HO.out, rfl, below_of (HB.out _) hb1.out⟩
set_option maxRecDepth 20000 in
set_option maxHeartbeats 4000000 in
theorem encode9_yes (V : List Nat → Bool) (TB : World → Prop) (hT : Txt V TB) (b : Bn) (w : World) (a : Option Addr) (c : Nat) (hs : b.seq < 4294967296) (hw : TB w) (hr : Row w a b.pay) (hc : b.pay.length ≤ c) (hcm : c ≤ maxLen) (ho : okB b = true) :
    Calls Tryd.prog 10 #[bv b a c] w fun e w' => Enc9 b w e w' := by
  have hk := okB_of ho
  have hz : b.pay.length ≤ 400 := by omega
  have HB : Hid (∀ (w : World) (X : Obj), Below w.heap.size w (w.alloc X)) := fun w X => (Below.refl _ w).alloc (Nat.le_refl _) X
  have HC : Hid (∀ W, Calls Tryd.prog 13 #[bv b a c] W fun e w' => e = .returned (.int .i64 0) ∧ Hid (Below W.heap.size W w')) := fun W => by rw [← chk_ok ho]; exact check9_any b a c W (by omega)
  have HW : Hid (∀ W, Below w.heap.size w W → TB W) := fun W hb => hT.later _ _ hw hb
  have HBL : Hid (∀ W, TB W → Calls Tryd.prog 26 #[.slice (some ⟨W.heap.size, 0, none⟩) 10 10] (W.alloc (.cells #[.int .u64 7, .int .u64 b.dst, .int .u64 b.src, .int .u64 (b.seq : Nat), .int .u64 b.cre, .int .u64 b.lif, .int .u64 b.off, .int .u64 b.tot, .int .u64 b.pri, .int .u64 b.lim] 48)) fun e w' => ∃ a' c', e = .returned (.slice a' (firstB b).length c') ∧ Hid (Row w' a' (firstB b) ∧ (firstB b).length ≤ c' ∧ c' ≤ maxLen ∧ Below W.heap.size W w')) := fun W hW => by
    refine (block_any V TB hT _ W.heap.size 0 10 (numsB b) (by simp [numsB]) (ten_at b ho hs) (hT.later _ _ hW (HB.out W _))).mono ?_
    rintro e w' ⟨a', c', rfl, hq⟩
    exact ⟨a', c', rfl, hq.out.1, hq.out.2.1, hq.out.2.2.1, below_of (HB.out W _) hq.out.2.2.2⟩
  have hf91 := firstB_len b
  have hs2 := seal16_length (firstB b)
  have hs4 := seal32_length b.pay
  have HS16 : Hid (∀ W a1 c1, Row W a1 (firstB b) → (firstB b).length ≤ c1 → c1 ≤ maxLen → Calls Tryd.prog 30 #[.slice a1 (firstB b).length c1] W fun e w' => ∃ a3 c3, e = .returned (.slice a3 (seal16 (firstB b)).length c3) ∧ Hid (Row w' a3 (seal16 (firstB b)) ∧ Below W.heap.size W w')) := fun W a1 c1 h1 h2 h3 => (seal16_any a1 c1 _ W h1 h2 h3 (by omega)).mono (by rintro e w' ⟨a3, c3, rfl, _, _, h4, h5⟩; exact ⟨a3, c3, rfl, h4, h5⟩)
  have HS32 : Hid (∀ W, Below w.heap.size w W → Calls Tryd.prog 32 #[.slice a b.pay.length c] W fun e w' => ∃ a3 c3, e = .returned (.slice a3 (seal32 b.pay).length c3) ∧ Hid (Row w' a3 (seal32 b.pay) ∧ Below W.heap.size W w')) := fun W hb => (seal32_any a c _ W (hr.later hb) hc hcm (by omega)).mono (by rintro e w' ⟨a3, c3, rfl, _, _, h4, h5⟩; exact ⟨a3, c3, rfl, h4, h5⟩)
  have HBY : Hid (∀ W a1 c1 l, Row W a1 l → l.length ≤ 512 → Calls Tryd.prog 29 #[.slice a1 l.length c1] W fun e w' => ∃ a' c', e = .returned (iv (mkI 2 0 l []) a' c' none 0) ∧ Hid (Lie (fun _ => False) w' 1 a' (mkI 2 0 l []) none ∧ l.length ≤ c' ∧ Below W.heap.size W w')) := fun W a1 c1 l h1 h2 => (bytes_made W a1 c1 l h1 (by omega)).mono (by rintro e w' ⟨a', c', rfl, h⟩; exact ⟨a', c', rfl, lie_free h.out.1, h.out.2.1, h.out.2.2⟩)
  have HNB : Hid (∀ W, Calls Tryd.prog 31 #[.int .u64 b.hop] W fun e w' => e = .returned (iv (mkN b.hop.toNat) none 0 none 0) ∧ Hid (Below W.heap.size W w')) := fun W => by
    have := number_made W b.hop.toNat (by omega)
    rw [Int.toNat_of_nonneg (by omega)] at this
    exact this
  have hlb := b.hop.toNat_of_nonneg (by omega)
  have HENC : Hid (∀ W A a2 c2, Below w.heap.size w W → Lie A W 2 none (mkI 4 0 [] [mkI 2 0 (seal16 (firstB b)) [], mkN b.hop.toNat, mkI 2 0 (seal32 b.pay) []]) a2 → Calls Tryd.prog 27 #[iv (mkI 4 0 [] [mkI 2 0 (seal16 (firstB b)) [], mkN b.hop.toNat, mkI 2 0 (seal32 b.pay) []]) none 0 a2 c2] W fun e w' => ∃ a c, e = .returned (.tuple #[.slice a (encB b).length c, .int .i64 0]) ∧ Hid (Row w' a (encB b) ∧ (encB b).length ≤ c ∧ c ≤ maxLen ∧ w'.ownsRow w.heap.size 5 1 (.slice a (encB b).length c) (encB b).length (cells (encB b)) ∧ Below W.heap.size W w')) := fun W A a2 c2 hb hx => by
    refine (encode_own V TB hT A W 4 (Nat.le_refl _) (itemB b) none a2 0 c2 (HW.out W hb) (hx.le (by omega)) (Nat.zero_le _) (okItem V b ho)).mono ?_
    rintro e w' ⟨a, c, rfl, hq⟩
    exact ⟨a, c, rfl, hq.out.1, hq.out.2.1, hq.out.2.2.1, own_base hq.out.2.2.2.1 hb.size, hq.out.2.2.2.2⟩
  have HO : Hid (okB b = true) := ho
  have HLS : Hid ((seal16 (firstB b)).length ≤ 512 ∧ (seal32 b.pay).length ≤ 512 ∧ b.hop.toNat < 18446744073709551616) := ⟨by omega, by omega, by omega⟩
  unfold Enc9
  clear hs2 hs4
  go_enter Tryd.func10, Tryd.ntmps10
  go_wp2_with (first
    | (go_at_call 13; refine (HC.out _).mono ?_; rintro e w1 ⟨rfl, hb1⟩; have HB1 : Hid (Below w.heap.size w w1) := below_of (HB.out w _) hb1.out; obtain ⟨e0, e1, e2, e3, e4, e5, e6, e7, e8, e9, e10⟩ := bcells (old_block hb1.out (heap_alloc_new w _)))
    | fail)
  refine (HBL.out w1 (HW.out w1 HB1.out)).mono ?_
  rintro e w2 ⟨a2, c2, rfl, hq2⟩
  have HB2 : Hid (Below w.heap.size w w2) := below_of HB1.out hq2.out.2.2.2
  clear e0 e1 e2 e3 e4 e5 e6 e7 e8 e9 e10
  obtain ⟨e0, e1, e2, e3, e4, e5, e6, e7, e8, e9, e10⟩ := bcells (old_block (below_of hb1.out hq2.out.2.2.2) (heap_alloc_new w _))
  clear HC HBL e0 e1 e2 e3 e4 e5 e7 e8 e9 hb1 hr
  have h0 : 0 ≤ b.hop := by omega
  have h1 : b.hop ≤ 16 := by omega
  have hwh : IntKind.u64.wrap b.hop = b.hop := by rw [IntKind.wrap_u64]; omega
  clear hk
  go_wp2_with fail
  have hX : Below w2.heap.size w2 w2.drew := (Below.refl _ _).drew
  go_region_held3 (fun W => W.cell? ⟨w.heap.size, 6, none⟩ = some (.int .i64 b.hop) ∧ W.cell? ⟨w.heap.size, 10, none⟩ = some (.slice a b.pay.length c)) (first | exact ⟨e6, e10⟩ | exact ⟨cell_later hX e6, cell_later hX e10⟩ | exact ⟨cell_later (below_of hX (HB.out _ _)) e6, cell_later (below_of hX (HB.out _ _)) e10⟩) (first
    | (go_at_call 27; refine (HENC.out _ _ a8 c8 (below_of HB2.out hX) hq8.out.1).mono ?_; rintro e w9 ⟨a9, c9, rfl, hq9⟩; have hX := below_of hX hq9.out.2.2.2.2)
    | (go_at_call 28; refine (list_made 1 (fun _ => False) _ _ 3 [mkI 2 0 (seal16 (firstB b)) [], mkN b.hop.toNat, mkI 2 0 (seal32 b.pay) []] (three_items (hq4.out.1.later hY) (lieN 0 _ HLS.out.2.2) hq7.out.1 hq4.out.2.1 (Nat.zero_le _) hq7.out.2.1 id)).mono ?_; rintro e w8 ⟨a8, c8, rfl, hq8⟩; have hX := below_of (below_of hX (HB.out _ _)) hq8.out.2)
    | (go_at_call 29; refine (HBY.out _ a6 c6 (seal32 b.pay) hq6.out.1 HLS.out.2.1).mono ?_; rintro e w7 ⟨a7, c7, rfl, hq7⟩; have hX := below_of hX hq7.out.2.2; have hY := below_of hY hq7.out.2.2)
    | (go_at_call 29; refine (HBY.out _ a3 c3 (seal16 (firstB b)) hq3.out.1 HLS.out.1).mono ?_; rintro e w4 ⟨a4, c4, rfl, hq4⟩; have hX := below_of hX hq4.out.2.2; have hY := Below.refl w4.heap.size w4)
    | (go_at_call 30; refine (HS16.out _ a2 c2 (hq2.out.1.later hX) hq2.out.2.1 hq2.out.2.2.1).mono ?_; rintro e w3 ⟨a3, c3, rfl, hq3⟩; have hX := below_of hX hq3.out.2)
    | (go_at_call 32; refine (HS32.out _ (below_of HB2.out hX)).mono ?_; rintro e w6 ⟨a6, c6, rfl, hq6⟩; have hX := below_of hX hq6.out.2; have hY := below_of hY hq6.out.2)
    | (go_at_call 31; refine (HNB.out _).mono ?_; rintro e w5 ⟨rfl, hq5⟩; have hX := below_of hX hq5.out; have hY := below_of hY hq5.out))
  go_wp2
  go_ret2
  exact .inl ⟨HO.out, a9, c9, rfl, hq9.out.1, hq9.out.2.1, hq9.out.2.2.1, hq9.out.2.2.2.1, below_of HB2.out hX⟩
theorem encode9_any (V : List Nat → Bool) (TB : World → Prop) (hT : Txt V TB) (b : Bn) (w : World) (a : Option Addr) (c : Nat) (hb : Bz b) (hw : TB w) (hr : Row w a b.pay) (hc : b.pay.length ≤ c) (hcm : c ≤ maxLen) :
    Calls Tryd.prog 10 #[bv b a c] w fun e w' => Enc9 b w e w' := by
  cases ho : okB b with
  | true => exact encode9_yes V TB hT b w a c hb.seq hw hr hc hcm ho
  | false => exact encode9_no b w a c hb.pay ho
end Go.Proofs.YtjfmgokpnpmdpaaDoor
