/- The walk of the reference's Bytes (heliographref07). -/
import Derived.Test.YthjemjclpjmomaaDoorR07Head
import Derived.Test.YthjemjclpjmomaaDoorR07Right
import Derived.Test.YthjemjclpjmomaaDoorCEncB
namespace Go.Proofs.YthjemjclpjmomaaDoor
open Go.RowKit
set_option linter.unusedVariables false

def BytesOk (V : List Nat → Bool) (n : Nat) : Prop := ∀ (m : Nat) (A : Nat → Prop) (w : World) (x : T) (a1 a2 : Option Addr) (c1 c2 : Nat), m ≤ 4 → okT V m x = true → Lie A w n a1 x a2 →
  Calls Tryd.prog 14 #[iv x a1 c1 a2 c2] w fun e w' => ∃ a c, e = .returned (.slice a (enc n x).length c) ∧ Hid (Row w' a (enc n x) ∧ Below w.heap.size w w')
theorem flatten_take (f : T → List Nat) (l : List T) (k : Nat) (h : k < l.length) : ((l.take (k + 1)).map f).flatten = ((l.take k).map f).flatten ++ f l[k] := by
  rw [List.take_succ_eq_append_getElem h, List.map_append, List.flatten_append]
  simp
set_option maxRecDepth 20000 in
set_option maxHeartbeats 4000000 in
theorem bytes_num (V : List Nat → Bool) (n : Nat) (A : Nat → Prop) (w : World) (x : T) (a1 a2 : Option Addr) (c1 c2 : Nat) (hk : kd x = 1) (hx : Lie A w (n + 1) a1 x a2) :
    Calls Tryd.prog 14 #[iv x a1 c1 a2 c2] w fun e w' => ∃ a c, e = .returned (.slice a (enc (n + 1) x).length c) ∧ Hid (Row w' a (enc (n + 1) x) ∧ Below w.heap.size w w') := by
  have HH : Hid (∀ W, Calls Tryd.prog 25 #[.int .i64 0, .int .u64 (nm x : Nat)] W fun e w' => ∃ a c, e = .returned (.slice a (enc (n + 1) x).length c) ∧ Hid (Row w' a (enc (n + 1) x) ∧ Below W.heap.size W w')) := fun W => by
    have := head_any W 0 (nm x) (by omega) hx.1.1
    rw [enc, if_pos hk]
    exact this
  have e1 : (kd x == 1) = true := by simp [hk]
  generalize enc (n + 1) x = E at HH ⊢
  clear hk hx
  go_enter Tryd.func14, Tryd.ntmps14
  go_wp2_with (go_at_call 25; refine (HH.out _).mono ?_; rintro e w1 ⟨a, c, rfl, hq⟩)
  go_ret
  exact ⟨a, c, rfl, hq.out.1, below_of ((Below.refl _ w).alloc (Nat.le_refl _) _) hq.out.2⟩
set_option maxRecDepth 20000 in
set_option maxHeartbeats 4000000 in
theorem bytes_str (V : List Nat → Bool) (n t : Nat) (A : Nat → Prop) (w : World) (x : T) (a1 a2 : Option Addr) (c1 c2 : Nat) (ht : t = 2 ∨ t = 3) (hk : kd x = (t : Nat)) (hb : (bs x).length ≤ 512) (hx : Lie A w (n + 1) a1 x a2) :
    Calls Tryd.prog 14 #[iv x a1 c1 a2 c2] w fun e w' => ∃ a c, e = .returned (.slice a (enc (n + 1) x).length c) ∧ Hid (Row w' a (enc (n + 1) x) ∧ Below w.heap.size w w') := by
  have HE : Hid (enc (n + 1) x = hd t (bs x).length ++ bs x) := by
    show _ = _
    rw [enc]
    rcases ht with rfl | rfl
    · rw [if_neg (by omega), if_pos (by omega)]
    · rw [if_neg (by omega), if_neg (by omega), if_pos (by omega)]
  have HX : Hid (Row w a1 (bs x)) := hx.2.1
  have HH : Hid (∀ W, Calls Tryd.prog 25 #[.int .i64 (kd x), .int .u64 ((bs x).length : Nat)] W fun e w' => ∃ a c, e = .returned (.slice a (hd t (bs x).length).length c) ∧ Hid (Row w' a (hd t (bs x).length) ∧ Below W.heap.size W w')) := fun W => by
    have := head_any W t (bs x).length (by omega) (by omega)
    rw [hk]
    exact this
  have hl := hd_le t (bs x).length
  have e1 : (kd x == 1) = false := beq_eq_false_iff_ne.2 (by omega)
  have e4 : (kd x == 4) = false := beq_eq_false_iff_ne.2 (by omega)
  have HBA : Hid (∀ X, Below w.heap.size w (w.alloc X)) := fun X => (Below.refl _ w).alloc (Nat.le_refl _) X
  generalize enc (n + 1) x = E at HE ⊢
  generalize hd t (bs x).length = Hd at HE HH hl
  obtain ⟨q0, q1, q2, q3⟩ := box4 (heap_alloc_new w (ic x a1 c1 a2 c2))
  obtain ⟨hn, HHN⟩ : ∃ hn, Hid (Hd.length = hn) := ⟨_, rfl⟩
  rw [HHN.out] at HH hl
  have HBO : Hid (∀ W a c, Below (w.alloc (ic x a1 c1 a2 c2)).heap.size (w.alloc (ic x a1 c1 a2 c2)) W → Row W a Hd → Calls Tryd.prog 26 #[.slice a hn c, .slice a1 (bs x).length c1] W fun e w' => ∃ a' c', e = .returned (.slice a' (hn + (bs x).length) c') ∧ Hid (Row w' a' (Hd ++ bs x) ∧ Below W.heap.size W w')) := fun W a c hW hr => (both_at W a a1 c c1 hn _ Hd (bs x) HHN.out rfl hr (HX.out.later (below_of (HBA.out _) hW)) (by omega)).mono fun e w' ⟨a', c', he, hq⟩ => ⟨a', c', he, hq.out.1.row, hq.out.2⟩
  clear hk hx ht
  have HB0 : Hid (Below w.heap.size w (w.alloc (ic x a1 c1 a2 c2))) := HBA.out _
  go_enter Tryd.func14, Tryd.ntmps14
  go_wp2
  clear HBA
  generalize w.alloc (ic x a1 c1 a2 c2) = W0 at HBO q0 q1 q2 q3 HB0 ⊢
  generalize w.heap.size = P at q0 q1 q2 q3 ⊢
  have hX : Below W0.heap.size W0 W0.drew := (Below.refl _ _).drew
  have hcv : IntKind.u64.wrap ((bs x).length : Int) = ((bs x).length : Int) := IntWalk.u64_in _ (by omega)
  go_region_held3 (fun W => W.cell? ⟨P, 0, none⟩ = some (.int .i64 (kd x)) ∧ W.cell? ⟨P, 2, none⟩ = some (.slice a1 (bs x).length c1)) (first | exact ⟨q0, q2⟩ | exact ⟨cell_later hX q0, cell_later hX q2⟩) (first
    | (go_at_call 25; refine (HH.out _).mono ?_; rintro e w1 ⟨ah, ch, rfl, hq1⟩; have hX := below_of hX hq1.out.2)
    | (go_at_call 26; refine (HBO.out _ ah ch hX hq1.out.1).mono ?_; rintro e w2 ⟨a3, c3, rfl, hq3⟩; have hX := below_of hX hq3.out.2))
  all_goals
    go_wp2
    go_ret
    rw [HE.out]
    exact ⟨a3, c3, by rw [List.length_append, HHN.out]; rfl, hq3.out.1, below_of HB0.out hX⟩
set_option maxRecDepth 20000 in
set_option maxHeartbeats 4000000 in
theorem bytes_list (V : List Nat → Bool) (n m : Nat) (ih : BytesOk V n) (A : Nat → Prop) (w : World) (x : T) (a1 a2 : Option Addr) (c1 c2 : Nat) (hm : m ≤ 3) (hk : kd x = 4) (hi : (its x).length ≤ 64) (hall : ∀ y ∈ its x, okT V m y = true) (hx : Lie A w (n + 1) a1 x a2) :
    Calls Tryd.prog 14 #[iv x a1 c1 a2 c2] w fun e w' => ∃ a c, e = .returned (.slice a (enc (n + 1) x).length c) ∧ Hid (Row w' a (enc (n + 1) x) ∧ Below w.heap.size w w') := by
  have HE : Hid (enc (n + 1) x = hd 4 (its x).length ++ ((its x).map (enc n)).flatten) := by show _ = _; rw [enc, if_neg (by omega), if_neg (by omega), if_neg (by omega), if_pos hk]
  have HX : Hid (Lie A w (n + 1) a1 x a2) := hx
  have HIH : Hid (BytesOk V n) := ih
  have HAL : Hid (∀ y ∈ its x, okT V m y = true ∧ (enc n y).length ≤ 143079625) := fun y hy => ⟨hall y hy, by
    have h1 := enc_bound V m n y (hall y hy)
    have h2 : 65 ^ m ≤ 65 ^ 3 := Nat.pow_le_pow_right (by omega) hm
    have h3 : 521 * 65 ^ m ≤ 521 * 65 ^ 3 := Nat.mul_le_mul_left _ h2
    have h4 : 521 * 65 ^ 3 = 143079625 := by decide
    omega⟩
  have HH : Hid (∀ W, Calls Tryd.prog 25 #[.int .i64 4, .int .u64 ((its x).length : Nat)] W fun e w' => ∃ a c, e = .returned (.slice a (hd 4 (its x).length).length c) ∧ Hid (Row w' a (hd 4 (its x).length) ∧ Below W.heap.size W w')) := fun W => head_any W 4 (its x).length (by omega) (by omega)
  have hl := hd_le 4 (its x).length
  have e1 : (kd x == 1) = false := beq_eq_false_iff_ne.2 (by omega)
  have e4 : (kd x == 4) = true := by simp [hk]
  have hcv : IntKind.u64.wrap ((its x).length : Int) = ((its x).length : Int) := IntWalk.u64_in _ (by omega)
  have HBA : Hid (∀ X, Below w.heap.size w (w.alloc X)) := fun X => (Below.refl _ w).alloc (Nat.le_refl _) X
  generalize enc (n + 1) x = E at HE ⊢
  generalize hd 4 (its x).length = Hd at HE HH hl
  clear hk hx ih hall
  go_enter Tryd.func14, Tryd.ntmps14
  go_wp2_with (go_at_call 25; refine (HH.out _).mono ?_; rintro e w1 ⟨ah, ch, rfl, hq1⟩)
  have HC1 : Hid (∀ wq, Below w1.heap.size w1 wq → wq.cell? ⟨w.heap.size, 3, none⟩ = some (.slice a2 (its x).length c2) ∧ Below w.heap.size w wq) := fun wq hq => ⟨by rw [cell_of (old_block (below_of hq1.out.2 hq) (heap_alloc_new w (ic x a1 c1 a2 c2))) 3]; rfl, below_of (below_of (HBA.out _) hq1.out.2) hq⟩
  have HR1 : Hid (Row w1 ah Hd) := hq1.out.1
  clear HH hq1
  go_loopw [3, 4] (fun u i wr => ∃ (k o : Nat) (a : Option Addr) (c : Nat), k ≤ (its x).length ∧ i = .int .i64 k ∧ u = .slice a o c ∧ o ≤ 9 + k * 143079625 ∧ Hid (o = (Hd ++ (((its x).take k).map (enc n)).flatten).length ∧ Row wr a (Hd ++ (((its x).take k).map (enc n)).flatten) ∧ Below w1.heap.size w1 wr)) (fun _ i _ => (its x).length - (intOf i).toNat)
  case atStart => exact ⟨0, Hd.length, ah, ch, by omega, rfl, rfl, by omega, by simp, by simpa using HR1.out, Below.refl _ _⟩
  case round =>
    obtain ⟨k, o, a, c, hk, rfl, rfl, ho, HD⟩ := hrel
    obtain ⟨p3, hbw⟩ := HC1.out _ HD.out.2.2
    have HBW : Hid (Below w.heap.size w wr) := hbw
    clear hbw
    by_cases hkl : k < (its x).length
    · obtain ⟨bx, ox, rfl, _, hcx⟩ := (LieL.later HX.out.2.2.2 HBW.out).2 (by omega)
      obtain ⟨e1', f1, e2', f2, ⟨g0, g1, g2, g3⟩, hgx, hgc⟩ := hcx k hkl
      clear hcx
      have hy := HAL.out _ (List.getElem_mem hkl)
      have HRC : Hid (Calls Tryd.prog 14 #[iv (its x)[k] e1' f1 e2' f2] wr fun e w' => ∃ a c, e = .returned (.slice a (enc n (its x)[k]).length c) ∧ Hid (Row w' a (enc n (its x)[k]) ∧ Below wr.heap.size wr w')) := HIH.out m A wr _ _ _ _ _ (by omega) hy.1 hgx
      have HFT : Hid ((((its x).take (k + 1)).map (enc n)).flatten = (((its x).take k).map (enc n)).flatten ++ enc n (its x)[k]) := flatten_take (enc n) (its x) k hkl
      have hyl := hy.2
      clear hgx hgc hy
      generalize (its x)[k] = y at g0 g1 g2 g3 HRC HFT hyl
      obtain ⟨yl, HYL⟩ : ∃ yl, Hid ((enc n y).length = yl) := ⟨_, rfl⟩
      rw [HYL.out] at HRC hyl
      have i1 : (k : Int) < ((its x).length : Int) := by omega
      have hsum : o + yl ≤ 140737488351232 := by have : k * 143079625 ≤ 64 * 143079625 := Nat.mul_le_mul_right _ (by omega); omega
      have hnext : o + yl ≤ 9 + (k + 1) * 143079625 := by omega
      go_wp2_with (first
        | (go_at_call 14; refine HRC.out.mono ?_; rintro e w5 ⟨a5, c5, rfl, hq5⟩)
        | (go_at_call 26; refine (both_at w5 a a5 c c5 o yl (Hd ++ (((its x).take k).map (enc n)).flatten) (enc n y) HD.out.1.symm HYL.out (HD.out.2.1.later hq5.out.2) hq5.out.1 hsum).mono ?_; rintro e w6 ⟨a6, c6, rfl, hq6⟩))
      go_roundw
      case rel => exact ⟨k + 1, o + yl, a6, c6, by omega, by go_num, rfl, hnext, by rw [HFT.out, ← List.append_assoc, List.length_append, ← HD.out.1, HYL.out], by rw [HFT.out, ← List.append_assoc]; exact hq6.out.1.row, below_of (below_of HD.out.2.2 hq5.out.2) hq6.out.2⟩
      case measure => simp [intOf]; omega
    · have HF : Hid (E = Hd ++ (((its x).take k).map (enc n)).flatten) := by show _ = _; rw [HE.out, List.take_of_length_le (by omega)]
      go_wp2
      go_ret
      rw [HF.out]
      exact ⟨a, c, by rw [← HD.out.1]; rfl, HD.out.2.1, HBW.out⟩
theorem bytes_ok (V : List Nat → Bool) : ∀ n, BytesOk V n
  | 0 => fun m A w x a1 a2 c1 c2 _ _ h => h.elim
  | n + 1 => fun m A w x a1 a2 c1 c2 hm hok hx => by
    cases m with
    | zero => cases hok
    | succ m =>
      rcases ok_bytes hok with ⟨k, hb, hi⟩ | ⟨k, h0, hi, hb⟩ | ⟨k, h0, hi, hb, hv⟩ | ⟨k, h0, hb, hi, ha⟩
      · exact bytes_num V n A w x a1 a2 c1 c2 k hx
      · exact bytes_str V n 2 A w x a1 a2 c1 c2 (.inl rfl) k hb hx
      · exact bytes_str V n 3 A w x a1 a2 c1 c2 (.inr rfl) k hb hx
      · exact bytes_list V n m (bytes_ok V n) A w x a1 a2 c1 c2 (by omega) k hi ha hx
end Go.Proofs.YthjemjclpjmomaaDoor
