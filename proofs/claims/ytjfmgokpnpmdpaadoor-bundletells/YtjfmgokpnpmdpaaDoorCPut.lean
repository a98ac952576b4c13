/- The walks of cbor.putHead, put and Encode. -/
import Derived.Test.YtjfmgokpnpmdpaaDoorCCheck
import Derived.Test.YtjfmgokpnpmdpaaDoorHAppend
namespace Go.Proofs.YtjfmgokpnpmdpaaDoor
open Go.RowKit
set_option linter.unusedVariables false

/-- more bytes behind bytes of the call's own. -/
def Adds (base : Nat) (w : World) (v : Value) (m : List Nat) (e : Ending) (w' : World) : Prop := ∃ v', e = .returned v' ∧ Hid (w'.ownsRow base 5 1 v' m.length (cells m) ∧ Grew w w' v v')

set_option maxRecDepth 20000 in
theorem or8F : ∀ t : Fin 8, ∀ n : Fin 32, bits .or .u8 ((t.val : Int) * 32) (n.val : Int) = ((32 * t.val + n.val : Nat) : Int) := by decide
theorem or8 (t n : Nat) (ht : t < 8) (hn : n < 32) : bits .or .u8 ((t : Int) * 32) (n : Int) = ((32 * t + n : Nat) : Int) := or8F ⟨t, ht⟩ ⟨n, hn⟩

theorem shr_byte (n k : Nat) : (n : Int) / 2 ^ (8 * k) % 256 = ((n / 256 ^ k % 256 : Nat) : Int) := by
  rw [show (256 : Nat) ^ k = 2 ^ (8 * k) by rw [Nat.pow_mul]]
  simp
/-- how many bytes a head's number has behind the first one, as a power of two. -/
def szE (n : Nat) : Nat := if n < 256 then 0 else if n < 65536 then 1 else if n < 4294967296 then 2 else 3
theorem hd_sz (t n : Nat) (h : ¬ n < 24) : hd t n = (32 * t + (24 + szE n)) :: be n (2 ^ szE n) := by
  unfold hd szE
  rw [if_neg h]
  repeat' split
  all_goals rfl
theorem szE_le (n : Nat) : szE n ≤ 3 := by unfold szE; repeat' split
                                           all_goals omega

set_option maxRecDepth 20000 in
set_option maxHeartbeats 2000000 in
theorem putHead_any (w : World) (base : Nat) (v : Value) (l : List Nat) (t n : Nat) (hown : w.ownsRow base 5 1 v l.length (cells l)) (hb : base ≤ w.heap.size) (ht : t < 8) (hn : n < 18446744073709551616) (hz : l.length ≤ 140737488000000) :
    Calls Tryd.prog 63 #[v, .int .u8 t, .int .u64 n] w fun e w' => Adds base w v (l ++ hd t n) e w' := by
  have HO : Hid (w.ownsRow base 5 1 v l.length (cells l)) := hown
  have HBA : Hid (∀ X : Obj, Below w.heap.size w (w.alloc X)) := fun X => (Below.refl _ w).alloc (Nat.le_refl _) X
  clear hown
  by_cases h24 : n < 24
  · have HH : Hid (hd t n = [32 * t + n]) := by show _ = _; unfold hd; rw [if_pos h24]
    have hor := or8 t n ht (by omega)
    have hB : 32 * t + n < 256 := by omega
    unfold Adds
    rw [HH.out]
    generalize 32 * t + n = B at hor hB ⊢
    go_enter Tryd.func63, Tryd.ntmps63
    go_wp2_with (at_builtin; go_must (refine wpList_append_row rfl _ _ rfl base v l rfl ((Off.refl (fun _ => False) w).alloc _ |>.owns HO.out (fun _ _ => id)) _ _ [B] rfl (row_one B hB) (.inr (by simp)) (by simp; omega) (by simp; omega) ?_); intro v1 w1 ho1 hb1)
    go_ret
    exact ⟨v1, rfl, ho1, Grew.ahead (HBA.out _) hb1⟩
  · have HH : Hid (hd t n = (32 * t + (24 + szE n)) :: be n (2 ^ szE n)) := hd_sz t n h24
    go_enter Tryd.func63, Tryd.ntmps63
    go_wp2
    go_loop [7, 8] (fun e s => ∃ j : Nat, j ≤ szE n ∧ e = .int .u8 (24 + j : Nat) ∧ s = .int .i64 (2 ^ j : Nat)) (fun e _ => 3 - (intOf e - 24).toNat)
    case atStart => exact ⟨0, Nat.zero_le _, rfl, rfl⟩
    case round =>
      obtain ⟨j, hj, rfl, rfl⟩ := hrel
      have hn0 : 24 ≤ n := by omega
      have HJ : Hid (j ≤ szE n) := hj
      have hj3 := Nat.le_trans hj (szE_le n)
      have key : (j = 3 ∧ szE n = 3) ∨ (j = 0 ∧ 256 ≤ n ∧ 0 < n / 256 ∧ 1 ≤ szE n) ∨ (j = 0 ∧ n < 256 ∧ szE n = 0) ∨ (j = 1 ∧ 65536 ≤ n ∧ 0 < n / 65536 ∧ 2 ≤ szE n) ∨ (j = 1 ∧ n < 65536 ∧ szE n = 1) ∨ (j = 2 ∧ 4294967296 ≤ n ∧ 0 < n / 4294967296 ∧ 3 ≤ szE n) ∨ (j = 2 ∧ n < 4294967296 ∧ szE n = 2) := by
        unfold szE at hj ⊢
        repeat' split
        all_goals (simp_all <;> omega)
      clear hj hj3
      rcases key with ⟨rfl, hs⟩ | ⟨rfl, h1, h2, hs⟩ | ⟨rfl, h1, hs⟩ | ⟨rfl, h1, h2, hs⟩ | ⟨rfl, h1, hs⟩ | ⟨rfl, h1, h2, hs⟩ | ⟨rfl, h1, hs⟩
      · have hor : bits .or .u8 ((t : Int) * 32) 27 = ((32 * t + 27 : Nat) : Int) := or8 t 27 ht (by omega)
        have hB : 32 * t + 27 < 256 := by omega
        have HQ : Hid (hd t n = (32 * t + 27) :: be n 8) := by show _ = _; rw [HH.out, hs]
        clear hs HH
        generalize 32 * t + 27 = B at hor hB HQ
        go_wp2_with (at_builtin; go_must (refine wpList_append_row rfl _ _ rfl base v l rfl ((Off.refl (fun _ => False) w).alloc _ |>.owns HO.out (fun _ _ => id)) _ _ [B] rfl (row_one B hB) (.inr (by simp)) (by simp; omega) (by simp; omega) ?_); intro v1 w1 ho1 hb1)
        have HB1 : Hid (Grew w w1 v v1) := Grew.ahead (HBA.out _) hb1
        have HO1 : Hid (w1.ownsRow base 5 1 v1 (l ++ [B]).length (cells (l ++ [B]))) := ho1
        clear hb1 ho1
        go_loopw [0, 9] (fun u i wr => ∃ (k : Nat) (d : List Nat), k ≤ 8 ∧ i = .int .i64 (8 * (k : Int) - 8) ∧ Hid (d ++ be n k = be n 8 ∧ wr.ownsRow base 5 1 u (l ++ [B] ++ d).length (cells (l ++ [B] ++ d)) ∧ Grew w wr v u)) (fun _ i _ => (intOf i + 8).toNat)
        case atStart => exact ⟨8, [], Nat.le_refl _, rfl, rfl, by rw [List.append_nil]; exact HO1.out, HB1.out⟩
        case round =>
          obtain ⟨k, d, hk, rfl, HD⟩ := hrel
          by_cases hk0 : 0 < k
          · obtain ⟨k, rfl⟩ : ∃ q, k = q + 1 := ⟨k - 1, by omega⟩
            rw [show (8 * ((k + 1 : Nat) : Int) - 8) = ((8 * k : Nat) : Int) by omega]
            have hdl : d.length ≤ 8 := by have := congrArg List.length HD.out.1; simp only [List.length_append, be_length] at this; omega
            have hsh := shr_byte n k
            have hD : n / 256 ^ k % 256 < 256 := Nat.mod_lt _ (by omega)
            have HN : Hid (d ++ [n / 256 ^ k % 256] ++ be n k = be n 8) := by show _ = _; rw [← HD.out.1, be_succ, List.append_assoc]; rfl
            have hsz := HD.out.2.2.off.size
            generalize n / 256 ^ k % 256 = D at hsh hD HN
            go_wp2_with (at_builtin; go_must (refine wpList_append_row rfl _ _ rfl base _ (l ++ [B] ++ d) rfl ((Off.refl (fun _ => False) wr).alloc _ |>.owns HD.out.2.1 (fun _ _ => id)) _ _ [D] rfl (row_one D hD) (.inr (by simp)) (by simp; omega) (by simp; omega) ?_); intro v2 w2 ho2 hb2)
            go_roundw
            case rel =>
              refine ⟨k, d ++ [D], by omega, by congr 1, HN.out, ?_, HD.out.2.2.trans (Grew.ahead ((Below.refl _ wr).alloc (Nat.le_refl _) _) hb2)⟩
              rw [← List.append_assoc]
              exact ho2
            case measure => simp only [intOf]; omega
          · obtain rfl : k = 0 := by omega
            go_wp2
            go_ret
            refine ⟨_, rfl, ?_, HD.out.2.2⟩
            have := HD.out.1
            rw [show be n 0 = [] from rfl, List.append_nil] at this
            rw [HQ.out, ← this]
            have h2 := HD.out.2.1
            rw [List.append_assoc] at h2
            exact h2
      · have HS : Hid (1 ≤ szE n) := hs
        clear hs
        go_wp2
        refine ⟨⟨1, HS.out, rfl, rfl⟩, by simp [intOf]⟩
      · have hor : bits .or .u8 ((t : Int) * 32) 24 = ((32 * t + 24 : Nat) : Int) := or8 t 24 ht (by omega)
        have hB : 32 * t + 24 < 256 := by omega
        have HQ : Hid (hd t n = (32 * t + 24) :: be n 1) := by show _ = _; rw [HH.out, hs]
        clear hs HH
        generalize 32 * t + 24 = B at hor hB HQ
        go_wp2_with (at_builtin; go_must (refine wpList_append_row rfl _ _ rfl base v l rfl ((Off.refl (fun _ => False) w).alloc _ |>.owns HO.out (fun _ _ => id)) _ _ [B] rfl (row_one B hB) (.inr (by simp)) (by simp; omega) (by simp; omega) ?_); intro v1 w1 ho1 hb1)
        have HB1 : Hid (Grew w w1 v v1) := Grew.ahead (HBA.out _) hb1
        have HO1 : Hid (w1.ownsRow base 5 1 v1 (l ++ [B]).length (cells (l ++ [B]))) := ho1
        clear hb1 ho1
        go_loopw [0, 9] (fun u i wr => ∃ (k : Nat) (d : List Nat), k ≤ 1 ∧ i = .int .i64 (8 * (k : Int) - 8) ∧ Hid (d ++ be n k = be n 1 ∧ wr.ownsRow base 5 1 u (l ++ [B] ++ d).length (cells (l ++ [B] ++ d)) ∧ Grew w wr v u)) (fun _ i _ => (intOf i + 8).toNat)
        case atStart => exact ⟨1, [], Nat.le_refl _, rfl, rfl, by rw [List.append_nil]; exact HO1.out, HB1.out⟩
        case round =>
          obtain ⟨k, d, hk, rfl, HD⟩ := hrel
          by_cases hk0 : 0 < k
          · obtain ⟨k, rfl⟩ : ∃ q, k = q + 1 := ⟨k - 1, by omega⟩
            rw [show (8 * ((k + 1 : Nat) : Int) - 8) = ((8 * k : Nat) : Int) by omega]
            have hdl : d.length ≤ 1 := by have := congrArg List.length HD.out.1; simp only [List.length_append, be_length] at this; omega
            have hsh := shr_byte n k
            have hD : n / 256 ^ k % 256 < 256 := Nat.mod_lt _ (by omega)
            have HN : Hid (d ++ [n / 256 ^ k % 256] ++ be n k = be n 1) := by show _ = _; rw [← HD.out.1, be_succ, List.append_assoc]; rfl
            have hsz := HD.out.2.2.off.size
            generalize n / 256 ^ k % 256 = D at hsh hD HN
            go_wp2_with (at_builtin; go_must (refine wpList_append_row rfl _ _ rfl base _ (l ++ [B] ++ d) rfl ((Off.refl (fun _ => False) wr).alloc _ |>.owns HD.out.2.1 (fun _ _ => id)) _ _ [D] rfl (row_one D hD) (.inr (by simp)) (by simp; omega) (by simp; omega) ?_); intro v2 w2 ho2 hb2)
            go_roundw
            case rel =>
              refine ⟨k, d ++ [D], by omega, by congr 1, HN.out, ?_, HD.out.2.2.trans (Grew.ahead ((Below.refl _ wr).alloc (Nat.le_refl _) _) hb2)⟩
              rw [← List.append_assoc]
              exact ho2
            case measure => simp only [intOf]; omega
          · obtain rfl : k = 0 := by omega
            go_wp2
            go_ret
            refine ⟨_, rfl, ?_, HD.out.2.2⟩
            have := HD.out.1
            rw [show be n 0 = [] from rfl, List.append_nil] at this
            rw [HQ.out, ← this]
            have h2 := HD.out.2.1
            rw [List.append_assoc] at h2
            exact h2
      · have HS : Hid (2 ≤ szE n) := hs
        clear hs
        go_wp2
        refine ⟨⟨2, HS.out, rfl, rfl⟩, by simp [intOf]⟩
      · have hor : bits .or .u8 ((t : Int) * 32) 25 = ((32 * t + 25 : Nat) : Int) := or8 t 25 ht (by omega)
        have hB : 32 * t + 25 < 256 := by omega
        have HQ : Hid (hd t n = (32 * t + 25) :: be n 2) := by show _ = _; rw [HH.out, hs]
        clear hs HH
        generalize 32 * t + 25 = B at hor hB HQ
        go_wp2_with (at_builtin; go_must (refine wpList_append_row rfl _ _ rfl base v l rfl ((Off.refl (fun _ => False) w).alloc _ |>.owns HO.out (fun _ _ => id)) _ _ [B] rfl (row_one B hB) (.inr (by simp)) (by simp; omega) (by simp; omega) ?_); intro v1 w1 ho1 hb1)
        have HB1 : Hid (Grew w w1 v v1) := Grew.ahead (HBA.out _) hb1
        have HO1 : Hid (w1.ownsRow base 5 1 v1 (l ++ [B]).length (cells (l ++ [B]))) := ho1
        clear hb1 ho1
        go_loopw [0, 9] (fun u i wr => ∃ (k : Nat) (d : List Nat), k ≤ 2 ∧ i = .int .i64 (8 * (k : Int) - 8) ∧ Hid (d ++ be n k = be n 2 ∧ wr.ownsRow base 5 1 u (l ++ [B] ++ d).length (cells (l ++ [B] ++ d)) ∧ Grew w wr v u)) (fun _ i _ => (intOf i + 8).toNat)
        case atStart => exact ⟨2, [], Nat.le_refl _, rfl, rfl, by rw [List.append_nil]; exact HO1.out, HB1.out⟩
        case round =>
          obtain ⟨k, d, hk, rfl, HD⟩ := hrel
          by_cases hk0 : 0 < k
          · obtain ⟨k, rfl⟩ : ∃ q, k = q + 1 := ⟨k - 1, by omega⟩
            rw [show (8 * ((k + 1 : Nat) : Int) - 8) = ((8 * k : Nat) : Int) by omega]
            have hdl : d.length ≤ 2 := by have := congrArg List.length HD.out.1; simp only [List.length_append, be_length] at this; omega
            have hsh := shr_byte n k
            have hD : n / 256 ^ k % 256 < 256 := Nat.mod_lt _ (by omega)
            have HN : Hid (d ++ [n / 256 ^ k % 256] ++ be n k = be n 2) := by show _ = _; rw [← HD.out.1, be_succ, List.append_assoc]; rfl
            have hsz := HD.out.2.2.off.size
            generalize n / 256 ^ k % 256 = D at hsh hD HN
            go_wp2_with (at_builtin; go_must (refine wpList_append_row rfl _ _ rfl base _ (l ++ [B] ++ d) rfl ((Off.refl (fun _ => False) wr).alloc _ |>.owns HD.out.2.1 (fun _ _ => id)) _ _ [D] rfl (row_one D hD) (.inr (by simp)) (by simp; omega) (by simp; omega) ?_); intro v2 w2 ho2 hb2)
            go_roundw
            case rel =>
              refine ⟨k, d ++ [D], by omega, by congr 1, HN.out, ?_, HD.out.2.2.trans (Grew.ahead ((Below.refl _ wr).alloc (Nat.le_refl _) _) hb2)⟩
              rw [← List.append_assoc]
              exact ho2
            case measure => simp only [intOf]; omega
          · obtain rfl : k = 0 := by omega
            go_wp2
            go_ret
            refine ⟨_, rfl, ?_, HD.out.2.2⟩
            have := HD.out.1
            rw [show be n 0 = [] from rfl, List.append_nil] at this
            rw [HQ.out, ← this]
            have h2 := HD.out.2.1
            rw [List.append_assoc] at h2
            exact h2
      · have HS : Hid (3 ≤ szE n) := hs
        clear hs
        go_wp2
        refine ⟨⟨3, HS.out, rfl, rfl⟩, by simp [intOf]⟩
      · have hor : bits .or .u8 ((t : Int) * 32) 26 = ((32 * t + 26 : Nat) : Int) := or8 t 26 ht (by omega)
        have hB : 32 * t + 26 < 256 := by omega
        have HQ : Hid (hd t n = (32 * t + 26) :: be n 4) := by show _ = _; rw [HH.out, hs]
        clear hs HH
        generalize 32 * t + 26 = B at hor hB HQ
        go_wp2_with (at_builtin; go_must (refine wpList_append_row rfl _ _ rfl base v l rfl ((Off.refl (fun _ => False) w).alloc _ |>.owns HO.out (fun _ _ => id)) _ _ [B] rfl (row_one B hB) (.inr (by simp)) (by simp; omega) (by simp; omega) ?_); intro v1 w1 ho1 hb1)
        have HB1 : Hid (Grew w w1 v v1) := Grew.ahead (HBA.out _) hb1
        have HO1 : Hid (w1.ownsRow base 5 1 v1 (l ++ [B]).length (cells (l ++ [B]))) := ho1
        clear hb1 ho1
        go_loopw [0, 9] (fun u i wr => ∃ (k : Nat) (d : List Nat), k ≤ 4 ∧ i = .int .i64 (8 * (k : Int) - 8) ∧ Hid (d ++ be n k = be n 4 ∧ wr.ownsRow base 5 1 u (l ++ [B] ++ d).length (cells (l ++ [B] ++ d)) ∧ Grew w wr v u)) (fun _ i _ => (intOf i + 8).toNat)
        case atStart => exact ⟨4, [], Nat.le_refl _, rfl, rfl, by rw [List.append_nil]; exact HO1.out, HB1.out⟩
        case round =>
          obtain ⟨k, d, hk, rfl, HD⟩ := hrel
          by_cases hk0 : 0 < k
          · obtain ⟨k, rfl⟩ : ∃ q, k = q + 1 := ⟨k - 1, by omega⟩
            rw [show (8 * ((k + 1 : Nat) : Int) - 8) = ((8 * k : Nat) : Int) by omega]
            have hdl : d.length ≤ 4 := by have := congrArg List.length HD.out.1; simp only [List.length_append, be_length] at this; omega
            have hsh := shr_byte n k
            have hD : n / 256 ^ k % 256 < 256 := Nat.mod_lt _ (by omega)
            have HN : Hid (d ++ [n / 256 ^ k % 256] ++ be n k = be n 4) := by show _ = _; rw [← HD.out.1, be_succ, List.append_assoc]; rfl
            have hsz := HD.out.2.2.off.size
            generalize n / 256 ^ k % 256 = D at hsh hD HN
            go_wp2_with (at_builtin; go_must (refine wpList_append_row rfl _ _ rfl base _ (l ++ [B] ++ d) rfl ((Off.refl (fun _ => False) wr).alloc _ |>.owns HD.out.2.1 (fun _ _ => id)) _ _ [D] rfl (row_one D hD) (.inr (by simp)) (by simp; omega) (by simp; omega) ?_); intro v2 w2 ho2 hb2)
            go_roundw
            case rel =>
              refine ⟨k, d ++ [D], by omega, by congr 1, HN.out, ?_, HD.out.2.2.trans (Grew.ahead ((Below.refl _ wr).alloc (Nat.le_refl _) _) hb2)⟩
              rw [← List.append_assoc]
              exact ho2
            case measure => simp only [intOf]; omega
          · obtain rfl : k = 0 := by omega
            go_wp2
            go_ret
            refine ⟨_, rfl, ?_, HD.out.2.2⟩
            have := HD.out.1
            rw [show be n 0 = [] from rfl, List.append_nil] at this
            rw [HQ.out, ← this]
            have h2 := HD.out.2.1
            rw [List.append_assoc] at h2
            exact h2

/-- what put does with an item that is at most n deep: w0: the world in which it lies. -/
def PutOk (n : Nat) : Prop := ∀ (A : Nat → Prop) (w0 w : World) (x : T) (a1 a2 : Option Addr) (c1 c2 : Nat) (v : Value) (l : List Nat), Lie A w0 n a1 x a2 → Below w0.heap.size w0 w → w.ownsRow w0.heap.size 5 1 v l.length (cells l) → l.length + (enc n x).length ≤ 140737488000000 →
  Calls Tryd.prog 48 #[v, iv x a1 c1 a2 c2] w fun e w' => Adds w0.heap.size w v (l ++ enc n x) e w'

theorem enc_1 {n : Nat} {x : T} (h : kd x = 1) : enc (n + 1) x = hd 0 (nm x) := by rw [enc, if_pos h]
theorem enc_2 {n : Nat} {x : T} (h : kd x = 2) : enc (n + 1) x = hd 2 (bs x).length ++ bs x := by rw [enc, if_neg (by omega), if_pos h]
theorem enc_3 {n : Nat} {x : T} (h : kd x = 3) : enc (n + 1) x = hd 3 (bs x).length ++ bs x := by rw [enc, if_neg (by omega), if_neg (by omega), if_pos h]
theorem enc_4 {n : Nat} {x : T} (h : kd x = 4) : enc (n + 1) x = hd 4 (its x).length ++ ((its x).map (enc n)).flatten := by rw [enc, if_neg (by omega), if_neg (by omega), if_neg (by omega), if_pos h]
theorem enc_no {n : Nat} {x : T} (h1 : ¬ kd x = 1) (h2 : ¬ kd x = 2) (h3 : ¬ kd x = 3) (h4 : ¬ kd x = 4) : enc (n + 1) x = [] := by rw [enc, if_neg h1, if_neg h2, if_neg h3, if_neg h4]
theorem hd_pos (t k : Nat) : 0 < (hd t k).length := by
  unfold hd
  repeat' split
  all_goals simp
theorem flat_take {g : T → List Nat} (L : List T) (k : Nat) (hk : k < L.length) : ((L.take (k + 1)).map g).flatten = ((L.take k).map g).flatten ++ g L[k] := by
  rw [List.take_succ_eq_append_getElem hk, List.map_append, List.flatten_append]
  simp
theorem flat_le {g : T → List Nat} (L : List T) (k : Nat) : (((L.take k).map g).flatten).length ≤ ((L.map g).flatten).length := by
  conv => rhs; rw [← List.take_append_drop k L, List.map_append, List.flatten_append, List.length_append]
  omega

set_option maxRecDepth 20000 in
set_option maxHeartbeats 2000000 in
theorem put_bytes (n : Nat) (A : Nat → Prop) (w0 w : World) (x : T) (a1 a2 : Option Addr) (c1 c2 : Nat) (v : Value) (l : List Nat) (hx : Lie A w0 (n + 1) a1 x a2) (hb : Below w0.heap.size w0 w) (ho : w.ownsRow w0.heap.size 5 1 v l.length (cells l)) (hz : l.length + (enc (n + 1) x).length ≤ 140737488000000) (hk : kd x = 1 ∨ kd x = 2 ∨ kd x = 3 ∨ ¬ (kd x = 1 ∨ kd x = 2 ∨ kd x = 3 ∨ kd x = 4)) :
    Calls Tryd.prog 48 #[v, iv x a1 c1 a2 c2] w fun e w' => Adds w0.heap.size w v (l ++ enc (n + 1) x) e w' := by
  have HX : Hid (Row w0 a1 (bs x)) := hx.2.1
  obtain ⟨hk1, _, _, hk4⟩ := hx.1
  have hsz := hb.size
  have HBW : Hid (Below w0.heap.size w0 w) := hb
  have HBA : Hid (∀ X : Obj, Below w.heap.size w (w.alloc X)) := fun X => (Below.refl _ w).alloc (Nat.le_refl _) X
  have HO : Hid (∀ X : Obj, (w.alloc X).ownsRow w0.heap.size 5 1 v l.length (cells l)) := fun X => ((Off.refl (fun _ => False) w).alloc X).owns ho (fun _ _ => id)
  have HLT : Hid (∀ k, v.ownBlock = some k → k < w.heap.size) := fun k hk => (ho.lt k hk).2
  clear hx hb ho
  rcases hk with hk | hk | hk | hk
  · rw [enc_1 hk] at hz ⊢
    have HH : Hid (∀ X : Obj, Calls Tryd.prog 63 #[v, .int .u8 0, .int .u64 (nm x)] (w.alloc X) fun e w' => Adds w0.heap.size (w.alloc X) v (l ++ hd 0 (nm x)) e w') := fun X => putHead_any _ _ v l 0 (nm x) (HO.out X) (by simp; omega) (by omega) hk1 (by omega)
    have hkb : (kd x == 1) = true := by rw [hk]; rfl
    clear hk
    go_enter Tryd.func48, Tryd.ntmps48
    go_wp2_with (go_at_call 63; refine (HH.out _).mono ?_; rintro e w1 ⟨v1, rfl, hq⟩)
    go_ret
    exact ⟨v1, rfl, hq.out.1, Grew.ahead (HBA.out _) hq.out.2⟩
  · rw [enc_2 hk] at hz ⊢
    rw [List.length_append] at hz
    have HH : Hid (∀ X : Obj, Calls Tryd.prog 63 #[v, .int .u8 2, .int .u64 (bs x).length] (w.alloc X) fun e w' => Adds w0.heap.size (w.alloc X) v (l ++ hd 2 (bs x).length) e w') := fun X => putHead_any _ _ v l 2 (bs x).length (HO.out X) (by simp; omega) (by omega) (by omega) (by omega)
    have n1 : (kd x == 1) = false := by rw [hk]; rfl
    have n2 : (kd x == 2) = true := by rw [hk]; rfl
    have hp := hd_pos 2 (bs x).length
    clear hk
    have HBL : Hid (∀ X w1 v1, Grew (w.alloc X) w1 v v1 → Below w0.heap.size w0 w1) := fun X w1 v1 hg => HBW.out.trans (((HBA.out X).mono hsz).trans (hg.below (HO.out X) (by simp; omega)))
    go_enter Tryd.func48, Tryd.ntmps48
    go_wp2_with (first | (go_at_call 63; refine (HH.out _).mono ?_; rintro e w1 ⟨v1, rfl, hq⟩; have e2 : w1.cell? ⟨w.heap.size, 2, none⟩ = some (.slice a1 (bs x).length c1) := (by have := hq.out.2.off.at (heap_alloc_new w _) (fun h => by have := HLT.out _ h; omega); rw [cell_of this]; rfl)) | (at_builtin; go_must (refine wpList_append_row rfl _ _ rfl w0.heap.size v1 (l ++ hd 2 (bs x).length) rfl hq.out.1 a1 c1 (bs x) rfl (HX.out.later (HBL.out _ _ _ hq.out.2)) (.inl (by rw [List.length_append]; omega)) (by rw [List.length_append]; omega) (by have := hq.out.2.off.size; simp at this; omega) ?_); intro v2 w2 ho2 hb2))
    go_ret
    exact ⟨v2, rfl, by rw [← List.append_assoc]; exact ho2, (Grew.ahead (HBA.out _) hq.out.2).trans hb2⟩
  · rw [enc_3 hk] at hz ⊢
    rw [List.length_append] at hz
    have HH : Hid (∀ X : Obj, Calls Tryd.prog 63 #[v, .int .u8 3, .int .u64 (bs x).length] (w.alloc X) fun e w' => Adds w0.heap.size (w.alloc X) v (l ++ hd 3 (bs x).length) e w') := fun X => putHead_any _ _ v l 3 (bs x).length (HO.out X) (by simp; omega) (by omega) (by omega) (by omega)
    have n1 : (kd x == 1) = false := by rw [hk]; rfl
    have n2 : (kd x == 2) = false := by rw [hk]; rfl
    have n3 : (kd x == 3) = true := by rw [hk]; rfl
    have hp := hd_pos 3 (bs x).length
    clear hk
    have HBL : Hid (∀ X w1 v1, Grew (w.alloc X) w1 v v1 → Below w0.heap.size w0 w1) := fun X w1 v1 hg => HBW.out.trans (((HBA.out X).mono hsz).trans (hg.below (HO.out X) (by simp; omega)))
    go_enter Tryd.func48, Tryd.ntmps48
    go_wp2_with (first | (go_at_call 63; refine (HH.out _).mono ?_; rintro e w1 ⟨v1, rfl, hq⟩; have e2 : w1.cell? ⟨w.heap.size, 2, none⟩ = some (.slice a1 (bs x).length c1) := (by have := hq.out.2.off.at (heap_alloc_new w _) (fun h => by have := HLT.out _ h; omega); rw [cell_of this]; rfl)) | (at_builtin; go_must (refine wpList_append_row rfl _ _ rfl w0.heap.size v1 (l ++ hd 3 (bs x).length) rfl hq.out.1 a1 c1 (bs x) rfl (HX.out.later (HBL.out _ _ _ hq.out.2)) (.inl (by rw [List.length_append]; omega)) (by rw [List.length_append]; omega) (by have := hq.out.2.off.size; simp at this; omega) ?_); intro v2 w2 ho2 hb2))
    go_ret
    exact ⟨v2, rfl, by rw [← List.append_assoc]; exact ho2, (Grew.ahead (HBA.out _) hq.out.2).trans hb2⟩
  · rw [enc_no (fun h => hk (.inl h)) (fun h => hk (.inr (.inl h))) (fun h => hk (.inr (.inr (.inl h)))) (fun h => hk (.inr (.inr (.inr h)))), List.append_nil]
    have n1 : (kd x == 1) = false := beq_eq_false_iff_ne.2 (fun h => hk (.inl h))
    have n2 : (kd x == 2) = false := beq_eq_false_iff_ne.2 (fun h => hk (.inr (.inl h)))
    have n3 : (kd x == 3) = false := beq_eq_false_iff_ne.2 (fun h => hk (.inr (.inr (.inl h))))
    have n4 : (kd x == 4) = false := beq_eq_false_iff_ne.2 (fun h => hk (.inr (.inr (.inr h))))
    clear hk
    go_enter Tryd.func48, Tryd.ntmps48
    go_wp2
    go_ret
    exact ⟨v, rfl, HO.out _, Grew.ahead (HBA.out _) (Grew.refl _ _)⟩

set_option maxRecDepth 20000 in
set_option maxHeartbeats 2000000 in
theorem put_list (n : Nat) (hs : PutOk n) (A : Nat → Prop) (w0 w : World) (x : T) (a1 a2 : Option Addr) (c1 c2 : Nat) (v : Value) (l : List Nat) (hx : Lie A w0 (n + 1) a1 x a2) (hb : Below w0.heap.size w0 w) (ho : w.ownsRow w0.heap.size 5 1 v l.length (cells l)) (hz : l.length + (enc (n + 1) x).length ≤ 140737488000000) (hk : kd x = 4) :
    Calls Tryd.prog 48 #[v, iv x a1 c1 a2 c2] w fun e w' => Adds w0.heap.size w v (l ++ enc (n + 1) x) e w' := by
  have HSO : Hid (PutOk n) := hs
  have HX : Hid (LieL A w0 n a2 (its x)) := hx.2.2.2
  have hk5 := hx.2.2.2.1
  have hsz := hb.size
  have HBW : Hid (Below w0.heap.size w0 w) := hb
  have HBA : Hid (∀ X : Obj, Below w.heap.size w (w.alloc X)) := fun X => (Below.refl _ w).alloc (Nat.le_refl _) X
  have HO : Hid (∀ X : Obj, (w.alloc X).ownsRow w0.heap.size 5 1 v l.length (cells l)) := fun X => ((Off.refl (fun _ => False) w).alloc X).owns ho (fun _ _ => id)
  have HLT : Hid (∀ k, v.ownBlock = some k → k < w.heap.size) := fun k hk => (ho.lt k hk).2
  have HGE : Hid (∀ k, v.ownBlock = some k → w0.heap.size ≤ k) := own_ge ho
  clear hx hb ho hs
  rw [enc_4 hk] at hz ⊢
  rw [List.length_append] at hz
  have HH : Hid (∀ X : Obj, Calls Tryd.prog 63 #[v, .int .u8 4, .int .u64 (its x).length] (w.alloc X) fun e w' => Adds w0.heap.size (w.alloc X) v (l ++ hd 4 (its x).length) e w') := fun X => putHead_any _ _ v l 4 (its x).length (HO.out X) (by simp; omega) (by omega) (by omega) (by omega)
  have n1 : (kd x == 1) = false := by rw [hk]; rfl
  have n2 : (kd x == 2) = false := by rw [hk]; rfl
  have n3 : (kd x == 3) = false := by rw [hk]; rfl
  have n4 : (kd x == 4) = true := by rw [hk]; rfl
  clear hk
  go_enter Tryd.func48, Tryd.ntmps48
  go_wp2_with (go_at_call 63; refine (HH.out _).mono ?_; rintro e w1 ⟨v1, rfl, hq⟩; have e3 : w1.cell? ⟨w.heap.size, 3, none⟩ = some (.slice a2 (its x).length c2) := (by have := hq.out.2.off.at (heap_alloc_new w _) (fun h => by have := HLT.out _ h; omega); rw [cell_of this]; rfl))
  go_loopw [0, 50] (fun u i wr => ∃ k : Nat, k ≤ (its x).length ∧ i = .int .i64 k ∧ Hid (wr.ownsRow w0.heap.size 5 1 u (l ++ hd 4 (its x).length ++ (((its x).take k).map (enc n)).flatten).length (cells (l ++ hd 4 (its x).length ++ (((its x).take k).map (enc n)).flatten)) ∧ Grew w wr v u)) (fun _ i _ => (its x).length - (intOf i).toNat)
  case atStart => exact ⟨0, Nat.zero_le _, rfl, by simpa using hq.out.1, Grew.ahead (HBA.out _) hq.out.2⟩
  case round =>
    obtain ⟨k, hkl, rfl, HD⟩ := hrel
    by_cases hlt : k < (its x).length
    · have hbw : Below w0.heap.size w0 wr := HBW.out.trans (HD.out.2.off.below HBW.out.size HGE.out)
      obtain ⟨bb, o1, rfl, _, hc1⟩ := HX.out.2 (by omega)
      obtain ⟨b1, d1, b2, d2, ⟨g0, g1, g2, g3⟩, hli, _⟩ := hc1 k hlt
      have f0 := cell_later hbw g0
      have f1 := cell_later hbw g1
      have f2 := cell_later hbw g2
      have f3 := cell_later hbw g3
      have HLI : Hid (Lie A w0 n b1 (its x)[k] b2) := hli
      have HF : Hid ((((its x).take (k + 1)).map (enc n)).flatten = (((its x).take k).map (enc n)).flatten ++ enc n (its x)[k]) := flat_take _ k hlt
      have hle := flat_le (g := enc n) (its x) (k + 1)
      rw [HF.out, List.length_append] at hle
      have HB : Hid (Below w0.heap.size w0 wr) := hbw
      have HB2 : Hid (∀ X : Obj, Below wr.heap.size wr (wr.alloc X)) := fun X => (Below.refl _ wr).alloc (Nat.le_refl _) X
      clear hc1 hbw g0 g1 g2 g3 hli
      generalize (its x)[k] = y at f0 f1 f2 f3 HF hle HLI
      generalize (((its x).take k).map (enc n)).flatten = F at HF hle HD
      go_wp2_with (go_at_call 48; refine (HSO.out A w0 _ y b1 b2 d1 d2 _ (l ++ hd 4 (its x).length ++ F) HLI.out (HB.out.trans ((HB2.out _).mono HB.out.size)) (((Off.refl (fun _ => False) wr).alloc _).owns HD.out.1 (fun _ _ => id)) (by simp only [List.length_append]; omega)).mono ?_; rintro e w2 ⟨v2, rfl, hq2⟩)
      go_roundw
      case rel =>
        refine ⟨k + 1, by omega, by go_num, ?_, HD.out.2.trans (Grew.ahead (HB2.out _) hq2.out.2)⟩
        rw [HF.out, ← List.append_assoc]
        exact hq2.out.1
      case measure => simp [intOf]; omega
    · obtain rfl : k = (its x).length := by omega
      rw [List.take_length] at HD
      go_wp2
      go_ret
      exact ⟨_, rfl, by rw [← List.append_assoc]; exact HD.out.1, HD.out.2⟩

theorem put_any : ∀ n, PutOk n
  | 0 => fun _ _ _ _ _ _ _ _ _ _ h => h.elim
  | n + 1 => fun A w0 w x a1 a2 c1 c2 v l hx hb ho hz => by
    by_cases hk : kd x = 4
    · exact put_list n (put_any n) A w0 w x a1 a2 c1 c2 v l hx hb ho hz hk
    · exact put_bytes n A w0 w x a1 a2 c1 c2 v l hx hb ho hz (by omega)

/-- what Encode answers. -/
def Encs (V : List Nat → Bool) (n : Nat) (x : T) (w : World) (e : Ending) (w' : World) : Prop :=
  (okT V 4 x = true ∧ ∃ a c, e = .returned (.tuple #[.slice a (enc n x).length c, .int .i64 0]) ∧ Hid (Row w' a (enc n x) ∧ (enc n x).length ≤ c ∧ c ≤ maxLen ∧ (∀ b, a = some b → w.heap.size ≤ b.block) ∧ Below w.heap.size w w')) ∨ (okT V 4 x = false ∧ e = .returned (.tuple #[.slice none 0 0, .int .i64 170]) ∧ Hid (Below w.heap.size w w'))

theorem enc_byte : ∀ (n : Nat) (x : T), fitT n x → ∀ y ∈ enc n x, y < 256
  | 0, _, _, y, hy => by simp [enc] at hy
  | n + 1, x, hf, y, hy => by
    have hh : ∀ t k, t < 5 → ∀ y ∈ hd t k, y < 256 := by
      intro t k ht y hy
      unfold hd at hy
      repeat' split at hy
      all_goals (simp only [List.mem_cons, List.mem_nil_iff, or_false] at hy)
      · omega
      all_goals
        rcases hy with hy | hy
        · omega
        · exact be_byte _ _ y hy
    rw [enc] at hy
    split at hy
    · exact hh _ _ (by omega) y hy
    split at hy
    · rcases List.mem_append.1 hy with h | h
      · exact hh _ _ (by omega) y h
      · exact hf.2.1 y h
    split at hy
    · rcases List.mem_append.1 hy with h | h
      · exact hh _ _ (by omega) y h
      · exact hf.2.1 y h
    split at hy
    · rcases List.mem_append.1 hy with h | h
      · exact hh _ _ (by omega) y h
      · obtain ⟨z, hz, hyz⟩ := List.mem_flatten.1 h
        obtain ⟨u, hu, rfl⟩ := List.mem_map.1 hz
        exact enc_byte n u (hf.2.2 u hu) y hyz
    · simp at hy

set_option maxRecDepth 20000 in
set_option maxHeartbeats 1000000 in
theorem encode_any (V : List Nat → Bool) (TB : World → Prop) (hT : Txt V TB) (A : Nat → Prop) (w : World) (n : Nat) (hn : 4 ≤ n) (x : T) (a1 a2 : Option Addr) (c1 c2 : Nat) (hw : TB w) (hx : Lie A w n a1 x a2) (hcp : (bs x).length ≤ c1) :
    Calls Tryd.prog 27 #[iv x a1 c1 a2 c2] w fun e w' => Encs V n x w e w' := by
  have HB : Hid (∀ X : Obj, Below w.heap.size w (w.alloc X)) := fun X => (Below.refl _ w).alloc (Nat.le_refl _) X
  have HM : Hid (∀ X : Obj, Calls Tryd.prog 47 #[iv x a1 c1 a2 c2] (w.alloc X) fun e w' => e = .returned (.int .i64 (if okT V 4 x = true then 0 else 170)) ∧ Hid (Below (w.alloc X).heap.size (w.alloc X) w')) := fun X => check_any V TB hT A _ n x a1 a2 c1 c2 (hT.later _ _ hw (HB.out X)) (hx.later (HB.out X)) hcp
  have HX : Hid (Lie A w n a1 x a2) := hx
  clear hx hw hT hcp
  unfold Encs
  cases hq : okT V 4 x with
  | true =>
    rw [hq, if_pos rfl] at HM
    have hlen : (enc n x).length ≤ 140000000 := Nat.le_trans (enc_le 4 n x hq hn) (by decide)
    have HEB : Hid (∀ y ∈ enc n x, y < 256) := enc_byte n x (Lie.fit n HX.out)
    have HP : Hid (∀ w1, Below w.heap.size w w1 → Calls Tryd.prog 48 #[.slice none 0 0, iv x a1 c1 a2 c2] w1 fun e w' => Adds w.heap.size w1 (.slice none 0 0) ([] ++ enc n x) e w') := fun w1 hb => put_any n A w w1 x a1 a2 c1 c2 _ [] HX.out hb (World.ownsRow_nil _ _ _ _) (by simp; omega)
    go_enter Tryd.func27, Tryd.ntmps27
    go_wp2_with (first | (go_at_call 47; refine (HM.out _).mono ?_; rintro e w1 ⟨rfl, hb1⟩; have hbx := hb1.out.block w.heap.size (by simp); rw [heap_alloc_new] at hbx; have e0 := cell_of hbx 0; have e1 := cell_of hbx 1; have e2 := cell_of hbx 2; have e3 := cell_of hbx 3; simp at e0 e1 e2 e3) | (go_at_call 48; refine (HP.out _ (below_of (HB.out _) hb1.out)).mono ?_; rintro e w2 ⟨v2, rfl, hq2⟩))
    rw [List.nil_append] at hq2
    obtain ⟨a, c, rfl, h1, h2, h3⟩ := own_row hq2.out.1 HEB.out (by unfold maxLen; omega)
    go_ret2
    refine .inl ⟨by trivial, a, c, rfl, h3, h1, h2, ?_, below_of (below_of (HB.out _) hb1.out) (hq2.out.2.off.below (Nat.le_refl _) (fun i hi => by cases hi))⟩
    intro b hb
    exact own_ge hq2.out.1 b.block (by rw [hb]; rfl)
  | false =>
    rw [hq, if_neg (by simp)] at HM
    go_enter Tryd.func27, Tryd.ntmps27
    go_wp2_with (go_at_call 47; refine (HM.out _).mono ?_; rintro e w1 ⟨rfl, hb1⟩)
    go_ret2
    exact .inr ⟨by trivial, rfl, below_of (HB.out _) hb1.out⟩
end Go.Proofs.YtjfmgokpnpmdpaaDoor
