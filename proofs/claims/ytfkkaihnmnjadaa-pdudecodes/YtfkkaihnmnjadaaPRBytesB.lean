/- heliographref11.Bytes: the others. -/
import Derived.Test.YtfkkaihnmnjadaaPR01
import Derived.Deep.RegionHeld3
import Derived.Test.YtfkkaihnmnjadaaPRHas
import Derived.Test.YtfkkaihnmnjadaaPCheck
namespace Go.Proofs.Ytfkkaihnmnjadaa
open Go.RowKit
set_option linter.unusedVariables false
set_option maxRecDepth 20000 in
set_option maxHeartbeats 16000000 in
theorem rbytes_2 (num : Nat) (nam : ByteArray) (z su : Nat) (siz off cod : Int) (bts : List Nat) (a : Option Addr) (c : Nat) (w : World) (hc : Came w (⟨2, num, nam, siz, ((z : Nat) : Int), su, cod, bts⟩ : Ms) a c) (hn : num < 4294967296) (hnam : nam.size ≤ 24) (hz : z ≤ 4096) (hsu : su < 4294967296) (hbt : bts.length ≤ 256) : Calls Try.prog 14 #[mv (⟨2, num, nam, siz, ((z : Nat) : Int), su, cod, bts⟩ : Ms) a c] w fun e w' => ∃ a' c', e = .returned (.slice a' ((5 + 2) + (2 + bts.length)) c') ∧ Hid (Row w' a' (((2 :: be num 4) ++ be z 2) ++ encBytes bts) ∧ Below w.heap.size w w') := by
  have HB : Hid (∀ (w : World) (X : Obj), Below w.heap.size w (w.alloc X)) := fun w X => (Below.refl _ w).alloc (Nat.le_refl _) X
  have HF : Hid (∀ W : World, Calls Try.prog 24 #[.int .i64 2] W fun e w' => e = .returned (.string ⟨#[111, 98]⟩) ∧ Hid (Below W.heap.size W w')) := fun W => fieldsR_yes 2 (by omega) W
  have HR : Hid (Row w a bts) := hc.row
  have HP0 : Hid ((w.alloc (mc (⟨2, num, nam, siz, ((z : Nat) : Int), su, cod, bts⟩ : Ms) a c)).heap[w.heap.size]? = some (mc (⟨2, num, nam, siz, ((z : Nat) : Int), su, cod, bts⟩ : Ms) a c)) := heap_alloc_new w _
  have H4 : Hid (∀ W, Calls Try.prog 29 #[.int .u64 num, .int .i64 4] W fun e w' => e = .returned (.slice (some ⟨W.heap.size, 0, none⟩) 4 4) ∧ Hid (Bs w' W.heap.size (be num 4) ∧ Below W.heap.size W w')) := fun W => high_any num 4 W (by omega) (by omega)
  have HO : Hid (∀ W g1 g2, Row W (some ⟨g1, 0, none⟩) [2] → Row W (some ⟨g2, 0, none⟩) (be num 4) → Calls Try.prog 28 #[.slice (some ⟨g1, 0, none⟩) 1 1, .slice (some ⟨g2, 0, none⟩) 4 4] W fun e w' => ∃ a' c', e = .returned (.slice a' 5 c') ∧ Hid (Row w' a' (2 :: be num 4) ∧ Below W.heap.size W w')) := fun W g1 g2 r1 r2 => (both_at W _ _ 1 4 1 4 [2] (be num 4) rfl (be_length _ _) r1 r2 (by omega)).mono (by rintro e w' ⟨a', c', rfl, hq⟩; exact ⟨a', c', rfl, hq.out.1.row, hq.out.2⟩)
  have HK : Hid (∀ W : World, Row (W.alloc (.cells #[.int .u8 (IntKind.u8.wrap 2)] 5)) (some ⟨W.heap.size, 0, none⟩) [2]) := fun W => row_one 2 (by omega)
  have H4A : Hid (∀ W : World, Calls Try.prog 29 #[.int .u64 num, .int .i64 4] (W.alloc (.cells #[.int .u8 (IntKind.u8.wrap 2)] 5)).drew fun e w' => e = .returned (.slice (some ⟨W.heap.size + 1, 0, none⟩) 4 4) ∧ Hid (Row w' (some ⟨W.heap.size, 0, none⟩) [2] ∧ Row w' (some ⟨W.heap.size + 1, 0, none⟩) (be num 4) ∧ Below W.heap.size W w')) := fun W => by
    have hs : (W.alloc (.cells #[.int .u8 (IntKind.u8.wrap 2)] 5)).drew.heap.size = W.heap.size + 1 := by show (W.alloc (.cells #[.int .u8 (IntKind.u8.wrap 2)] 5)).heap.size = _; simp
    have hd : Below W.heap.size W (W.alloc (.cells #[.int .u8 (IntKind.u8.wrap 2)] 5)).drew := (HB.out W _).drew
    refine (H4.out (W.alloc (.cells #[.int .u8 (IntKind.u8.wrap 2)] 5)).drew).mono ?_
    rintro e w' ⟨rfl, hq⟩
    rw [hs] at hq ⊢
    have hb := hq.out.2
    rw [← hs] at hb
    exact ⟨rfl, ((HK.out W).later ((Below.refl _ _).drew)).later hb, hq.out.1.row, below_of hd hb⟩
  have H4B : Hid (∀ W : World, Calls Try.prog 29 #[.int .u64 num, .int .i64 4] W.drew fun e w' => e = .returned (.slice (some ⟨W.heap.size, 0, none⟩) 4 4) ∧ Hid (Row w' (some ⟨W.heap.size, 0, none⟩) (be num 4) ∧ Below W.heap.size W w')) := fun W => by
    refine (H4.out W.drew).mono ?_
    rintro e w' ⟨rfl, hq⟩
    exact ⟨rfl, hq.out.1.row, below_of ((Below.refl _ _).drew) hq.out.2⟩
  have hwn : IntKind.u64.wrap (num : Int) = num := IntWalk.u64_in _ (by omega)
  have ix0 : ((({ data := #[111, 98] } : ByteArray)[0]'(by decide)).toNat) = 111 := rfl
  have ix1 : ((({ data := #[111, 98] } : ByteArray)[1]'(by decide)).toNat) = 98 := rfl
  obtain ⟨e0, e1, e2, e3, e4, e5, e6, e7⟩ := mcells (m := (⟨2, num, nam, siz, ((z : Nat) : Int), su, cod, bts⟩ : Ms)) HP0.out
  simp only at e0 e1 e2 e3 e4 e5 e6 e7
  have HW0 : Hid (Below w.heap.size w (w.alloc (mc (⟨2, num, nam, siz, ((z : Nat) : Int), su, cod, bts⟩ : Ms) a c))) := HB.out _ _
  clear hc
  go_enter Try.func14, Try.ntmps14
  go_wp2_with fail
  generalize w.alloc (mc (⟨2, num, nam, siz, ((z : Nat) : Int), su, cod, bts⟩ : Ms) a c) = W0 at HP0 HW0 e0 e1 e2 e3 e4 e5 e6 e7 ⊢
  generalize w.heap.size = P at HP0 e0 e1 e2 e3 e4 e5 e6 e7 ⊢
  have hX : Below W0.heap.size W0 W0.drew := (Below.refl _ _).drew
  go_region_held3 (fun W' => W'.cell? ⟨P, 0, none⟩ = some (.int .i64 2) ∧ W'.cell? ⟨P, 1, none⟩ = some (.int .u32 (num : Nat))) (first | exact ⟨e0, e1⟩ | exact ⟨cell_later hX e0, cell_later hX e1⟩ | exact ⟨cell_later (below_of hX (HB.out _ _)) e0, cell_later (below_of hX (HB.out _ _)) e1⟩) (first
    | (go_at_call 29; refine (H4A.out W0).mono ?_; rintro e w1 ⟨rfl, hA⟩; have hX := hA.out.2.2)
    | (go_at_call 29; refine (H4B.out W0).mono ?_; rintro e w1 ⟨rfl, hB⟩; have hX := hB.out.2)
    | (go_at_call 28; refine (HO.out w1 _ _ hA.out.1 hA.out.2.1).mono ?_; rintro e w2 ⟨a2, c2, rfl, hq2⟩; have hX := below_of hX hq2.out.2)
    | (go_at_call 28; refine (HO.out _ _ _ (HK.out w1) (hB.out.1.later (HB.out _ _))).mono ?_; rintro e w2 ⟨a2, c2, rfl, hq2⟩; have hX := below_of (below_of hX (HB.out _ _)) hq2.out.2))
  all_goals
    have HS2 : Hid (Row w2 a2 (2 :: be num 4) ∧ Below W0.heap.size W0 w2) := ⟨hq2.out.1, hX⟩
    obtain ⟨e0, e1, e2, e3, e4, e5, e6, e7⟩ := mcells (m := (⟨2, num, nam, siz, ((z : Nat) : Int), su, cod, bts⟩ : Ms)) (old_block HS2.out.2 HP0.out)
    simp only at e0 e1 e2 e3 e4 e5 e6 e7
    clear hX H4A H4B HO HK H4
    go_wp2_with (go_at_call 24; refine (HF.out _).mono ?_; rintro e w3 ⟨rfl, hb3⟩; have HS3 : Hid (Row w3 a2 (2 :: be num 4) ∧ Below W0.heap.size W0 w3) := ⟨HS2.out.1.later hb3.out, below_of HS2.out.2 hb3.out⟩; clear hb3)
    go_loopw [3, 5] (fun v i wr => (i = .int .i64 0 ∧ ∃ av cv, v = .slice av 5 cv ∧ Hid (Row wr av (2 :: be num 4) ∧ Below W0.heap.size W0 wr)) ∨ (i = .int .i64 1 ∧ ∃ av cv, v = .slice av (5 + 2) cv ∧ Hid (Row wr av ((2 :: be num 4) ++ be z 2) ∧ Below W0.heap.size W0 wr)) ∨ (i = .int .i64 2 ∧ ∃ av cv, v = .slice av ((5 + 2) + (2 + bts.length)) cv ∧ Hid (Row wr av (((2 :: be num 4) ++ be z 2) ++ encBytes bts) ∧ Below W0.heap.size W0 wr))) (fun _ i _ => 2 - (intOf i).toNat)
    case atStart => exact .inl ⟨rfl, a2, c2, rfl, HS3.out⟩
    case round =>
      rcases hrel with ⟨rfl, av, cv, rfl, hq⟩ | ⟨rfl, av, cv, rfl, hq⟩ | ⟨rfl, av, cv, rfl, hq⟩
      · obtain ⟨f0, f1, f2, f3, f4, f5, f6, f7⟩ := mcells (m := (⟨2, num, nam, siz, ((z : Nat) : Int), su, cod, bts⟩ : Ms)) (old_block hq.out.2 HP0.out)
        simp only at f0 f1 f2 f3 f4 f5 f6 f7
        go_wp2_with (first
          | (go_at_call 29; refine (high_any z 2 _ (by omega) (by omega)).mono ?_; rintro e w4 ⟨rfl, hq4⟩)
          | (go_at_call 28; refine (both_at w4 av _ cv 2 5 2 (2 :: be num 4) (be z 2) (by simp [be_length]) (be_length _ _) (hq.out.1.later hq4.out.2) hq4.out.1.row (by omega)).mono ?_; rintro e w5 ⟨a5, c5, rfl, hq5⟩; have hN : Hid (Row w5 a5 ((2 :: be num 4) ++ be z 2) ∧ Below W0.heap.size W0 w5) := ⟨hq5.out.1.row, below_of (below_of hq.out.2 hq4.out.2) hq5.out.2⟩))
        refine ⟨?_, ?_⟩
        · exact .inr (.inl ⟨rfl, a5, c5, rfl, hN⟩)
        · simp [intOf]
      · obtain ⟨f0, f1, f2, f3, f4, f5, f6, f7⟩ := mcells (m := (⟨2, num, nam, siz, ((z : Nat) : Int), su, cod, bts⟩ : Ms)) (old_block hq.out.2 HP0.out)
        simp only at f0 f1 f2 f3 f4 f5 f6 f7
        have HH2 : Hid (∀ W : World, Calls Try.prog 29 #[.int .u64 (bts.length : Nat), .int .i64 2] W.drew fun e w' => e = .returned (.slice (some ⟨W.heap.size, 0, none⟩) 2 2) ∧ Hid (Row w' (some ⟨W.heap.size, 0, none⟩) (be bts.length 2) ∧ Below W.heap.size W w')) := fun W => by
          refine (high_any bts.length 2 W.drew (by omega) (by omega)).mono ?_
          rintro e w' ⟨rfl, hq⟩
          exact ⟨rfl, hq.out.1.row, below_of ((Below.refl _ _).drew) hq.out.2⟩
        have HBI : Hid (∀ W g, Row W (some ⟨g, 0, none⟩) (be bts.length 2) → Row W a bts → Calls Try.prog 28 #[.slice (some ⟨g, 0, none⟩) 2 2, .slice a bts.length c] W fun e w' => ∃ a' c', e = .returned (.slice a' (2 + bts.length) c') ∧ Hid (Row w' a' (encBytes bts) ∧ Below W.heap.size W w')) := fun W g r1 r2 => (both_at W _ a 2 c 2 bts.length (be bts.length 2) bts (be_length _ _) rfl r1 r2 (by omega)).mono (by rintro e w' ⟨a', c', rfl, hq⟩; exact ⟨a', c', rfl, hq.out.1.row, hq.out.2⟩)
        have HBO : Hid (∀ W a4 c4, Row W av ((2 :: be num 4) ++ be z 2) → Row W a4 (encBytes bts) → Calls Try.prog 28 #[.slice av (5 + 2) cv, .slice a4 (2 + bts.length) c4] W fun e w' => ∃ a' c', e = .returned (.slice a' ((5 + 2) + (2 + bts.length)) c') ∧ Hid (Row w' a' (((2 :: be num 4) ++ be z 2) ++ encBytes bts) ∧ Below W.heap.size W w')) := fun W a4 c4 r1 r2 => (both_at W av a4 cv c4 (5 + 2) (2 + bts.length) ((2 :: be num 4) ++ be z 2) (encBytes bts) (by simp [be_length]) (by simp [encBytes, be_length]) r1 r2 (by omega)).mono (by rintro e w' ⟨a', c', rfl, hq⟩; exact ⟨a', c', rfl, hq.out.1.row, hq.out.2⟩)
        have hwb : IntKind.u64.wrap (bts.length : Int) = bts.length := IntWalk.u64_in _ (by omega)
        have HRW : Hid (Row wr a bts) := HR.out.later (below_of HW0.out hq.out.2)
        go_wp2_with fail
        have hX : Below wr.heap.size wr wr.drew := (Below.refl _ _).drew
        go_region_held3 (fun W' => W'.cell? ⟨P, 7, none⟩ = some (.slice a bts.length c)) (first | exact f7 | exact cell_later hX f7) (first
          | (have gd := hin; go_at_call 28; refine (HBO.out w4 a4 c4 (hq.out.1.later hX) hin.out).mono ?_; rintro e w5 ⟨a5, c5, rfl, hq5⟩; have hX := below_of hX hq5.out.2; have hN : Hid (Row w5 a5 (((2 :: be num 4) ++ be z 2) ++ encBytes bts) ∧ Below W0.heap.size W0 w5) := ⟨hq5.out.1, below_of hq.out.2 hX⟩)
          | (go_at_call 28; refine (HBI.out w6 _ hq6.out.1 (HRW.out.later hX)).mono ?_; rintro e w4 ⟨a4, c4, rfl, hq4⟩; have hX := below_of hX hq4.out.2; have hin : Hid (Row w4 a4 (encBytes bts)) := hq4.out.1)
          | (go_at_call 29; refine (HH2.out wr).mono ?_; rintro e w6 ⟨rfl, hq6⟩; have hX := hq6.out.2))
        go_wp2
        refine ⟨?_, ?_⟩
        · exact .inr (.inr (⟨rfl, a5, c5, rfl, hN⟩))
        · simp [intOf]
      · go_wp2
        go_ret
        exact ⟨av, cv, rfl, hq.out.1, below_of HW0.out hq.out.2⟩
set_option maxRecDepth 20000 in
set_option maxHeartbeats 16000000 in
theorem rbytes_5 (num : Nat) (nam : ByteArray) (z su : Nat) (siz off cod : Int) (bts : List Nat) (a : Option Addr) (c : Nat) (w : World) (hc : Came w (⟨5, num, nam, siz, off, su, cod, bts⟩ : Ms) a c) (hn : num < 4294967296) (hnam : nam.size ≤ 24) (hz : z ≤ 4096) (hsu : su < 4294967296) (hbt : bts.length ≤ 256) : Calls Try.prog 14 #[mv (⟨5, num, nam, siz, off, su, cod, bts⟩ : Ms) a c] w fun e w' => ∃ a' c', e = .returned (.slice a' ((5 + (1 + nam.size)) + (2 + bts.length)) c') ∧ Hid (Row w' a' (((5 :: be num 4) ++ encName nam) ++ encBytes bts) ∧ Below w.heap.size w w') := by
  have HB : Hid (∀ (w : World) (X : Obj), Below w.heap.size w (w.alloc X)) := fun w X => (Below.refl _ w).alloc (Nat.le_refl _) X
  have HF : Hid (∀ W : World, Calls Try.prog 24 #[.int .i64 5] W fun e w' => e = .returned (.string ⟨#[110, 98]⟩) ∧ Hid (Below W.heap.size W w')) := fun W => fieldsR_yes 5 (by omega) W
  have HR : Hid (Row w a bts) := hc.row
  have HP0 : Hid ((w.alloc (mc (⟨5, num, nam, siz, off, su, cod, bts⟩ : Ms) a c)).heap[w.heap.size]? = some (mc (⟨5, num, nam, siz, off, su, cod, bts⟩ : Ms) a c)) := heap_alloc_new w _
  have H4 : Hid (∀ W, Calls Try.prog 29 #[.int .u64 num, .int .i64 4] W fun e w' => e = .returned (.slice (some ⟨W.heap.size, 0, none⟩) 4 4) ∧ Hid (Bs w' W.heap.size (be num 4) ∧ Below W.heap.size W w')) := fun W => high_any num 4 W (by omega) (by omega)
  have HO : Hid (∀ W g1 g2, Row W (some ⟨g1, 0, none⟩) [5] → Row W (some ⟨g2, 0, none⟩) (be num 4) → Calls Try.prog 28 #[.slice (some ⟨g1, 0, none⟩) 1 1, .slice (some ⟨g2, 0, none⟩) 4 4] W fun e w' => ∃ a' c', e = .returned (.slice a' 5 c') ∧ Hid (Row w' a' (5 :: be num 4) ∧ Below W.heap.size W w')) := fun W g1 g2 r1 r2 => (both_at W _ _ 1 4 1 4 [5] (be num 4) rfl (be_length _ _) r1 r2 (by omega)).mono (by rintro e w' ⟨a', c', rfl, hq⟩; exact ⟨a', c', rfl, hq.out.1.row, hq.out.2⟩)
  have HK : Hid (∀ W : World, Row (W.alloc (.cells #[.int .u8 (IntKind.u8.wrap 5)] 5)) (some ⟨W.heap.size, 0, none⟩) [5]) := fun W => row_one 5 (by omega)
  have H4A : Hid (∀ W : World, Calls Try.prog 29 #[.int .u64 num, .int .i64 4] (W.alloc (.cells #[.int .u8 (IntKind.u8.wrap 5)] 5)).drew fun e w' => e = .returned (.slice (some ⟨W.heap.size + 1, 0, none⟩) 4 4) ∧ Hid (Row w' (some ⟨W.heap.size, 0, none⟩) [5] ∧ Row w' (some ⟨W.heap.size + 1, 0, none⟩) (be num 4) ∧ Below W.heap.size W w')) := fun W => by
    have hs : (W.alloc (.cells #[.int .u8 (IntKind.u8.wrap 5)] 5)).drew.heap.size = W.heap.size + 1 := by show (W.alloc (.cells #[.int .u8 (IntKind.u8.wrap 5)] 5)).heap.size = _; simp
    have hd : Below W.heap.size W (W.alloc (.cells #[.int .u8 (IntKind.u8.wrap 5)] 5)).drew := (HB.out W _).drew
    refine (H4.out (W.alloc (.cells #[.int .u8 (IntKind.u8.wrap 5)] 5)).drew).mono ?_
    rintro e w' ⟨rfl, hq⟩
    rw [hs] at hq ⊢
    have hb := hq.out.2
    rw [← hs] at hb
    exact ⟨rfl, ((HK.out W).later ((Below.refl _ _).drew)).later hb, hq.out.1.row, below_of hd hb⟩
  have H4B : Hid (∀ W : World, Calls Try.prog 29 #[.int .u64 num, .int .i64 4] W.drew fun e w' => e = .returned (.slice (some ⟨W.heap.size, 0, none⟩) 4 4) ∧ Hid (Row w' (some ⟨W.heap.size, 0, none⟩) (be num 4) ∧ Below W.heap.size W w')) := fun W => by
    refine (H4.out W.drew).mono ?_
    rintro e w' ⟨rfl, hq⟩
    exact ⟨rfl, hq.out.1.row, below_of ((Below.refl _ _).drew) hq.out.2⟩
  have hwn : IntKind.u64.wrap (num : Int) = num := IntWalk.u64_in _ (by omega)
  have ix0 : ((({ data := #[110, 98] } : ByteArray)[0]'(by decide)).toNat) = 110 := rfl
  have ix1 : ((({ data := #[110, 98] } : ByteArray)[1]'(by decide)).toNat) = 98 := rfl
  obtain ⟨e0, e1, e2, e3, e4, e5, e6, e7⟩ := mcells (m := (⟨5, num, nam, siz, off, su, cod, bts⟩ : Ms)) HP0.out
  simp only at e0 e1 e2 e3 e4 e5 e6 e7
  have HW0 : Hid (Below w.heap.size w (w.alloc (mc (⟨5, num, nam, siz, off, su, cod, bts⟩ : Ms) a c))) := HB.out _ _
  clear hc
  go_enter Try.func14, Try.ntmps14
  go_wp2_with fail
  generalize w.alloc (mc (⟨5, num, nam, siz, off, su, cod, bts⟩ : Ms) a c) = W0 at HP0 HW0 e0 e1 e2 e3 e4 e5 e6 e7 ⊢
  generalize w.heap.size = P at HP0 e0 e1 e2 e3 e4 e5 e6 e7 ⊢
  have hX : Below W0.heap.size W0 W0.drew := (Below.refl _ _).drew
  go_region_held3 (fun W' => W'.cell? ⟨P, 0, none⟩ = some (.int .i64 5) ∧ W'.cell? ⟨P, 1, none⟩ = some (.int .u32 (num : Nat))) (first | exact ⟨e0, e1⟩ | exact ⟨cell_later hX e0, cell_later hX e1⟩ | exact ⟨cell_later (below_of hX (HB.out _ _)) e0, cell_later (below_of hX (HB.out _ _)) e1⟩) (first
    | (go_at_call 29; refine (H4A.out W0).mono ?_; rintro e w1 ⟨rfl, hA⟩; have hX := hA.out.2.2)
    | (go_at_call 29; refine (H4B.out W0).mono ?_; rintro e w1 ⟨rfl, hB⟩; have hX := hB.out.2)
    | (go_at_call 28; refine (HO.out w1 _ _ hA.out.1 hA.out.2.1).mono ?_; rintro e w2 ⟨a2, c2, rfl, hq2⟩; have hX := below_of hX hq2.out.2)
    | (go_at_call 28; refine (HO.out _ _ _ (HK.out w1) (hB.out.1.later (HB.out _ _))).mono ?_; rintro e w2 ⟨a2, c2, rfl, hq2⟩; have hX := below_of (below_of hX (HB.out _ _)) hq2.out.2))
  all_goals
    have HS2 : Hid (Row w2 a2 (5 :: be num 4) ∧ Below W0.heap.size W0 w2) := ⟨hq2.out.1, hX⟩
    obtain ⟨e0, e1, e2, e3, e4, e5, e6, e7⟩ := mcells (m := (⟨5, num, nam, siz, off, su, cod, bts⟩ : Ms)) (old_block HS2.out.2 HP0.out)
    simp only at e0 e1 e2 e3 e4 e5 e6 e7
    clear hX H4A H4B HO HK H4
    go_wp2_with (go_at_call 24; refine (HF.out _).mono ?_; rintro e w3 ⟨rfl, hb3⟩; have HS3 : Hid (Row w3 a2 (5 :: be num 4) ∧ Below W0.heap.size W0 w3) := ⟨HS2.out.1.later hb3.out, below_of HS2.out.2 hb3.out⟩; clear hb3)
    go_loopw [3, 5] (fun v i wr => (i = .int .i64 0 ∧ ∃ av cv, v = .slice av 5 cv ∧ Hid (Row wr av (5 :: be num 4) ∧ Below W0.heap.size W0 wr)) ∨ (i = .int .i64 1 ∧ ∃ av cv, v = .slice av (5 + (1 + nam.size)) cv ∧ Hid (Row wr av ((5 :: be num 4) ++ encName nam) ∧ Below W0.heap.size W0 wr)) ∨ (i = .int .i64 2 ∧ ∃ av cv, v = .slice av ((5 + (1 + nam.size)) + (2 + bts.length)) cv ∧ Hid (Row wr av (((5 :: be num 4) ++ encName nam) ++ encBytes bts) ∧ Below W0.heap.size W0 wr))) (fun _ i _ => 2 - (intOf i).toNat)
    case atStart => exact .inl ⟨rfl, a2, c2, rfl, HS3.out⟩
    case round =>
      rcases hrel with ⟨rfl, av, cv, rfl, hq⟩ | ⟨rfl, av, cv, rfl, hq⟩ | ⟨rfl, av, cv, rfl, hq⟩
      · obtain ⟨f0, f1, f2, f3, f4, f5, f6, f7⟩ := mcells (m := (⟨5, num, nam, siz, off, su, cod, bts⟩ : Ms)) (old_block hq.out.2 HP0.out)
        simp only at f0 f1 f2 f3 f4 f5 f6 f7
        obtain ⟨cc, wc, hcv, hrow, hbc⟩ := conv_bytes (wr.alloc (.cells #[.int .u8 (nam.size : Nat)] 5)) nam (by omega)
        have hr1 : Row wc (some ⟨wr.heap.size, 0, none⟩) [nam.size] := (row_one nam.size (by omega)).later hbc
        have HBT := both_at wc _ _ 1 cc 1 nam.size [nam.size] (nbytes nam) rfl (nbytes_length nam) hr1 hrow (by omega)
        have hsz : (wr.alloc (.cells #[.int .u8 (nam.size : Nat)] 5)).heap.size = wr.heap.size + 1 := by simp
        rw [hsz] at HBT hcv
        have f2b : ∀ A, (wr.alloc A).cell? ⟨P, 2, none⟩ = some (.string nam) := fun A => cell_later (HB.out _ _) f2
        have hWC : Hid (Below W0.heap.size W0 wc ∧ Row wc av (5 :: be num 4)) := ⟨below_of (below_of hq.out.2 (HB.out _ _)) hbc, hq.out.1.later (below_of (HB.out _ _) hbc)⟩
        clear hr1 hrow hsz hbc
        go_wp2_with (first
          | (have gd := hin; go_at_call 28; refine (both_at w4 av a4 cv c4 5 (1 + nam.size) (5 :: be num 4) (encName nam) (by simp [be_length]) (by simp [encName, nbytes_length]; omega) (hWC.out.2.later hin.out.2) hin.out.1 (by omega)).mono ?_; rintro e w5 ⟨a5, c5, rfl, hq5⟩; have hN : Hid (Row w5 a5 ((5 :: be num 4) ++ encName nam) ∧ Below W0.heap.size W0 w5) := ⟨hq5.out.1.row, below_of (below_of hWC.out.1 hin.out.2) hq5.out.2⟩)
          | (go_at_call 28; refine HBT.mono ?_; rintro e w4 ⟨a4, c4, rfl, hq4⟩; have hin : Hid (Row w4 a4 (encName nam) ∧ Below wc.heap.size wc w4) := ⟨hq4.out.1.row, hq4.out.2⟩))
        refine ⟨?_, ?_⟩
        · exact .inr (.inl ⟨rfl, a5, c5, rfl, hN⟩)
        · simp [intOf]
      · obtain ⟨f0, f1, f2, f3, f4, f5, f6, f7⟩ := mcells (m := (⟨5, num, nam, siz, off, su, cod, bts⟩ : Ms)) (old_block hq.out.2 HP0.out)
        simp only at f0 f1 f2 f3 f4 f5 f6 f7
        have HH2 : Hid (∀ W : World, Calls Try.prog 29 #[.int .u64 (bts.length : Nat), .int .i64 2] W.drew fun e w' => e = .returned (.slice (some ⟨W.heap.size, 0, none⟩) 2 2) ∧ Hid (Row w' (some ⟨W.heap.size, 0, none⟩) (be bts.length 2) ∧ Below W.heap.size W w')) := fun W => by
          refine (high_any bts.length 2 W.drew (by omega) (by omega)).mono ?_
          rintro e w' ⟨rfl, hq⟩
          exact ⟨rfl, hq.out.1.row, below_of ((Below.refl _ _).drew) hq.out.2⟩
        have HBI : Hid (∀ W g, Row W (some ⟨g, 0, none⟩) (be bts.length 2) → Row W a bts → Calls Try.prog 28 #[.slice (some ⟨g, 0, none⟩) 2 2, .slice a bts.length c] W fun e w' => ∃ a' c', e = .returned (.slice a' (2 + bts.length) c') ∧ Hid (Row w' a' (encBytes bts) ∧ Below W.heap.size W w')) := fun W g r1 r2 => (both_at W _ a 2 c 2 bts.length (be bts.length 2) bts (be_length _ _) rfl r1 r2 (by omega)).mono (by rintro e w' ⟨a', c', rfl, hq⟩; exact ⟨a', c', rfl, hq.out.1.row, hq.out.2⟩)
        have HBO : Hid (∀ W a4 c4, Row W av ((5 :: be num 4) ++ encName nam) → Row W a4 (encBytes bts) → Calls Try.prog 28 #[.slice av (5 + (1 + nam.size)) cv, .slice a4 (2 + bts.length) c4] W fun e w' => ∃ a' c', e = .returned (.slice a' ((5 + (1 + nam.size)) + (2 + bts.length)) c') ∧ Hid (Row w' a' (((5 :: be num 4) ++ encName nam) ++ encBytes bts) ∧ Below W.heap.size W w')) := fun W a4 c4 r1 r2 => (both_at W av a4 cv c4 (5 + (1 + nam.size)) (2 + bts.length) ((5 :: be num 4) ++ encName nam) (encBytes bts) (by simp [be_length, encName, nbytes_length]; omega) (by simp [encBytes, be_length]) r1 r2 (by omega)).mono (by rintro e w' ⟨a', c', rfl, hq⟩; exact ⟨a', c', rfl, hq.out.1.row, hq.out.2⟩)
        have hwb : IntKind.u64.wrap (bts.length : Int) = bts.length := IntWalk.u64_in _ (by omega)
        have HRW : Hid (Row wr a bts) := HR.out.later (below_of HW0.out hq.out.2)
        go_wp2_with fail
        have hX : Below wr.heap.size wr wr.drew := (Below.refl _ _).drew
        go_region_held3 (fun W' => W'.cell? ⟨P, 7, none⟩ = some (.slice a bts.length c)) (first | exact f7 | exact cell_later hX f7) (first
          | (have gd := hin; go_at_call 28; refine (HBO.out w4 a4 c4 (hq.out.1.later hX) hin.out).mono ?_; rintro e w5 ⟨a5, c5, rfl, hq5⟩; have hX := below_of hX hq5.out.2; have hN : Hid (Row w5 a5 (((5 :: be num 4) ++ encName nam) ++ encBytes bts) ∧ Below W0.heap.size W0 w5) := ⟨hq5.out.1, below_of hq.out.2 hX⟩)
          | (go_at_call 28; refine (HBI.out w6 _ hq6.out.1 (HRW.out.later hX)).mono ?_; rintro e w4 ⟨a4, c4, rfl, hq4⟩; have hX := below_of hX hq4.out.2; have hin : Hid (Row w4 a4 (encBytes bts)) := hq4.out.1)
          | (go_at_call 29; refine (HH2.out wr).mono ?_; rintro e w6 ⟨rfl, hq6⟩; have hX := hq6.out.2))
        go_wp2
        refine ⟨?_, ?_⟩
        · exact .inr (.inr (⟨rfl, a5, c5, rfl, hN⟩))
        · simp [intOf]
      · go_wp2
        go_ret
        exact ⟨av, cv, rfl, hq.out.1, below_of HW0.out hq.out.2⟩
set_option maxRecDepth 20000 in
set_option maxHeartbeats 16000000 in
theorem rbytes_7 (num : Nat) (nam : ByteArray) (z su : Nat) (siz off cod : Int) (bts : List Nat) (a : Option Addr) (c : Nat) (w : World) (hc : Came w (⟨7, num, nam, siz, off, su, cod, bts⟩ : Ms) a c) (hn : num < 4294967296) (hnam : nam.size ≤ 24) (hz : z ≤ 4096) (hsu : su < 4294967296) (hbt : bts.length ≤ 256) : Calls Try.prog 14 #[mv (⟨7, num, nam, siz, off, su, cod, bts⟩ : Ms) a c] w fun e w' => ∃ a' c', e = .returned (.slice a' (5 + (2 + bts.length)) c') ∧ Hid (Row w' a' ((7 :: be num 4) ++ encBytes bts) ∧ Below w.heap.size w w') := by
  have HB : Hid (∀ (w : World) (X : Obj), Below w.heap.size w (w.alloc X)) := fun w X => (Below.refl _ w).alloc (Nat.le_refl _) X
  have HF : Hid (∀ W : World, Calls Try.prog 24 #[.int .i64 7] W fun e w' => e = .returned (.string ⟨#[98]⟩) ∧ Hid (Below W.heap.size W w')) := fun W => fieldsR_yes 7 (by omega) W
  have HR : Hid (Row w a bts) := hc.row
  have HP0 : Hid ((w.alloc (mc (⟨7, num, nam, siz, off, su, cod, bts⟩ : Ms) a c)).heap[w.heap.size]? = some (mc (⟨7, num, nam, siz, off, su, cod, bts⟩ : Ms) a c)) := heap_alloc_new w _
  have H4 : Hid (∀ W, Calls Try.prog 29 #[.int .u64 num, .int .i64 4] W fun e w' => e = .returned (.slice (some ⟨W.heap.size, 0, none⟩) 4 4) ∧ Hid (Bs w' W.heap.size (be num 4) ∧ Below W.heap.size W w')) := fun W => high_any num 4 W (by omega) (by omega)
  have HO : Hid (∀ W g1 g2, Row W (some ⟨g1, 0, none⟩) [7] → Row W (some ⟨g2, 0, none⟩) (be num 4) → Calls Try.prog 28 #[.slice (some ⟨g1, 0, none⟩) 1 1, .slice (some ⟨g2, 0, none⟩) 4 4] W fun e w' => ∃ a' c', e = .returned (.slice a' 5 c') ∧ Hid (Row w' a' (7 :: be num 4) ∧ Below W.heap.size W w')) := fun W g1 g2 r1 r2 => (both_at W _ _ 1 4 1 4 [7] (be num 4) rfl (be_length _ _) r1 r2 (by omega)).mono (by rintro e w' ⟨a', c', rfl, hq⟩; exact ⟨a', c', rfl, hq.out.1.row, hq.out.2⟩)
  have HK : Hid (∀ W : World, Row (W.alloc (.cells #[.int .u8 (IntKind.u8.wrap 7)] 5)) (some ⟨W.heap.size, 0, none⟩) [7]) := fun W => row_one 7 (by omega)
  have H4A : Hid (∀ W : World, Calls Try.prog 29 #[.int .u64 num, .int .i64 4] (W.alloc (.cells #[.int .u8 (IntKind.u8.wrap 7)] 5)).drew fun e w' => e = .returned (.slice (some ⟨W.heap.size + 1, 0, none⟩) 4 4) ∧ Hid (Row w' (some ⟨W.heap.size, 0, none⟩) [7] ∧ Row w' (some ⟨W.heap.size + 1, 0, none⟩) (be num 4) ∧ Below W.heap.size W w')) := fun W => by
    have hs : (W.alloc (.cells #[.int .u8 (IntKind.u8.wrap 7)] 5)).drew.heap.size = W.heap.size + 1 := by show (W.alloc (.cells #[.int .u8 (IntKind.u8.wrap 7)] 5)).heap.size = _; simp
    have hd : Below W.heap.size W (W.alloc (.cells #[.int .u8 (IntKind.u8.wrap 7)] 5)).drew := (HB.out W _).drew
    refine (H4.out (W.alloc (.cells #[.int .u8 (IntKind.u8.wrap 7)] 5)).drew).mono ?_
    rintro e w' ⟨rfl, hq⟩
    rw [hs] at hq ⊢
    have hb := hq.out.2
    rw [← hs] at hb
    exact ⟨rfl, ((HK.out W).later ((Below.refl _ _).drew)).later hb, hq.out.1.row, below_of hd hb⟩
  have H4B : Hid (∀ W : World, Calls Try.prog 29 #[.int .u64 num, .int .i64 4] W.drew fun e w' => e = .returned (.slice (some ⟨W.heap.size, 0, none⟩) 4 4) ∧ Hid (Row w' (some ⟨W.heap.size, 0, none⟩) (be num 4) ∧ Below W.heap.size W w')) := fun W => by
    refine (H4.out W.drew).mono ?_
    rintro e w' ⟨rfl, hq⟩
    exact ⟨rfl, hq.out.1.row, below_of ((Below.refl _ _).drew) hq.out.2⟩
  have hwn : IntKind.u64.wrap (num : Int) = num := IntWalk.u64_in _ (by omega)
  have ix0 : ((({ data := #[98] } : ByteArray)[0]'(by decide)).toNat) = 98 := rfl
  obtain ⟨e0, e1, e2, e3, e4, e5, e6, e7⟩ := mcells (m := (⟨7, num, nam, siz, off, su, cod, bts⟩ : Ms)) HP0.out
  simp only at e0 e1 e2 e3 e4 e5 e6 e7
  have HW0 : Hid (Below w.heap.size w (w.alloc (mc (⟨7, num, nam, siz, off, su, cod, bts⟩ : Ms) a c))) := HB.out _ _
  clear hc
  go_enter Try.func14, Try.ntmps14
  go_wp2_with fail
  generalize w.alloc (mc (⟨7, num, nam, siz, off, su, cod, bts⟩ : Ms) a c) = W0 at HP0 HW0 e0 e1 e2 e3 e4 e5 e6 e7 ⊢
  generalize w.heap.size = P at HP0 e0 e1 e2 e3 e4 e5 e6 e7 ⊢
  have hX : Below W0.heap.size W0 W0.drew := (Below.refl _ _).drew
  go_region_held3 (fun W' => W'.cell? ⟨P, 0, none⟩ = some (.int .i64 7) ∧ W'.cell? ⟨P, 1, none⟩ = some (.int .u32 (num : Nat))) (first | exact ⟨e0, e1⟩ | exact ⟨cell_later hX e0, cell_later hX e1⟩ | exact ⟨cell_later (below_of hX (HB.out _ _)) e0, cell_later (below_of hX (HB.out _ _)) e1⟩) (first
    | (go_at_call 29; refine (H4A.out W0).mono ?_; rintro e w1 ⟨rfl, hA⟩; have hX := hA.out.2.2)
    | (go_at_call 29; refine (H4B.out W0).mono ?_; rintro e w1 ⟨rfl, hB⟩; have hX := hB.out.2)
    | (go_at_call 28; refine (HO.out w1 _ _ hA.out.1 hA.out.2.1).mono ?_; rintro e w2 ⟨a2, c2, rfl, hq2⟩; have hX := below_of hX hq2.out.2)
    | (go_at_call 28; refine (HO.out _ _ _ (HK.out w1) (hB.out.1.later (HB.out _ _))).mono ?_; rintro e w2 ⟨a2, c2, rfl, hq2⟩; have hX := below_of (below_of hX (HB.out _ _)) hq2.out.2))
  all_goals
    have HS2 : Hid (Row w2 a2 (7 :: be num 4) ∧ Below W0.heap.size W0 w2) := ⟨hq2.out.1, hX⟩
    obtain ⟨e0, e1, e2, e3, e4, e5, e6, e7⟩ := mcells (m := (⟨7, num, nam, siz, off, su, cod, bts⟩ : Ms)) (old_block HS2.out.2 HP0.out)
    simp only at e0 e1 e2 e3 e4 e5 e6 e7
    clear hX H4A H4B HO HK H4
    go_wp2_with (go_at_call 24; refine (HF.out _).mono ?_; rintro e w3 ⟨rfl, hb3⟩; have HS3 : Hid (Row w3 a2 (7 :: be num 4) ∧ Below W0.heap.size W0 w3) := ⟨HS2.out.1.later hb3.out, below_of HS2.out.2 hb3.out⟩; clear hb3)
    go_loopw [3, 5] (fun v i wr => (i = .int .i64 0 ∧ ∃ av cv, v = .slice av 5 cv ∧ Hid (Row wr av (7 :: be num 4) ∧ Below W0.heap.size W0 wr)) ∨ (i = .int .i64 1 ∧ ∃ av cv, v = .slice av (5 + (2 + bts.length)) cv ∧ Hid (Row wr av ((7 :: be num 4) ++ encBytes bts) ∧ Below W0.heap.size W0 wr))) (fun _ i _ => 1 - (intOf i).toNat)
    case atStart => exact .inl ⟨rfl, a2, c2, rfl, HS3.out⟩
    case round =>
      rcases hrel with ⟨rfl, av, cv, rfl, hq⟩ | ⟨rfl, av, cv, rfl, hq⟩
      · obtain ⟨f0, f1, f2, f3, f4, f5, f6, f7⟩ := mcells (m := (⟨7, num, nam, siz, off, su, cod, bts⟩ : Ms)) (old_block hq.out.2 HP0.out)
        simp only at f0 f1 f2 f3 f4 f5 f6 f7
        have HH2 : Hid (∀ W : World, Calls Try.prog 29 #[.int .u64 (bts.length : Nat), .int .i64 2] W.drew fun e w' => e = .returned (.slice (some ⟨W.heap.size, 0, none⟩) 2 2) ∧ Hid (Row w' (some ⟨W.heap.size, 0, none⟩) (be bts.length 2) ∧ Below W.heap.size W w')) := fun W => by
          refine (high_any bts.length 2 W.drew (by omega) (by omega)).mono ?_
          rintro e w' ⟨rfl, hq⟩
          exact ⟨rfl, hq.out.1.row, below_of ((Below.refl _ _).drew) hq.out.2⟩
        have HBI : Hid (∀ W g, Row W (some ⟨g, 0, none⟩) (be bts.length 2) → Row W a bts → Calls Try.prog 28 #[.slice (some ⟨g, 0, none⟩) 2 2, .slice a bts.length c] W fun e w' => ∃ a' c', e = .returned (.slice a' (2 + bts.length) c') ∧ Hid (Row w' a' (encBytes bts) ∧ Below W.heap.size W w')) := fun W g r1 r2 => (both_at W _ a 2 c 2 bts.length (be bts.length 2) bts (be_length _ _) rfl r1 r2 (by omega)).mono (by rintro e w' ⟨a', c', rfl, hq⟩; exact ⟨a', c', rfl, hq.out.1.row, hq.out.2⟩)
        have HBO : Hid (∀ W a4 c4, Row W av (7 :: be num 4) → Row W a4 (encBytes bts) → Calls Try.prog 28 #[.slice av 5 cv, .slice a4 (2 + bts.length) c4] W fun e w' => ∃ a' c', e = .returned (.slice a' (5 + (2 + bts.length)) c') ∧ Hid (Row w' a' ((7 :: be num 4) ++ encBytes bts) ∧ Below W.heap.size W w')) := fun W a4 c4 r1 r2 => (both_at W av a4 cv c4 5 (2 + bts.length) (7 :: be num 4) (encBytes bts) (by simp [be_length]) (by simp [encBytes, be_length]) r1 r2 (by omega)).mono (by rintro e w' ⟨a', c', rfl, hq⟩; exact ⟨a', c', rfl, hq.out.1.row, hq.out.2⟩)
        have hwb : IntKind.u64.wrap (bts.length : Int) = bts.length := IntWalk.u64_in _ (by omega)
        have HRW : Hid (Row wr a bts) := HR.out.later (below_of HW0.out hq.out.2)
        go_wp2_with fail
        have hX : Below wr.heap.size wr wr.drew := (Below.refl _ _).drew
        go_region_held3 (fun W' => W'.cell? ⟨P, 7, none⟩ = some (.slice a bts.length c)) (first | exact f7 | exact cell_later hX f7) (first
          | (have gd := hin; go_at_call 28; refine (HBO.out w4 a4 c4 (hq.out.1.later hX) hin.out).mono ?_; rintro e w5 ⟨a5, c5, rfl, hq5⟩; have hX := below_of hX hq5.out.2; have hN : Hid (Row w5 a5 ((7 :: be num 4) ++ encBytes bts) ∧ Below W0.heap.size W0 w5) := ⟨hq5.out.1, below_of hq.out.2 hX⟩)
          | (go_at_call 28; refine (HBI.out w6 _ hq6.out.1 (HRW.out.later hX)).mono ?_; rintro e w4 ⟨a4, c4, rfl, hq4⟩; have hX := below_of hX hq4.out.2; have hin : Hid (Row w4 a4 (encBytes bts)) := hq4.out.1)
          | (go_at_call 29; refine (HH2.out wr).mono ?_; rintro e w6 ⟨rfl, hq6⟩; have hX := hq6.out.2))
        go_wp2
        refine ⟨?_, ?_⟩
        · exact .inr (⟨rfl, a5, c5, rfl, hN⟩)
        · simp [intOf]
      · go_wp2
        go_ret
        exact ⟨av, cv, rfl, hq.out.1, below_of HW0.out hq.out.2⟩
set_option maxRecDepth 20000 in
set_option maxHeartbeats 16000000 in
theorem rbytes_8 (num : Nat) (nam : ByteArray) (z su : Nat) (siz off cod : Int) (bts : List Nat) (a : Option Addr) (c : Nat) (w : World) (hc : Came w (⟨8, num, nam, siz, off, su, ((z : Nat) : Int), bts⟩ : Ms) a c) (hn : num < 4294967296) (hnam : nam.size ≤ 24) (hz : z ≤ 255) (hsu : su < 4294967296) (hbt : bts.length ≤ 256) : Calls Try.prog 14 #[mv (⟨8, num, nam, siz, off, su, ((z : Nat) : Int), bts⟩ : Ms) a c] w fun e w' => ∃ a' c', e = .returned (.slice a' ((5 + 1) + (2 + bts.length)) c') ∧ Hid (Row w' a' (((8 :: be num 4) ++ [z]) ++ encBytes bts) ∧ Below w.heap.size w w') := by
  have HB : Hid (∀ (w : World) (X : Obj), Below w.heap.size w (w.alloc X)) := fun w X => (Below.refl _ w).alloc (Nat.le_refl _) X
  have HF : Hid (∀ W : World, Calls Try.prog 24 #[.int .i64 8] W fun e w' => e = .returned (.string ⟨#[99, 98]⟩) ∧ Hid (Below W.heap.size W w')) := fun W => fieldsR_yes 8 (by omega) W
  have HR : Hid (Row w a bts) := hc.row
  have HP0 : Hid ((w.alloc (mc (⟨8, num, nam, siz, off, su, ((z : Nat) : Int), bts⟩ : Ms) a c)).heap[w.heap.size]? = some (mc (⟨8, num, nam, siz, off, su, ((z : Nat) : Int), bts⟩ : Ms) a c)) := heap_alloc_new w _
  have H4 : Hid (∀ W, Calls Try.prog 29 #[.int .u64 num, .int .i64 4] W fun e w' => e = .returned (.slice (some ⟨W.heap.size, 0, none⟩) 4 4) ∧ Hid (Bs w' W.heap.size (be num 4) ∧ Below W.heap.size W w')) := fun W => high_any num 4 W (by omega) (by omega)
  have HO : Hid (∀ W g1 g2, Row W (some ⟨g1, 0, none⟩) [8] → Row W (some ⟨g2, 0, none⟩) (be num 4) → Calls Try.prog 28 #[.slice (some ⟨g1, 0, none⟩) 1 1, .slice (some ⟨g2, 0, none⟩) 4 4] W fun e w' => ∃ a' c', e = .returned (.slice a' 5 c') ∧ Hid (Row w' a' (8 :: be num 4) ∧ Below W.heap.size W w')) := fun W g1 g2 r1 r2 => (both_at W _ _ 1 4 1 4 [8] (be num 4) rfl (be_length _ _) r1 r2 (by omega)).mono (by rintro e w' ⟨a', c', rfl, hq⟩; exact ⟨a', c', rfl, hq.out.1.row, hq.out.2⟩)
  have HK : Hid (∀ W : World, Row (W.alloc (.cells #[.int .u8 (IntKind.u8.wrap 8)] 5)) (some ⟨W.heap.size, 0, none⟩) [8]) := fun W => row_one 8 (by omega)
  have H4A : Hid (∀ W : World, Calls Try.prog 29 #[.int .u64 num, .int .i64 4] (W.alloc (.cells #[.int .u8 (IntKind.u8.wrap 8)] 5)).drew fun e w' => e = .returned (.slice (some ⟨W.heap.size + 1, 0, none⟩) 4 4) ∧ Hid (Row w' (some ⟨W.heap.size, 0, none⟩) [8] ∧ Row w' (some ⟨W.heap.size + 1, 0, none⟩) (be num 4) ∧ Below W.heap.size W w')) := fun W => by
    have hs : (W.alloc (.cells #[.int .u8 (IntKind.u8.wrap 8)] 5)).drew.heap.size = W.heap.size + 1 := by show (W.alloc (.cells #[.int .u8 (IntKind.u8.wrap 8)] 5)).heap.size = _; simp
    have hd : Below W.heap.size W (W.alloc (.cells #[.int .u8 (IntKind.u8.wrap 8)] 5)).drew := (HB.out W _).drew
    refine (H4.out (W.alloc (.cells #[.int .u8 (IntKind.u8.wrap 8)] 5)).drew).mono ?_
    rintro e w' ⟨rfl, hq⟩
    rw [hs] at hq ⊢
    have hb := hq.out.2
    rw [← hs] at hb
    exact ⟨rfl, ((HK.out W).later ((Below.refl _ _).drew)).later hb, hq.out.1.row, below_of hd hb⟩
  have H4B : Hid (∀ W : World, Calls Try.prog 29 #[.int .u64 num, .int .i64 4] W.drew fun e w' => e = .returned (.slice (some ⟨W.heap.size, 0, none⟩) 4 4) ∧ Hid (Row w' (some ⟨W.heap.size, 0, none⟩) (be num 4) ∧ Below W.heap.size W w')) := fun W => by
    refine (H4.out W.drew).mono ?_
    rintro e w' ⟨rfl, hq⟩
    exact ⟨rfl, hq.out.1.row, below_of ((Below.refl _ _).drew) hq.out.2⟩
  have hwn : IntKind.u64.wrap (num : Int) = num := IntWalk.u64_in _ (by omega)
  have ix0 : ((({ data := #[99, 98] } : ByteArray)[0]'(by decide)).toNat) = 99 := rfl
  have ix1 : ((({ data := #[99, 98] } : ByteArray)[1]'(by decide)).toNat) = 98 := rfl
  obtain ⟨e0, e1, e2, e3, e4, e5, e6, e7⟩ := mcells (m := (⟨8, num, nam, siz, off, su, ((z : Nat) : Int), bts⟩ : Ms)) HP0.out
  simp only at e0 e1 e2 e3 e4 e5 e6 e7
  have HW0 : Hid (Below w.heap.size w (w.alloc (mc (⟨8, num, nam, siz, off, su, ((z : Nat) : Int), bts⟩ : Ms) a c))) := HB.out _ _
  clear hc
  go_enter Try.func14, Try.ntmps14
  go_wp2_with fail
  generalize w.alloc (mc (⟨8, num, nam, siz, off, su, ((z : Nat) : Int), bts⟩ : Ms) a c) = W0 at HP0 HW0 e0 e1 e2 e3 e4 e5 e6 e7 ⊢
  generalize w.heap.size = P at HP0 e0 e1 e2 e3 e4 e5 e6 e7 ⊢
  have hX : Below W0.heap.size W0 W0.drew := (Below.refl _ _).drew
  go_region_held3 (fun W' => W'.cell? ⟨P, 0, none⟩ = some (.int .i64 8) ∧ W'.cell? ⟨P, 1, none⟩ = some (.int .u32 (num : Nat))) (first | exact ⟨e0, e1⟩ | exact ⟨cell_later hX e0, cell_later hX e1⟩ | exact ⟨cell_later (below_of hX (HB.out _ _)) e0, cell_later (below_of hX (HB.out _ _)) e1⟩) (first
    | (go_at_call 29; refine (H4A.out W0).mono ?_; rintro e w1 ⟨rfl, hA⟩; have hX := hA.out.2.2)
    | (go_at_call 29; refine (H4B.out W0).mono ?_; rintro e w1 ⟨rfl, hB⟩; have hX := hB.out.2)
    | (go_at_call 28; refine (HO.out w1 _ _ hA.out.1 hA.out.2.1).mono ?_; rintro e w2 ⟨a2, c2, rfl, hq2⟩; have hX := below_of hX hq2.out.2)
    | (go_at_call 28; refine (HO.out _ _ _ (HK.out w1) (hB.out.1.later (HB.out _ _))).mono ?_; rintro e w2 ⟨a2, c2, rfl, hq2⟩; have hX := below_of (below_of hX (HB.out _ _)) hq2.out.2))
  all_goals
    have HS2 : Hid (Row w2 a2 (8 :: be num 4) ∧ Below W0.heap.size W0 w2) := ⟨hq2.out.1, hX⟩
    obtain ⟨e0, e1, e2, e3, e4, e5, e6, e7⟩ := mcells (m := (⟨8, num, nam, siz, off, su, ((z : Nat) : Int), bts⟩ : Ms)) (old_block HS2.out.2 HP0.out)
    simp only at e0 e1 e2 e3 e4 e5 e6 e7
    clear hX H4A H4B HO HK H4
    go_wp2_with (go_at_call 24; refine (HF.out _).mono ?_; rintro e w3 ⟨rfl, hb3⟩; have HS3 : Hid (Row w3 a2 (8 :: be num 4) ∧ Below W0.heap.size W0 w3) := ⟨HS2.out.1.later hb3.out, below_of HS2.out.2 hb3.out⟩; clear hb3)
    go_loopw [3, 5] (fun v i wr => (i = .int .i64 0 ∧ ∃ av cv, v = .slice av 5 cv ∧ Hid (Row wr av (8 :: be num 4) ∧ Below W0.heap.size W0 wr)) ∨ (i = .int .i64 1 ∧ ∃ av cv, v = .slice av (5 + 1) cv ∧ Hid (Row wr av ((8 :: be num 4) ++ [z]) ∧ Below W0.heap.size W0 wr)) ∨ (i = .int .i64 2 ∧ ∃ av cv, v = .slice av ((5 + 1) + (2 + bts.length)) cv ∧ Hid (Row wr av (((8 :: be num 4) ++ [z]) ++ encBytes bts) ∧ Below W0.heap.size W0 wr))) (fun _ i _ => 2 - (intOf i).toNat)
    case atStart => exact .inl ⟨rfl, a2, c2, rfl, HS3.out⟩
    case round =>
      rcases hrel with ⟨rfl, av, cv, rfl, hq⟩ | ⟨rfl, av, cv, rfl, hq⟩ | ⟨rfl, av, cv, rfl, hq⟩
      · obtain ⟨f0, f1, f2, f3, f4, f5, f6, f7⟩ := mcells (m := (⟨8, num, nam, siz, off, su, ((z : Nat) : Int), bts⟩ : Ms)) (old_block hq.out.2 HP0.out)
        simp only at f0 f1 f2 f3 f4 f5 f6 f7
        go_wp2_with (go_at_call 28; refine (both_at _ av _ cv 1 5 1 (8 :: be num 4) [z] (by simp [be_length]) rfl (hq.out.1.later (HB.out _ _)) (row_one z (by omega)) (by omega)).mono ?_; rintro e w5 ⟨a5, c5, rfl, hq5⟩; have hN : Hid (Row w5 a5 ((8 :: be num 4) ++ [z]) ∧ Below W0.heap.size W0 w5) := ⟨hq5.out.1.row, below_of (below_of hq.out.2 (HB.out _ _)) hq5.out.2⟩)
        refine ⟨?_, ?_⟩
        · exact .inr (.inl ⟨rfl, a5, c5, rfl, hN⟩)
        · simp [intOf]
      · obtain ⟨f0, f1, f2, f3, f4, f5, f6, f7⟩ := mcells (m := (⟨8, num, nam, siz, off, su, ((z : Nat) : Int), bts⟩ : Ms)) (old_block hq.out.2 HP0.out)
        simp only at f0 f1 f2 f3 f4 f5 f6 f7
        have HH2 : Hid (∀ W : World, Calls Try.prog 29 #[.int .u64 (bts.length : Nat), .int .i64 2] W.drew fun e w' => e = .returned (.slice (some ⟨W.heap.size, 0, none⟩) 2 2) ∧ Hid (Row w' (some ⟨W.heap.size, 0, none⟩) (be bts.length 2) ∧ Below W.heap.size W w')) := fun W => by
          refine (high_any bts.length 2 W.drew (by omega) (by omega)).mono ?_
          rintro e w' ⟨rfl, hq⟩
          exact ⟨rfl, hq.out.1.row, below_of ((Below.refl _ _).drew) hq.out.2⟩
        have HBI : Hid (∀ W g, Row W (some ⟨g, 0, none⟩) (be bts.length 2) → Row W a bts → Calls Try.prog 28 #[.slice (some ⟨g, 0, none⟩) 2 2, .slice a bts.length c] W fun e w' => ∃ a' c', e = .returned (.slice a' (2 + bts.length) c') ∧ Hid (Row w' a' (encBytes bts) ∧ Below W.heap.size W w')) := fun W g r1 r2 => (both_at W _ a 2 c 2 bts.length (be bts.length 2) bts (be_length _ _) rfl r1 r2 (by omega)).mono (by rintro e w' ⟨a', c', rfl, hq⟩; exact ⟨a', c', rfl, hq.out.1.row, hq.out.2⟩)
        have HBO : Hid (∀ W a4 c4, Row W av ((8 :: be num 4) ++ [z]) → Row W a4 (encBytes bts) → Calls Try.prog 28 #[.slice av (5 + 1) cv, .slice a4 (2 + bts.length) c4] W fun e w' => ∃ a' c', e = .returned (.slice a' ((5 + 1) + (2 + bts.length)) c') ∧ Hid (Row w' a' (((8 :: be num 4) ++ [z]) ++ encBytes bts) ∧ Below W.heap.size W w')) := fun W a4 c4 r1 r2 => (both_at W av a4 cv c4 (5 + 1) (2 + bts.length) ((8 :: be num 4) ++ [z]) (encBytes bts) (by simp [be_length]) (by simp [encBytes, be_length]) r1 r2 (by omega)).mono (by rintro e w' ⟨a', c', rfl, hq⟩; exact ⟨a', c', rfl, hq.out.1.row, hq.out.2⟩)
        have hwb : IntKind.u64.wrap (bts.length : Int) = bts.length := IntWalk.u64_in _ (by omega)
        have HRW : Hid (Row wr a bts) := HR.out.later (below_of HW0.out hq.out.2)
        go_wp2_with fail
        have hX : Below wr.heap.size wr wr.drew := (Below.refl _ _).drew
        go_region_held3 (fun W' => W'.cell? ⟨P, 7, none⟩ = some (.slice a bts.length c)) (first | exact f7 | exact cell_later hX f7) (first
          | (have gd := hin; go_at_call 28; refine (HBO.out w4 a4 c4 (hq.out.1.later hX) hin.out).mono ?_; rintro e w5 ⟨a5, c5, rfl, hq5⟩; have hX := below_of hX hq5.out.2; have hN : Hid (Row w5 a5 (((8 :: be num 4) ++ [z]) ++ encBytes bts) ∧ Below W0.heap.size W0 w5) := ⟨hq5.out.1, below_of hq.out.2 hX⟩)
          | (go_at_call 28; refine (HBI.out w6 _ hq6.out.1 (HRW.out.later hX)).mono ?_; rintro e w4 ⟨a4, c4, rfl, hq4⟩; have hX := below_of hX hq4.out.2; have hin : Hid (Row w4 a4 (encBytes bts)) := hq4.out.1)
          | (go_at_call 29; refine (HH2.out wr).mono ?_; rintro e w6 ⟨rfl, hq6⟩; have hX := hq6.out.2))
        go_wp2
        refine ⟨?_, ?_⟩
        · exact .inr (.inr (⟨rfl, a5, c5, rfl, hN⟩))
        · simp [intOf]
      · go_wp2
        go_ret
        exact ⟨av, cv, rfl, hq.out.1, below_of HW0.out hq.out.2⟩
end Go.Proofs.Ytfkkaihnmnjadaa
