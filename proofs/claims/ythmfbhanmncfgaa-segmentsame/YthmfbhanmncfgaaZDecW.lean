/- The walk of segment.Decode. -/
import Derived.Test.YthmfbhanmncfgaaZDec
import Derived.Deep.RegionWith
import Derived.Deep.Cut
namespace Go.Proofs.Ythmfbhanmncfgaa
open Go.RowKit
set_option linter.unusedVariables false
set_option maxRecDepth 20000 in
set_option maxHeartbeats 4000000 in
theorem dec_short (w : World) (a : Option Addr) (c : Nat) (l : List Nat) (h7 : l.length < 7) :
    Calls Try.prog 10 #[.slice a l.length c] w fun e w' => Dec1 l w e w' := by
  have HD : Hid (decS l = (7, zeroS)) := by show _ = _; unfold decS; rw [if_pos h7]
  have HB : Hid (∀ (w : World) (X : Obj), Below w.heap.size w (w.alloc X)) := fun w X => (Below.refl _ w).alloc (Nat.le_refl _) X
  go_enter Try.func10, Try.ntmps10
  go_wp2
  exact bodyPost_ret (v := .tuple #[sv zeroS none 0 none 0, .int .i64 7]) (by simp [results, Try.results10, go_sem, zeroS]) rfl (dec1_zero HD.out rfl (HB.out _ _))
theorem dec_mid {w w1 w2 : World} {p : Nat} (hb : Below (w.alloc (sc zeroS none 0 none 0)).heap.size (w.alloc (sc zeroS none 0 none 0)) w1) (hp : w.heap.size + 1 ≤ p) (ho : Off (fun k => k = p) w1 w2) : Below w.heap.size w w2 ∧ w2.heap[w.heap.size]? = some (sc zeroS none 0 none 0) := by
  have h1 : Below w.heap.size w w1 := below_of ((Below.refl _ w).alloc (Nat.le_refl _) _) hb
  exact ⟨h1.trans (ho.below h1.size (fun i e => by have : i = p := e; omega)), ho.at (old_block hb (heap_alloc_new w _)) (by show ¬ _ = _; omega)⟩
theorem takes_all (L : List Nat) (h : L.length = 4) : takes L 0 0 4 = (L, 4, 0) := by
  rw [takes_ok (by omega)]
  simp [List.take_of_length_le, h]
/-- the two ways of reading the sum. -/
theorem sum_told (l : List Nat) (hb : ∀ x ∈ l, x < 256) (h7 : 7 ≤ l.length) : (numN (l.drop (l.length - 4)) = Crc.sum32 (l.take (l.length - 4))) ↔ be (Crc.sum32 (l.take (l.length - 4))) 4 = l.drop (l.length - 4) := by
  have hl : (l.drop (l.length - 4)).length = 4 := by rw [List.length_drop]; omega
  have hb4 : ∀ x ∈ l.drop (l.length - 4), x < 256 := fun x hx => hb x (List.mem_of_mem_drop hx)
  have h1 := be_num (l.drop (l.length - 4)) hb4
  rw [hl] at h1
  have h2 := num_be 4 (Crc.sum32 (l.take (l.length - 4))) (by have := sum32_lt (l := l.take (l.length - 4)) (fun x hx => hb x (List.mem_of_mem_take hx)); omega)
  constructor
  · intro e; rw [← e, h1]
  · intro e; rw [← e, h2]
/-- a world behind the look at the sum. -/
def Mid (w W : World) : Prop := Below w.heap.size w W ∧ W.heap[w.heap.size]? = some (sc zeroS none 0 none 0)
set_option maxRecDepth 20000 in
set_option maxHeartbeats 4000000 in
theorem dec_main (w : World) (b o c : Nat) (l : List Nat) (hr : Row w (some ⟨b, o, none⟩) l) (h7 : 7 ≤ l.length) (hz : l.length ≤ 100000) (hlc : l.length ≤ c) (hcm : c ≤ maxLen) :
    Calls Try.prog 10 #[.slice (some ⟨b, o, none⟩) l.length c] w fun e w' => Dec1 l w e w' := by
  have HB : Hid (∀ (w : World) (X : Obj), Below w.heap.size w (w.alloc X)) := fun w X => (Below.refl _ w).alloc (Nat.le_refl _) X
  obtain ⟨n, hn⟩ : ∃ n, l.length = n + 4 := ⟨l.length - 4, by omega⟩
  have e4 : l.length - 4 = n := by omega
  have hst := sum_told l hr.1 h7
  rw [e4] at hst
  have hl1 : (l.drop n).length = 4 := by rw [List.length_drop]; omega
  have hl0 : (l.take n).length = n := by rw [List.length_take]; omega
  obtain ⟨x, m, hxm⟩ : ∃ x m, l.take n = x :: m := by
    cases hc : l.take n with
    | nil => rw [hc] at hl0; simp at hl0; omega
    | cons x m => exact ⟨x, m, rfl⟩
  have hmn : m.length + 1 = n := by rw [hxm] at hl0; simpa using hl0
  have hx : x < 256 := hr.1 x (List.mem_of_mem_take (i := n) (by rw [hxm]; exact List.mem_cons_self))
  have HRD : Hid (∀ W, Below w.heap.size w W → Calls Try.prog 20 #[.slice (some ⟨b, o + n, none⟩) 4 (c - n)] W fun e w' => ∃ p q, e = .returned (.pointer (some ⟨p, 0, none⟩)) ∧ Hid (Rd w' p q (l.drop n) 0 0 ∧ W.heap.size ≤ p ∧ Below W.heap.size W w')) := fun W hb => by
    have := oread_any W (some ⟨b, o + n, none⟩) (c - n) (l.drop n) ((row_drop hr n (by omega)).later hb) (by omega)
    rw [hl1] at this
    exact this.mono (by rintro e w' ⟨p, q, rfl, hq⟩; exact ⟨p, q, rfl, hq.out.1, hq.out.2.1, hq.out.2.2.2⟩)
  have HU : Hid (∀ W p q, Rd W p q (l.drop n) 0 0 → Calls Try.prog 21 #[.pointer (some ⟨p, 0, none⟩)] W fun e w' => e = .returned (.int .u32 (numN (l.drop n) : Nat)) ∧ Hid (Off (fun k => k = p) W w')) := fun W p q h => by
    have := u32_any W p q (l.drop n) 0 0 h (by omega)
    rw [takes_all _ hl1] at this
    exact this.mono (by rintro e w' ⟨rfl, hq⟩; exact ⟨rfl, hq.out.2⟩)
  have HSM : Hid (∀ W, Below w.heap.size w W → Calls Try.prog 19 #[.slice (some ⟨b, o, none⟩) n c] W fun e w' => e = .returned (.int .u32 (Crc.sum32 (l.take n) : Nat)) ∧ w' = W) := fun W hb => by
    have := sum32_any (some ⟨b, o, none⟩) c (l.take n) W ((row_take hr n).later hb)
    rw [hl0] at this
    exact this
  have HRE : Hid (∀ W, Below w.heap.size w W → Calls Try.prog 22 #[.slice (some ⟨b, o, none⟩) n c] W fun e w' => ∃ a' c' a2' c2', e = .returned (.tuple #[sv (readS x m).1 a' c' a2' c2', .bool (!(readS x m).2.2 && decide ((readS x m).2.1.length = 0))]) ∧ Hid (Below W.heap.size W w' ∧ Came w' (readS x m).1 a' c' a2' c2' ∧ (∀ bb, a' = some bb → W.heap.size ≤ bb.block) ∧ (∀ bb, a2' = some bb → W.heap.size ≤ bb.block))) := fun W hb => by
    have h1 := (row_take hr n).later hb
    rw [hxm] at h1
    have := sread_any W b o c x m h1 (by omega) hcm (by omega) (by omega)
    rw [hmn] at this
    exact this.mono (by rintro e w' ⟨a', c', a2', c2', rfl, hq⟩; exact ⟨a', c', a2', c2', rfl, hq.out.1, ⟨sz_read x m hx, hq.out.2.1.row, hq.out.2.2.row, hq.out.2.1.le, hq.out.2.1.cap, hq.out.2.2.le, hq.out.2.2.cap⟩, hq.out.2.1.new, hq.out.2.2.new⟩)
  have HDC : Hid (decS l = if (numN (l.drop n) : Int) != (Crc.sum32 (l.take n) : Int) then (130, zeroS) else if ((!(readS x m).2.2 && decide ((readS x m).2.1.length = 0)) && okS (readS x m).1) = true then (0, (readS x m).1) else (200, zeroS)) := by
    show _ = _
    unfold decS
    rw [if_neg (by omega), e4]
    by_cases he : numN (l.drop n) = Crc.sum32 (l.take n)
    · have hfa : ((numN (l.drop n) : Int) != (Crc.sum32 (l.take n) : Int)) = false := by rw [he]; simp
      rw [if_neg (by rw [hst.1 he]; simp), hfa, hxm]
      rfl
    · rw [if_pos (fun e => he (hst.2 e)), if_pos (by rw [bne_iff_ne]; intro e; exact he (by omega))]
  have hcn : ¬ c = n := by omega
  have hle1 : n ≤ n + 4 := by omega
  clear hr e4 hl1 hl0 hst hxm hmn
  generalize numN (l.drop n) = X at HU HDC
  generalize Crc.sum32 (l.take n) = Y at HSM HDC
  generalize readS x m = R at HRE HDC
  generalize (!R.2.2 && decide (R.2.1.length = 0)) = OK at HRE HDC
  generalize hDD : ((X : Int) != (Y : Int)) = D at HDC
  have HDD : Hid (((X : Int) != (Y : Int)) = D) := hDD
  clear hDD
  rw [hn]
  go_enter Try.func10, Try.ntmps10
  go_wp2_with fail
  go_cut [23] from 14 (fun t wc => t = .bool D ∧ Hid (Mid w wc))
  case first =>
    go_region_with (first
      | (go_at_call 20; refine (HRD.out _ (by repeat (first | exact HB.out _ _ | apply Below.drew))).mono ?_; rintro e w1 ⟨p, q, rfl, hq1⟩; have hb1 : Hid (Below (w.alloc (sc zeroS none 0 none 0)).heap.size (w.alloc (sc zeroS none 0 none 0)) w1) := (show Below _ _ _ from below_of ((Below.refl _ _).drew) hq1.out.2.2); have hp1 : Hid (w.heap.size + 1 ≤ p) := (show _ ≤ _ from (by have := hq1.out.2.1; simpa using this)))
      | (go_at_call 21; refine (HU.out _ p q hq1.out.1).mono ?_; rintro e w2 ⟨rfl, hq2⟩; have hb2 : Hid (Below w.heap.size w w2 ∧ w2.heap[w.heap.size]? = some (sc zeroS none 0 none 0)) := (show _ ∧ _ from dec_mid hb1.out hp1.out hq2.out))
      | (go_at_call 19; refine (HSM.out _ hb2.out.1).mono ?_; rintro e w3 ⟨rfl, rfl⟩))
    all_goals
      go_wp2
      go_meet
      case rel => exact ⟨congrArg Value.bool HDD.out, hb2.out⟩
  case rest =>
    obtain ⟨rfl, HM⟩ := hcut
    clear HRD HU HSM HDD
    cases D with
    | true =>
      obtain ⟨z0, z1, z2, z3, z4, z5, z6, z7, z8, z9, z10, z11, z12⟩ := scells HM.out.2
      have fz := frozen_of HM.out.2
      have HD : Hid (decS l = (130, zeroS)) := HDC.out
      have HFIN : Hid (∀ v0 v1 v2 v3 v4 v5 v6 v7 v8 v9 v10 v11 v12, Below w.heap.size w (((((((((((((wc.setCell ⟨w.heap.size, 0, none⟩ v0).setCell ⟨w.heap.size, 1, none⟩ v1).setCell ⟨w.heap.size, 2, none⟩ v2).setCell ⟨w.heap.size, 3, none⟩ v3).setCell ⟨w.heap.size, 4, none⟩ v4).setCell ⟨w.heap.size, 5, none⟩ v5).setCell ⟨w.heap.size, 6, none⟩ v6).setCell ⟨w.heap.size, 7, none⟩ v7).setCell ⟨w.heap.size, 8, none⟩ v8).setCell ⟨w.heap.size, 9, none⟩ v9).setCell ⟨w.heap.size, 10, none⟩ v10).setCell ⟨w.heap.size, 11, none⟩ v11).setCell ⟨w.heap.size, 12, none⟩ v12)) := fun v0 v1 v2 v3 v4 v5 v6 v7 v8 v9 v10 v11 v12 => HM.out.1.trans ((off_store wc w.heap.size v0 v1 v2 v3 v4 v5 v6 v7 v8 v9 v10 v11 v12).below HM.out.1.size (fun i e => by have : i = w.heap.size := e; omega))
      go_wp2
      exact bodyPost_ret (v := .tuple #[sv zeroS none 0 none 0, .int .i64 130]) (by simp [results, Try.results10, go_sem, zeroS, z0, z1, z2, z3, z4, z5, z6, z7, z8, z9, z10, z11, z12]) rfl (dec1_zero HD.out rfl (HFIN.out _ _ _ _ _ _ _ _ _ _ _ _ _))
    | false =>
      have HFIN : Hid (∀ WW, Mid w WW → ∀ v0 v1 v2 v3 v4 v5 v6 v7 v8 v9 v10 v11 v12, Below w.heap.size w (((((((((((((WW.setCell ⟨w.heap.size, 0, none⟩ v0).setCell ⟨w.heap.size, 1, none⟩ v1).setCell ⟨w.heap.size, 2, none⟩ v2).setCell ⟨w.heap.size, 3, none⟩ v3).setCell ⟨w.heap.size, 4, none⟩ v4).setCell ⟨w.heap.size, 5, none⟩ v5).setCell ⟨w.heap.size, 6, none⟩ v6).setCell ⟨w.heap.size, 7, none⟩ v7).setCell ⟨w.heap.size, 8, none⟩ v8).setCell ⟨w.heap.size, 9, none⟩ v9).setCell ⟨w.heap.size, 10, none⟩ v10).setCell ⟨w.heap.size, 11, none⟩ v11).setCell ⟨w.heap.size, 12, none⟩ v12)) := fun WW h v0 v1 v2 v3 v4 v5 v6 v7 v8 v9 v10 v11 v12 => h.1.trans ((off_store WW w.heap.size v0 v1 v2 v3 v4 v5 v6 v7 v8 v9 v10 v11 v12).below h.1.size (fun i e => by have : i = w.heap.size := e; omega))
      have HCS : Hid (∀ WW a' c' a2' c2', Mid w WW → Came WW R.1 a' c' a2' c2' → (∀ bb, a' = some bb → bb.block ≠ w.heap.size) → (∀ bb, a2' = some bb → bb.block ≠ w.heap.size) → ∀ v0 v1 v2 v3 v4 v5 v6 v7 v8 v9 v10 v11 v12, Came (((((((((((((WW.setCell ⟨w.heap.size, 0, none⟩ v0).setCell ⟨w.heap.size, 1, none⟩ v1).setCell ⟨w.heap.size, 2, none⟩ v2).setCell ⟨w.heap.size, 3, none⟩ v3).setCell ⟨w.heap.size, 4, none⟩ v4).setCell ⟨w.heap.size, 5, none⟩ v5).setCell ⟨w.heap.size, 6, none⟩ v6).setCell ⟨w.heap.size, 7, none⟩ v7).setCell ⟨w.heap.size, 8, none⟩ v8).setCell ⟨w.heap.size, 9, none⟩ v9).setCell ⟨w.heap.size, 10, none⟩ v10).setCell ⟨w.heap.size, 11, none⟩ v11).setCell ⟨w.heap.size, 12, none⟩ v12) R.1 a' c' a2' c2') := fun WW a' c' a2' c2' h hcm n1 n2 v0 v1 v2 v3 v4 v5 v6 v7 v8 v9 v10 v11 v12 => by
        have ho := off_store WW w.heap.size v0 v1 v2 v3 v4 v5 v6 v7 v8 v9 v10 v11 v12
        exact ⟨hcm.fit, hcm.row.off ho (fun _ bb hb e => n1 bb hb e), hcm.rowc.off ho (fun _ bb hb e => n2 bb hb e), hcm.le, hcm.cap, hcm.lec, hcm.capc⟩
      cases OK with
      | false =>
        have HD : Hid (decS l = (200, zeroS)) := HDC.out
        go_wp2_with (go_at_call 22; refine (HRE.out _ HM.out.1).mono ?_; rintro e w1 ⟨a', c', a2', c2', rfl, hq1⟩; have HM2 : Hid (∀ X, Mid w (w1.alloc X)) := (show ∀ X, Mid w (w1.alloc X) from fun X => ⟨below_of (below_of HM.out.1 hq1.out.1) (HB.out _ _), old_block (HB.out _ _) (old_block hq1.out.1 HM.out.2)⟩); have z0 := (fun X => (scells (HM2.out X).2).1); have z1 := (fun X => (scells (HM2.out X).2).2.1); have z2 := (fun X => (scells (HM2.out X).2).2.2.1); have z3 := (fun X => (scells (HM2.out X).2).2.2.2.1); have z4 := (fun X => (scells (HM2.out X).2).2.2.2.2.1); have z5 := (fun X => (scells (HM2.out X).2).2.2.2.2.2.1); have z6 := (fun X => (scells (HM2.out X).2).2.2.2.2.2.2.1); have z7 := (fun X => (scells (HM2.out X).2).2.2.2.2.2.2.2.1); have z8 := (fun X => (scells (HM2.out X).2).2.2.2.2.2.2.2.2.1); have z9 := (fun X => (scells (HM2.out X).2).2.2.2.2.2.2.2.2.2.1); have z10 := (fun X => (scells (HM2.out X).2).2.2.2.2.2.2.2.2.2.2.1); have z11 := (fun X => (scells (HM2.out X).2).2.2.2.2.2.2.2.2.2.2.2.1); have z12 := (fun X => (scells (HM2.out X).2).2.2.2.2.2.2.2.2.2.2.2.2); have fz := fun X => frozen_of (HM2.out X).2)
        exact bodyPost_ret (v := .tuple #[sv zeroS none 0 none 0, .int .i64 200]) (by simp [results, Try.results10, go_sem, zeroS, z0, z1, z2, z3, z4, z5, z6, z7, z8, z9, z10, z11, z12]) rfl (dec1_zero HD.out rfl (HFIN.out _ (HM2.out _) _ _ _ _ _ _ _ _ _ _ _ _ _))
      | true =>
        have hws : w.heap.size < wc.heap.size := (Array.getElem?_eq_some_iff.1 HM.out.2).1
        cases hok : okS R.1 with
        | false =>
          have HD : Hid (decS l = (200, zeroS)) := by
            show _ = _
            rw [HDC.out, hok]
            rfl
          have HCK : Hid (∀ W a' c' a2' c2', Came W R.1 a' c' a2' c2' → Calls Try.prog 11 #[sv R.1 a' c' a2' c2'] W fun e w' => e = .returned (.int .i64 200) ∧ Hid (Below W.heap.size W w')) := fun W a' c' a2' c2' h => by
            have := check_any R.1 a' c' a2' c2' W h
            rw [chk_no hok] at this
            exact this
          clear hok HDC
          go_wp2_with (first | (go_at_call 22; refine (HRE.out _ HM.out.1).mono ?_; rintro e w1 ⟨a', c', a2', c2', rfl, hq1⟩; have HM2 : Hid (∀ X, Mid w (w1.alloc X)) := (show ∀ X, Mid w (w1.alloc X) from fun X => ⟨below_of (below_of HM.out.1 hq1.out.1) (HB.out _ _), old_block (HB.out _ _) (old_block hq1.out.1 HM.out.2)⟩)) | (go_at_call 11; refine (HCK.out _ a' c' a2' c2' (hq1.out.2.1.later (HB.out _ _))).mono ?_; rintro e w2 ⟨rfl, hb2⟩; have HM3 : Hid (Mid w w2) := (show Mid w w2 from ⟨below_of (HM2.out _).1 hb2.out, old_block hb2.out (HM2.out _).2⟩); have hs2 : w2.heap[w1.heap.size]? = some (sc R.1 a' c' a2' c2') := old_block hb2.out (made_at rfl); obtain ⟨z0, z1, z2, z3, z4, z5, z6, z7, z8, z9, z10, z11, z12⟩ := scells HM3.out.2; have fz := frozen_of HM3.out.2; obtain ⟨e0, e1, e2, e3, e4, e5, e6, e7, e8, e9, e10, e11, e12⟩ := scells hs2; clear hs2))
          exact bodyPost_ret (v := .tuple #[sv zeroS none 0 none 0, .int .i64 200]) (by simp [results, Try.results10, go_sem, zeroS, z0, z1, z2, z3, z4, z5, z6, z7, z8, z9, z10, z11, z12]) rfl (dec1_zero HD.out rfl (HFIN.out _ HM3.out _ _ _ _ _ _ _ _ _ _ _ _ _))
        | true =>
          have HD : Hid (decS l = (0, R.1)) := by
            show _ = _
            rw [HDC.out, hok]
            rfl
          have HCK : Hid (∀ W a' c' a2' c2', Came W R.1 a' c' a2' c2' → Calls Try.prog 11 #[sv R.1 a' c' a2' c2'] W fun e w' => e = .returned (.int .i64 0) ∧ Hid (Below W.heap.size W w')) := fun W a' c' a2' c2' h => by
            have := check_any R.1 a' c' a2' c2' W h
            rw [chk_ok hok] at this
            exact this
          clear hok HDC
          go_wp2_with (first | (go_at_call 22; refine (HRE.out _ HM.out.1).mono ?_; rintro e w1 ⟨a', c', a2', c2', rfl, hq1⟩; have HM2 : Hid (∀ X, Mid w (w1.alloc X)) := (show ∀ X, Mid w (w1.alloc X) from fun X => ⟨below_of (below_of HM.out.1 hq1.out.1) (HB.out _ _), old_block (HB.out _ _) (old_block hq1.out.1 HM.out.2)⟩)) | (go_at_call 11; refine (HCK.out _ a' c' a2' c2' (hq1.out.2.1.later (HB.out _ _))).mono ?_; rintro e w2 ⟨rfl, hb2⟩; have HM3 : Hid (Mid w w2) := (show Mid w w2 from ⟨below_of (HM2.out _).1 hb2.out, old_block hb2.out (HM2.out _).2⟩); have hs2 : w2.heap[w1.heap.size]? = some (sc R.1 a' c' a2' c2') := old_block hb2.out (made_at rfl); obtain ⟨z0, z1, z2, z3, z4, z5, z6, z7, z8, z9, z10, z11, z12⟩ := scells HM3.out.2; have fz := frozen_of HM3.out.2; obtain ⟨e0, e1, e2, e3, e4, e5, e6, e7, e8, e9, e10, e11, e12⟩ := scells hs2; clear hs2))
          refine bodyPost_ret (v := .tuple #[sv R.1 a' c' a2' c2', .int .i64 0]) (by simp [results, Try.results10, go_sem, z0, z1, z2, z3, z4, z5, z6, z7, z8, z9, z10, z11, z12]) rfl ?_
          unfold Dec1
          rw [HD.out]
          refine ⟨a', c', a2', c2', rfl, HFIN.out _ HM3.out _ _ _ _ _ _ _ _ _ _ _ _ _, HCS.out _ _ _ _ _ HM3.out ((hq1.out.2.1.later (HB.out _ _)).later hb2.out) (fun bb hb => ?_) (fun bb hb => ?_) _ _ _ _ _ _ _ _ _ _ _ _ _⟩
          · have := hq1.out.2.2.1 bb hb
            omega
          · have := hq1.out.2.2.2 bb hb
            omega
theorem decode_any (w : World) (a : Option Addr) (c : Nat) (l : List Nat) (hr : Row w a l) (hz : l.length ≤ 100000) (hlc : l.length ≤ c) (hcm : c ≤ maxLen) :
    Calls Try.prog 10 #[.slice a l.length c] w fun e w' => Dec1 l w e w' := by
  by_cases h7 : l.length < 7
  · exact dec_short w a c l h7
  · obtain ⟨b, o, rfl, _⟩ := hr.2.2 (by omega)
    exact dec_main w b o c l hr (by omega) hz hlc hcm
end Go.Proofs.Ythmfbhanmncfgaa
