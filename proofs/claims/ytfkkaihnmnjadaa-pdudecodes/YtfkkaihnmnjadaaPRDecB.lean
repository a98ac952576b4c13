/- heliographref11.Decode: one Kind more. -/
import Derived.Test.YtfkkaihnmnjadaaPRDec
import Derived.Deep.RegionWith
namespace Go.Proofs.Ytfkkaihnmnjadaa
open Go.RowKit
set_option linter.unusedVariables false
set_option maxRecDepth 20000 in
set_option maxHeartbeats 16000000 in
theorem rdec_2 (w : World) (b o c : Nat) (t : List Nat) (hr0 : Row w (some ⟨b, o, none⟩) (2 :: t)) (hz0 : (2 :: t).length ≤ 100000) (hc0 : (2 :: t).length ≤ c) (hcm : c ≤ 140737488355327) (h50 : 5 ≤ (2 :: t).length) : Calls Try.prog 16 #[.slice (some ⟨b, o, none⟩) (2 :: t).length c] w fun e w' => RDec (2 :: t) w e w' := by
  have HB : Hid (∀ (w : World) (X : Obj), Below w.heap.size w (w.alloc X)) := fun w X => (Below.refl _ w).alloc (Nat.le_refl _) X
  have HF : Hid (∀ W : World, Calls Try.prog 24 #[.int .i64 2] W fun e w' => e = .returned (.string ⟨#[111, 98]⟩) ∧ Hid (Below W.heap.size W w')) := fun W => fieldsR_yes 2 (by omega) W
  obtain ⟨_, _, hv, hcc⟩ := hr0.2.2 (by simp)
  cases hv
  have h0 := hcc 0 (by simp)
  have HC0 : Hid (∀ W, Below w.heap.size w W → W.cell? ⟨b, o, none⟩ = some (.int .u8 2)) := fun W hb => cell_later hb h0
  have hkf : fld ((2 : Nat) : Int) ≠ 0 := by decide
  obtain ⟨l, hl⟩ : ∃ l : List Nat, l = 2 :: t := ⟨_, rfl⟩
  have hk : rdk l = 2 := by rw [hl]; exact rdk_cons 2 t
  have HSEV : (rd8 l).2.2 = 7 → decM l = (zeroM, 7) := by rw [hl]; exact dec_seven hkf
  have HEN : ∀ A, (rd8 l).2 = (A, 0) → decM l = if A < l.length ∨ okM (rdM l) = false then (zeroM, 210) else (rdM l, 0) := by rw [hl]; exact fun A h => dec_end hkf h
  rw [← hl] at hr0 hz0 hc0 h50 ⊢
  clear hcc h0 hl
  have R1 : rd1 l = (l.take 1, 1, 0) := by unfold rd1; rw [takes_ok (by omega)]; rfl
  have R2 : rd2 l = ((l.drop 1).take 4, 5, 0) := by unfold rd2; rw [R1, takes_ok (by omega)]
  have hby := hr0.1
  have E3 : (rd3 l).2 = (rd2 l).2 := by unfold rd3; rw [hk]; exact rfl
  have G3 : (rd3 l).1 = [] := by unfold rd3; rw [hk]; rfl
  have E4 : (rd4 l).2 = (rd2 l).2 := by unfold rd4; rw [hk]; exact E3
  have G4 : (rd4 l).1 = [] := by unfold rd4; rw [hk]; rfl
  have D5 : rd5 l = takes l (rd2 l).2.1 (rd2 l).2.2 2 := by unfold rd5; rw [hk, E4]; rfl
  have HS5 : Hid ((rd5 l).2.2 = 7 → decM l = (zeroM, 7)) := fun h => HSEV (seven_8 (seven_7 (seven_6 h)))
  have E6 : (rd6 l).2 = (rd5 l).2 := by unfold rd6; rw [hk]; exact rfl
  have G6 : (rd6 l).1 = [] := by unfold rd6; rw [hk]; rfl
  have E7 : (rd7 l).2 = (rd5 l).2 := by unfold rd7; rw [hk]; exact E6
  have G7 : (rd7 l).1 = [] := by unfold rd7; rw [hk]; rfl
  have D8 : rd8 l = counts l 2 (rd5 l).2.1 (rd5 l).2.2 := by unfold rd8; rw [hk, E7]; rfl
  have HS8 : Hid ((rd8 l).2.2 = 7 → decM l = (zeroM, 7)) := fun h => HSEV h
  have HM : rdM l = ⟨2, numN (rd2 l).1, ⟨#[]⟩, 0, (numN (rd5 l).1 : Nat), 0, 0, (rd8 l).1⟩ := by unfold rdM; rw [hk, G3, G4, G6, G7]; rfl
  have HFIN : Hid (∀ (x1 : List Nat) (A1 : Nat) (x2 : List Nat) (A2 : Nat), rd5 l = (x1, A1, 0) → rd8 l = (x2, A2, 0) → decM l = if A2 < l.length ∨ okM (⟨2, numN ((l.drop 1).take 4), ⟨#[]⟩, 0, (numN x1 : Nat), 0, 0, x2⟩ : Ms) = false then (zeroM, 210) else ((⟨2, numN ((l.drop 1).take 4), ⟨#[]⟩, 0, (numN x1 : Nat), 0, 0, x2⟩ : Ms), 0)) := by
    intro x1 A1 x2 A2 r1 r2
    rw [HEN A2 (by rw [r2]), HM, R2, r1, r2]
  rw [R2] at D5
  have T0 : Hid (∀ A, A = 5 → rd5 l = takes l A 0 2) := fun A h => by
    subst h
    rw [D5]
  have T1 : Hid (∀ A, (rd5 l).2 = (A, 0) → rd8 l = takes l (takes l A 0 2).2.1 (takes l A 0 2).2.2 (numN (takes l A 0 2).1)) := fun A h => by
    have h1 := congrArg Prod.fst h; have h2 := congrArg Prod.snd h
    rw [D8, h1, h2]
    rfl
  have HRW : Hid (∀ W, Below w.heap.size w W → Row W (some ⟨b, o, none⟩) l) := fun W hb => hr0.later hb
  have HBYT : Hid (∀ x ∈ l, x < 256) := hby
  have HNU : Hid (∀ W, Below w.heap.size w W → Calls Try.prog 34 #[.slice (some ⟨b, o + 1, none⟩) 4 (c - 1)] W fun e w' => e = .returned (.int .u64 (numN ((l.drop 1).take 4) : Nat)) ∧ W = w') := fun W hb => rnumber_any W _ _ 4 _ (by rw [List.length_take, List.length_drop]; omega) (by omega) (row_part (hr0.later hb) 1 4 (by omega))
  have hN : numN ((l.drop 1).take 4) < 4294967296 := num_lt (k := 4) (fun x hx => hby x (List.mem_of_mem_drop (List.mem_of_mem_take hx))) (by rw [List.length_take]; omega)
  have HMF : Hid (Mid w (w.alloc (mc zeroM none 0))) := Mid.first w
  generalize numN ((l.drop 1).take 4) = N at HNU HFIN hN
  obtain ⟨L, hL⟩ : ∃ L, l.length = L := ⟨_, rfl⟩
  have HL : Hid (l.length = L) := hL
  rw [hL] at hz0 hc0 h50 HFIN ⊢
  clear hr0 hby hL R1 R2 hk HSEV HEN HM D5 D8 E3 G3 E4 G4 E6 G6 E7 G7 hkf
  have hwN : IntKind.u32.wrap (N : Int) = N := IntWalk.u32_in _ (by omega)
  have ix0 : ((({ data := #[111, 98] } : ByteArray)[0]'(by decide)).toNat) = 111 := rfl
  have ix1 : ((({ data := #[111, 98] } : ByteArray)[1]'(by decide)).toNat) = 98 := rfl
  have hd0 : ∀ A, (w.alloc A).cell? ⟨b, o, none⟩ = some (.int .u8 2) := fun A => HC0.out _ (HB.out _ _)
  go_enter Try.func16, Try.ntmps16
  go_wp2_with (go_at_call 24; refine (HF.out _).mono ?_; rintro e w1 ⟨rfl, hb1⟩; have HM1 : Hid (Mid w w1) := HMF.out.later hb1.out; have hd1 : w1.cell? ⟨b, o, none⟩ = some (.int .u8 2) := HC0.out _ HM1.out.1; clear hb1)
  have hd2 : ∀ A, (w1.alloc A).cell? ⟨b, o, none⟩ = some (.int .u8 2) := fun A => HC0.out _ (below_of HM1.out.1 (HB.out _ _))
  have hi1 : (0 : Int) < (L : Int) := by omega
  have hi2 : 0 < L := by omega
  have hs1 : (5 : Int) ≤ (c : Int) := by omega
  have hs2 : 5 ≤ c := by omega
  have hs3 : ¬ c = 1 := by omega
  have hs4 : 1 ≤ c := by omega
  have hs5 : ¬ c < 5 := by omega
  have hX : Below w1.heap.size w1 w1.drew := (Below.refl _ _).drew
  go_region_held3 (fun W' => W'.cell? ⟨b, o, none⟩ = some (.int .u8 2)) (first | exact hd1 | exact hd2 _ | exact cell_later hX hd1 | exact cell_later (below_of hX (HB.out _ _)) hd1 | go_keep) (first
    | (go_at_call 34; refine (HNU.out w1.drew HM1.out.1.drew).mono ?_; rintro e w2 ⟨rfl, rfl⟩)
    | (go_at_call 34; refine (HNU.out _ (below_of HM1.out.1 (HB.out _ _)).drew).mono ?_; rintro e w2 ⟨rfl, rfl⟩))
  all_goals
    have HRS : Hid (Rs w (w1.alloc (.cells #[.int .i64 (IntKind.i64.wrap 2), .int .u32 (N : Nat), .string ⟨#[]⟩, .int .i64 0, .int .i64 0, .int .u32 0, .int .i64 0, .slice none 0 0] 25)).drew w1.heap.size #[.int .i64 2, .int .u32 (N : Nat), .string ⟨#[]⟩, .int .i64 0, .int .i64 0, .int .u32 0, .int .i64 0, .slice none 0 0]) := ⟨(old_block (HB.out _ _) HM1.out.2 : _), heap_alloc_new w1 _, (below_of HM1.out.1 (HB.out _ _)).drew, by have := (Array.getElem?_eq_some_iff.1 HM1.out.2).1; omega⟩
    clear hX hi1 hi2 hs1 hs2 hs3 hs4 hs5 hd0 hd1 hd2 HNU HMF
    go_wp2
    go_loopw [6, 7] (fun v i wr => (i = .int .i64 0 ∧ v = .int .i64 5 ∧ 5 ≤ L ∧ Hid (Rs w wr w1.heap.size #[.int .i64 2, .int .u32 (N : Nat), .string ⟨#[]⟩, .int .i64 0, .int .i64 0, .int .u32 0, .int .i64 0, .slice none 0 0])) ∨ (∃ (x1 : List Nat) (A1 : Nat), i = .int .i64 1 ∧ v = .int .i64 (A1 : Nat) ∧ A1 ≤ L ∧ Hid (rd5 l = (x1, A1, 0) ∧ Rs w wr w1.heap.size #[.int .i64 2, .int .u32 (N : Nat), .string ⟨#[]⟩, .int .i64 0, .int .i64 (numN x1 : Nat), .int .u32 0, .int .i64 0, .slice none 0 0])) ∨ (∃ (x1 : List Nat) (A1 : Nat) (x2 : List Nat) (A2 : Nat) (a8 : Option Addr) (c8 : Nat), i = .int .i64 2 ∧ v = .int .i64 (A2 : Nat) ∧ A2 ≤ L ∧ Hid (rd5 l = (x1, A1, 0) ∧ rd8 l = (x2, A2, 0) ∧ Rs w wr w1.heap.size #[.int .i64 2, .int .u32 (N : Nat), .string ⟨#[]⟩, .int .i64 0, .int .i64 (numN x1 : Nat), .int .u32 0, .int .i64 0, .slice a8 x2.length c8] ∧ (∀ W, Below w.heap.size w W → Row W a8 x2) ∧ x2.length ≤ 100000))) (fun _ i _ => 2 - (intOf i).toNat)
    case atStart => exact .inl ⟨rfl, rfl, h50, HRS.out⟩
    case round =>
      clear HRS
      rcases hrel with ⟨rfl, rfl, hAL, hq⟩ | ⟨x1, A1, rfl, rfl, hAL, hq⟩ | ⟨x1, A1, x2, A2, a8, c8, rfl, rfl, hAL, hq⟩
      · obtain hRs := hq.out
        obtain ⟨m0, m1, m2, m3, m4, m5, m6, m7, mf⟩ := cells8 hRs.blk
        have hT := T0.out 5 rfl
        have hbel := hRs.bel
        by_cases hA : 5 + 2 ≤ L
        · have hTk := takes_ok (l := l) (at_ := 5) (n := 2) (by rw [HL.out]; exact hA)
          rw [hTk] at hT
          have HNX := rnumber_any wr (some ⟨b, o + 5, none⟩) (c - 5) 2 ((l.drop 5).take 2) (by rw [List.length_take, List.length_drop, HL.out]; omega) (by omega) (row_part (HRW.out wr hbel) 5 2 (by rw [HL.out]; exact hA))
          have hyb : numN ((l.drop 5).take 2) < 256 ^ 2 := num_lt (fun x hx => HBYT.out x (List.mem_of_mem_drop (List.mem_of_mem_take hx))) (by rw [List.length_take]; omega)
          generalize ((l.drop 5).take 2) = y at HNX hyb hT
          have hyc : numN y < 65536 := by omega
          clear hyb hTk
          have HTT : Hid _ := hT
          clear hT
          have HRS2 : Hid _ := hRs
          clear hRs hq
          have hc1 : ¬ c = 5 := by omega
          have hc2 : 5 + 2 ≤ c := by omega
          go_wp2_with (go_at_call 34; refine HNX.mono ?_; rintro e w4 ⟨rfl, rfl⟩)
          refine ⟨?_, ?_⟩
          · exact .inr (.inl ⟨y, 5 + 2, rfl, by go_num, hA, HTT.out, HRS2.out.set 4 _⟩)
          · simp [intOf]
        · have h7 : decM l = (zeroM, 7) := HS5.out (by rw [hT, takes_short (by rw [HL.out]; exact hA)])
          clear hT
          obtain ⟨z0, z1, z2, z3, z4, z5, z6, z7, zf⟩ := cells8 hRs.res
          go_wp2
          exact bodyPost_ret (v := .tuple #[mv zeroM none 0, .int .i64 7]) (by simp [results, Try.results16, go_sem, zeroM, z0, z1, z2, z3, z4, z5, z6, z7]) rfl (rdec_zero h7 rfl (hRs.mid.fin _ _ _ _ _ _ _ _))
      · obtain ⟨r1, hRs⟩ := hq.out
        obtain ⟨m0, m1, m2, m3, m4, m5, m6, m7, mf⟩ := cells8 hRs.blk
        have hT := T1.out A1 (by rw [r1])
        have hbel := hRs.bel
        by_cases hA : A1 + 2 ≤ L
        · have hTk := takes_ok (l := l) (at_ := A1) (n := 2) (by rw [HL.out]; exact hA)
          rw [hTk] at hT
          have HNX := rnumber_any wr (some ⟨b, o + A1, none⟩) (c - A1) 2 ((l.drop A1).take 2) (by rw [List.length_take, List.length_drop, HL.out]; omega) (by omega) (row_part (HRW.out wr hbel) A1 2 (by rw [HL.out]; exact hA))
          have hyb : numN ((l.drop A1).take 2) < 256 ^ 2 := num_lt (fun x hx => HBYT.out x (List.mem_of_mem_drop (List.mem_of_mem_take hx))) (by rw [List.length_take]; omega)
          generalize ((l.drop A1).take 2) = y at HNX hyb hT
          have hyc : numN y < 65536 := by omega
          clear hyb hTk
          have HTT : Hid _ := hT
          clear hT
          have HRS2 : Hid _ := hRs
          have HQ1 : Hid _ := r1
          clear r1
          clear hRs hq
          have hc1 : ¬ c = A1 := by omega
          have hc2 : A1 + 2 ≤ c := by omega
          have hT2 := HTT.out
          clear HTT
          simp only at hT2
          generalize numN y = X at HNX hyc hT2
          by_cases hX : A1 + 2 + X ≤ L
          · rw [takes_ok (by rw [HL.out]; exact hX)] at hT2
            have HZ : Hid (∀ W, Below w.heap.size w W → Row W (some ⟨b, o + (A1 + 2), none⟩) ((l.drop (A1 + 2)).take X)) := fun W hb => row_part (HRW.out W hb) (A1 + 2) X (by rw [HL.out]; exact hX)
            have hzl : ((l.drop (A1 + 2)).take X).length = X := by rw [List.length_take, List.length_drop, HL.out]; omega
            generalize (l.drop (A1 + 2)).take X = z at HZ hzl hT2
            subst hzl
            have HTT : Hid _ := hT2
            clear hT2
            by_cases hce : c = A1 + 2
            · obtain rfl : z = [] := List.eq_nil_of_length_eq_zero (by omega)
              subst hce
              have hcs : A1 + 2 - A1 = 2 := by omega
              rw [hcs] at HNX
              go_wp2_with (go_at_call 34; refine HNX.mono ?_; rintro e w4 ⟨rfl, rfl⟩)
              refine ⟨?_, ?_⟩
              · first | exact .inr (.inr (⟨x1, A1, ([] : List Nat), A1 + 2 + ([] : List Nat).length, some ⟨b, o, none⟩, 0, rfl, by go_num, hX, HQ1.out, HTT.out, HRS2.out.set 7 _, (fun W hb => row_nil _ _), (by omega)⟩)) | ((repeat (apply Exists.intro)); exact ⟨.inr (.inr (⟨x1, A1, ([] : List Nat), A1 + 2 + ([] : List Nat).length, some ⟨b, o, none⟩, 0, rfl, by go_num, hX, HQ1.out, HTT.out, HRS2.out.set 7 _, (fun W hb => row_nil _ _), (by omega)⟩)), rfl⟩)
              · simp [intOf]
            · have hcw : A1 + 2 + z.length ≤ c := by omega
              go_wp2_with (go_at_call 34; refine HNX.mono ?_; rintro e w4 ⟨rfl, rfl⟩)
              refine ⟨?_, ?_⟩
              · first | exact .inr (.inr (⟨x1, A1, z, A1 + 2 + z.length, some ⟨b, o + (A1 + 2), none⟩, c - (A1 + 2), rfl, by go_num, hX, HQ1.out, HTT.out, HRS2.out.set 7 _, HZ.out, (by omega)⟩)) | ((repeat (apply Exists.intro)); exact ⟨.inr (.inr (⟨x1, A1, z, A1 + 2 + z.length, some ⟨b, o + (A1 + 2), none⟩, c - (A1 + 2), rfl, by go_num, hX, HQ1.out, HTT.out, HRS2.out.set 7 _, HZ.out, (by omega)⟩)), rfl⟩)
              · simp [intOf]
          · have h7 : decM l = (zeroM, 7) := HS8.out (by rw [hT2, takes_short (by rw [HL.out]; exact hX)])
            have hRs := HRS2.out
            clear hT2 HRS2
            obtain ⟨z0, z1, z2, z3, z4, z5, z6, z7, zf⟩ := cells8 hRs.res
            go_wp2_with (go_at_call 34; refine HNX.mono ?_; rintro e w4 ⟨rfl, rfl⟩)
            exact bodyPost_ret (v := .tuple #[mv zeroM none 0, .int .i64 7]) (by simp [results, Try.results16, go_sem, zeroM, z0, z1, z2, z3, z4, z5, z6, z7]) rfl (rdec_zero h7 rfl (hRs.mid.fin _ _ _ _ _ _ _ _))
        · have h7 : decM l = (zeroM, 7) := HS8.out (by rw [hT, takes_short (by rw [HL.out]; exact hA)]; exact takes_seven)
          clear hT
          obtain ⟨z0, z1, z2, z3, z4, z5, z6, z7, zf⟩ := cells8 hRs.res
          go_wp2
          exact bodyPost_ret (v := .tuple #[mv zeroM none 0, .int .i64 7]) (by simp [results, Try.results16, go_sem, zeroM, z0, z1, z2, z3, z4, z5, z6, z7]) rfl (rdec_zero h7 rfl (hRs.mid.fin _ _ _ _ _ _ _ _))
      · obtain ⟨r1, r2, hRs, hR8, hR9⟩ := hq.out
        have hF := HFIN.out x1 A1 x2 A2 r1 r2
        clear r1 r2
        by_cases hlt : A2 < L
        · rw [if_pos (.inl hlt)] at hF
          have hli : (A2 : Int) < (L : Int) := by omega
          obtain ⟨z0, z1, z2, z3, z4, z5, z6, z7, zf⟩ := cells8 hRs.res
          go_wp2
          exact bodyPost_ret (v := .tuple #[mv zeroM none 0, .int .i64 210]) (by simp [results, Try.results16, go_sem, zeroM, z0, z1, z2, z3, z4, z5, z6, z7]) rfl (rdec_zero hF rfl (hRs.mid.fin _ _ _ _ _ _ _ _))
        · have hli : ¬ (A2 : Int) < (L : Int) := by omega
          obtain ⟨m0, m1, m2, m3, m4, m5, m6, m7, mf⟩ := cells8 hRs.blk
          have HRR := rright_any (⟨2, N, ⟨#[]⟩, 0, (numN x1 : Nat), 0, 0, x2⟩ : Ms) a8 c8 wr (by show x2.length ≤ _; omega)
          cases hok : okM (⟨2, N, ⟨#[]⟩, 0, (numN x1 : Nat), 0, 0, x2⟩ : Ms) with
          | false =>
            rw [hok] at HRR
            rw [if_pos (.inr hok)] at hF
            go_wp2_with (go_at_call 11; refine HRR.mono ?_; rintro e w4 ⟨rfl, hb4⟩; have hRs4 := hRs.later hb4.out; obtain ⟨z0, z1, z2, z3, z4, z5, z6, z7, zf⟩ := cells8 hRs4.res)
            exact bodyPost_ret (v := .tuple #[mv zeroM none 0, .int .i64 210]) (by simp [results, Try.results16, go_sem, zeroM, z0, z1, z2, z3, z4, z5, z6, z7]) rfl (rdec_zero hF rfl (hRs4.mid.fin _ _ _ _ _ _ _ _))
          | true =>
            rw [hok] at HRR
            rw [if_neg (by rw [hok]; simp; omega)] at hF
            go_wp2_with (go_at_call 11; refine HRR.mono ?_; rintro e w4 ⟨rfl, hb4⟩; have hRs4 := hRs.later hb4.out; obtain ⟨z0, z1, z2, z3, z4, z5, z6, z7, zf⟩ := cells8 hRs4.res; obtain ⟨v0, v1, v2, v3, v4, v5, v6, v7, vf⟩ := cells8 hRs4.blk)
            refine bodyPost_ret (v := .tuple #[mv (⟨2, N, ⟨#[]⟩, 0, (numN x1 : Nat), 0, 0, x2⟩ : Ms) a8 c8, .int .i64 0]) (by simp [results, Try.results16, go_sem, z0, z1, z2, z3, z4, z5, z6, z7]) rfl ?_
            unfold RDec
            rw [hF]
            exact ⟨a8, c8, rfl, hR8 _ (hRs4.mid.fin _ _ _ _ _ _ _ _), hRs4.mid.fin _ _ _ _ _ _ _ _⟩
end Go.Proofs.Ytfkkaihnmnjadaa
