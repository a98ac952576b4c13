/- segment.Encode: more Kinds. -/
import Derived.Test.YthmfbhanmncfgaaZEnc
namespace Go.Proofs.Ythmfbhanmncfgaa
open Go.RowKit
set_option linter.unusedVariables false
set_option maxRecDepth 20000 in
set_option maxHeartbeats 4000000 in
theorem enc_2 (sr ses ser cks : Nat) (off tot low upp rea : Int) (chk : Bool) (dat : List Nat) (cls : List (Int × Int)) (a : Option Addr) (c : Nat) (a2 : Option Addr) (c2 : Nat) (w : World) (o t : Nat) (hc : Came w (⟨2, (sr : Nat), ses, ser, cks, off, tot, ((o : Nat) : Int), ((t : Nat) : Int), rea, chk, dat, cls⟩ : Sg) a c a2 c2) (hok : okS (⟨2, (sr : Nat), ses, ser, cks, off, tot, ((o : Nat) : Int), ((t : Nat) : Int), rea, chk, dat, cls⟩ : Sg) = true) : Calls Try.prog 9 #[sv (⟨2, (sr : Nat), ses, ser, cks, off, tot, ((o : Nat) : Int), ((t : Nat) : Int), rea, chk, dat, cls⟩ : Sg) a c a2 c2] w fun e w' => EncY (⟨2, (sr : Nat), ses, ser, cks, off, tot, ((o : Nat) : Int), ((t : Nat) : Int), rea, chk, dat, cls⟩ : Sg) w e w' := by
  have HB : Hid (∀ (w : World) (X : Obj), Below w.heap.size w (w.alloc X)) := fun w X => (Below.refl _ w).alloc (Nat.le_refl _) X
  have HCK : Hid (∀ X, Calls Try.prog 11 #[sv (⟨2, (sr : Nat), ses, ser, cks, off, tot, ((o : Nat) : Int), ((t : Nat) : Int), rea, chk, dat, cls⟩ : Sg) a c a2 c2] (w.alloc X) fun e w' => e = .returned (.int .i64 0) ∧ Hid (Below (w.alloc X).heap.size (w.alloc X) w')) := fun X => by
    have := check_any (⟨2, (sr : Nat), ses, ser, cks, off, tot, ((o : Nat) : Int), ((t : Nat) : Int), rea, chk, dat, cls⟩ : Sg) a c a2 c2 (w.alloc X) (hc.later (HB.out w X))
    rw [chk_ok hok] at this
    exact this
  have HC : Hid (Came w (⟨2, (sr : Nat), ses, ser, cks, off, tot, ((o : Nat) : Int), ((t : Nat) : Int), rea, chk, dat, cls⟩ : Sg) a c a2 c2) := hc
  have h1 : ses < 4294967296 := hc.fit.ses
  have h2 : ser < 4294967296 := hc.fit.ser
  have h3 : cks < 4294967296 := hc.fit.cks
  have hkk := okS_parts hok
  simp only at hkk
  obtain ⟨⟨k1, k2⟩, k3, k4, k5⟩ := hkk
  have hsr6 : sr ≤ 6 := by omega
  have HBL : Hid ((bodyS (⟨2, (sr : Nat), ses, ser, cks, off, tot, ((o : Nat) : Int), ((t : Nat) : Int), rea, chk, dat, cls⟩ : Sg)).length ≤ 126) := (body_len _ hok hc.fit.szd).2
  obtain ⟨g0, g1, g2, g3, g4, g5, g6⟩ := repS_of (show repS (⟨2, (sr : Nat), ses, ser, cks, off, tot, ((o : Nat) : Int), ((t : Nat) : Int), rea, chk, dat, cls⟩ : Sg) = true by simpa [fieldsS] using k4)
  simp only at g2 g3 g4 g5 g6
  clear hc k5 k1 k2 hok
  go_enter Try.func9, Try.ntmps9
  go_wp2_with fail
  refine (HCK.out _).mono ?_
  rintro e w1 ⟨rfl, hb1⟩
  have hP1 : w1.heap[w.heap.size]? = some (sc (⟨2, (sr : Nat), ses, ser, cks, off, tot, ((o : Nat) : Int), ((t : Nat) : Int), rea, chk, dat, cls⟩ : Sg) a c a2 c2) := old_block hb1.out (heap_alloc_new w _)
  have HP1 : Hid _ := hP1
  have hW1 : Hid (Below w.heap.size w w1) := below_of (HB.out _ _) hb1.out
  have hws : w.heap.size + 1 ≤ w1.heap.size := by have := hb1.out.size; simpa using this
  obtain ⟨e0, e1, e2, e3, e4, e5, e6, e7, e8, e9, e10, e11, e12⟩ := scells hP1
  simp only at e0 e1 e2 e3 e4 e5 e6 e7 e8 e9 e10 e11 e12
  have f1 : ∀ A B, ((w1.alloc A).alloc B).cell? ⟨w.heap.size, 1, none⟩ = some (.int .i64 (sr : Nat)) := fun A B => cell_later (below_of (HB.out _ _) (HB.out _ _)) e1
  have f2 : ∀ A B, ((w1.alloc A).alloc B).cell? ⟨w.heap.size, 2, none⟩ = some (.int .u32 (ses : Nat)) := fun A B => cell_later (below_of (HB.out _ _) (HB.out _ _)) e2
  clear hP1 hb1 e1 e2 e3 e4 e5 e6 e7 e8 e9 e10 e11 e12
  go_wp2_with fail
  refine (put_at _ w1.heap.size (w1.heap.size + 1) (.slice (some ⟨w1.heap.size, 0, none⟩) 1 1) [2] (w1.heap.size + 2) 2 2 _ [sr, ses] rfl (made_at (by simp)) ((wr_first rfl (by omega)).later (HB.out _ _)) (by simp; omega) (by intro x hx; simp at hx; omega) (by omega) (by omega) (by simp)).mono ?_
  rintro e w2 ⟨rfl, v2, hq2⟩
  have hV0 : (Value.slice (some ⟨w1.heap.size, 0, none⟩) 1 1).ownBlock ≠ some w.heap.size := fun e => by
    have : w1.heap.size = w.heap.size := Option.some.inj e
    omega
  obtain ⟨hP2, hV2⟩ := hq2.out.kept (q := w.heap.size) (o := sc (⟨2, (sr : Nat), ses, ser, cks, off, tot, ((o : Nat) : Int), ((t : Nat) : Int), rea, chk, dat, cls⟩ : Sg) a c a2 c2) (old_block (below_of (below_of (HB.out _ _) (HB.out _ _)) (HB.out _ _)) HP1.out) (by omega) hV0
  have HQ2 : Hid (Wr w2 w1.heap.size (w1.heap.size + 1) v2 ([2] ++ rowL [sr, ses]) ∧ Below w1.heap.size w1 w2) := ⟨hq2.out.1, (below_of (below_of (HB.out _ _) (HB.out _ _)) (HB.out _ _)).trans (hq2.out.old (fun k hk => by cases hk; exact Nat.le_refl _) (by omega) (by simp; omega))⟩
  have hw2 : w1.heap.size + 3 ≤ w2.heap.size := by have := hq2.out.2.1.size; simpa using this
  have HP2 : Hid _ := hP2
  have HV2 : Hid _ := hV2
  clear e0
  obtain ⟨e0, e1, e2, e3, e4, e5, e6, e7, e8, e9, e10, e11, e12⟩ := scells hP2
  simp only at e0 e1 e2 e3 e4 e5 e6 e7 e8 e9 e10 e11 e12
  clear hP2 hV2 hq2 hV0 HP1 f1 f2
  go_wp2_with fail
  refine (wreport_any w2 w1.heap.size (w1.heap.size + 1) v2 _ HQ2.out.1 (by omega) (by have := rowL_len [sr, ses] (by intro x hx; simp at hx; omega); simp at this ⊢; omega) (⟨2, (sr : Nat), ses, ser, cks, off, tot, ((o : Nat) : Int), ((t : Nat) : Int), rea, chk, dat, cls⟩ : Sg) a c a2 c2 (HC.out.rowc.later (hW1.out.trans (HQ2.out.2.mono (by omega)))) (by omega) (fun h0 b hb => by have := HC.out.rowc.lt h0 b hb; omega) h2 h3 o t rfl rfl (by omega) (by omega) (by show cls.length ≤ 20; omega) (clsOk_all _ _ _ (by omega) (by omega) g6)).mono ?_
  rintro e wz ⟨rfl, vz, hq3⟩
  simp only at hq3
  have HZ : Hid (Wr wz w1.heap.size (w1.heap.size + 1) vz (([2] ++ rowL [sr, ses]) ++ (rowL [ser, cks, o, t, cls.length] ++ clsL cls)) ∧ Below w1.heap.size w1 wz) := ⟨hq3.out.1, HQ2.out.2.trans (hq3.out.old (own_ge HQ2.out.1.own) (by omega) (by omega))⟩
  have HL : Hid (([2] ++ rowL [sr, ses]) ++ (rowL [ser, cks, o, t, cls.length] ++ clsL cls) = bodyS (⟨2, (sr : Nat), ses, ser, cks, off, tot, ((o : Nat) : Int), ((t : Nat) : Int), rea, chk, dat, cls⟩ : Sg)) := by show _ = _; simp [bodyS, tailS]
  clear e0 e1 e2 e3 e4 e5 e6 e7 e8 e9 e10 e11 e12 hq3
  generalize ([2] ++ rowL [sr, ses]) ++ (rowL [ser, cks, o, t, cls.length] ++ clsL cls) = LZ at HZ HL

  have HLZ : Hid (LZ = bodyS (⟨2, (sr : Nat), ses, ser, cks, off, tot, ((o : Nat) : Int), ((t : Nat) : Int), rea, chk, dat, cls⟩ : Sg)) := HL.out
  have hlz : LZ.length ≤ 126 := by rw [HLZ.out]; exact HBL.out
  obtain ⟨az, cz, hvz, hle, hcm, hrow⟩ := own_row HZ.out.1.own HZ.out.1.byte (by unfold maxLen; omega)
  subst hvz
  have HROW : Hid (Row wz az LZ) := hrow
  have HWZ : Hid (Below w.heap.size w wz) := hW1.out.trans (HZ.out.2.mono (by omega))
  have HSM : Hid (∀ W, Below wz.heap.size wz W → Calls Try.prog 19 #[.slice az LZ.length cz] W fun e w' => e = .returned (.int .u32 (Crc.sum32 LZ : Nat)) ∧ w' = W) := fun W hb => sum32_any az cz LZ W (HROW.out.later hb)
  have hsl : Crc.sum32 LZ < 4294967296 := sum32_lt HROW.out.1
  have HPT : Hid (∀ W, Below wz.heap.size wz W → Calls Try.prog 18 #[.slice az LZ.length cz, .int .u32 (Crc.sum32 LZ : Nat)] W fun e w' => Puts W (LZ ++ be (Crc.sum32 LZ) 4) e w') := fun W hb => put32_any az cz LZ (Crc.sum32 LZ) W (HROW.out.later hb) (by omega) hsl
  have hcz : wz.cell? ⟨w1.heap.size + 1, 0, none⟩ = some (.slice az LZ.length cz) := by rw [cell_of HZ.out.1.here]; rfl
  clear hrow hle hcm
  go_wp2_with fail
  go_region_with (first
    | (go_at_call 19; refine (HSM.out _ (by repeat (first | exact Below.refl _ _ | apply Below.drew))).mono ?_; rintro e w5 ⟨rfl, rfl⟩)
    | (go_at_call 18; refine (HPT.out _ (by repeat (first | exact Below.refl _ _ | apply Below.drew))).mono ?_; intro e w6 hq6; obtain ⟨g6, rfl, hB6⟩ := puts_enc (⟨2, (sr : Nat), ses, ser, cks, off, tot, ((o : Nat) : Int), ((t : Nat) : Int), rea, chk, dat, cls⟩ : Sg) HLZ.out (below_of HWZ.out (by repeat (first | exact Below.refl _ _ | apply Below.drew))) hq6))
  all_goals
    go_wp2
    refine bodyPost_ret (v := .tuple #[.slice (some ⟨g6, 0, none⟩) (encS (⟨2, (sr : Nat), ses, ser, cks, off, tot, ((o : Nat) : Int), ((t : Nat) : Int), rea, chk, dat, cls⟩ : Sg)).length (encS (⟨2, (sr : Nat), ses, ser, cks, off, tot, ((o : Nat) : Int), ((t : Nat) : Int), rea, chk, dat, cls⟩ : Sg)).length, .int .i64 0]) (by simp [results, Try.results9, go_sem]) rfl ⟨g6, rfl, hB6⟩
end Go.Proofs.Ythmfbhanmncfgaa
