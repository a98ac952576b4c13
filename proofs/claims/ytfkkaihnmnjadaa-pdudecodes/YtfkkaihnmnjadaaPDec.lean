/- The walk of pdu.Decode. -/
import Derived.Test.YtfkkaihnmnjadaaPReadA
import Derived.Test.YtfkkaihnmnjadaaPReadB
namespace Go.Proofs.Ytfkkaihnmnjadaa
open Go.RowKit
set_option linter.unusedVariables false
theorem read_rd (w : World) (p q : Nat) (l : List Nat) (h : Rd w p q l 0 0) (hz : l.length ≤ 140737488351232) (hk : rdk l = 0 ∨ fld (rdk l) ≠ 0) : Calls Try.prog 31 #[.pointer (some ⟨p, 0, none⟩)] w fun e w' => RdY l w p q e w' := by
  rcases hk with hk | hk
  · exact read_0 w p q l h hz hk
  · rcases fld_cases (rdk l) with k | k | k | k | k | k | k | k | k
    · exact read_1 w p q l h hz k
    · exact read_2 w p q l h hz k
    · exact read_3 w p q l h hz k
    · exact read_4 w p q l h hz k
    · exact read_5 w p q l h hz k
    · exact read_6 w p q l h hz k
    · exact read_7 w p q l h hz k
    · exact read_8 w p q l h hz k
    · exact absurd k hk
theorem rdk_cons (x : Nat) (t : List Nat) : rdk (x :: t) = (x : Nat) := by
  unfold rdk rd1
  rw [takes_ok (by simp)]
  show ((numN [x] : Nat) : Int) = _
  rw [num_one]
theorem rdk_nil : rdk [] = 0 := rfl
theorem optT_len {c : Bool} {n : Nat} {t : List Nat × Nat × Int} {s : Nat × Int} (h : t.1.length ≤ n) : (optT c t s).1.length ≤ n := by
  cases c with
  | false => exact Nat.zero_le _
  | true => exact h
theorem optT_byte {c : Bool} {t : List Nat × Nat × Int} {s : Nat × Int} (h : ∀ x ∈ t.1, x < 256) : ∀ x ∈ (optT c t s).1, x < 256 := by
  cases c with
  | false => intro x hx; simp [optT] at hx
  | true => exact h
theorem num_lt {t : List Nat} {k : Nat} (hb : ∀ x ∈ t, x < 256) (h : t.length ≤ k) : numN t < 256 ^ k := Nat.lt_of_lt_of_le (numN_lt t hb) (Nat.pow_le_pow_right (by omega) h)
theorem takes_le_len {l : List Nat} {at_ n : Nat} {er : Int} : (takes l at_ er n).1.length ≤ l.length := by
  unfold takes
  split
  · simp
  · split
    · simp [List.length_take, List.length_drop]; omega
    · simp
/-- what is read is of its kinds. -/
theorem rd_sz {l : List Nat} (hb : ∀ x ∈ l, x < 256) (hz : l.length ≤ 140737488351232) : Sz (rdM l) := by
  have h1 : numN (rd1 l).1 < 256 ^ 1 := num_lt (takes_byte hb) takes_len
  have h2 : numN (rd2 l).1 < 256 ^ 4 := num_lt (takes_byte hb) takes_len
  have h3 : (rd3 l).1.length ≤ l.length := optT_len takes_le_len
  have h4 : numN (rd4 l).1 < 256 ^ 2 := num_lt (optT_byte (takes_byte hb)) (optT_len takes_len)
  have h5 : numN (rd5 l).1 < 256 ^ 2 := num_lt (optT_byte (takes_byte hb)) (optT_len takes_len)
  have h6 : numN (rd6 l).1 < 256 ^ 4 := num_lt (optT_byte (takes_byte hb)) (optT_len takes_len)
  have h7 : numN (rd7 l).1 < 256 ^ 1 := num_lt (optT_byte (takes_byte hb)) (optT_len takes_len)
  have h8 : (rd8 l).1.length ≤ l.length := optT_len takes_le_len
  refine ⟨?_, by show numN (rd2 l).1 < _; omega, by show (nameOf (rd3 l).1).size ≤ _; rw [nameOf_size]; omega, ?_, ?_, by show numN (rd6 l).1 < _; omega, ?_, by show (rd8 l).1.length ≤ _; omega⟩
  · show in64 ((numN (rd1 l).1 : Nat) : Int); unfold in64; omega
  · show in64 ((numN (rd4 l).1 : Nat) : Int); unfold in64; omega
  · show in64 ((numN (rd5 l).1 : Nat) : Int); unfold in64; omega
  · show in64 ((numN (rd7 l).1 : Nat) : Int); unfold in64; omega
/-- what Decode answers. -/
def Dec1 (l : List Nat) (w : World) (e : Ending) (w' : World) : Prop := ∃ a c, e = .returned (.tuple #[mv (decM l).1 a c, .int .i64 (decM l).2]) ∧ Hid (Came w' (decM l).1 a c ∧ Below w.heap.size w w' ∧ ∀ b, a = some b → w.heap.size ≤ b.block)
theorem zero_sz : Sz zeroM := ⟨by unfold in64; decide, by decide, by decide, by unfold in64; decide, by unfold in64; decide, by decide, by unfold in64; decide, by decide⟩
theorem dec1_zero {l : List Nat} {w w' : World} {e : Ending} {R : Int} (h : decM l = (zeroM, R)) (he : e = .returned (.tuple #[mv zeroM none 0, .int .i64 R])) (hb : Below w.heap.size w w') : Dec1 l w e w' := by
  unfold Dec1
  rw [h]
  exact ⟨none, 0, he, ⟨zero_sz, row_nil _ _, Nat.le_refl _, Nat.zero_le _⟩, hb, fun b hb => by cases hb⟩
set_option maxRecDepth 20000 in
set_option maxHeartbeats 4000000 in
theorem dec_kind (w : World) (b o c : Nat) (x : Nat) (t : List Nat) (hr : Row w (some ⟨b, o, none⟩) (x :: t)) (hk : fld (x : Nat) = 0) : Calls Try.prog 15 #[.slice (some ⟨b, o, none⟩) (x :: t).length c] w fun e w' => Dec1 (x :: t) w e w' := by
  have HD : Hid (decM (x :: t) = (zeroM, 210)) := by show _ = _; unfold decM; exact if_pos ⟨by simp, hk⟩
  have HB : Hid (∀ (w : World) (X : Obj), Below w.heap.size w (w.alloc X)) := fun w X => (Below.refl _ w).alloc (Nat.le_refl _) X
  have hx := hr.1 x (by simp)
  have HF : ∀ W, Calls Try.prog 20 #[.int .i64 x] W fun e w' => e = .returned (.int .u8 0) ∧ W = w' := fun W => by have := fieldsOf_any (x : Nat) W; rw [hk] at this; exact this
  obtain ⟨_, _, hv, hcc⟩ := hr.2.2 (by simp)
  cases hv
  have h0 := hcc 0 (by simp)
  have hcell : ∀ A, (w.alloc A).cell? ⟨b, o, none⟩ = some (.int .u8 (x : Nat)) := fun A => cell_later (HB.out w A) h0
  have hl : (x :: t).length = t.length + 1 := rfl
  rw [hl]
  clear hr hk hcc h0
  generalize x :: t = l at HD ⊢
  go_enter Try.func15, Try.ntmps15
  go_wp2_with (go_at_call 20; refine (HF _).mono ?_; rintro e w1 ⟨rfl, rfl⟩)
  exact bodyPost_ret (v := .tuple #[mv zeroM none 0, .int .i64 210]) (by simp [results, Try.results15, go_sem, zeroM]) rfl (dec1_zero HD.out rfl (HB.out _ _))
/-- a world on the way. -/
def Mid (w W : World) : Prop := Below w.heap.size w W ∧ W.heap[w.heap.size]? = some (mc zeroM none 0)
theorem Mid.later {w V W : World} (h : Mid w V) (hb : Below V.heap.size V W) : Mid w W := ⟨below_of h.1 hb, old_block hb h.2⟩
theorem Mid.off {w V W : World} {p : Nat} (h : Mid w V) (hb : Off (fun k => k = p) V W) (hp : w.heap.size < p) : Mid w W := ⟨h.1.trans (hb.below h.1.size (fun i e => by have : i = p := e; omega)), hb.at h.2 (by show ¬ _ = _; omega)⟩
theorem Mid.first (w : World) : Mid w (w.alloc (mc zeroM none 0)) := ⟨(Below.refl _ w).alloc (Nat.le_refl _) _, heap_alloc_new w _⟩
theorem Mid.fin {w V : World} (h : Mid w V) (v0 v1 v2 v3 v4 v5 v6 v7 : Value) : Below w.heap.size w ((((((((V.setCell ⟨w.heap.size, 0, none⟩ v0).setCell ⟨w.heap.size, 1, none⟩ v1).setCell ⟨w.heap.size, 2, none⟩ v2).setCell ⟨w.heap.size, 3, none⟩ v3).setCell ⟨w.heap.size, 4, none⟩ v4).setCell ⟨w.heap.size, 5, none⟩ v5).setCell ⟨w.heap.size, 6, none⟩ v6).setCell ⟨w.heap.size, 7, none⟩ v7) := ((((((((h.1.setCell (p := ⟨w.heap.size, 0, none⟩) (Nat.le_refl _) v0).setCell (p := ⟨w.heap.size, 1, none⟩) (Nat.le_refl _) v1).setCell (p := ⟨w.heap.size, 2, none⟩) (Nat.le_refl _) v2).setCell (p := ⟨w.heap.size, 3, none⟩) (Nat.le_refl _) v3).setCell (p := ⟨w.heap.size, 4, none⟩) (Nat.le_refl _) v4).setCell (p := ⟨w.heap.size, 5, none⟩) (Nat.le_refl _) v5).setCell (p := ⟨w.heap.size, 6, none⟩) (Nat.le_refl _) v6).setCell (p := ⟨w.heap.size, 7, none⟩) (Nat.le_refl _) v7)
theorem Mid.rows {w V : World} (h : Mid w V) (v0 v1 v2 v3 v4 v5 v6 v7 : Value) : Off (fun k => k = w.heap.size) V ((((((((V.setCell ⟨w.heap.size, 0, none⟩ v0).setCell ⟨w.heap.size, 1, none⟩ v1).setCell ⟨w.heap.size, 2, none⟩ v2).setCell ⟨w.heap.size, 3, none⟩ v3).setCell ⟨w.heap.size, 4, none⟩ v4).setCell ⟨w.heap.size, 5, none⟩ v5).setCell ⟨w.heap.size, 6, none⟩ v6).setCell ⟨w.heap.size, 7, none⟩ v7) := (((((((((Off.refl (fun k => k = w.heap.size) V).setCell (p := ⟨w.heap.size, 0, none⟩) (.inr rfl) v0).setCell (p := ⟨w.heap.size, 1, none⟩) (.inr rfl) v1).setCell (p := ⟨w.heap.size, 2, none⟩) (.inr rfl) v2).setCell (p := ⟨w.heap.size, 3, none⟩) (.inr rfl) v3).setCell (p := ⟨w.heap.size, 4, none⟩) (.inr rfl) v4).setCell (p := ⟨w.heap.size, 5, none⟩) (.inr rfl) v5).setCell (p := ⟨w.heap.size, 6, none⟩) (.inr rfl) v6).setCell (p := ⟨w.heap.size, 7, none⟩) (.inr rfl) v7)
set_option maxRecDepth 20000 in
set_option maxHeartbeats 4000000 in
theorem dec_nil (w : World) (a : Option Addr) (c : Nat) : Calls Try.prog 15 #[.slice a 0 c] w fun e w' => Dec1 [] w e w' := by
  obtain ⟨l, hl⟩ : ∃ l : List Nat, l = [] := ⟨_, rfl⟩
  have hL : l.length = 0 := by rw [hl]; rfl
  have hz : l.length ≤ 140737488351232 := by omega
  have hr : Row w a l := by rw [hl]; exact row_nil _ _
  have hk0 : rdk l = 0 ∨ fld (rdk l) ≠ 0 := by rw [hl]; exact .inl rfl
  have HDC : Hid (decM l = if (rd8 l).2.2 ≠ 0 then (zeroM, (rd8 l).2.2) else if 0 < l.length - (rd8 l).2.1 ∨ okM (rdM l) = false then (zeroM, 210) else (rdM l, 0)) := by show _ = _; rw [hl]; rfl
  rw [← hl]
  clear hl
  have HMF : Hid (Mid w (w.alloc (mc zeroM none 0))) := Mid.first w
  have HRD : Hid (∀ W, Below w.heap.size w W → Calls Try.prog 30 #[.slice a 0 c] W fun e w' => ∃ p q, e = .returned (.pointer (some ⟨p, 0, none⟩)) ∧ Hid (Rd w' p q l 0 0 ∧ W.heap.size ≤ p ∧ W.heap.size ≤ q ∧ Below W.heap.size W w')) := fun W hb => by
    have := oread_any W a c l (hr.later hb) hz
    rw [hL] at this
    exact this
  have HRE : Hid (∀ W p q, Rd W p q l 0 0 → Calls Try.prog 31 #[.pointer (some ⟨p, 0, none⟩)] W fun e w' => RdY l W p q e w') := fun W p q h => read_rd W p q l h hz hk0
  have HSZ : Hid (Sz (rdM l)) := rd_sz hr.1 hz
  have HLF : Hid (∀ W p q, Rd W p q l (rd8 l).2.1 0 → Calls Try.prog 33 #[.pointer (some ⟨p, 0, none⟩)] W fun e w' => e = .returned (.int .i64 ((l.length - (rd8 l).2.1 : Nat) : Int)) ∧ ∃ n, w' = W.drewN n) := fun W p q h => rleft_any W p q l _ 0 h hz
  unfold RdY at HRE
  generalize rdM l = M at HRE HDC HSZ
  generalize (rd8 l).2.1 = A at HRE HDC HLF
  generalize (rd8 l).2.2 = E at HRE HDC
  clear hr hk0
  go_enter Try.func15, Try.ntmps15
  go_wp2_with fail
  refine (HRD.out _ HMF.out.1).mono ?_
  rintro e w1 ⟨p, q, rfl, hq1⟩
  go_wp2_with fail
  refine (HRE.out w1 p q hq1.out.1).mono ?_
  rintro e w2 ⟨a2, c2, rfl, hq2⟩
  have hs1 := hq1.out.2.2.2.size
  have HM2 : Hid (Mid w (w2.alloc (mc M a2 c2))) := ((HMF.out.later hq1.out.2.2.2).off hq2.out.2.2.2.2.1 (by have := hq1.out.2.1; simp at this; omega)).later ((Below.refl _ _).alloc (Nat.le_refl _) _)
  have HR2 : Hid (Rd (w2.alloc (mc M a2 c2)) p q l A E) := hq2.out.2.2.2.1.later ((Below.refl _ _).alloc (Nat.le_refl _) _)
  have HC2 : Hid (Came (w2.alloc (mc M a2 c2)) M a2 c2 ∧ (∀ b, a2 = some b → w.heap.size < b.block)) := ⟨⟨HSZ.out, hq2.out.1.later ((Below.refl _ _).alloc (Nat.le_refl _) _), hq2.out.2.1, hq2.out.2.2.1⟩, fun b hb => by have := hq2.out.2.2.2.2.2 b hb; simp at hs1; omega⟩
  have HP2 : Hid ((w2.alloc (mc M a2 c2)).heap[w2.heap.size]? = some (mc M a2 c2)) := heap_alloc_new w2 _
  have HN2 : Hid (w.heap.size < w2.heap.size) := by show _ < _; have := hq2.out.2.2.2.2.1.size; simp at hs1; omega
  clear hs1
  go_wp2_with fail
  refine (err_any _ p q l A E HR2.out).mono ?_
  rintro e w3 ⟨rfl, rfl⟩
  cases hE : (E != 0) with
  | true =>
    have HX : Hid (decM l = (zeroM, E)) := by show _ = _; rw [HDC.out, if_pos (by simpa using hE)]
    obtain ⟨z0, z1, z2, z3, z4, z5, z6, z7, zf⟩ := cells8 HM2.out.2
    clear HDC
    go_wp2
    exact bodyPost_ret (v := .tuple #[mv zeroM none 0, .int .i64 E]) (by simp [results, Try.results15, go_sem, zeroM, z0, z1, z2, z3, z4, z5, z6, z7]) rfl (dec1_zero HX.out rfl (HM2.out.fin _ _ _ _ _ _ _ _))
  | false =>
    obtain rfl : E = 0 := by simpa using hE
    clear hE
    go_wp2_with fail
    refine (HLF.out _ p q HR2.out).mono ?_
    rintro e w3 ⟨rfl, n, rfl⟩
    have HDC2 : Hid (decM l = if 0 < l.length - A ∨ okM M = false then (zeroM, 210) else (M, 0)) := by show _ = _; rw [HDC.out, if_neg (by simp)]
    clear HDC HLF HRE HRD
    generalize l.length - A = D at HDC2 ⊢
    have HMD : Hid (Mid w ((w2.alloc (mc M a2 c2)).drewN n)) := HM2.out.later (below_drewN (Below.refl _ _) n)
    rcases Nat.eq_zero_or_pos D with hD | hD
    · subst hD
      have HCK := check_any M a2 c2 ((w2.alloc (mc M a2 c2)).drewN n) (HC2.out.1.later (below_drewN (Below.refl _ _) n))
      obtain ⟨x0, x1, x2, x3, x4, x5, x6, x7, xf⟩ := cells8 HP2.out
      cases hok : okM M with
      | false =>
        rw [chk_no hok] at HCK
        have HX : Hid (decM l = (zeroM, 210)) := by show _ = _; rw [HDC2.out, if_pos (.inr hok)]
        clear HDC2 hok
        go_wp2_with (go_at_call 12; refine HCK.mono ?_; rintro e w4 ⟨rfl, hb4⟩; have HM4 : Hid (Mid w w4) := HMD.out.later hb4.out; obtain ⟨z0, z1, z2, z3, z4, z5, z6, z7, zf⟩ := cells8 HM4.out.2)
        exact bodyPost_ret (v := .tuple #[mv zeroM none 0, .int .i64 210]) (by simp [results, Try.results15, go_sem, zeroM, z0, z1, z2, z3, z4, z5, z6, z7]) rfl (dec1_zero HX.out rfl (HM4.out.fin _ _ _ _ _ _ _ _))
      | true =>
        rw [chk_ok hok] at HCK
        have HX : Hid (decM l = (M, 0)) := by show _ = _; rw [HDC2.out, if_neg (by rw [hok]; simp)]
        clear HDC2 hok
        go_wp2_with (go_at_call 12; refine HCK.mono ?_; rintro e w4 ⟨rfl, hb4⟩; have HM4 : Hid (Mid w w4) := HMD.out.later hb4.out; obtain ⟨z0, z1, z2, z3, z4, z5, z6, z7, zf⟩ := cells8 HM4.out.2; obtain ⟨v0, v1, v2, v3, v4, v5, v6, v7, vf⟩ := cells8 (old_block (below_of (below_drewN (Below.refl _ _) n) hb4.out) HP2.out))
        refine bodyPost_ret (v := .tuple #[mv M a2 c2, .int .i64 0]) (by simp [results, Try.results15, go_sem, z0, z1, z2, z3, z4, z5, z6, z7]) rfl ?_
        unfold Dec1
        rw [HX.out]
        have hC4 := HC2.out.1.later (below_of (below_drewN (Below.refl _ _) n) hb4.out)
        exact ⟨a2, c2, rfl, ⟨hC4.fit, hC4.row.off (HM4.out.rows _ _ _ _ _ _ _ _) (fun _ b hb => by show ¬ _ = _; have := HC2.out.2 b hb; omega), hC4.le, hC4.cap⟩, HM4.out.fin _ _ _ _ _ _ _ _, fun b hb => Nat.le_of_lt (HC2.out.2 b hb)⟩
    · have HX : Hid (decM l = (zeroM, 210)) := by show _ = _; rw [HDC2.out, if_pos (.inl hD)]
      have hD2 : (0 : Int) < (D : Int) := by omega
      obtain ⟨z0, z1, z2, z3, z4, z5, z6, z7, zf⟩ := cells8 HMD.out.2
      clear HDC2 hD
      go_wp2
      exact bodyPost_ret (v := .tuple #[mv zeroM none 0, .int .i64 210]) (by simp [results, Try.results15, go_sem, zeroM, z0, z1, z2, z3, z4, z5, z6, z7]) rfl (dec1_zero HX.out rfl (HMD.out.fin _ _ _ _ _ _ _ _))
set_option maxRecDepth 20000 in
set_option maxHeartbeats 8000000 in
theorem dec_cons (w : World) (b o c : Nat) (x : Nat) (t : List Nat) (hr0 : Row w (some ⟨b, o, none⟩) (x :: t)) (hz0 : (x :: t).length ≤ 140737488351232) (hk : fld (x : Nat) ≠ 0) : Calls Try.prog 15 #[.slice (some ⟨b, o, none⟩) (x :: t).length c] w fun e w' => Dec1 (x :: t) w e w' := by
  have HB : Hid (∀ (w : World) (X : Obj), Below w.heap.size w (w.alloc X)) := fun w X => (Below.refl _ w).alloc (Nat.le_refl _) X
  have hx := hr0.1 x (by simp)
  have HF : ∀ W, Calls Try.prog 20 #[.int .i64 x] W fun e w' => e = .returned (.int .u8 (fld (x : Nat) : Nat)) ∧ W = w' := fun W => fieldsOf_any (x : Nat) W
  have hF0 : (((fld (x : Nat) : Nat) : Int) == 0) = false := by simpa using hk
  obtain ⟨_, _, hv, hcc⟩ := hr0.2.2 (by simp)
  cases hv
  have h0 := hcc 0 (by simp)
  have hcell : ∀ A, (w.alloc A).cell? ⟨b, o, none⟩ = some (.int .u8 (x : Nat)) := fun A => cell_later (HB.out w A) h0
  obtain ⟨l, hl⟩ : ∃ l : List Nat, l = x :: t := ⟨_, rfl⟩
  obtain ⟨a, ha⟩ : ∃ a : Option Addr, a = some ⟨b, o, none⟩ := ⟨_, rfl⟩
  have hL : l.length = t.length + 1 := by rw [hl]; rfl
  have hz : l.length ≤ 140737488351232 := by rw [hl]; exact hz0
  have hr : Row w a l := by rw [hl, ha]; exact hr0
  have hk0 : rdk l = 0 ∨ fld (rdk l) ≠ 0 := by rw [hl, rdk_cons]; exact .inr hk
  have HDC : Hid (decM l = if (rd8 l).2.2 ≠ 0 then (zeroM, (rd8 l).2.2) else if 0 < l.length - (rd8 l).2.1 ∨ okM (rdM l) = false then (zeroM, 210) else (rdM l, 0)) := by
    show _ = _
    unfold decM
    rw [if_neg (by rw [hl]; exact fun k => hk k.2)]
  have hlt : (x :: t).length = t.length + 1 := rfl
  rw [← hl]
  rw [← hl] at hlt
  rw [hlt]
  generalize ((fld (x : Nat) : Nat) : Int) = F at HF hF0
  clear hcc h0 hk hr0 hz0 hlt
  have HMF : Hid (Mid w (w.alloc (mc zeroM none 0))) := Mid.first w
  have HRD : Hid (∀ W, Below w.heap.size w W → Calls Try.prog 30 #[.slice a (t.length + 1) c] W fun e w' => ∃ p q, e = .returned (.pointer (some ⟨p, 0, none⟩)) ∧ Hid (Rd w' p q l 0 0 ∧ W.heap.size ≤ p ∧ W.heap.size ≤ q ∧ Below W.heap.size W w')) := fun W hb => by
    have := oread_any W a c l (hr.later hb) hz
    rw [hL] at this
    exact this
  have HRE : Hid (∀ W p q, Rd W p q l 0 0 → Calls Try.prog 31 #[.pointer (some ⟨p, 0, none⟩)] W fun e w' => RdY l W p q e w') := fun W p q h => read_rd W p q l h hz hk0
  have HSZ : Hid (Sz (rdM l)) := rd_sz hr.1 hz
  have HLF : Hid (∀ W p q, Rd W p q l (rd8 l).2.1 0 → Calls Try.prog 33 #[.pointer (some ⟨p, 0, none⟩)] W fun e w' => e = .returned (.int .i64 ((l.length - (rd8 l).2.1 : Nat) : Int)) ∧ ∃ n, w' = W.drewN n) := fun W p q h => rleft_any W p q l _ 0 h hz
  unfold RdY at HRE
  generalize rdM l = M at HRE HDC HSZ
  generalize (rd8 l).2.1 = A at HRE HDC HLF
  generalize (rd8 l).2.2 = E at HRE HDC
  clear hr hk0
  go_enter Try.func15, Try.ntmps15
  subst ha
  clear hl
  go_wp2_with (go_at_call 20; refine (HF _).mono ?_; rintro e w1 ⟨rfl, rfl⟩)
  refine (HRD.out _ HMF.out.1).mono ?_
  rintro e w1 ⟨p, q, rfl, hq1⟩
  go_wp2_with fail
  refine (HRE.out w1 p q hq1.out.1).mono ?_
  rintro e w2 ⟨a2, c2, rfl, hq2⟩
  have hs1 := hq1.out.2.2.2.size
  have HM2 : Hid (Mid w (w2.alloc (mc M a2 c2))) := ((HMF.out.later hq1.out.2.2.2).off hq2.out.2.2.2.2.1 (by have := hq1.out.2.1; simp at this; omega)).later ((Below.refl _ _).alloc (Nat.le_refl _) _)
  have HR2 : Hid (Rd (w2.alloc (mc M a2 c2)) p q l A E) := hq2.out.2.2.2.1.later ((Below.refl _ _).alloc (Nat.le_refl _) _)
  have HC2 : Hid (Came (w2.alloc (mc M a2 c2)) M a2 c2 ∧ (∀ b, a2 = some b → w.heap.size < b.block)) := ⟨⟨HSZ.out, hq2.out.1.later ((Below.refl _ _).alloc (Nat.le_refl _) _), hq2.out.2.1, hq2.out.2.2.1⟩, fun b hb => by have := hq2.out.2.2.2.2.2 b hb; simp at hs1; omega⟩
  have HP2 : Hid ((w2.alloc (mc M a2 c2)).heap[w2.heap.size]? = some (mc M a2 c2)) := heap_alloc_new w2 _
  have HN2 : Hid (w.heap.size < w2.heap.size) := by show _ < _; have := hq2.out.2.2.2.2.1.size; simp at hs1; omega
  clear hs1
  go_wp2_with fail
  refine (err_any _ p q l A E HR2.out).mono ?_
  rintro e w3 ⟨rfl, rfl⟩
  cases hE : (E != 0) with
  | true =>
    have HX : Hid (decM l = (zeroM, E)) := by show _ = _; rw [HDC.out, if_pos (by simpa using hE)]
    obtain ⟨z0, z1, z2, z3, z4, z5, z6, z7, zf⟩ := cells8 HM2.out.2
    clear HDC
    go_wp2
    exact bodyPost_ret (v := .tuple #[mv zeroM none 0, .int .i64 E]) (by simp [results, Try.results15, go_sem, zeroM, z0, z1, z2, z3, z4, z5, z6, z7]) rfl (dec1_zero HX.out rfl (HM2.out.fin _ _ _ _ _ _ _ _))
  | false =>
    obtain rfl : E = 0 := by simpa using hE
    clear hE
    go_wp2_with fail
    refine (HLF.out _ p q HR2.out).mono ?_
    rintro e w3 ⟨rfl, n, rfl⟩
    have HDC2 : Hid (decM l = if 0 < l.length - A ∨ okM M = false then (zeroM, 210) else (M, 0)) := by show _ = _; rw [HDC.out, if_neg (by simp)]
    clear HDC HLF HRE HRD
    generalize l.length - A = D at HDC2 ⊢
    have HMD : Hid (Mid w ((w2.alloc (mc M a2 c2)).drewN n)) := HM2.out.later (below_drewN (Below.refl _ _) n)
    rcases Nat.eq_zero_or_pos D with hD | hD
    · subst hD
      have HCK := check_any M a2 c2 ((w2.alloc (mc M a2 c2)).drewN n) (HC2.out.1.later (below_drewN (Below.refl _ _) n))
      obtain ⟨x0, x1, x2, x3, x4, x5, x6, x7, xf⟩ := cells8 HP2.out
      cases hok : okM M with
      | false =>
        rw [chk_no hok] at HCK
        have HX : Hid (decM l = (zeroM, 210)) := by show _ = _; rw [HDC2.out, if_pos (.inr hok)]
        clear HDC2 hok
        go_wp2_with (go_at_call 12; refine HCK.mono ?_; rintro e w4 ⟨rfl, hb4⟩; have HM4 : Hid (Mid w w4) := HMD.out.later hb4.out; obtain ⟨z0, z1, z2, z3, z4, z5, z6, z7, zf⟩ := cells8 HM4.out.2)
        exact bodyPost_ret (v := .tuple #[mv zeroM none 0, .int .i64 210]) (by simp [results, Try.results15, go_sem, zeroM, z0, z1, z2, z3, z4, z5, z6, z7]) rfl (dec1_zero HX.out rfl (HM4.out.fin _ _ _ _ _ _ _ _))
      | true =>
        rw [chk_ok hok] at HCK
        have HX : Hid (decM l = (M, 0)) := by show _ = _; rw [HDC2.out, if_neg (by rw [hok]; simp)]
        clear HDC2 hok
        go_wp2_with (go_at_call 12; refine HCK.mono ?_; rintro e w4 ⟨rfl, hb4⟩; have HM4 : Hid (Mid w w4) := HMD.out.later hb4.out; obtain ⟨z0, z1, z2, z3, z4, z5, z6, z7, zf⟩ := cells8 HM4.out.2; obtain ⟨v0, v1, v2, v3, v4, v5, v6, v7, vf⟩ := cells8 (old_block (below_of (below_drewN (Below.refl _ _) n) hb4.out) HP2.out))
        refine bodyPost_ret (v := .tuple #[mv M a2 c2, .int .i64 0]) (by simp [results, Try.results15, go_sem, z0, z1, z2, z3, z4, z5, z6, z7]) rfl ?_
        unfold Dec1
        rw [HX.out]
        have hC4 := HC2.out.1.later (below_of (below_drewN (Below.refl _ _) n) hb4.out)
        exact ⟨a2, c2, rfl, ⟨hC4.fit, hC4.row.off (HM4.out.rows _ _ _ _ _ _ _ _) (fun _ b hb => by show ¬ _ = _; have := HC2.out.2 b hb; omega), hC4.le, hC4.cap⟩, HM4.out.fin _ _ _ _ _ _ _ _, fun b hb => Nat.le_of_lt (HC2.out.2 b hb)⟩
    · have HX : Hid (decM l = (zeroM, 210)) := by show _ = _; rw [HDC2.out, if_pos (.inl hD)]
      have hD2 : (0 : Int) < (D : Int) := by omega
      obtain ⟨z0, z1, z2, z3, z4, z5, z6, z7, zf⟩ := cells8 HMD.out.2
      clear HDC2 hD
      go_wp2
      exact bodyPost_ret (v := .tuple #[mv zeroM none 0, .int .i64 210]) (by simp [results, Try.results15, go_sem, zeroM, z0, z1, z2, z3, z4, z5, z6, z7]) rfl (dec1_zero HX.out rfl (HMD.out.fin _ _ _ _ _ _ _ _))
theorem decode_any (w : World) (a : Option Addr) (c : Nat) (l : List Nat) (hr : Row w a l) (hz : l.length ≤ 140737488351232) : Calls Try.prog 15 #[.slice a l.length c] w fun e w' => Dec1 l w e w' := by
  cases l with
  | nil => exact dec_nil w a c
  | cons x t =>
    obtain ⟨b, o, rfl, _⟩ := hr.2.2 (by simp)
    by_cases hk : fld (x : Nat) = 0
    · exact dec_kind w b o c x t hr hk
    · exact dec_cons w b o c x t hr hz hk
end Go.Proofs.Ytfkkaihnmnjadaa
