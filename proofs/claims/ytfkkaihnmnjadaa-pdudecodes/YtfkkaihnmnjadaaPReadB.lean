/- pdu.read: the others. -/
import Derived.Test.YtfkkaihnmnjadaaPRead
namespace Go.Proofs.Ytfkkaihnmnjadaa
open Go.RowKit
set_option linter.unusedVariables false
set_option maxRecDepth 20000 in
set_option maxHeartbeats 8000000 in
theorem read_2 (w : World) (p q : Nat) (l : List Nat) (h : Rd w p q l 0 0) (hz : l.length ≤ 140737488351232) (hk : rdk l = 2) : Calls Try.prog 31 #[.pointer (some ⟨p, 0, none⟩)] w fun e w' => RdY l w p q e w' := by
  have hby := h.all.byte
  have HL : Hid (p < w.heap.size ∧ q < w.heap.size) := h.lt
  have H0 : Hid (Rd (w.alloc (mc zeroM none 0)) p q l 0 0) := h.later ((Below.refl _ w).alloc (Nat.le_refl _) _)
  have HF : ∀ W, Calls Try.prog 20 #[.int .i64 2] W fun e w' => e = .returned (.int .u8 36) ∧ W = w' := fun W => fieldsOf_any 2 W
  have HU8 : Hid (∀ W, Rd W p q l 0 0 → Calls Try.prog 40 #[.pointer (some ⟨p, 0, none⟩)] W fun e w' => e = .returned (.int .u8 2) ∧ Hid (Reads W p q l (rd1 l) w')) := fun W hW => by
    have := u8_any W p q l 0 0 hW hz
    have e : ((numN (takes l 0 0 1).1 : Nat) : Int) = 2 := hk
    rw [e] at this
    exact this
  have HU32 : Hid (∀ W, Rd W p q l (rd1 l).2.1 (rd1 l).2.2 → Calls Try.prog 41 #[.pointer (some ⟨p, 0, none⟩)] W fun e w' => e = .returned (.int .u32 (numN (rd2 l).1 : Nat)) ∧ Hid (Reads W p q l (rd2 l) w')) := fun W hW => u32_any W p q l _ _ hW hz
  have E3 : (rd3 l).2 = (rd2 l).2 := by unfold rd3; rw [hk]; exact rfl
  have G3 : (rd3 l).1 = [] := by unfold rd3; rw [hk]; rfl
  have E4 : (rd4 l).2 = (rd2 l).2 := by unfold rd4; rw [hk]; exact E3
  have G4 : (rd4 l).1 = [] := by unfold rd4; rw [hk]; rfl
  have D5 : rd5 l = takes l (rd2 l).2.1 (rd2 l).2.2 2 := by unfold rd5; rw [hk, E4]; rfl
  have HW5 : Hid (∀ W, Rd W p q l (rd2 l).2.1 (rd2 l).2.2 → Calls Try.prog 43 #[.pointer (some ⟨p, 0, none⟩)] W fun e w' => e = .returned (.int .u16 (numN (rd5 l).1 : Nat)) ∧ Hid (Reads W p q l (rd5 l) w')) := fun W hW => by
    rw [D5]
    exact u16_any W p q l _ _ hW hz
  have hX5 : numN (rd5 l).1 < 65536 := by rw [D5]; exact takes_num hby (by omega)
  have E6 : (rd6 l).2 = (rd5 l).2 := by unfold rd6; rw [hk]; exact rfl
  have G6 : (rd6 l).1 = [] := by unfold rd6; rw [hk]; rfl
  have E7 : (rd7 l).2 = (rd5 l).2 := by unfold rd7; rw [hk]; exact E6
  have G7 : (rd7 l).1 = [] := by unfold rd7; rw [hk]; rfl
  have D8 : rd8 l = counts l 2 (rd5 l).2.1 (rd5 l).2.2 := by unfold rd8; rw [hk, E7]; rfl
  have HN8 : Hid (∀ W, Rd W p q l (rd5 l).2.1 (rd5 l).2.2 → Calls Try.prog 43 #[.pointer (some ⟨p, 0, none⟩)] W fun e w' => e = .returned (.int .u16 (numN (takes l (rd5 l).2.1 (rd5 l).2.2 2).1 : Nat)) ∧ Hid (Reads W p q l (takes l (rd5 l).2.1 (rd5 l).2.2 2) w')) := fun W hW => u16_any W p q l _ _ hW hz
  have hX8 := takes_num (l := l) (at_ := (rd5 l).2.1) (er := (rd5 l).2.2) (n := 2) hby (by omega)
  have HW8 : Hid (∀ W, Rd W p q l (takes l (rd5 l).2.1 (rd5 l).2.2 2).2.1 (takes l (rd5 l).2.1 (rd5 l).2.2 2).2.2 → Calls Try.prog 42 #[.pointer (some ⟨p, 0, none⟩), .int .i64 (numN (takes l (rd5 l).2.1 (rd5 l).2.2 2).1 : Nat)] W fun e w' => ∃ g, e = .returned (.slice (some ⟨g, 0, none⟩) (rd8 l).1.length (rd8 l).1.length) ∧ Hid (Bs w' g (rd8 l).1 ∧ W.heap.size ≤ g ∧ Reads W p q l (rd8 l) w')) := fun W hW => by
    rw [D8]
    exact raw_any W p q l _ _ _ hW hz (by omega)
  have HM : rdM l = ⟨2, numN (rd2 l).1, ⟨#[]⟩, 0, (numN (rd5 l).1 : Nat), 0, 0, (rd8 l).1⟩ := by unfold rdM; rw [hk, G3, G4, G6, G7]; rfl
  unfold RdY
  rw [HM]
  clear E3 E4 E6 E7 G3 G4 G6 G7 D5 D8 HM hk h
  generalize rd1 l = t1 at HU8 HU32
  generalize rd2 l = t2 at HU32 HW5 ⊢
  generalize rd5 l = t5 at HW5 hX5 HN8 hX8 HW8 ⊢
  generalize rd8 l = t8 at HW8 ⊢
  generalize takes l t5.2.1 t5.2.2 2 = s8 at HN8 HW8 hX8
  generalize numN s8.1 = X8 at HN8 HW8 hX8
  have q1 : hsI 36 1 = false := by decide
  have q2 : hsI 36 2 = false := by decide
  have q4 : hsI 36 4 = true := by decide
  have q8 : hsI 36 8 = false := by decide
  have q16 : hsI 36 16 = false := by decide
  have q32 : hsI 36 32 = true := by decide
  go_enter Try.func31, Try.ntmps31
  go_wp2_with (first
    | (go_at_call 42; refine (HW8.out _ SN8.out.rd).mono ?_; rintro e w8 ⟨g8, rfl, hw8⟩; have SS8 := SN8.out.reads hw8.out.2.2.1 hw8.out.2.2.2; obtain ⟨a80, a81, a82, a83, a84, a85, a86, a87, a8f⟩ := cells8 SS8.blk; have S8 : Hid (St w (w8.setCell ⟨w2.heap.size, 7, none⟩ (.slice (some ⟨g8, 0, none⟩) t8.1.length t8.1.length)) p q w2.heap.size l t8.2 _) := SS8.set 7 (.slice (some ⟨g8, 0, none⟩) t8.1.length t8.1.length); clear SS8; obtain ⟨z0, z1, z2, z3, z4, z5, z6, z7, zf⟩ := cells8 S8.out.res)
    | (go_at_call 43; refine (HN8.out _ S5.out.rd).mono ?_; rintro e wn8 ⟨rfl, hn8⟩; have SN8 : Hid (St w wn8 p q w2.heap.size l s8.2 _) := S5.out.reads hn8.out.1 hn8.out.2)
    | (go_at_call 43; refine (HW5.out _ S2.out.rd).mono ?_; rintro e w5 ⟨rfl, hw5⟩; have SS5 := S2.out.reads hw5.out.1 hw5.out.2; obtain ⟨a50, a51, a52, a53, a54, a55, a56, a57, a5f⟩ := cells8 SS5.blk; have S5 : Hid (St w (w5.setCell ⟨w2.heap.size, 4, none⟩ (.int .i64 (numN t5.1 : Nat))) p q w2.heap.size l t5.2 _) := SS5.set 4 (.int .i64 (numN t5.1 : Nat)); clear SS5)
    | (go_at_call 41; refine (HU32.out w1 hq1.out.1).mono ?_; rintro e w2 ⟨rfl, hq2⟩; have S2 : Hid (St w (w2.alloc (.cells #[.int .i64 2, .int .u32 (numN t2.1 : Nat), .string ⟨#[]⟩, .int .i64 0, .int .i64 0, .int .u32 0, .int .i64 0, .slice none 0 0] 25)) p q w2.heap.size l t2.2 #[.int .i64 2, .int .u32 (numN t2.1 : Nat), .string ⟨#[]⟩, .int .i64 0, .int .i64 0, .int .u32 0, .int .i64 0, .slice none 0 0]) := St.first hq2.out.1 (hq1.out.2.trans hq2.out.2 (fun _ _ t => t)) HL.out.1 HL.out.2 _)
    | (go_at_call 40; refine (HU8.out _ H0.out).mono ?_; rintro e w1 ⟨rfl, hq1⟩)
    | (go_at_call 20; refine (HF _).mono ?_; rintro e wf ⟨rfl, rfl⟩)
    | (go_at_call 22; refine (has_any _ _ _).mono ?_; rintro e wf ⟨rfl, rfl⟩)
    )
  have hlt : w2.heap.size < wn8.heap.size := (Array.getElem?_eq_some_iff.1 SN8.out.blk).1
  have hge := hw8.out.2.1
  have hnm := SN8.out.nm
  have hend := S8.out.end
  refine bodyPost_ret (v := mv ⟨2, numN t2.1, ⟨#[]⟩, 0, (numN t5.1 : Nat), 0, 0, t8.1⟩ (some ⟨g8, 0, none⟩) t8.1.length) (by simp [results, Try.results31, go_sem, z0, z1, z2, z3, z4, z5, z6, z7]) rfl ⟨_, _, rfl, ?_⟩
  refine ⟨((hw8.out.1.off (off_set w8 w2.heap.size 7 _) (by show ¬ _ = _; omega)).off (hend _ _ _ _ _ _ _ _).2.1 (by show ¬ _ = _; omega)).row, Nat.le_refl _, hw8.out.1.len, (hend _ _ _ _ _ _ _ _).1, (hend _ _ _ _ _ _ _ _).2.2, fun b hb => ?_⟩
  cases hb
  show _ ≤ g8
  omega
set_option maxRecDepth 20000 in
set_option maxHeartbeats 8000000 in
theorem read_5 (w : World) (p q : Nat) (l : List Nat) (h : Rd w p q l 0 0) (hz : l.length ≤ 140737488351232) (hk : rdk l = 5) : Calls Try.prog 31 #[.pointer (some ⟨p, 0, none⟩)] w fun e w' => RdY l w p q e w' := by
  have hby := h.all.byte
  have HL : Hid (p < w.heap.size ∧ q < w.heap.size) := h.lt
  have H0 : Hid (Rd (w.alloc (mc zeroM none 0)) p q l 0 0) := h.later ((Below.refl _ w).alloc (Nat.le_refl _) _)
  have HF : ∀ W, Calls Try.prog 20 #[.int .i64 5] W fun e w' => e = .returned (.int .u8 33) ∧ W = w' := fun W => fieldsOf_any 5 W
  have HU8 : Hid (∀ W, Rd W p q l 0 0 → Calls Try.prog 40 #[.pointer (some ⟨p, 0, none⟩)] W fun e w' => e = .returned (.int .u8 5) ∧ Hid (Reads W p q l (rd1 l) w')) := fun W hW => by
    have := u8_any W p q l 0 0 hW hz
    have e : ((numN (takes l 0 0 1).1 : Nat) : Int) = 5 := hk
    rw [e] at this
    exact this
  have HU32 : Hid (∀ W, Rd W p q l (rd1 l).2.1 (rd1 l).2.2 → Calls Try.prog 41 #[.pointer (some ⟨p, 0, none⟩)] W fun e w' => e = .returned (.int .u32 (numN (rd2 l).1 : Nat)) ∧ Hid (Reads W p q l (rd2 l) w')) := fun W hW => u32_any W p q l _ _ hW hz
  have D3 : rd3 l = counts l 1 (rd2 l).2.1 (rd2 l).2.2 := by unfold rd3; rw [hk]; rfl
  have HN3 : Hid (∀ W, Rd W p q l (rd2 l).2.1 (rd2 l).2.2 → Calls Try.prog 40 #[.pointer (some ⟨p, 0, none⟩)] W fun e w' => e = .returned (.int .u8 (numN (takes l (rd2 l).2.1 (rd2 l).2.2 1).1 : Nat)) ∧ Hid (Reads W p q l (takes l (rd2 l).2.1 (rd2 l).2.2 1) w')) := fun W hW => u8_any W p q l _ _ hW hz
  have hX3 := takes_num (l := l) (at_ := (rd2 l).2.1) (er := (rd2 l).2.2) (n := 1) hby (by omega)
  have HW3 : Hid (∀ W, Rd W p q l (takes l (rd2 l).2.1 (rd2 l).2.2 1).2.1 (takes l (rd2 l).2.1 (rd2 l).2.2 1).2.2 → Calls Try.prog 42 #[.pointer (some ⟨p, 0, none⟩), .int .i64 (numN (takes l (rd2 l).2.1 (rd2 l).2.2 1).1 : Nat)] W fun e w' => ∃ g, e = .returned (.slice (some ⟨g, 0, none⟩) (rd3 l).1.length (rd3 l).1.length) ∧ Hid (Bs w' g (rd3 l).1 ∧ W.heap.size ≤ g ∧ Reads W p q l (rd3 l) w')) := fun W hW => by
    rw [D3]
    exact raw_any W p q l _ _ _ hW hz (by omega)
  have E4 : (rd4 l).2 = (rd3 l).2 := by unfold rd4; rw [hk]; exact rfl
  have G4 : (rd4 l).1 = [] := by unfold rd4; rw [hk]; rfl
  have E5 : (rd5 l).2 = (rd3 l).2 := by unfold rd5; rw [hk]; exact E4
  have G5 : (rd5 l).1 = [] := by unfold rd5; rw [hk]; rfl
  have E6 : (rd6 l).2 = (rd3 l).2 := by unfold rd6; rw [hk]; exact E5
  have G6 : (rd6 l).1 = [] := by unfold rd6; rw [hk]; rfl
  have E7 : (rd7 l).2 = (rd3 l).2 := by unfold rd7; rw [hk]; exact E6
  have G7 : (rd7 l).1 = [] := by unfold rd7; rw [hk]; rfl
  have D8 : rd8 l = counts l 2 (rd3 l).2.1 (rd3 l).2.2 := by unfold rd8; rw [hk, E7]; rfl
  have HN8 : Hid (∀ W, Rd W p q l (rd3 l).2.1 (rd3 l).2.2 → Calls Try.prog 43 #[.pointer (some ⟨p, 0, none⟩)] W fun e w' => e = .returned (.int .u16 (numN (takes l (rd3 l).2.1 (rd3 l).2.2 2).1 : Nat)) ∧ Hid (Reads W p q l (takes l (rd3 l).2.1 (rd3 l).2.2 2) w')) := fun W hW => u16_any W p q l _ _ hW hz
  have hX8 := takes_num (l := l) (at_ := (rd3 l).2.1) (er := (rd3 l).2.2) (n := 2) hby (by omega)
  have HW8 : Hid (∀ W, Rd W p q l (takes l (rd3 l).2.1 (rd3 l).2.2 2).2.1 (takes l (rd3 l).2.1 (rd3 l).2.2 2).2.2 → Calls Try.prog 42 #[.pointer (some ⟨p, 0, none⟩), .int .i64 (numN (takes l (rd3 l).2.1 (rd3 l).2.2 2).1 : Nat)] W fun e w' => ∃ g, e = .returned (.slice (some ⟨g, 0, none⟩) (rd8 l).1.length (rd8 l).1.length) ∧ Hid (Bs w' g (rd8 l).1 ∧ W.heap.size ≤ g ∧ Reads W p q l (rd8 l) w')) := fun W hW => by
    rw [D8]
    exact raw_any W p q l _ _ _ hW hz (by omega)
  have HM : rdM l = ⟨5, numN (rd2 l).1, nameOf (rd3 l).1, 0, 0, 0, 0, (rd8 l).1⟩ := by unfold rdM; rw [hk, G4, G5, G6, G7]; rfl
  unfold RdY
  rw [HM]
  clear E4 E5 E6 E7 G4 G5 G6 G7 D3 D8 HM hk h
  generalize rd1 l = t1 at HU8 HU32
  generalize rd2 l = t2 at HU32 HN3 hX3 HW3 ⊢
  generalize rd3 l = t3 at HW3 HN8 hX8 HW8 ⊢
  generalize rd8 l = t8 at HW8 ⊢
  generalize takes l t2.2.1 t2.2.2 1 = s3 at HN3 HW3 hX3
  generalize numN s3.1 = X3 at HN3 HW3 hX3
  generalize takes l t3.2.1 t3.2.2 2 = s8 at HN8 HW8 hX8
  generalize numN s8.1 = X8 at HN8 HW8 hX8
  have q1 : hsI 33 1 = true := by decide
  have q2 : hsI 33 2 = false := by decide
  have q4 : hsI 33 4 = false := by decide
  have q8 : hsI 33 8 = false := by decide
  have q16 : hsI 33 16 = false := by decide
  have q32 : hsI 33 32 = true := by decide
  go_enter Try.func31, Try.ntmps31
  go_wp2_with (first
    | (go_at_call 42; refine (HW8.out _ SN8.out.rd).mono ?_; rintro e w8 ⟨g8, rfl, hw8⟩; have SS8 := SN8.out.reads hw8.out.2.2.1 hw8.out.2.2.2; obtain ⟨a80, a81, a82, a83, a84, a85, a86, a87, a8f⟩ := cells8 SS8.blk; have S8 : Hid (St w (w8.setCell ⟨w2.heap.size, 7, none⟩ (.slice (some ⟨g8, 0, none⟩) t8.1.length t8.1.length)) p q w2.heap.size l t8.2 _) := SS8.set 7 (.slice (some ⟨g8, 0, none⟩) t8.1.length t8.1.length); clear SS8; obtain ⟨z0, z1, z2, z3, z4, z5, z6, z7, zf⟩ := cells8 S8.out.res)
    | (go_at_call 43; refine (HN8.out _ S3.out.rd).mono ?_; rintro e wn8 ⟨rfl, hn8⟩; have SN8 : Hid (St w wn8 p q w2.heap.size l s8.2 _) := S3.out.reads hn8.out.1 hn8.out.2)
    | (go_at_call 42; refine (HW3.out _ SN3.out.rd).mono ?_; rintro e w3 ⟨g3, rfl, hw3⟩; have SS3 := SN3.out.reads hw3.out.2.2.1 hw3.out.2.2.2; obtain ⟨a30, a31, a32, a33, a34, a35, a36, a37, a3f⟩ := cells8 SS3.blk; have S3 : Hid (St w (w3.setCell ⟨w2.heap.size, 2, none⟩ (.string (nameOf t3.1))) p q w2.heap.size l t3.2 _) := SS3.set 2 (.string (nameOf t3.1)); clear SS3; have hcv := conv_name hw3.out.1 t3.1.length)
    | (go_at_call 40; refine (HN3.out _ S2.out.rd).mono ?_; rintro e wn3 ⟨rfl, hn3⟩; have SN3 : Hid (St w wn3 p q w2.heap.size l s3.2 _) := S2.out.reads hn3.out.1 hn3.out.2)
    | (go_at_call 41; refine (HU32.out w1 hq1.out.1).mono ?_; rintro e w2 ⟨rfl, hq2⟩; have S2 : Hid (St w (w2.alloc (.cells #[.int .i64 5, .int .u32 (numN t2.1 : Nat), .string ⟨#[]⟩, .int .i64 0, .int .i64 0, .int .u32 0, .int .i64 0, .slice none 0 0] 25)) p q w2.heap.size l t2.2 #[.int .i64 5, .int .u32 (numN t2.1 : Nat), .string ⟨#[]⟩, .int .i64 0, .int .i64 0, .int .u32 0, .int .i64 0, .slice none 0 0]) := St.first hq2.out.1 (hq1.out.2.trans hq2.out.2 (fun _ _ t => t)) HL.out.1 HL.out.2 _)
    | (go_at_call 40; refine (HU8.out _ H0.out).mono ?_; rintro e w1 ⟨rfl, hq1⟩)
    | (go_at_call 20; refine (HF _).mono ?_; rintro e wf ⟨rfl, rfl⟩)
    | (go_at_call 22; refine (has_any _ _ _).mono ?_; rintro e wf ⟨rfl, rfl⟩)
    )
  have hlt : w2.heap.size < wn8.heap.size := (Array.getElem?_eq_some_iff.1 SN8.out.blk).1
  have hge := hw8.out.2.1
  have hnm := SN8.out.nm
  have hend := S8.out.end
  refine bodyPost_ret (v := mv ⟨5, numN t2.1, nameOf t3.1, 0, 0, 0, 0, t8.1⟩ (some ⟨g8, 0, none⟩) t8.1.length) (by simp [results, Try.results31, go_sem, z0, z1, z2, z3, z4, z5, z6, z7]) rfl ⟨_, _, rfl, ?_⟩
  refine ⟨((hw8.out.1.off (off_set w8 w2.heap.size 7 _) (by show ¬ _ = _; omega)).off (hend _ _ _ _ _ _ _ _).2.1 (by show ¬ _ = _; omega)).row, Nat.le_refl _, hw8.out.1.len, (hend _ _ _ _ _ _ _ _).1, (hend _ _ _ _ _ _ _ _).2.2, fun b hb => ?_⟩
  cases hb
  show _ ≤ g8
  omega
set_option maxRecDepth 20000 in
set_option maxHeartbeats 8000000 in
theorem read_7 (w : World) (p q : Nat) (l : List Nat) (h : Rd w p q l 0 0) (hz : l.length ≤ 140737488351232) (hk : rdk l = 7) : Calls Try.prog 31 #[.pointer (some ⟨p, 0, none⟩)] w fun e w' => RdY l w p q e w' := by
  have hby := h.all.byte
  have HL : Hid (p < w.heap.size ∧ q < w.heap.size) := h.lt
  have H0 : Hid (Rd (w.alloc (mc zeroM none 0)) p q l 0 0) := h.later ((Below.refl _ w).alloc (Nat.le_refl _) _)
  have HF : ∀ W, Calls Try.prog 20 #[.int .i64 7] W fun e w' => e = .returned (.int .u8 32) ∧ W = w' := fun W => fieldsOf_any 7 W
  have HU8 : Hid (∀ W, Rd W p q l 0 0 → Calls Try.prog 40 #[.pointer (some ⟨p, 0, none⟩)] W fun e w' => e = .returned (.int .u8 7) ∧ Hid (Reads W p q l (rd1 l) w')) := fun W hW => by
    have := u8_any W p q l 0 0 hW hz
    have e : ((numN (takes l 0 0 1).1 : Nat) : Int) = 7 := hk
    rw [e] at this
    exact this
  have HU32 : Hid (∀ W, Rd W p q l (rd1 l).2.1 (rd1 l).2.2 → Calls Try.prog 41 #[.pointer (some ⟨p, 0, none⟩)] W fun e w' => e = .returned (.int .u32 (numN (rd2 l).1 : Nat)) ∧ Hid (Reads W p q l (rd2 l) w')) := fun W hW => u32_any W p q l _ _ hW hz
  have E3 : (rd3 l).2 = (rd2 l).2 := by unfold rd3; rw [hk]; exact rfl
  have G3 : (rd3 l).1 = [] := by unfold rd3; rw [hk]; rfl
  have E4 : (rd4 l).2 = (rd2 l).2 := by unfold rd4; rw [hk]; exact E3
  have G4 : (rd4 l).1 = [] := by unfold rd4; rw [hk]; rfl
  have E5 : (rd5 l).2 = (rd2 l).2 := by unfold rd5; rw [hk]; exact E4
  have G5 : (rd5 l).1 = [] := by unfold rd5; rw [hk]; rfl
  have E6 : (rd6 l).2 = (rd2 l).2 := by unfold rd6; rw [hk]; exact E5
  have G6 : (rd6 l).1 = [] := by unfold rd6; rw [hk]; rfl
  have E7 : (rd7 l).2 = (rd2 l).2 := by unfold rd7; rw [hk]; exact E6
  have G7 : (rd7 l).1 = [] := by unfold rd7; rw [hk]; rfl
  have D8 : rd8 l = counts l 2 (rd2 l).2.1 (rd2 l).2.2 := by unfold rd8; rw [hk, E7]; rfl
  have HN8 : Hid (∀ W, Rd W p q l (rd2 l).2.1 (rd2 l).2.2 → Calls Try.prog 43 #[.pointer (some ⟨p, 0, none⟩)] W fun e w' => e = .returned (.int .u16 (numN (takes l (rd2 l).2.1 (rd2 l).2.2 2).1 : Nat)) ∧ Hid (Reads W p q l (takes l (rd2 l).2.1 (rd2 l).2.2 2) w')) := fun W hW => u16_any W p q l _ _ hW hz
  have hX8 := takes_num (l := l) (at_ := (rd2 l).2.1) (er := (rd2 l).2.2) (n := 2) hby (by omega)
  have HW8 : Hid (∀ W, Rd W p q l (takes l (rd2 l).2.1 (rd2 l).2.2 2).2.1 (takes l (rd2 l).2.1 (rd2 l).2.2 2).2.2 → Calls Try.prog 42 #[.pointer (some ⟨p, 0, none⟩), .int .i64 (numN (takes l (rd2 l).2.1 (rd2 l).2.2 2).1 : Nat)] W fun e w' => ∃ g, e = .returned (.slice (some ⟨g, 0, none⟩) (rd8 l).1.length (rd8 l).1.length) ∧ Hid (Bs w' g (rd8 l).1 ∧ W.heap.size ≤ g ∧ Reads W p q l (rd8 l) w')) := fun W hW => by
    rw [D8]
    exact raw_any W p q l _ _ _ hW hz (by omega)
  have HM : rdM l = ⟨7, numN (rd2 l).1, ⟨#[]⟩, 0, 0, 0, 0, (rd8 l).1⟩ := by unfold rdM; rw [hk, G3, G4, G5, G6, G7]; rfl
  unfold RdY
  rw [HM]
  clear E3 E4 E5 E6 E7 G3 G4 G5 G6 G7 D8 HM hk h
  generalize rd1 l = t1 at HU8 HU32
  generalize rd2 l = t2 at HU32 HN8 hX8 HW8 ⊢
  generalize rd8 l = t8 at HW8 ⊢
  generalize takes l t2.2.1 t2.2.2 2 = s8 at HN8 HW8 hX8
  generalize numN s8.1 = X8 at HN8 HW8 hX8
  have q1 : hsI 32 1 = false := by decide
  have q2 : hsI 32 2 = false := by decide
  have q4 : hsI 32 4 = false := by decide
  have q8 : hsI 32 8 = false := by decide
  have q16 : hsI 32 16 = false := by decide
  have q32 : hsI 32 32 = true := by decide
  go_enter Try.func31, Try.ntmps31
  go_wp2_with (first
    | (go_at_call 42; refine (HW8.out _ SN8.out.rd).mono ?_; rintro e w8 ⟨g8, rfl, hw8⟩; have SS8 := SN8.out.reads hw8.out.2.2.1 hw8.out.2.2.2; obtain ⟨a80, a81, a82, a83, a84, a85, a86, a87, a8f⟩ := cells8 SS8.blk; have S8 : Hid (St w (w8.setCell ⟨w2.heap.size, 7, none⟩ (.slice (some ⟨g8, 0, none⟩) t8.1.length t8.1.length)) p q w2.heap.size l t8.2 _) := SS8.set 7 (.slice (some ⟨g8, 0, none⟩) t8.1.length t8.1.length); clear SS8; obtain ⟨z0, z1, z2, z3, z4, z5, z6, z7, zf⟩ := cells8 S8.out.res)
    | (go_at_call 43; refine (HN8.out _ S2.out.rd).mono ?_; rintro e wn8 ⟨rfl, hn8⟩; have SN8 : Hid (St w wn8 p q w2.heap.size l s8.2 _) := S2.out.reads hn8.out.1 hn8.out.2)
    | (go_at_call 41; refine (HU32.out w1 hq1.out.1).mono ?_; rintro e w2 ⟨rfl, hq2⟩; have S2 : Hid (St w (w2.alloc (.cells #[.int .i64 7, .int .u32 (numN t2.1 : Nat), .string ⟨#[]⟩, .int .i64 0, .int .i64 0, .int .u32 0, .int .i64 0, .slice none 0 0] 25)) p q w2.heap.size l t2.2 #[.int .i64 7, .int .u32 (numN t2.1 : Nat), .string ⟨#[]⟩, .int .i64 0, .int .i64 0, .int .u32 0, .int .i64 0, .slice none 0 0]) := St.first hq2.out.1 (hq1.out.2.trans hq2.out.2 (fun _ _ t => t)) HL.out.1 HL.out.2 _)
    | (go_at_call 40; refine (HU8.out _ H0.out).mono ?_; rintro e w1 ⟨rfl, hq1⟩)
    | (go_at_call 20; refine (HF _).mono ?_; rintro e wf ⟨rfl, rfl⟩)
    | (go_at_call 22; refine (has_any _ _ _).mono ?_; rintro e wf ⟨rfl, rfl⟩)
    )
  have hlt : w2.heap.size < wn8.heap.size := (Array.getElem?_eq_some_iff.1 SN8.out.blk).1
  have hge := hw8.out.2.1
  have hnm := SN8.out.nm
  have hend := S8.out.end
  refine bodyPost_ret (v := mv ⟨7, numN t2.1, ⟨#[]⟩, 0, 0, 0, 0, t8.1⟩ (some ⟨g8, 0, none⟩) t8.1.length) (by simp [results, Try.results31, go_sem, z0, z1, z2, z3, z4, z5, z6, z7]) rfl ⟨_, _, rfl, ?_⟩
  refine ⟨((hw8.out.1.off (off_set w8 w2.heap.size 7 _) (by show ¬ _ = _; omega)).off (hend _ _ _ _ _ _ _ _).2.1 (by show ¬ _ = _; omega)).row, Nat.le_refl _, hw8.out.1.len, (hend _ _ _ _ _ _ _ _).1, (hend _ _ _ _ _ _ _ _).2.2, fun b hb => ?_⟩
  cases hb
  show _ ≤ g8
  omega
set_option maxRecDepth 20000 in
set_option maxHeartbeats 8000000 in
theorem read_8 (w : World) (p q : Nat) (l : List Nat) (h : Rd w p q l 0 0) (hz : l.length ≤ 140737488351232) (hk : rdk l = 8) : Calls Try.prog 31 #[.pointer (some ⟨p, 0, none⟩)] w fun e w' => RdY l w p q e w' := by
  have hby := h.all.byte
  have HL : Hid (p < w.heap.size ∧ q < w.heap.size) := h.lt
  have H0 : Hid (Rd (w.alloc (mc zeroM none 0)) p q l 0 0) := h.later ((Below.refl _ w).alloc (Nat.le_refl _) _)
  have HF : ∀ W, Calls Try.prog 20 #[.int .i64 8] W fun e w' => e = .returned (.int .u8 48) ∧ W = w' := fun W => fieldsOf_any 8 W
  have HU8 : Hid (∀ W, Rd W p q l 0 0 → Calls Try.prog 40 #[.pointer (some ⟨p, 0, none⟩)] W fun e w' => e = .returned (.int .u8 8) ∧ Hid (Reads W p q l (rd1 l) w')) := fun W hW => by
    have := u8_any W p q l 0 0 hW hz
    have e : ((numN (takes l 0 0 1).1 : Nat) : Int) = 8 := hk
    rw [e] at this
    exact this
  have HU32 : Hid (∀ W, Rd W p q l (rd1 l).2.1 (rd1 l).2.2 → Calls Try.prog 41 #[.pointer (some ⟨p, 0, none⟩)] W fun e w' => e = .returned (.int .u32 (numN (rd2 l).1 : Nat)) ∧ Hid (Reads W p q l (rd2 l) w')) := fun W hW => u32_any W p q l _ _ hW hz
  have E3 : (rd3 l).2 = (rd2 l).2 := by unfold rd3; rw [hk]; exact rfl
  have G3 : (rd3 l).1 = [] := by unfold rd3; rw [hk]; rfl
  have E4 : (rd4 l).2 = (rd2 l).2 := by unfold rd4; rw [hk]; exact E3
  have G4 : (rd4 l).1 = [] := by unfold rd4; rw [hk]; rfl
  have E5 : (rd5 l).2 = (rd2 l).2 := by unfold rd5; rw [hk]; exact E4
  have G5 : (rd5 l).1 = [] := by unfold rd5; rw [hk]; rfl
  have E6 : (rd6 l).2 = (rd2 l).2 := by unfold rd6; rw [hk]; exact E5
  have G6 : (rd6 l).1 = [] := by unfold rd6; rw [hk]; rfl
  have D7 : rd7 l = takes l (rd2 l).2.1 (rd2 l).2.2 1 := by unfold rd7; rw [hk, E6]; rfl
  have HW7 : Hid (∀ W, Rd W p q l (rd2 l).2.1 (rd2 l).2.2 → Calls Try.prog 40 #[.pointer (some ⟨p, 0, none⟩)] W fun e w' => e = .returned (.int .u8 (numN (rd7 l).1 : Nat)) ∧ Hid (Reads W p q l (rd7 l) w')) := fun W hW => by
    rw [D7]
    exact u8_any W p q l _ _ hW hz
  have hX7 : numN (rd7 l).1 < 65536 := by rw [D7]; exact takes_num hby (by omega)
  have D8 : rd8 l = counts l 2 (rd7 l).2.1 (rd7 l).2.2 := by unfold rd8; rw [hk]; rfl
  have HN8 : Hid (∀ W, Rd W p q l (rd7 l).2.1 (rd7 l).2.2 → Calls Try.prog 43 #[.pointer (some ⟨p, 0, none⟩)] W fun e w' => e = .returned (.int .u16 (numN (takes l (rd7 l).2.1 (rd7 l).2.2 2).1 : Nat)) ∧ Hid (Reads W p q l (takes l (rd7 l).2.1 (rd7 l).2.2 2) w')) := fun W hW => u16_any W p q l _ _ hW hz
  have hX8 := takes_num (l := l) (at_ := (rd7 l).2.1) (er := (rd7 l).2.2) (n := 2) hby (by omega)
  have HW8 : Hid (∀ W, Rd W p q l (takes l (rd7 l).2.1 (rd7 l).2.2 2).2.1 (takes l (rd7 l).2.1 (rd7 l).2.2 2).2.2 → Calls Try.prog 42 #[.pointer (some ⟨p, 0, none⟩), .int .i64 (numN (takes l (rd7 l).2.1 (rd7 l).2.2 2).1 : Nat)] W fun e w' => ∃ g, e = .returned (.slice (some ⟨g, 0, none⟩) (rd8 l).1.length (rd8 l).1.length) ∧ Hid (Bs w' g (rd8 l).1 ∧ W.heap.size ≤ g ∧ Reads W p q l (rd8 l) w')) := fun W hW => by
    rw [D8]
    exact raw_any W p q l _ _ _ hW hz (by omega)
  have HM : rdM l = ⟨8, numN (rd2 l).1, ⟨#[]⟩, 0, 0, 0, (numN (rd7 l).1 : Nat), (rd8 l).1⟩ := by unfold rdM; rw [hk, G3, G4, G5, G6]; rfl
  unfold RdY
  rw [HM]
  clear E3 E4 E5 E6 G3 G4 G5 G6 D7 D8 HM hk h
  generalize rd1 l = t1 at HU8 HU32
  generalize rd2 l = t2 at HU32 HW7 ⊢
  generalize rd7 l = t7 at HW7 hX7 HN8 hX8 HW8 ⊢
  generalize rd8 l = t8 at HW8 ⊢
  generalize takes l t7.2.1 t7.2.2 2 = s8 at HN8 HW8 hX8
  generalize numN s8.1 = X8 at HN8 HW8 hX8
  have q1 : hsI 48 1 = false := by decide
  have q2 : hsI 48 2 = false := by decide
  have q4 : hsI 48 4 = false := by decide
  have q8 : hsI 48 8 = false := by decide
  have q16 : hsI 48 16 = true := by decide
  have q32 : hsI 48 32 = true := by decide
  go_enter Try.func31, Try.ntmps31
  go_wp2_with (first
    | (go_at_call 42; refine (HW8.out _ SN8.out.rd).mono ?_; rintro e w8 ⟨g8, rfl, hw8⟩; have SS8 := SN8.out.reads hw8.out.2.2.1 hw8.out.2.2.2; obtain ⟨a80, a81, a82, a83, a84, a85, a86, a87, a8f⟩ := cells8 SS8.blk; have S8 : Hid (St w (w8.setCell ⟨w2.heap.size, 7, none⟩ (.slice (some ⟨g8, 0, none⟩) t8.1.length t8.1.length)) p q w2.heap.size l t8.2 _) := SS8.set 7 (.slice (some ⟨g8, 0, none⟩) t8.1.length t8.1.length); clear SS8; obtain ⟨z0, z1, z2, z3, z4, z5, z6, z7, zf⟩ := cells8 S8.out.res)
    | (go_at_call 43; refine (HN8.out _ S7.out.rd).mono ?_; rintro e wn8 ⟨rfl, hn8⟩; have SN8 : Hid (St w wn8 p q w2.heap.size l s8.2 _) := S7.out.reads hn8.out.1 hn8.out.2)
    | (go_at_call 40; refine (HW7.out _ S2.out.rd).mono ?_; rintro e w7 ⟨rfl, hw7⟩; have SS7 := S2.out.reads hw7.out.1 hw7.out.2; obtain ⟨a70, a71, a72, a73, a74, a75, a76, a77, a7f⟩ := cells8 SS7.blk; have S7 : Hid (St w (w7.setCell ⟨w2.heap.size, 6, none⟩ (.int .i64 (numN t7.1 : Nat))) p q w2.heap.size l t7.2 _) := SS7.set 6 (.int .i64 (numN t7.1 : Nat)); clear SS7)
    | (go_at_call 41; refine (HU32.out w1 hq1.out.1).mono ?_; rintro e w2 ⟨rfl, hq2⟩; have S2 : Hid (St w (w2.alloc (.cells #[.int .i64 8, .int .u32 (numN t2.1 : Nat), .string ⟨#[]⟩, .int .i64 0, .int .i64 0, .int .u32 0, .int .i64 0, .slice none 0 0] 25)) p q w2.heap.size l t2.2 #[.int .i64 8, .int .u32 (numN t2.1 : Nat), .string ⟨#[]⟩, .int .i64 0, .int .i64 0, .int .u32 0, .int .i64 0, .slice none 0 0]) := St.first hq2.out.1 (hq1.out.2.trans hq2.out.2 (fun _ _ t => t)) HL.out.1 HL.out.2 _)
    | (go_at_call 40; refine (HU8.out _ H0.out).mono ?_; rintro e w1 ⟨rfl, hq1⟩)
    | (go_at_call 20; refine (HF _).mono ?_; rintro e wf ⟨rfl, rfl⟩)
    | (go_at_call 22; refine (has_any _ _ _).mono ?_; rintro e wf ⟨rfl, rfl⟩)
    )
  have hlt : w2.heap.size < wn8.heap.size := (Array.getElem?_eq_some_iff.1 SN8.out.blk).1
  have hge := hw8.out.2.1
  have hnm := SN8.out.nm
  have hend := S8.out.end
  refine bodyPost_ret (v := mv ⟨8, numN t2.1, ⟨#[]⟩, 0, 0, 0, (numN t7.1 : Nat), t8.1⟩ (some ⟨g8, 0, none⟩) t8.1.length) (by simp [results, Try.results31, go_sem, z0, z1, z2, z3, z4, z5, z6, z7]) rfl ⟨_, _, rfl, ?_⟩
  refine ⟨((hw8.out.1.off (off_set w8 w2.heap.size 7 _) (by show ¬ _ = _; omega)).off (hend _ _ _ _ _ _ _ _).2.1 (by show ¬ _ = _; omega)).row, Nat.le_refl _, hw8.out.1.len, (hend _ _ _ _ _ _ _ _).1, (hend _ _ _ _ _ _ _ _).2.2, fun b hb => ?_⟩
  cases hb
  show _ ≤ g8
  omega
end Go.Proofs.Ytfkkaihnmnjadaa
