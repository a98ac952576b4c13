/- pdu.read: five Kinds. -/
import Derived.Test.YtfkkaihnmnjadaaPRead
namespace Go.Proofs.Ytfkkaihnmnjadaa
open Go.RowKit
set_option linter.unusedVariables false
set_option maxRecDepth 20000 in
set_option maxHeartbeats 8000000 in
theorem read_0 (w : World) (p q : Nat) (l : List Nat) (h : Rd w p q l 0 0) (hz : l.length ≤ 140737488351232) (hk : rdk l = 0) : Calls Try.prog 31 #[.pointer (some ⟨p, 0, none⟩)] w fun e w' => RdY l w p q e w' := by
  have hby := h.all.byte
  have HL : Hid (p < w.heap.size ∧ q < w.heap.size) := h.lt
  have H0 : Hid (Rd (w.alloc (mc zeroM none 0)) p q l 0 0) := h.later ((Below.refl _ w).alloc (Nat.le_refl _) _)
  have HF : ∀ W, Calls Try.prog 20 #[.int .i64 0] W fun e w' => e = .returned (.int .u8 0) ∧ W = w' := fun W => fieldsOf_any 0 W
  have HU8 : Hid (∀ W, Rd W p q l 0 0 → Calls Try.prog 40 #[.pointer (some ⟨p, 0, none⟩)] W fun e w' => e = .returned (.int .u8 0) ∧ Hid (Reads W p q l (rd1 l) w')) := fun W hW => by
    have := u8_any W p q l 0 0 hW hz
    have e : ((numN (takes l 0 0 1).1 : Nat) : Int) = 0 := hk
    rw [e] at this
    exact this
  have HU32 : Hid (∀ W, Rd W p q l (rd1 l).2.1 (rd1 l).2.2 → Calls Try.prog 41 #[.pointer (some ⟨p, 0, none⟩)] W fun e w' => e = .returned (.int .u32 (numN (rd2 l).1 : Nat)) ∧ Hid (Reads W p q l (rd2 l) w')) := fun W hW => u32_any W p q l _ _ hW hz
  have E3 : (rd3 l).2 = (rd2 l).2 := by unfold rd3; rw [hk]; exact rfl
  have G3 : (rd3 l).1 = [] := by unfold rd3; rw [hk]; rfl
  have E4 : (rd4 l).2 = (rd2 l).2 := by unfold rd4; rw [hk]; exact E3
  have G4 : (rd4 l).1 = [] := by unfold rd4; rw [hk]; rfl
  have E5 : (rd5 l).2 = (rd2 l).2 := by unfold rd5; rw [hk]; exact E4
  have G5 : (rd5 l).1 = [] := by unfold rd5; rw [hk]; rfl
  have E6 : (rd6 l).2 = (rd2 l).2 := by unfold rd6; rw [hk]; exact E5
  have G6 : (rd6 l).1 = [] := by unfold rd6; rw [hk]; rfl
  have E7 : (rd7 l).2 = (rd2 l).2 := by unfold rd7; rw [hk]; exact E6
  have G7 : (rd7 l).1 = [] := by unfold rd7; rw [hk]; rfl
  have E8 : (rd8 l).2 = (rd2 l).2 := by unfold rd8; rw [hk]; exact E7
  have G8 : (rd8 l).1 = [] := by unfold rd8; rw [hk]; rfl
  have HM : rdM l = ⟨0, numN (rd2 l).1, ⟨#[]⟩, 0, 0, 0, 0, []⟩ := by unfold rdM; rw [hk, G3, G4, G5, G6, G7, G8]; rfl
  have H8 : (rd8 l).2 = (rd2 l).2 := E8
  unfold RdY
  rw [HM, H8]
  clear E3 E4 E5 E6 E7 E8 G3 G4 G5 G6 G7 G8 HM hk h H8
  generalize rd1 l = t1 at HU8 HU32
  generalize rd2 l = t2 at HU32 ⊢
  have q1 : hsI 0 1 = false := by decide
  have q2 : hsI 0 2 = false := by decide
  have q4 : hsI 0 4 = false := by decide
  have q8 : hsI 0 8 = false := by decide
  have q16 : hsI 0 16 = false := by decide
  have q32 : hsI 0 32 = false := by decide
  go_enter Try.func31, Try.ntmps31
  go_wp2_with (first
    | (go_at_call 41; refine (HU32.out w1 hq1.out.1).mono ?_; rintro e w2 ⟨rfl, hq2⟩; have S2 : Hid (St w (w2.alloc (.cells #[.int .i64 0, .int .u32 (numN t2.1 : Nat), .string ⟨#[]⟩, .int .i64 0, .int .i64 0, .int .u32 0, .int .i64 0, .slice none 0 0] 25)) p q w2.heap.size l t2.2 #[.int .i64 0, .int .u32 (numN t2.1 : Nat), .string ⟨#[]⟩, .int .i64 0, .int .i64 0, .int .u32 0, .int .i64 0, .slice none 0 0]) := St.first hq2.out.1 (hq1.out.2.trans hq2.out.2 (fun _ _ t => t)) HL.out.1 HL.out.2 _; obtain ⟨z0, z1, z2, z3, z4, z5, z6, z7, zf⟩ := cells8 S2.out.res)
    | (go_at_call 40; refine (HU8.out _ H0.out).mono ?_; rintro e w1 ⟨rfl, hq1⟩)
    | (go_at_call 20; refine (HF _).mono ?_; rintro e wf ⟨rfl, rfl⟩)
    | (go_at_call 22; refine (has_any _ _ _).mono ?_; rintro e wf ⟨rfl, rfl⟩)
    )
  have hend := S2.out.end
  exact bodyPost_ret (v := mv ⟨0, numN t2.1, ⟨#[]⟩, 0, 0, 0, 0, []⟩ none 0) (by simp [results, Try.results31, go_sem, z0, z1, z2, z3, z4, z5, z6, z7]) rfl ⟨_, _, rfl, row_nil _ _, Nat.zero_le _, Nat.zero_le _, (hend _ _ _ _ _ _ _ _).1, (hend _ _ _ _ _ _ _ _).2.2, fun b hb => by cases hb⟩
set_option maxRecDepth 20000 in
set_option maxHeartbeats 8000000 in
theorem read_1 (w : World) (p q : Nat) (l : List Nat) (h : Rd w p q l 0 0) (hz : l.length ≤ 140737488351232) (hk : rdk l = 1) : Calls Try.prog 31 #[.pointer (some ⟨p, 0, none⟩)] w fun e w' => RdY l w p q e w' := by
  have hby := h.all.byte
  have HL : Hid (p < w.heap.size ∧ q < w.heap.size) := h.lt
  have H0 : Hid (Rd (w.alloc (mc zeroM none 0)) p q l 0 0) := h.later ((Below.refl _ w).alloc (Nat.le_refl _) _)
  have HF : ∀ W, Calls Try.prog 20 #[.int .i64 1] W fun e w' => e = .returned (.int .u8 3) ∧ W = w' := fun W => fieldsOf_any 1 W
  have HU8 : Hid (∀ W, Rd W p q l 0 0 → Calls Try.prog 40 #[.pointer (some ⟨p, 0, none⟩)] W fun e w' => e = .returned (.int .u8 1) ∧ Hid (Reads W p q l (rd1 l) w')) := fun W hW => by
    have := u8_any W p q l 0 0 hW hz
    have e : ((numN (takes l 0 0 1).1 : Nat) : Int) = 1 := hk
    rw [e] at this
    exact this
  have HU32 : Hid (∀ W, Rd W p q l (rd1 l).2.1 (rd1 l).2.2 → Calls Try.prog 41 #[.pointer (some ⟨p, 0, none⟩)] W fun e w' => e = .returned (.int .u32 (numN (rd2 l).1 : Nat)) ∧ Hid (Reads W p q l (rd2 l) w')) := fun W hW => u32_any W p q l _ _ hW hz
  have D3 : rd3 l = counts l 1 (rd2 l).2.1 (rd2 l).2.2 := by unfold rd3; rw [hk]; rfl
  have HN3 : Hid (∀ W, Rd W p q l (rd2 l).2.1 (rd2 l).2.2 → Calls Try.prog 40 #[.pointer (some ⟨p, 0, none⟩)] W fun e w' => e = .returned (.int .u8 (numN (takes l (rd2 l).2.1 (rd2 l).2.2 1).1 : Nat)) ∧ Hid (Reads W p q l (takes l (rd2 l).2.1 (rd2 l).2.2 1) w')) := fun W hW => u8_any W p q l _ _ hW hz
  have hX3 := takes_num (l := l) (at_ := (rd2 l).2.1) (er := (rd2 l).2.2) (n := 1) hby (by omega)
  have HW3 : Hid (∀ W, Rd W p q l (takes l (rd2 l).2.1 (rd2 l).2.2 1).2.1 (takes l (rd2 l).2.1 (rd2 l).2.2 1).2.2 → Calls Try.prog 42 #[.pointer (some ⟨p, 0, none⟩), .int .i64 (numN (takes l (rd2 l).2.1 (rd2 l).2.2 1).1 : Nat)] W fun e w' => ∃ g, e = .returned (.slice (some ⟨g, 0, none⟩) (rd3 l).1.length (rd3 l).1.length) ∧ Hid (Bs w' g (rd3 l).1 ∧ W.heap.size ≤ g ∧ Reads W p q l (rd3 l) w')) := fun W hW => by
    rw [D3]
    exact raw_any W p q l _ _ _ hW hz (by omega)
  have D4 : rd4 l = takes l (rd3 l).2.1 (rd3 l).2.2 2 := by unfold rd4; rw [hk]; rfl
  have HW4 : Hid (∀ W, Rd W p q l (rd3 l).2.1 (rd3 l).2.2 → Calls Try.prog 43 #[.pointer (some ⟨p, 0, none⟩)] W fun e w' => e = .returned (.int .u16 (numN (rd4 l).1 : Nat)) ∧ Hid (Reads W p q l (rd4 l) w')) := fun W hW => by
    rw [D4]
    exact u16_any W p q l _ _ hW hz
  have hX4 : numN (rd4 l).1 < 65536 := by rw [D4]; exact takes_num hby (by omega)
  have E5 : (rd5 l).2 = (rd4 l).2 := by unfold rd5; rw [hk]; exact rfl
  have G5 : (rd5 l).1 = [] := by unfold rd5; rw [hk]; rfl
  have E6 : (rd6 l).2 = (rd4 l).2 := by unfold rd6; rw [hk]; exact E5
  have G6 : (rd6 l).1 = [] := by unfold rd6; rw [hk]; rfl
  have E7 : (rd7 l).2 = (rd4 l).2 := by unfold rd7; rw [hk]; exact E6
  have G7 : (rd7 l).1 = [] := by unfold rd7; rw [hk]; rfl
  have E8 : (rd8 l).2 = (rd4 l).2 := by unfold rd8; rw [hk]; exact E7
  have G8 : (rd8 l).1 = [] := by unfold rd8; rw [hk]; rfl
  have HM : rdM l = ⟨1, numN (rd2 l).1, nameOf (rd3 l).1, (numN (rd4 l).1 : Nat), 0, 0, 0, []⟩ := by unfold rdM; rw [hk, G5, G6, G7, G8]; rfl
  have H8 : (rd8 l).2 = (rd4 l).2 := E8
  unfold RdY
  rw [HM, H8]
  clear E5 E6 E7 E8 G5 G6 G7 G8 D3 D4 HM hk h H8
  generalize rd1 l = t1 at HU8 HU32
  generalize rd2 l = t2 at HU32 HN3 hX3 HW3 ⊢
  generalize rd3 l = t3 at HW3 HW4 ⊢
  generalize rd4 l = t4 at HW4 hX4 ⊢
  generalize takes l t2.2.1 t2.2.2 1 = s3 at HN3 HW3 hX3
  generalize numN s3.1 = X3 at HN3 HW3 hX3
  have q1 : hsI 3 1 = true := by decide
  have q2 : hsI 3 2 = true := by decide
  have q4 : hsI 3 4 = false := by decide
  have q8 : hsI 3 8 = false := by decide
  have q16 : hsI 3 16 = false := by decide
  have q32 : hsI 3 32 = false := by decide
  go_enter Try.func31, Try.ntmps31
  go_wp2_with (first
    | (go_at_call 43; refine (HW4.out _ S3.out.rd).mono ?_; rintro e w4 ⟨rfl, hw4⟩; have SS4 := S3.out.reads hw4.out.1 hw4.out.2; obtain ⟨a40, a41, a42, a43, a44, a45, a46, a47, a4f⟩ := cells8 SS4.blk; have S4 : Hid (St w (w4.setCell ⟨w2.heap.size, 3, none⟩ (.int .i64 (numN t4.1 : Nat))) p q w2.heap.size l t4.2 _) := SS4.set 3 (.int .i64 (numN t4.1 : Nat)); clear SS4; obtain ⟨z0, z1, z2, z3, z4, z5, z6, z7, zf⟩ := cells8 S4.out.res)
    | (go_at_call 42; refine (HW3.out _ SN3.out.rd).mono ?_; rintro e w3 ⟨g3, rfl, hw3⟩; have SS3 := SN3.out.reads hw3.out.2.2.1 hw3.out.2.2.2; obtain ⟨a30, a31, a32, a33, a34, a35, a36, a37, a3f⟩ := cells8 SS3.blk; have S3 : Hid (St w (w3.setCell ⟨w2.heap.size, 2, none⟩ (.string (nameOf t3.1))) p q w2.heap.size l t3.2 _) := SS3.set 2 (.string (nameOf t3.1)); clear SS3; have hcv := conv_name hw3.out.1 t3.1.length)
    | (go_at_call 40; refine (HN3.out _ S2.out.rd).mono ?_; rintro e wn3 ⟨rfl, hn3⟩; have SN3 : Hid (St w wn3 p q w2.heap.size l s3.2 _) := S2.out.reads hn3.out.1 hn3.out.2)
    | (go_at_call 41; refine (HU32.out w1 hq1.out.1).mono ?_; rintro e w2 ⟨rfl, hq2⟩; have S2 : Hid (St w (w2.alloc (.cells #[.int .i64 1, .int .u32 (numN t2.1 : Nat), .string ⟨#[]⟩, .int .i64 0, .int .i64 0, .int .u32 0, .int .i64 0, .slice none 0 0] 25)) p q w2.heap.size l t2.2 #[.int .i64 1, .int .u32 (numN t2.1 : Nat), .string ⟨#[]⟩, .int .i64 0, .int .i64 0, .int .u32 0, .int .i64 0, .slice none 0 0]) := St.first hq2.out.1 (hq1.out.2.trans hq2.out.2 (fun _ _ t => t)) HL.out.1 HL.out.2 _)
    | (go_at_call 40; refine (HU8.out _ H0.out).mono ?_; rintro e w1 ⟨rfl, hq1⟩)
    | (go_at_call 20; refine (HF _).mono ?_; rintro e wf ⟨rfl, rfl⟩)
    | (go_at_call 22; refine (has_any _ _ _).mono ?_; rintro e wf ⟨rfl, rfl⟩)
    )
  have hend := S4.out.end
  exact bodyPost_ret (v := mv ⟨1, numN t2.1, nameOf t3.1, (numN t4.1 : Nat), 0, 0, 0, []⟩ none 0) (by simp [results, Try.results31, go_sem, z0, z1, z2, z3, z4, z5, z6, z7]) rfl ⟨_, _, rfl, row_nil _ _, Nat.zero_le _, Nat.zero_le _, (hend _ _ _ _ _ _ _ _).1, (hend _ _ _ _ _ _ _ _).2.2, fun b hb => by cases hb⟩
set_option maxRecDepth 20000 in
set_option maxHeartbeats 8000000 in
theorem read_3 (w : World) (p q : Nat) (l : List Nat) (h : Rd w p q l 0 0) (hz : l.length ≤ 140737488351232) (hk : rdk l = 3) : Calls Try.prog 31 #[.pointer (some ⟨p, 0, none⟩)] w fun e w' => RdY l w p q e w' := by
  have hby := h.all.byte
  have HL : Hid (p < w.heap.size ∧ q < w.heap.size) := h.lt
  have H0 : Hid (Rd (w.alloc (mc zeroM none 0)) p q l 0 0) := h.later ((Below.refl _ w).alloc (Nat.le_refl _) _)
  have HF : ∀ W, Calls Try.prog 20 #[.int .i64 3] W fun e w' => e = .returned (.int .u8 10) ∧ W = w' := fun W => fieldsOf_any 3 W
  have HU8 : Hid (∀ W, Rd W p q l 0 0 → Calls Try.prog 40 #[.pointer (some ⟨p, 0, none⟩)] W fun e w' => e = .returned (.int .u8 3) ∧ Hid (Reads W p q l (rd1 l) w')) := fun W hW => by
    have := u8_any W p q l 0 0 hW hz
    have e : ((numN (takes l 0 0 1).1 : Nat) : Int) = 3 := hk
    rw [e] at this
    exact this
  have HU32 : Hid (∀ W, Rd W p q l (rd1 l).2.1 (rd1 l).2.2 → Calls Try.prog 41 #[.pointer (some ⟨p, 0, none⟩)] W fun e w' => e = .returned (.int .u32 (numN (rd2 l).1 : Nat)) ∧ Hid (Reads W p q l (rd2 l) w')) := fun W hW => u32_any W p q l _ _ hW hz
  have E3 : (rd3 l).2 = (rd2 l).2 := by unfold rd3; rw [hk]; exact rfl
  have G3 : (rd3 l).1 = [] := by unfold rd3; rw [hk]; rfl
  have D4 : rd4 l = takes l (rd2 l).2.1 (rd2 l).2.2 2 := by unfold rd4; rw [hk, E3]; rfl
  have HW4 : Hid (∀ W, Rd W p q l (rd2 l).2.1 (rd2 l).2.2 → Calls Try.prog 43 #[.pointer (some ⟨p, 0, none⟩)] W fun e w' => e = .returned (.int .u16 (numN (rd4 l).1 : Nat)) ∧ Hid (Reads W p q l (rd4 l) w')) := fun W hW => by
    rw [D4]
    exact u16_any W p q l _ _ hW hz
  have hX4 : numN (rd4 l).1 < 65536 := by rw [D4]; exact takes_num hby (by omega)
  have E5 : (rd5 l).2 = (rd4 l).2 := by unfold rd5; rw [hk]; exact rfl
  have G5 : (rd5 l).1 = [] := by unfold rd5; rw [hk]; rfl
  have D6 : rd6 l = takes l (rd4 l).2.1 (rd4 l).2.2 4 := by unfold rd6; rw [hk, E5]; rfl
  have HW6 : Hid (∀ W, Rd W p q l (rd4 l).2.1 (rd4 l).2.2 → Calls Try.prog 41 #[.pointer (some ⟨p, 0, none⟩)] W fun e w' => e = .returned (.int .u32 (numN (rd6 l).1 : Nat)) ∧ Hid (Reads W p q l (rd6 l) w')) := fun W hW => by
    rw [D6]
    exact u32_any W p q l _ _ hW hz
  have E7 : (rd7 l).2 = (rd6 l).2 := by unfold rd7; rw [hk]; exact rfl
  have G7 : (rd7 l).1 = [] := by unfold rd7; rw [hk]; rfl
  have E8 : (rd8 l).2 = (rd6 l).2 := by unfold rd8; rw [hk]; exact E7
  have G8 : (rd8 l).1 = [] := by unfold rd8; rw [hk]; rfl
  have HM : rdM l = ⟨3, numN (rd2 l).1, ⟨#[]⟩, (numN (rd4 l).1 : Nat), 0, numN (rd6 l).1, 0, []⟩ := by unfold rdM; rw [hk, G3, G5, G7, G8]; rfl
  have H8 : (rd8 l).2 = (rd6 l).2 := E8
  unfold RdY
  rw [HM, H8]
  clear E3 E5 E7 E8 G3 G5 G7 G8 D4 D6 HM hk h H8
  generalize rd1 l = t1 at HU8 HU32
  generalize rd2 l = t2 at HU32 HW4 ⊢
  generalize rd4 l = t4 at HW4 hX4 HW6 ⊢
  generalize rd6 l = t6 at HW6 ⊢
  have q1 : hsI 10 1 = false := by decide
  have q2 : hsI 10 2 = true := by decide
  have q4 : hsI 10 4 = false := by decide
  have q8 : hsI 10 8 = true := by decide
  have q16 : hsI 10 16 = false := by decide
  have q32 : hsI 10 32 = false := by decide
  go_enter Try.func31, Try.ntmps31
  go_wp2_with (first
    | (go_at_call 41; refine (HW6.out _ S4.out.rd).mono ?_; rintro e w6 ⟨rfl, hw6⟩; have SS6 := S4.out.reads hw6.out.1 hw6.out.2; obtain ⟨a60, a61, a62, a63, a64, a65, a66, a67, a6f⟩ := cells8 SS6.blk; have S6 : Hid (St w (w6.setCell ⟨w2.heap.size, 5, none⟩ (.int .u32 (numN t6.1 : Nat))) p q w2.heap.size l t6.2 _) := SS6.set 5 (.int .u32 (numN t6.1 : Nat)); clear SS6; obtain ⟨z0, z1, z2, z3, z4, z5, z6, z7, zf⟩ := cells8 S6.out.res)
    | (go_at_call 43; refine (HW4.out _ S2.out.rd).mono ?_; rintro e w4 ⟨rfl, hw4⟩; have SS4 := S2.out.reads hw4.out.1 hw4.out.2; obtain ⟨a40, a41, a42, a43, a44, a45, a46, a47, a4f⟩ := cells8 SS4.blk; have S4 : Hid (St w (w4.setCell ⟨w2.heap.size, 3, none⟩ (.int .i64 (numN t4.1 : Nat))) p q w2.heap.size l t4.2 _) := SS4.set 3 (.int .i64 (numN t4.1 : Nat)); clear SS4)
    | (go_at_call 41; refine (HU32.out w1 hq1.out.1).mono ?_; rintro e w2 ⟨rfl, hq2⟩; have S2 : Hid (St w (w2.alloc (.cells #[.int .i64 3, .int .u32 (numN t2.1 : Nat), .string ⟨#[]⟩, .int .i64 0, .int .i64 0, .int .u32 0, .int .i64 0, .slice none 0 0] 25)) p q w2.heap.size l t2.2 #[.int .i64 3, .int .u32 (numN t2.1 : Nat), .string ⟨#[]⟩, .int .i64 0, .int .i64 0, .int .u32 0, .int .i64 0, .slice none 0 0]) := St.first hq2.out.1 (hq1.out.2.trans hq2.out.2 (fun _ _ t => t)) HL.out.1 HL.out.2 _)
    | (go_at_call 40; refine (HU8.out _ H0.out).mono ?_; rintro e w1 ⟨rfl, hq1⟩)
    | (go_at_call 20; refine (HF _).mono ?_; rintro e wf ⟨rfl, rfl⟩)
    | (go_at_call 22; refine (has_any _ _ _).mono ?_; rintro e wf ⟨rfl, rfl⟩)
    )
  have hend := S6.out.end
  exact bodyPost_ret (v := mv ⟨3, numN t2.1, ⟨#[]⟩, (numN t4.1 : Nat), 0, numN t6.1, 0, []⟩ none 0) (by simp [results, Try.results31, go_sem, z0, z1, z2, z3, z4, z5, z6, z7]) rfl ⟨_, _, rfl, row_nil _ _, Nat.zero_le _, Nat.zero_le _, (hend _ _ _ _ _ _ _ _).1, (hend _ _ _ _ _ _ _ _).2.2, fun b hb => by cases hb⟩
set_option maxRecDepth 20000 in
set_option maxHeartbeats 8000000 in
theorem read_4 (w : World) (p q : Nat) (l : List Nat) (h : Rd w p q l 0 0) (hz : l.length ≤ 140737488351232) (hk : rdk l = 4) : Calls Try.prog 31 #[.pointer (some ⟨p, 0, none⟩)] w fun e w' => RdY l w p q e w' := by
  have hby := h.all.byte
  have HL : Hid (p < w.heap.size ∧ q < w.heap.size) := h.lt
  have H0 : Hid (Rd (w.alloc (mc zeroM none 0)) p q l 0 0) := h.later ((Below.refl _ w).alloc (Nat.le_refl _) _)
  have HF : ∀ W, Calls Try.prog 20 #[.int .i64 4] W fun e w' => e = .returned (.int .u8 16) ∧ W = w' := fun W => fieldsOf_any 4 W
  have HU8 : Hid (∀ W, Rd W p q l 0 0 → Calls Try.prog 40 #[.pointer (some ⟨p, 0, none⟩)] W fun e w' => e = .returned (.int .u8 4) ∧ Hid (Reads W p q l (rd1 l) w')) := fun W hW => by
    have := u8_any W p q l 0 0 hW hz
    have e : ((numN (takes l 0 0 1).1 : Nat) : Int) = 4 := hk
    rw [e] at this
    exact this
  have HU32 : Hid (∀ W, Rd W p q l (rd1 l).2.1 (rd1 l).2.2 → Calls Try.prog 41 #[.pointer (some ⟨p, 0, none⟩)] W fun e w' => e = .returned (.int .u32 (numN (rd2 l).1 : Nat)) ∧ Hid (Reads W p q l (rd2 l) w')) := fun W hW => u32_any W p q l _ _ hW hz
  have E3 : (rd3 l).2 = (rd2 l).2 := by unfold rd3; rw [hk]; exact rfl
  have G3 : (rd3 l).1 = [] := by unfold rd3; rw [hk]; rfl
  have E4 : (rd4 l).2 = (rd2 l).2 := by unfold rd4; rw [hk]; exact E3
  have G4 : (rd4 l).1 = [] := by unfold rd4; rw [hk]; rfl
  have E5 : (rd5 l).2 = (rd2 l).2 := by unfold rd5; rw [hk]; exact E4
  have G5 : (rd5 l).1 = [] := by unfold rd5; rw [hk]; rfl
  have E6 : (rd6 l).2 = (rd2 l).2 := by unfold rd6; rw [hk]; exact E5
  have G6 : (rd6 l).1 = [] := by unfold rd6; rw [hk]; rfl
  have D7 : rd7 l = takes l (rd2 l).2.1 (rd2 l).2.2 1 := by unfold rd7; rw [hk, E6]; rfl
  have HW7 : Hid (∀ W, Rd W p q l (rd2 l).2.1 (rd2 l).2.2 → Calls Try.prog 40 #[.pointer (some ⟨p, 0, none⟩)] W fun e w' => e = .returned (.int .u8 (numN (rd7 l).1 : Nat)) ∧ Hid (Reads W p q l (rd7 l) w')) := fun W hW => by
    rw [D7]
    exact u8_any W p q l _ _ hW hz
  have hX7 : numN (rd7 l).1 < 65536 := by rw [D7]; exact takes_num hby (by omega)
  have E8 : (rd8 l).2 = (rd7 l).2 := by unfold rd8; rw [hk]; exact rfl
  have G8 : (rd8 l).1 = [] := by unfold rd8; rw [hk]; rfl
  have HM : rdM l = ⟨4, numN (rd2 l).1, ⟨#[]⟩, 0, 0, 0, (numN (rd7 l).1 : Nat), []⟩ := by unfold rdM; rw [hk, G3, G4, G5, G6, G8]; rfl
  have H8 : (rd8 l).2 = (rd7 l).2 := E8
  unfold RdY
  rw [HM, H8]
  clear E3 E4 E5 E6 E8 G3 G4 G5 G6 G8 D7 HM hk h H8
  generalize rd1 l = t1 at HU8 HU32
  generalize rd2 l = t2 at HU32 HW7 ⊢
  generalize rd7 l = t7 at HW7 hX7 ⊢
  have q1 : hsI 16 1 = false := by decide
  have q2 : hsI 16 2 = false := by decide
  have q4 : hsI 16 4 = false := by decide
  have q8 : hsI 16 8 = false := by decide
  have q16 : hsI 16 16 = true := by decide
  have q32 : hsI 16 32 = false := by decide
  go_enter Try.func31, Try.ntmps31
  go_wp2_with (first
    | (go_at_call 40; refine (HW7.out _ S2.out.rd).mono ?_; rintro e w7 ⟨rfl, hw7⟩; have SS7 := S2.out.reads hw7.out.1 hw7.out.2; obtain ⟨a70, a71, a72, a73, a74, a75, a76, a77, a7f⟩ := cells8 SS7.blk; have S7 : Hid (St w (w7.setCell ⟨w2.heap.size, 6, none⟩ (.int .i64 (numN t7.1 : Nat))) p q w2.heap.size l t7.2 _) := SS7.set 6 (.int .i64 (numN t7.1 : Nat)); clear SS7; obtain ⟨z0, z1, z2, z3, z4, z5, z6, z7, zf⟩ := cells8 S7.out.res)
    | (go_at_call 41; refine (HU32.out w1 hq1.out.1).mono ?_; rintro e w2 ⟨rfl, hq2⟩; have S2 : Hid (St w (w2.alloc (.cells #[.int .i64 4, .int .u32 (numN t2.1 : Nat), .string ⟨#[]⟩, .int .i64 0, .int .i64 0, .int .u32 0, .int .i64 0, .slice none 0 0] 25)) p q w2.heap.size l t2.2 #[.int .i64 4, .int .u32 (numN t2.1 : Nat), .string ⟨#[]⟩, .int .i64 0, .int .i64 0, .int .u32 0, .int .i64 0, .slice none 0 0]) := St.first hq2.out.1 (hq1.out.2.trans hq2.out.2 (fun _ _ t => t)) HL.out.1 HL.out.2 _)
    | (go_at_call 40; refine (HU8.out _ H0.out).mono ?_; rintro e w1 ⟨rfl, hq1⟩)
    | (go_at_call 20; refine (HF _).mono ?_; rintro e wf ⟨rfl, rfl⟩)
    | (go_at_call 22; refine (has_any _ _ _).mono ?_; rintro e wf ⟨rfl, rfl⟩)
    )
  have hend := S7.out.end
  exact bodyPost_ret (v := mv ⟨4, numN t2.1, ⟨#[]⟩, 0, 0, 0, (numN t7.1 : Nat), []⟩ none 0) (by simp [results, Try.results31, go_sem, z0, z1, z2, z3, z4, z5, z6, z7]) rfl ⟨_, _, rfl, row_nil _ _, Nat.zero_le _, Nat.zero_le _, (hend _ _ _ _ _ _ _ _).1, (hend _ _ _ _ _ _ _ _).2.2, fun b hb => by cases hb⟩
set_option maxRecDepth 20000 in
set_option maxHeartbeats 8000000 in
theorem read_6 (w : World) (p q : Nat) (l : List Nat) (h : Rd w p q l 0 0) (hz : l.length ≤ 140737488351232) (hk : rdk l = 6) : Calls Try.prog 31 #[.pointer (some ⟨p, 0, none⟩)] w fun e w' => RdY l w p q e w' := by
  have hby := h.all.byte
  have HL : Hid (p < w.heap.size ∧ q < w.heap.size) := h.lt
  have H0 : Hid (Rd (w.alloc (mc zeroM none 0)) p q l 0 0) := h.later ((Below.refl _ w).alloc (Nat.le_refl _) _)
  have HF : ∀ W, Calls Try.prog 20 #[.int .i64 6] W fun e w' => e = .returned (.int .u8 1) ∧ W = w' := fun W => fieldsOf_any 6 W
  have HU8 : Hid (∀ W, Rd W p q l 0 0 → Calls Try.prog 40 #[.pointer (some ⟨p, 0, none⟩)] W fun e w' => e = .returned (.int .u8 6) ∧ Hid (Reads W p q l (rd1 l) w')) := fun W hW => by
    have := u8_any W p q l 0 0 hW hz
    have e : ((numN (takes l 0 0 1).1 : Nat) : Int) = 6 := hk
    rw [e] at this
    exact this
  have HU32 : Hid (∀ W, Rd W p q l (rd1 l).2.1 (rd1 l).2.2 → Calls Try.prog 41 #[.pointer (some ⟨p, 0, none⟩)] W fun e w' => e = .returned (.int .u32 (numN (rd2 l).1 : Nat)) ∧ Hid (Reads W p q l (rd2 l) w')) := fun W hW => u32_any W p q l _ _ hW hz
  have D3 : rd3 l = counts l 1 (rd2 l).2.1 (rd2 l).2.2 := by unfold rd3; rw [hk]; rfl
  have HN3 : Hid (∀ W, Rd W p q l (rd2 l).2.1 (rd2 l).2.2 → Calls Try.prog 40 #[.pointer (some ⟨p, 0, none⟩)] W fun e w' => e = .returned (.int .u8 (numN (takes l (rd2 l).2.1 (rd2 l).2.2 1).1 : Nat)) ∧ Hid (Reads W p q l (takes l (rd2 l).2.1 (rd2 l).2.2 1) w')) := fun W hW => u8_any W p q l _ _ hW hz
  have hX3 := takes_num (l := l) (at_ := (rd2 l).2.1) (er := (rd2 l).2.2) (n := 1) hby (by omega)
  have HW3 : Hid (∀ W, Rd W p q l (takes l (rd2 l).2.1 (rd2 l).2.2 1).2.1 (takes l (rd2 l).2.1 (rd2 l).2.2 1).2.2 → Calls Try.prog 42 #[.pointer (some ⟨p, 0, none⟩), .int .i64 (numN (takes l (rd2 l).2.1 (rd2 l).2.2 1).1 : Nat)] W fun e w' => ∃ g, e = .returned (.slice (some ⟨g, 0, none⟩) (rd3 l).1.length (rd3 l).1.length) ∧ Hid (Bs w' g (rd3 l).1 ∧ W.heap.size ≤ g ∧ Reads W p q l (rd3 l) w')) := fun W hW => by
    rw [D3]
    exact raw_any W p q l _ _ _ hW hz (by omega)
  have E4 : (rd4 l).2 = (rd3 l).2 := by unfold rd4; rw [hk]; exact rfl
  have G4 : (rd4 l).1 = [] := by unfold rd4; rw [hk]; rfl
  have E5 : (rd5 l).2 = (rd3 l).2 := by unfold rd5; rw [hk]; exact E4
  have G5 : (rd5 l).1 = [] := by unfold rd5; rw [hk]; rfl
  have E6 : (rd6 l).2 = (rd3 l).2 := by unfold rd6; rw [hk]; exact E5
  have G6 : (rd6 l).1 = [] := by unfold rd6; rw [hk]; rfl
  have E7 : (rd7 l).2 = (rd3 l).2 := by unfold rd7; rw [hk]; exact E6
  have G7 : (rd7 l).1 = [] := by unfold rd7; rw [hk]; rfl
  have E8 : (rd8 l).2 = (rd3 l).2 := by unfold rd8; rw [hk]; exact E7
  have G8 : (rd8 l).1 = [] := by unfold rd8; rw [hk]; rfl
  have HM : rdM l = ⟨6, numN (rd2 l).1, nameOf (rd3 l).1, 0, 0, 0, 0, []⟩ := by unfold rdM; rw [hk, G4, G5, G6, G7, G8]; rfl
  have H8 : (rd8 l).2 = (rd3 l).2 := E8
  unfold RdY
  rw [HM, H8]
  clear E4 E5 E6 E7 E8 G4 G5 G6 G7 G8 D3 HM hk h H8
  generalize rd1 l = t1 at HU8 HU32
  generalize rd2 l = t2 at HU32 HN3 hX3 HW3 ⊢
  generalize rd3 l = t3 at HW3 ⊢
  generalize takes l t2.2.1 t2.2.2 1 = s3 at HN3 HW3 hX3
  generalize numN s3.1 = X3 at HN3 HW3 hX3
  have q1 : hsI 1 1 = true := by decide
  have q2 : hsI 1 2 = false := by decide
  have q4 : hsI 1 4 = false := by decide
  have q8 : hsI 1 8 = false := by decide
  have q16 : hsI 1 16 = false := by decide
  have q32 : hsI 1 32 = false := by decide
  go_enter Try.func31, Try.ntmps31
  go_wp2_with (first
    | (go_at_call 42; refine (HW3.out _ SN3.out.rd).mono ?_; rintro e w3 ⟨g3, rfl, hw3⟩; have SS3 := SN3.out.reads hw3.out.2.2.1 hw3.out.2.2.2; obtain ⟨a30, a31, a32, a33, a34, a35, a36, a37, a3f⟩ := cells8 SS3.blk; have S3 : Hid (St w (w3.setCell ⟨w2.heap.size, 2, none⟩ (.string (nameOf t3.1))) p q w2.heap.size l t3.2 _) := SS3.set 2 (.string (nameOf t3.1)); clear SS3; have hcv := conv_name hw3.out.1 t3.1.length; obtain ⟨z0, z1, z2, z3, z4, z5, z6, z7, zf⟩ := cells8 S3.out.res)
    | (go_at_call 40; refine (HN3.out _ S2.out.rd).mono ?_; rintro e wn3 ⟨rfl, hn3⟩; have SN3 : Hid (St w wn3 p q w2.heap.size l s3.2 _) := S2.out.reads hn3.out.1 hn3.out.2)
    | (go_at_call 41; refine (HU32.out w1 hq1.out.1).mono ?_; rintro e w2 ⟨rfl, hq2⟩; have S2 : Hid (St w (w2.alloc (.cells #[.int .i64 6, .int .u32 (numN t2.1 : Nat), .string ⟨#[]⟩, .int .i64 0, .int .i64 0, .int .u32 0, .int .i64 0, .slice none 0 0] 25)) p q w2.heap.size l t2.2 #[.int .i64 6, .int .u32 (numN t2.1 : Nat), .string ⟨#[]⟩, .int .i64 0, .int .i64 0, .int .u32 0, .int .i64 0, .slice none 0 0]) := St.first hq2.out.1 (hq1.out.2.trans hq2.out.2 (fun _ _ t => t)) HL.out.1 HL.out.2 _)
    | (go_at_call 40; refine (HU8.out _ H0.out).mono ?_; rintro e w1 ⟨rfl, hq1⟩)
    | (go_at_call 20; refine (HF _).mono ?_; rintro e wf ⟨rfl, rfl⟩)
    | (go_at_call 22; refine (has_any _ _ _).mono ?_; rintro e wf ⟨rfl, rfl⟩)
    )
  have hend := S3.out.end
  exact bodyPost_ret (v := mv ⟨6, numN t2.1, nameOf t3.1, 0, 0, 0, 0, []⟩ none 0) (by simp [results, Try.results31, go_sem, z0, z1, z2, z3, z4, z5, z6, z7]) rfl ⟨_, _, rfl, row_nil _ _, Nat.zero_le _, Nat.zero_le _, (hend _ _ _ _ _ _ _ _).1, (hend _ _ _ _ _ _ _ _).2.2, fun b hb => by cases hb⟩
end Go.Proofs.Ytfkkaihnmnjadaa
