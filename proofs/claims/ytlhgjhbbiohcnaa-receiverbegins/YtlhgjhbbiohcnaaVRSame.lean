/- The reference's Same of sessions. -/
import Derived.Test.YtlhgjhbbiohcnaaVLarge
import Derived.Test.YtlhgjhbbiohcnaaR01Same
namespace Go.Proofs.Ytlhgjhbbiohcnaa
open Go.RowKit
set_option linter.unusedVariables false
/-- the fields but for the rows. -/
def fldK (s t : Tk) : Bool := decide (s.src = t.src) && (decide ((s.ses : Int) = (t.ses : Int)) && (decide (s.tot = t.tot) && (decide (s.byt = t.byt) && (decide ((s.got.length : Int) = (t.got.length : Int)) && (decide ((s.ser : Int) = (t.ser : Int)) && (decide (s.sta = t.sta) && (decide (s.lif = t.lif) && decide (s.due = t.due))))))))
theorem sameK_fld (s t : Tk) : sameK s t = (fldK s t && decide (s.got = t.got)) := by
  unfold sameK fldK
  rw [Bool.eq_iff_iff]
  simp only [Bool.and_eq_true, decide_eq_true_eq]
  constructor
  · rintro ⟨h1, h2, h3, h4, h5, h6, h7, h8, h9⟩
    exact ⟨⟨h1, h2, h3, h4, by rw [h5], h6, h7, h8, h9⟩, h5⟩
  · rintro ⟨⟨h1, h2, h3, h4, _, h6, h7, h8, h9⟩, h5⟩
    exact ⟨h1, h2, h3, h4, h5, h6, h7, h8, h9⟩
set_option maxRecDepth 20000 in
set_option maxHeartbeats 8000000 in
theorem rsameK_any (s t : Tk) (a : Option Addr) (c : Nat) (g : Option Addr) (d : Nat) (b : Option Addr) (p : Nat) (h : Option Addr) (q : Nat) (w : World) (h1 : Row w a s.byt) (h2 : RowC w g s.got) (h3 : Row w b t.byt) (h4 : RowC w h t.got) (z1 : s.got.length ≤ 140737488351232) (z2 : t.got.length ≤ 140737488351232) :
    Calls Try.prog 13 #[kv s a c g d, kv t b p h q] w fun e w' => e = .returned (.bool (sameK s t)) ∧ Hid (Below w.heap.size w w') := by
  have HB : Hid (∀ X Y : Obj, Below w.heap.size w ((w.alloc X).alloc Y)) := fun X Y => ((Below.refl _ w).alloc (Nat.le_refl _) X).alloc (by simp) Y
  have HD : Hid (∀ X Y : Obj, ∀ n, Calls Try.prog 27 #[.slice a s.byt.length c, .slice b t.byt.length p] (((w.alloc X).alloc Y).drewN n) fun e w' => e = .returned (.bool (decide (s.byt = t.byt))) ∧ ∃ m, w' = (((w.alloc X).alloc Y).drewN n).drewN m) := fun X Y n => rsame_any a b c p _ _ _ (h1.later (below_drewN (HB.out X Y) n)) (h3.later (below_drewN (HB.out X Y) n))
  have HD0 : Hid (∀ X Y : Obj, Calls Try.prog 27 #[.slice a s.byt.length c, .slice b t.byt.length p] ((w.alloc X).alloc Y) fun e w' => e = .returned (.bool (decide (s.byt = t.byt))) ∧ ∃ m, w' = ((w.alloc X).alloc Y).drewN m) := fun X Y => rsame_any a b c p _ _ _ (h1.later (HB.out X Y)) (h3.later (HB.out X Y))
  have HR : Hid (RowC w g s.got ∧ RowC w h t.got) := ⟨h2, h4⟩
  rw [sameK_fld]
  clear h1 h2 h3 h4
  cases hF : fldK s t with
  | false =>
    have HF : Hid (fldK s t = false) := hF
    clear hF
    go_enter Try.func13, Try.ntmps13
    go_wp2_with (go_at_call 27; refine (HD0.out _ _).mono ?_; rintro e w1 ⟨rfl, n1, rfl⟩)
    all_goals first
      | (go_ret; exact ⟨rfl, by first | exact HB.out _ _ | exact below_drewN (HB.out _ _) _⟩)
      | (exfalso
         have hf := HF.out
         clear HF HB HD HD0 HR
         unfold fldK at hf
         simp_all)
  | true =>
    have hf := hF
    unfold fldK at hf
    simp only [Bool.and_eq_true, decide_eq_true_eq] at hf
    obtain ⟨f1, f2, f3, f4, f5, f6, f7, f8, f9⟩ := hf
    have e1 : (s.src != t.src) = false := by simp [f1]
    have e2 : ((s.ses : Int) != (t.ses : Int)) = false := by simp [f2]
    have e3 : (s.tot != t.tot) = false := by simp [f3]
    have e5 : ((s.got.length : Int) != (t.got.length : Int)) = false := by simp [f5]
    have e6 : ((s.ser : Int) != (t.ser : Int)) = false := by simp [f6]
    have e7 : (s.sta != t.sta) = false := by simp [f7]
    have e8 : (s.lif != t.lif) = false := by simp [f8]
    have e9 : (s.due != t.due) = false := by simp [f9]
    have HL : Hid (s.got.length = t.got.length) := by show _ = _; omega
    rw [decide_eq_true f4] at HD0
    clear f1 f2 f3 f4 f5 f6 f7 f8 f9 hF HD
    go_enter Try.func13, Try.ntmps13
    go_wp2_with (go_at_call 27; refine (HD0.out _ _).mono ?_; rintro e w1 ⟨rfl, n1, rfl⟩)
    have HXR : Hid (RowC ((w.alloc (kc s a c g d)).alloc (kc t b p h q)) g s.got ∧ RowC ((w.alloc (kc s a c g d)).alloc (kc t b p h q)) h t.got) := ⟨HR.out.1.later (HB.out _ _), HR.out.2.later (HB.out _ _)⟩
    have HK : Hid (((w.alloc (kc s a c g d)).alloc (kc t b p h q)).heap[w.heap.size]? = some (kc s a c g d) ∧ ((w.alloc (kc s a c g d)).alloc (kc t b p h q)).heap[w.heap.size + 1]? = some (kc t b p h q)) := by
      refine ⟨old_block ((Below.refl _ (w.alloc (kc s a c g d))).alloc (Nat.le_refl _) _) (heap_alloc_new w _), ?_⟩
      have := heap_alloc_new (w.alloc (kc s a c g d)) (kc t b p h q)
      rw [show (w.alloc (kc s a c g d)).heap.size = w.heap.size + 1 by simp] at this
      exact this
    have HY : Hid (Below w.heap.size w ((w.alloc (kc s a c g d)).alloc (kc t b p h q))) := HB.out _ _
    clear HB HD0 HR e1 e2 e3 e5 e6 e7 e8 e9
    generalize (w.alloc (kc s a c g d)).alloc (kc t b p h q) = W0 at HXR HK HY ⊢
    go_loopw [5] (fun i wr => ∃ k n : Nat, k ≤ s.got.length ∧ i = .int .i64 k ∧ wr = W0.drewN n ∧ Hid (decide (s.got = t.got) = decide (s.got.drop k = t.got.drop k))) (fun i _ => s.got.length - (intOf i).toNat)
    case atStart => exact ⟨0, n1, by omega, rfl, rfl, rfl⟩
    case round =>
      obtain ⟨k, n, hk, rfl, rfl, HQ⟩ := hrel
      have k1 : W0.cell? ⟨w.heap.size, 4, none⟩ = some (.slice g s.got.length d) := (kcells_get HK.out.1).2.2.2.2.1
      have k2 : W0.cell? ⟨w.heap.size + 1, 4, none⟩ = some (.slice h t.got.length q) := (kcells_get HK.out.2).2.2.2.2.1
      by_cases hlt : k < s.got.length
      · have hlt2 : k < t.got.length := by have := HL.out; omega
        obtain ⟨b1, o1, rfl, hc1⟩ := HXR.out.1.2 (by omega)
        obtain ⟨b3, o3, rfl, hc2⟩ := HXR.out.2.2 (by omega)
        obtain ⟨p1, p2⟩ := hc1 k hlt
        obtain ⟨p3, p4⟩ := hc2 k hlt2
        have HN : Hid (decide (s.got.drop k = t.got.drop k) = (decide (s.got[k] = t.got[k]) && decide (s.got.drop (k + 1) = t.got.drop (k + 1)))) := by
          show _ = _
          rw [Bool.eq_iff_iff]
          simp only [decide_eq_true_eq, Bool.and_eq_true]
          exact drop_eq hlt hlt2
        have HP : Hid (decide (s.got[k] = t.got[k]) = (decide (s.got[k].1 = t.got[k].1) && decide (s.got[k].2 = t.got[k].2))) := by
          show _ = _
          rw [Bool.eq_iff_iff]
          simp only [decide_eq_true_eq, Bool.and_eq_true]
          exact ⟨fun e => by rw [e]; exact ⟨rfl, rfl⟩, fun e => Prod.ext e.1 e.2⟩
        clear hc1 hc2
        generalize s.got[k].1 = x1 at p1 HP
        generalize s.got[k].2 = x2 at p2 HP
        generalize t.got[k].1 = y1 at p3 HP
        generalize t.got[k].2 = y2 at p4 HP
        have hi1 : (k : Int) < (s.got.length : Int) := by omega
        have hi2 : (k : Int) < (t.got.length : Int) := by omega
        have he := fun W => neqC W x1 x2 y1 y2
        rw [← HP.out] at he
        generalize decide (s.got[k] = t.got[k]) = B at he HN
        cases B with
        | false =>
          go_wp2
          go_quiet (fail)
          go_wp2
          go_ret
          exact ⟨ret_bool (by rw [HQ.out, HN.out]; rfl), below_drewN (below_drewN HY.out _) _⟩
        | true =>
          go_wp2
          go_quiet (fail)
          go_wp2
          go_roundw
          case rel => repeat (first | exact ⟨k + 1, n + nq, by omega, by go_num, rfl, by show _ = _; rw [HQ.out, HN.out]; rfl⟩ | refine ⟨_, ?_⟩)
          case measure => simp [intOf]; omega
      · obtain rfl : k = s.got.length := by omega
        go_wp2
        go_ret
        exact ⟨ret_bool (by rw [HQ.out, List.drop_of_length_le (Nat.le_refl _), List.drop_of_length_le (by rw [HL.out]; exact Nat.le_refl _)]; rfl), below_drewN HY.out _⟩
end Go.Proofs.Ytlhgjhbbiohcnaa
