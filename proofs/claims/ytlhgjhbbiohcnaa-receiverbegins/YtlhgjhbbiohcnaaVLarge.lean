/- The law's own large; receiver.Same. -/
import Derived.Test.YtlhgjhbbiohcnaaVMem
import Derived.Test.YtlhgjhbbiohcnaaTSame
namespace Go.Proofs.Ytlhgjhbbiohcnaa
open Go.RowKit
set_option linter.unusedVariables false
def largeK (s : Tk) (x : Sg) : Bool := decide (5000 < (s.byt.length : Int)) || (decide (2000 < (s.got.length : Int)) || (decide (5000 < (x.dat.length : Int)) || decide (2000 < (x.cls.length : Int))))
set_option maxRecDepth 20000 in
set_option maxHeartbeats 1000000 in
theorem vlarge_any (s : Tk) (a : Option Addr) (c : Nat) (g : Option Addr) (d : Nat) (x : Sg) (xa : Option Addr) (xc : Nat) (a2 : Option Addr) (c2 : Nat) (w : World) : Calls Try.prog 9 #[kv s a c g d, sv x xa xc a2 c2] w fun e w' => e = .returned (.bool (largeK s x)) ∧ Hid (Below w.heap.size w w') := by
  have HE : Hid (largeK s x = (decide (5000 < (s.byt.length : Int)) || (decide (2000 < (s.got.length : Int)) || (decide (5000 < (x.dat.length : Int)) || decide (2000 < (x.cls.length : Int)))))) := rfl
  have HB : Hid (∀ X Y : Obj, Below w.heap.size w ((w.alloc X).alloc Y)) := fun X Y => ((Below.refl _ w).alloc (Nat.le_refl _) X).alloc (by simp) Y
  generalize largeK s x = R at HE ⊢
  go_enter Try.func9, Try.ntmps9
  go_wp2
  all_goals
    go_ret
    refine ⟨ret_bool ?_, HB.out _ _⟩
    rw [HE.out]
    clear HE HB
    first | simp_all | simp only [Bool.or_assoc]
def sameK (s t : Tk) : Bool := decide (s.src = t.src) && (decide ((s.ses : Int) = (t.ses : Int)) && (decide (s.tot = t.tot) && (decide (s.byt = t.byt) && (decide (s.got = t.got) && (decide ((s.ser : Int) = (t.ser : Int)) && (decide (s.sta = t.sta) && (decide (s.lif = t.lif) && decide (s.due = t.due))))))))
theorem sameK_refl (s : Tk) : sameK s s = true := by simp [sameK]
set_option maxRecDepth 20000 in
set_option maxHeartbeats 8000000 in
theorem vsame_any (s t : Tk) (a : Option Addr) (c : Nat) (g : Option Addr) (d : Nat) (b : Option Addr) (p : Nat) (h : Option Addr) (q : Nat) (w : World) (h1 : Row w a s.byt) (h2 : RowC w g s.got) (h3 : Row w b t.byt) (h4 : RowC w h t.got) (z1 : s.got.length ≤ 140737488351232) (z2 : t.got.length ≤ 140737488351232) :
    Calls Try.prog 22 #[kv s a c g d, kv t b p h q] w fun e w' => e = .returned (.bool (sameK s t)) ∧ Hid (Below w.heap.size w w') := by
  have HB : Hid (∀ X Y : Obj, Below w.heap.size w ((w.alloc X).alloc Y)) := fun X Y => ((Below.refl _ w).alloc (Nat.le_refl _) X).alloc (by simp) Y
  have HD : Hid (∀ X Y : Obj, Calls Try.prog 41 #[.slice a s.byt.length c, .slice b t.byt.length p] ((w.alloc X).alloc Y) fun e w' => e = .returned (.bool (decide (s.byt = t.byt))) ∧ w' = ((w.alloc X).alloc Y)) := fun X Y => bytesEqual_any a b c p _ _ _ (h1.later (HB.out X Y)) (h3.later (HB.out X Y))
  have HC : Hid (∀ X Y : Obj, Calls Try.prog 42 #[.slice g s.got.length d, .slice h t.got.length q] ((w.alloc X).alloc Y) fun e w' => e = .returned (.bool (decide (s.got = t.got))) ∧ ∃ n, w' = ((w.alloc X).alloc Y).drewN n) := fun X Y => claimsEq_any g h d q _ _ _ (h2.later (HB.out X Y)) (h4.later (HB.out X Y)) z1 z2
  have HE : Hid (sameK s t = (decide (s.src = t.src) && (decide ((s.ses : Int) = (t.ses : Int)) && (decide (s.tot = t.tot) && (decide (s.byt = t.byt) && (decide (s.got = t.got) && (decide ((s.ser : Int) = (t.ser : Int)) && (decide (s.sta = t.sta) && (decide (s.lif = t.lif) && decide (s.due = t.due)))))))))) := rfl
  generalize sameK s t = R at HE ⊢
  clear h1 h2 h3 h4
  go_enter Try.func22, Try.ntmps22
  go_wp2_with (first | (go_at_call 41; refine (HD.out _ _).mono ?_; rintro e w1 ⟨rfl, rfl⟩) | (go_at_call 42; refine (HC.out _ _).mono ?_; rintro e w2 ⟨rfl, n2, rfl⟩))
  all_goals
    go_ret
    refine ⟨ret_bool ?_, ?_⟩
    · rw [HE.out]
      clear HE HD HC HB
      simp_all
      try rfl
  all_goals first | exact HB.out _ _ | exact below_drewN (HB.out _ _) _
end Go.Proofs.Ytlhgjhbbiohcnaa
