/- heliographref11.Right and Bytes, whatever message. -/
import Derived.Test.YtfkkaihnmnjadaaPRRightA
import Derived.Test.YtfkkaihnmnjadaaPRRightB
import Derived.Test.YtfkkaihnmnjadaaPRRightC
import Derived.Test.YtfkkaihnmnjadaaPRBytesA
import Derived.Test.YtfkkaihnmnjadaaPRBytesB
namespace Go.Proofs.Ytfkkaihnmnjadaa
open Go.RowKit
set_option linter.unusedVariables false
set_option maxRecDepth 20000 in
set_option maxHeartbeats 4000000 in
theorem rright_0 (m : Ms) (a : Option Addr) (c : Nat) (w : World) (hk : fld m.knd = 0) : Calls Try.prog 11 #[mv m a c] w fun e w' => e = .returned (.bool false) ∧ Hid (Below w.heap.size w w') := by
  have HB : Hid (∀ (w : World) (X : Obj), Below w.heap.size w (w.alloc X)) := fun w X => (Below.refl _ w).alloc (Nat.le_refl _) X
  have HF : Hid (∀ W : World, Calls Try.prog 24 #[.int .i64 m.knd] W fun e w' => e = .returned (.string ⟨#[]⟩) ∧ Hid (Below W.heap.size W w')) := fun W => fieldsR_no m.knd hk W
  clear hk
  go_enter Try.func11, Try.ntmps11
  go_wp2_with (go_at_call 24; refine (HF.out _).mono ?_; rintro e w1 ⟨rfl, hb1⟩)
  go_ret
  exact ⟨rfl, below_of (HB.out _ _) hb1.out⟩
theorem rright_any (m : Ms) (a : Option Addr) (c : Nat) (w : World) (hz : m.bts.length ≤ 140737488351232) : Calls Try.prog 11 #[mv m a c] w fun e w' => e = .returned (.bool (okM m)) ∧ Hid (Below w.heap.size w w') := by
  obtain ⟨knd, num, nam, siz, off, sum, cod, bts⟩ := m
  rcases fld_cases knd with rfl | rfl | rfl | rfl | rfl | rfl | rfl | rfl | h
  · exact rright_1 num nam siz off sum cod bts a c w hz
  · exact rright_2 num nam siz off sum cod bts a c w hz
  · exact rright_3 num nam siz off sum cod bts a c w hz
  · exact rright_4 num nam siz off sum cod bts a c w hz
  · exact rright_5 num nam siz off sum cod bts a c w hz
  · exact rright_6 num nam siz off sum cod bts a c w hz
  · exact rright_7 num nam siz off sum cod bts a c w hz
  · exact rright_8 num nam siz off sum cod bts a c w hz
  · have := rright_0 ⟨knd, num, nam, siz, off, sum, cod, bts⟩ a c w h
    have e : okM ⟨knd, num, nam, siz, off, sum, cod, bts⟩ = false := by
      unfold okM
      simp only at h ⊢
      rw [h]
      rfl
    rw [e]
    exact this
theorem rbytes_any (m : Ms) (a : Option Addr) (c : Nat) (w : World) (hc : Came w m a c) (hok : okM m = true) : Calls Try.prog 14 #[mv m a c] w fun e w' => ∃ a' c', e = .returned (.slice a' (encM m).length c') ∧ Hid (Row w' a' (encM m) ∧ Below w.heap.size w w') := by
  obtain ⟨h1, h2, h3, h4, h5, h6, h7, h8⟩ := okM_is hok
  have hn := hc.fit.num
  have hsu := hc.fit.sum
  obtain ⟨knd, num, nam, siz, off, sum, cod, bts⟩ := m
  simp only at h1 h2 h4 h5 h6 h7 h8 hn hsu
  rcases fld_cases knd with rfl | rfl | rfl | rfl | rfl | rfl | rfl | rfl | h
  · obtain ⟨z, rfl⟩ : ∃ n : Nat, siz = (n : Nat) := ⟨siz.toNat, by omega⟩
    have e : encM (⟨1, num, nam, ((z : Nat) : Int), off, sum, cod, bts⟩ : Ms) = (((1 :: be num 4) ++ encName nam) ++ be z 2) := by simp [encM, opt, encName, show fld 1 = 3 from rfl, hs]
    have el : (((1 :: be num 4) ++ encName nam) ++ be z 2).length = ((5 + (1 + nam.size)) + 2) := by simp [be_length, encName, nbytes_length]; omega
    rw [e, el]
    exact rbytes_1 num nam z sum 0 off cod bts a c w hc hn (by omega) (by omega) hsu (by omega)
  · obtain ⟨z, rfl⟩ : ∃ n : Nat, off = (n : Nat) := ⟨off.toNat, by omega⟩
    have e : encM (⟨2, num, nam, siz, ((z : Nat) : Int), sum, cod, bts⟩ : Ms) = (((2 :: be num 4) ++ be z 2) ++ encBytes bts) := by simp [encM, opt, encBytes, show fld 2 = 36 from rfl, hs]
    have el : (((2 :: be num 4) ++ be z 2) ++ encBytes bts).length = ((5 + 2) + (2 + bts.length)) := by simp [be_length, encBytes]; omega
    rw [e, el]
    exact rbytes_2 num nam z sum siz 0 cod bts a c w hc hn (by omega) (by omega) hsu (by omega)
  · obtain ⟨z, rfl⟩ : ∃ n : Nat, siz = (n : Nat) := ⟨siz.toNat, by omega⟩
    have e : encM (⟨3, num, nam, ((z : Nat) : Int), off, sum, cod, bts⟩ : Ms) = (((3 :: be num 4) ++ be z 2) ++ be sum 4) := by simp [encM, opt, show fld 3 = 10 from rfl, hs]
    have el : (((3 :: be num 4) ++ be z 2) ++ be sum 4).length = ((5 + 2) + 4) := by simp [be_length]
    rw [e, el]
    exact rbytes_3 num nam z sum 0 off cod bts a c w hc hn (by omega) (by omega) hsu (by omega)
  · obtain ⟨z, rfl⟩ : ∃ n : Nat, cod = (n : Nat) := ⟨cod.toNat, by omega⟩
    have e : encM (⟨4, num, nam, siz, off, sum, ((z : Nat) : Int), bts⟩ : Ms) = ((4 :: be num 4) ++ [z]) := by simp [encM, opt, show fld 4 = 16 from rfl, hs]
    have el : ((4 :: be num 4) ++ [z]).length = (5 + 1) := by simp [be_length]
    rw [e, el]
    exact rbytes_4 num nam z sum siz off 0 bts a c w hc hn (by omega) (by omega) hsu (by omega)
  · have e : encM (⟨5, num, nam, siz, off, sum, cod, bts⟩ : Ms) = (((5 :: be num 4) ++ encName nam) ++ encBytes bts) := by simp [encM, opt, encName, encBytes, show fld 5 = 33 from rfl, hs]
    have el : (((5 :: be num 4) ++ encName nam) ++ encBytes bts).length = ((5 + (1 + nam.size)) + (2 + bts.length)) := by simp [be_length, encName, nbytes_length, encBytes]; omega
    rw [e, el]
    exact rbytes_5 num nam 0 sum siz off cod bts a c w hc hn (by omega) (by omega) hsu (by omega)
  · have e : encM (⟨6, num, nam, siz, off, sum, cod, bts⟩ : Ms) = ((6 :: be num 4) ++ encName nam) := by simp [encM, opt, encName, show fld 6 = 1 from rfl, hs]
    have el : ((6 :: be num 4) ++ encName nam).length = (5 + (1 + nam.size)) := by simp [be_length, encName, nbytes_length]; omega
    rw [e, el]
    exact rbytes_6 num nam 0 sum siz off cod bts a c w hc hn (by omega) (by omega) hsu (by omega)
  · have e : encM (⟨7, num, nam, siz, off, sum, cod, bts⟩ : Ms) = ((7 :: be num 4) ++ encBytes bts) := by simp [encM, opt, encBytes, show fld 7 = 32 from rfl, hs]
    have el : ((7 :: be num 4) ++ encBytes bts).length = (5 + (2 + bts.length)) := by simp [be_length, encBytes]; omega
    rw [e, el]
    exact rbytes_7 num nam 0 sum siz off cod bts a c w hc hn (by omega) (by omega) hsu (by omega)
  · obtain ⟨z, rfl⟩ : ∃ n : Nat, cod = (n : Nat) := ⟨cod.toNat, by omega⟩
    have e : encM (⟨8, num, nam, siz, off, sum, ((z : Nat) : Int), bts⟩ : Ms) = (((8 :: be num 4) ++ [z]) ++ encBytes bts) := by simp [encM, opt, encBytes, show fld 8 = 48 from rfl, hs]
    have el : (((8 :: be num 4) ++ [z]) ++ encBytes bts).length = ((5 + 1) + (2 + bts.length)) := by simp [be_length, encBytes]; omega
    rw [e, el]
    exact rbytes_8 num nam z sum siz off 0 bts a c w hc hn (by omega) (by omega) hsu (by omega)
  · exact absurd h h1
end Go.Proofs.Ytfkkaihnmnjadaa
