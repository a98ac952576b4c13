/- pdu.Encode, whatever message. -/
import Derived.Test.YtfkkaihnmnjadaaPEncA
import Derived.Test.YtfkkaihnmnjadaaPEncB
namespace Go.Proofs.Ytfkkaihnmnjadaa
open Go.RowKit
set_option linter.unusedVariables false
theorem Sz.szn {m : Ms} (h : Sz m) : Szn m := ⟨h.num, h.sum⟩
/-- what Encode answers. -/
def EncS (m : Ms) (w : World) (e : Ending) (w' : World) : Prop :=
  (okM m = true ∧ EncY m w e w') ∨ (okM m = false ∧ e = .returned (.tuple #[.slice none 0 0, .int .i64 210]) ∧ Hid (Below w.heap.size w w'))
theorem encode_ok (m : Ms) (a : Option Addr) (c : Nat) (w : World) (hc : Came w m a c) (hok : okM m = true) : Calls Try.prog 9 #[mv m a c] w fun e w' => EncY m w e w' := by
  obtain ⟨h1, h2, h3, h4, h5, h6, h7, h8⟩ := okM_is hok
  have hn := hc.fit.num
  have hsu := hc.fit.sum
  obtain ⟨knd, num, nam, siz, off, sum, cod, bts⟩ := m
  simp only at h1 h2 h4 h5 h6 h7 h8 hn hsu
  rcases fld_cases knd with rfl | rfl | rfl | rfl | rfl | rfl | rfl | rfl | h
  · simp only [cntM, show fld 1 = 3 from rfl, show hs 3 1 = true from rfl, show hs 3 2 = true from rfl, show hs 3 4 = false from rfl, show hs 3 8 = false from rfl, show hs 3 16 = false from rfl, show hs 3 32 = false from rfl, Ms.mk.injEq] at h3
    obtain ⟨_, _, _, _, e5, e6, e7, e8⟩ := h3
    simp at e5 e6 e7 e8
    subst e5 e6 e7 e8
    obtain ⟨z, rfl⟩ : ∃ n : Nat, siz = (n : Nat) := ⟨siz.toNat, by omega⟩
    exact enc_1 num nam z a c w hc hok hn (by omega) (by omega)
  · simp only [cntM, show fld 2 = 36 from rfl, show hs 36 1 = false from rfl, show hs 36 2 = false from rfl, show hs 36 4 = true from rfl, show hs 36 8 = false from rfl, show hs 36 16 = false from rfl, show hs 36 32 = true from rfl, Ms.mk.injEq] at h3
    obtain ⟨_, _, e3, e4, _, e6, e7, _⟩ := h3
    simp at e3 e4 e6 e7
    subst e3 e4 e6 e7
    obtain ⟨z, rfl⟩ : ∃ n : Nat, off = (n : Nat) := ⟨off.toNat, by omega⟩
    exact enc_2 num z bts a c w hc hok hn (by omega) (by omega)
  · simp only [cntM, show fld 3 = 10 from rfl, show hs 10 1 = false from rfl, show hs 10 2 = true from rfl, show hs 10 4 = false from rfl, show hs 10 8 = true from rfl, show hs 10 16 = false from rfl, show hs 10 32 = false from rfl, Ms.mk.injEq] at h3
    obtain ⟨_, _, e3, _, e5, _, e7, e8⟩ := h3
    simp at e3 e5 e7 e8
    subst e3 e5 e7 e8
    obtain ⟨z, rfl⟩ : ∃ n : Nat, siz = (n : Nat) := ⟨siz.toNat, by omega⟩
    exact enc_3 num z sum a c w hc hok hn hsu (by omega)
  · simp only [cntM, show fld 4 = 16 from rfl, show hs 16 1 = false from rfl, show hs 16 2 = false from rfl, show hs 16 4 = false from rfl, show hs 16 8 = false from rfl, show hs 16 16 = true from rfl, show hs 16 32 = false from rfl, Ms.mk.injEq] at h3
    obtain ⟨_, _, e3, e4, e5, e6, _, e8⟩ := h3
    simp at e3 e4 e5 e6 e8
    subst e3 e4 e5 e6 e8
    obtain ⟨z, rfl⟩ : ∃ n : Nat, cod = (n : Nat) := ⟨cod.toNat, by omega⟩
    exact enc_4 num z a c w hc hok hn (by omega) (by omega)
  · simp only [cntM, show fld 5 = 33 from rfl, show hs 33 1 = true from rfl, show hs 33 2 = false from rfl, show hs 33 4 = false from rfl, show hs 33 8 = false from rfl, show hs 33 16 = false from rfl, show hs 33 32 = true from rfl, Ms.mk.injEq] at h3
    obtain ⟨_, _, _, e4, e5, e6, e7, _⟩ := h3
    simp at e4 e5 e6 e7
    subst e4 e5 e6 e7
    exact enc_5 num nam bts a c w hc hok hn (by omega) (by omega)
  · simp only [cntM, show fld 6 = 1 from rfl, show hs 1 1 = true from rfl, show hs 1 2 = false from rfl, show hs 1 4 = false from rfl, show hs 1 8 = false from rfl, show hs 1 16 = false from rfl, show hs 1 32 = false from rfl, Ms.mk.injEq] at h3
    obtain ⟨_, _, _, e4, e5, e6, e7, e8⟩ := h3
    simp at e4 e5 e6 e7 e8
    subst e4 e5 e6 e7 e8
    exact enc_6 num nam a c w hc hok hn (by omega) (by omega)
  · simp only [cntM, show fld 7 = 32 from rfl, show hs 32 1 = false from rfl, show hs 32 2 = false from rfl, show hs 32 4 = false from rfl, show hs 32 8 = false from rfl, show hs 32 16 = false from rfl, show hs 32 32 = true from rfl, Ms.mk.injEq] at h3
    obtain ⟨_, _, e3, e4, e5, e6, e7, _⟩ := h3
    simp at e3 e4 e5 e6 e7
    subst e3 e4 e5 e6 e7
    exact enc_7 num bts a c w hc hok hn (by omega) (by omega)
  · simp only [cntM, show fld 8 = 48 from rfl, show hs 48 1 = false from rfl, show hs 48 2 = false from rfl, show hs 48 4 = false from rfl, show hs 48 8 = false from rfl, show hs 48 16 = true from rfl, show hs 48 32 = true from rfl, Ms.mk.injEq] at h3
    obtain ⟨_, _, e3, e4, e5, e6, _, _⟩ := h3
    simp at e3 e4 e5 e6
    subst e3 e4 e5 e6
    obtain ⟨z, rfl⟩ : ∃ n : Nat, cod = (n : Nat) := ⟨cod.toNat, by omega⟩
    exact enc_8 num z bts a c w hc hok hn (by omega) (by omega)
  · exact absurd h h1
theorem encode_any (m : Ms) (a : Option Addr) (c : Nat) (w : World) (hc : Came w m a c) : Calls Try.prog 9 #[mv m a c] w fun e w' => EncS m w e w' := by
  cases hok : okM m with
  | true => exact (encode_ok m a c w hc hok).mono (fun e w' h => .inl ⟨hok, h⟩)
  | false => exact (enc_no m a c w hc hok).mono (fun e w' h => .inr ⟨hok, h⟩)
end Go.Proofs.Ytfkkaihnmnjadaa
