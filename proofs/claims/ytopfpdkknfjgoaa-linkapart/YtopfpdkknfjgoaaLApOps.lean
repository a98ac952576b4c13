/- LinkApart: an operation on one of two links. -/
import Derived.Test.YtopfpdkknfjgoaaLApT
namespace Go.Proofs.Ytopfpdkknfjgoaa
open Go.RowKit Go.Shelf
set_option linter.unusedVariables false
theorem ap_send0 {w W : World} {p q : Int} {lb mb lb' mb' n : Nat} {L M : List Fl} {a : Option Addr} {X : List OX} {o : OX} {s : Nat} (hS : ApS w W p q lb mb lb' mb' n L M a X) (hB : Ob W s o) (hO : CameO W o) (hn : n < 1000000000) (hL : L.length < 512) :
    Calls Try.prog 16 #[.pointer (some ⟨lb, 0, none⟩), .agg #[.int .i64 o.f.x.frm, .int .i64 o.f.x.to, .int .i64 o.f.x.at_, .slice o.f.a o.f.x.bytes.length o.f.c]] W fun e w' => ∃ r : Int, e = .returned (.int .i64 r) ∧ (r == 6) = false ∧ Hid (ApS w w' p q lb mb lb' mb' (n + 1) (opL L 0 o) M a X ∧ Ob w' s o) := by
  refine (send_any W No lb mb n L hS.lk hn no_lt o.f hO.f.row hO.f.len).mono ?_
  rintro e w' ⟨rfl, H⟩
  exact ⟨_, rfl, by simpa using send_e hL, hS.off H.out.1 H.out.2, hB.off H.out.2 hS.lk.mb⟩
theorem ap_del0 {w W : World} {p q : Int} {lb mb lb' mb' n : Nat} {L M : List Fl} {a : Option Addr} {X : List OX} {o : OX} {s : Nat} (hS : ApS w W p q lb mb lb' mb' n L M a X) (hB : Ob W s o) (hO : CameO W o) (hn : n < 1000000000) (hL : L.length < 512) :
    Calls Try.prog 20 #[.pointer (some ⟨lb, 0, none⟩), .int .i64 o.f.x.frm, .int .i64 o.f.x.to, .int .i64 o.now, .int .i64 o.n] W fun e w' => ∃ v, e = .returned v ∧ Hid (ApS w w' p q lb mb lb' mb' (n + 1) (opL L 1 o) M a X ∧ Ob w' s o) := by
  refine (deliver_l W No lb mb n L hS.lk hn no_lt _ _ _ _ hO.f.i1 hO.f.i2).mono ?_
  rintro e w' ⟨v, rfl, H⟩
  exact ⟨_, rfl, hS.off H.out.1 H.out.2, hB.off H.out.2 hS.lk.mb⟩
theorem ap_lose0 {w W : World} {p q : Int} {lb mb lb' mb' n : Nat} {L M : List Fl} {a : Option Addr} {X : List OX} {o : OX} {s : Nat} (hS : ApS w W p q lb mb lb' mb' n L M a X) (hB : Ob W s o) (hO : CameO W o) (hn : n < 1000000000) (hL : L.length < 512) :
    Calls Try.prog 19 #[.pointer (some ⟨lb, 0, none⟩), .int .i64 o.f.x.frm, .int .i64 o.f.x.to, .int .i64 o.n] W fun e w' => ∃ v, e = .returned v ∧ Hid (ApS w w' p q lb mb lb' mb' (n + 1) (opL L 2 o) M a X ∧ Ob w' s o) := by
  refine (lose_any W No lb mb n L hS.lk hn no_lt _ _ _ hO.f.i1 hO.f.i2).mono ?_
  rintro e w' ⟨rfl, H⟩
  exact ⟨_, rfl, hS.off H.out.1 H.out.2, hB.off H.out.2 hS.lk.mb⟩
theorem ap_doub0 {w W : World} {p q : Int} {lb mb lb' mb' n : Nat} {L M : List Fl} {a : Option Addr} {X : List OX} {o : OX} {s : Nat} (hS : ApS w W p q lb mb lb' mb' n L M a X) (hB : Ob W s o) (hO : CameO W o) (hn : n < 1000000000) (hL : L.length < 512) :
    Calls Try.prog 17 #[.pointer (some ⟨lb, 0, none⟩), .int .i64 o.f.x.frm, .int .i64 o.f.x.to, .int .i64 o.n] W fun e w' => ∃ r : Int, e = .returned (.int .i64 r) ∧ (r == 6) = false ∧ Hid (ApS w w' p q lb mb lb' mb' (n + 1) (opL L 3 o) M a X ∧ Ob w' s o) := by
  refine (double_any W No lb mb n L hS.lk hn no_lt _ _ _ hO.f.i1 hO.f.i2).mono ?_
  rintro e w' ⟨rfl, H⟩
  exact ⟨_, rfl, by simpa using doub_e hL, hS.off H.out.1 H.out.2, hB.off H.out.2 hS.lk.mb⟩
theorem ap_cor0 {w W : World} {p q : Int} {lb mb lb' mb' n : Nat} {L M : List Fl} {a : Option Addr} {X : List OX} {o : OX} {s : Nat} (hS : ApS w W p q lb mb lb' mb' n L M a X) (hB : Ob W s o) (hO : CameO W o) (hn : n < 1000000000) (hL : L.length < 512) :
    Calls Try.prog 22 #[.pointer (some ⟨lb, 0, none⟩), .int .i64 o.f.x.frm, .int .i64 o.f.x.to, .int .i64 o.n, .int .i64 o.bit] W fun e w' => ∃ v, e = .returned v ∧ Hid (ApS w w' p q lb mb lb' mb' (n + 1) (opL L 4 o) M a X ∧ Ob w' s o) := by
  refine (corrupt_any W No lb mb n L hS.lk hn no_lt _ _ _ _ hO.f.i1 hO.f.i2).mono ?_
  rintro e w' ⟨rfl, H⟩
  exact ⟨_, rfl, hS.off H.out.1 H.out.2, hB.off H.out.2 hS.lk.mb⟩
theorem ap_send1 {w W : World} {p q : Int} {lb mb lb' mb' n : Nat} {L M : List Fl} {a : Option Addr} {X : List OX} {o : OX} {s : Nat} (hS : ApS w W p q lb mb lb' mb' n L M a X) (hB : Ob W s o) (hO : CameO W o) (hn : n < 1000000000) (hL : M.length < 512) :
    Calls Try.prog 16 #[.pointer (some ⟨lb', 0, none⟩), .agg #[.int .i64 o.f.x.frm, .int .i64 o.f.x.to, .int .i64 o.f.x.at_, .slice o.f.a o.f.x.bytes.length o.f.c]] W fun e w' => ∃ r : Int, e = .returned (.int .i64 r) ∧ (r == 6) = false ∧ Hid (ApS w w' p q lb mb lb' mb' (n + 1) L (opL M 0 o) a X ∧ Ob w' s o) := by
  refine (send_any W No lb' mb' n M hS.lk' hn no_lt o.f hO.f.row hO.f.len).mono ?_
  rintro e w' ⟨rfl, H⟩
  exact ⟨_, rfl, by simpa using send_e hL, hS.off' H.out.1 H.out.2, hB.off H.out.2 hS.lk'.mb⟩
theorem ap_del1 {w W : World} {p q : Int} {lb mb lb' mb' n : Nat} {L M : List Fl} {a : Option Addr} {X : List OX} {o : OX} {s : Nat} (hS : ApS w W p q lb mb lb' mb' n L M a X) (hB : Ob W s o) (hO : CameO W o) (hn : n < 1000000000) (hL : M.length < 512) :
    Calls Try.prog 20 #[.pointer (some ⟨lb', 0, none⟩), .int .i64 o.f.x.frm, .int .i64 o.f.x.to, .int .i64 o.now, .int .i64 o.n] W fun e w' => ∃ v, e = .returned v ∧ Hid (ApS w w' p q lb mb lb' mb' (n + 1) L (opL M 1 o) a X ∧ Ob w' s o) := by
  refine (deliver_l W No lb' mb' n M hS.lk' hn no_lt _ _ _ _ hO.f.i1 hO.f.i2).mono ?_
  rintro e w' ⟨v, rfl, H⟩
  exact ⟨_, rfl, hS.off' H.out.1 H.out.2, hB.off H.out.2 hS.lk'.mb⟩
theorem ap_lose1 {w W : World} {p q : Int} {lb mb lb' mb' n : Nat} {L M : List Fl} {a : Option Addr} {X : List OX} {o : OX} {s : Nat} (hS : ApS w W p q lb mb lb' mb' n L M a X) (hB : Ob W s o) (hO : CameO W o) (hn : n < 1000000000) (hL : M.length < 512) :
    Calls Try.prog 19 #[.pointer (some ⟨lb', 0, none⟩), .int .i64 o.f.x.frm, .int .i64 o.f.x.to, .int .i64 o.n] W fun e w' => ∃ v, e = .returned v ∧ Hid (ApS w w' p q lb mb lb' mb' (n + 1) L (opL M 2 o) a X ∧ Ob w' s o) := by
  refine (lose_any W No lb' mb' n M hS.lk' hn no_lt _ _ _ hO.f.i1 hO.f.i2).mono ?_
  rintro e w' ⟨rfl, H⟩
  exact ⟨_, rfl, hS.off' H.out.1 H.out.2, hB.off H.out.2 hS.lk'.mb⟩
theorem ap_doub1 {w W : World} {p q : Int} {lb mb lb' mb' n : Nat} {L M : List Fl} {a : Option Addr} {X : List OX} {o : OX} {s : Nat} (hS : ApS w W p q lb mb lb' mb' n L M a X) (hB : Ob W s o) (hO : CameO W o) (hn : n < 1000000000) (hL : M.length < 512) :
    Calls Try.prog 17 #[.pointer (some ⟨lb', 0, none⟩), .int .i64 o.f.x.frm, .int .i64 o.f.x.to, .int .i64 o.n] W fun e w' => ∃ r : Int, e = .returned (.int .i64 r) ∧ (r == 6) = false ∧ Hid (ApS w w' p q lb mb lb' mb' (n + 1) L (opL M 3 o) a X ∧ Ob w' s o) := by
  refine (double_any W No lb' mb' n M hS.lk' hn no_lt _ _ _ hO.f.i1 hO.f.i2).mono ?_
  rintro e w' ⟨rfl, H⟩
  exact ⟨_, rfl, by simpa using doub_e hL, hS.off' H.out.1 H.out.2, hB.off H.out.2 hS.lk'.mb⟩
theorem ap_cor1 {w W : World} {p q : Int} {lb mb lb' mb' n : Nat} {L M : List Fl} {a : Option Addr} {X : List OX} {o : OX} {s : Nat} (hS : ApS w W p q lb mb lb' mb' n L M a X) (hB : Ob W s o) (hO : CameO W o) (hn : n < 1000000000) (hL : M.length < 512) :
    Calls Try.prog 22 #[.pointer (some ⟨lb', 0, none⟩), .int .i64 o.f.x.frm, .int .i64 o.f.x.to, .int .i64 o.n, .int .i64 o.bit] W fun e w' => ∃ v, e = .returned v ∧ Hid (ApS w w' p q lb mb lb' mb' (n + 1) L (opL M 4 o) a X ∧ Ob w' s o) := by
  refine (corrupt_any W No lb' mb' n M hS.lk' hn no_lt _ _ _ _ hO.f.i1 hO.f.i2).mono ?_
  rintro e w' ⟨rfl, H⟩
  exact ⟨_, rfl, hS.off' H.out.1 H.out.2, hB.off H.out.2 hS.lk'.mb⟩
end Go.Proofs.Ytopfpdkknfjgoaa
