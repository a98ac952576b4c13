/-
  DERIVED. GIVEN WITH THE SEED: THE CARDS: each row of YthjemjclpjmomaaDoorRows.lean that lists a variable, with what it lists TIED to the program's text (the seventh form; the later family's looks); each row that meets fmt, with fmt's text TOLD by the authors' own Lean function (tested against real Go, not proved from fmt's source: count such statements apart). THE CARD IS WHAT COUNTS. Prove the row's statement (the work); the ties are given (YthjemjclpjmomaaDoorTie.lean); close each card by the builder's one call (the guide's Derived/Test/ToyasCard.lean, 'card_holds'). Laid BY PROGRAM, IN A SANDBOX (cutbox-door.mjs). By AI agents, Wed Nov 11 2026. No macro, syntax, notation, axiom, sorry.
-/
import Derived.Test.YthjemjclpjmomaaDoorRows
import GoSem.ClaimSeven
namespace Go.Proofs.YthjemjclpjmomaaDoor
namespace Rows

/-- THE TIED CARD OF 'heliographlaw07.CborEncodes'. -/
def cborEncodesCard : Claim7 := { stood := { row := cborEncodesRow, standIns := [], harness := (true, "a28aaa136b1faca661f2a0530f2c0ecd000da8f5328cb2a36839bed83608b27d"), looks := false }, kinds := [], alts := [], laidByText := true, laidKinds := [.data, .pinned], laidTests := true, laidLooks := .later }
def CborEncodesCardSaid : Prop := Claim7.holds Tryd.pinned (.plain (OpenSpec.ofChange cborEncodesSpec)) cborEncodesCard

/-- THE TIED CARD OF 'heliographlaw07.CborMakes'. -/
def cborMakesCard : Claim7 := { stood := { row := cborMakesRow, standIns := [], harness := (true, "a28aaa136b1faca661f2a0530f2c0ecd000da8f5328cb2a36839bed83608b27d"), looks := false }, kinds := [], alts := [], laidByText := true, laidKinds := [.data, .pinned], laidTests := true, laidLooks := .later }
def CborMakesCardSaid : Prop := Claim7.holds Tryd.pinned (.plain (OpenSpec.ofChange cborMakesSpec)) cborMakesCard

/-- THE TIED CARD OF 'heliographlaw07.CborBack'. -/
def cborBackCard : Claim7 := { stood := { row := cborBackRow, standIns := [], harness := (true, "a28aaa136b1faca661f2a0530f2c0ecd000da8f5328cb2a36839bed83608b27d"), looks := false }, kinds := [], alts := [], laidByText := true, laidKinds := [.data, .pinned], laidTests := true, laidLooks := .later }
def CborBackCardSaid : Prop := Claim7.holds Tryd.pinned (.plain (OpenSpec.ofChange cborBackSpec)) cborBackCard

/-- THE TIED CARD OF 'heliographlaw07.CborTwo'. -/
def cborTwoCard : Claim7 := { stood := { row := cborTwoRow, standIns := [], harness := (true, "a28aaa136b1faca661f2a0530f2c0ecd000da8f5328cb2a36839bed83608b27d"), looks := false }, kinds := [], alts := [], laidByText := true, laidKinds := [.data, .pinned], laidTests := true, laidLooks := .later }
def CborTwoCardSaid : Prop := Claim7.holds Tryd.pinned (.plain (OpenSpec.ofChange cborTwoSpec)) cborTwoCard

/-- THE SECOND FORM's CARD OF 'heliographlaw07.CborEncodes'. -/
def cborEncodesUptoCard : Claim7 := { stood := { row := cborEncodesUptoRow, standIns := [], harness := (true, "a28aaa136b1faca661f2a0530f2c0ecd000da8f5328cb2a36839bed83608b27d"), looks := false }, kinds := [], alts := [], laidByText := true, laidKinds := [.data, .pinned], laidTests := true, laidLooks := .later }
def CborEncodesUptoCardSaid : Prop := Claim7.holds Tryd.pinned (.plain (OpenSpec.upto cborEncodesSpec)) cborEncodesUptoCard

/-- THE SECOND FORM's CARD OF 'heliographlaw07.CborMakes'. -/
def cborMakesUptoCard : Claim7 := { stood := { row := cborMakesUptoRow, standIns := [], harness := (true, "a28aaa136b1faca661f2a0530f2c0ecd000da8f5328cb2a36839bed83608b27d"), looks := false }, kinds := [], alts := [], laidByText := true, laidKinds := [.data, .pinned], laidTests := true, laidLooks := .later }
def CborMakesUptoCardSaid : Prop := Claim7.holds Tryd.pinned (.plain (OpenSpec.upto cborMakesSpec)) cborMakesUptoCard

/-- THE SECOND FORM's CARD OF 'heliographlaw07.CborBack'. -/
def cborBackUptoCard : Claim7 := { stood := { row := cborBackUptoRow, standIns := [], harness := (true, "a28aaa136b1faca661f2a0530f2c0ecd000da8f5328cb2a36839bed83608b27d"), looks := false }, kinds := [], alts := [], laidByText := true, laidKinds := [.data, .pinned], laidTests := true, laidLooks := .later }
def CborBackUptoCardSaid : Prop := Claim7.holds Tryd.pinned (.plain (OpenSpec.upto cborBackSpec)) cborBackUptoCard

/-- THE SECOND FORM's CARD OF 'heliographlaw07.CborTwo'. -/
def cborTwoUptoCard : Claim7 := { stood := { row := cborTwoUptoRow, standIns := [], harness := (true, "a28aaa136b1faca661f2a0530f2c0ecd000da8f5328cb2a36839bed83608b27d"), looks := false }, kinds := [], alts := [], laidByText := true, laidKinds := [.data, .pinned], laidTests := true, laidLooks := .later }
def CborTwoUptoCardSaid : Prop := Claim7.holds Tryd.pinned (.plain (OpenSpec.upto cborTwoSpec)) cborTwoUptoCard
end Rows
end Go.Proofs.YthjemjclpjmomaaDoor
