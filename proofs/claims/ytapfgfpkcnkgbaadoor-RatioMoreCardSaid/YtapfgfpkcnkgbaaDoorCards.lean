/-
  DERIVED. GIVEN WITH THE SEED: THE CARDS: each row of YtapfgfpkcnkgbaaDoorRows.lean that lists a variable, with what it lists TIED to the program's text (the seventh form; the later family's looks); each row that meets fmt, with fmt's text TOLD by the authors' own Lean function (tested against real Go, not proved from fmt's source: count such statements apart). THE CARD IS WHAT COUNTS. Prove the row's statement (the work); the ties are given (YtapfgfpkcnkgbaaDoorTie.lean); close each card by the builder's one call (the guide's Derived/Test/ToyasCard.lean, 'card_holds'). Laid BY PROGRAM, IN A SANDBOX (cutbox-door.mjs). By AI agents, Wed Nov 11 2026. No macro, syntax, notation, axiom, sorry.
-/
import Derived.Test.YtapfgfpkcnkgbaaDoorRows
import GoSem.ClaimSeven
namespace Go.Proofs.YtapfgfpkcnkgbaaDoor
namespace Rows

/-- THE TIED CARD OF 'highroadlaw02.RatioTexts'. -/
def ratioTextsCard : Claim7 := { stood := { row := ratioTextsRow, standIns := [], harness := (true, "f5bc1e310a8371303e4065670d6b15138a02316511b9d04ad2a8c901cf2da6da"), looks := false }, kinds := [], alts := [], laidByText := true, laidKinds := [.data, .data, .data], laidTests := true, laidLooks := .later }
def RatioTextsCardSaid : Prop := Claim7.holds Tryd.pinned (.plain (OpenSpec.ofChange ratioTextsSpec)) ratioTextsCard

/-- THE TIED CARD OF 'highroadlaw02.RatioOrder'. -/
def ratioOrderCard : Claim7 := { stood := { row := ratioOrderRow, standIns := [], harness := (true, "f5bc1e310a8371303e4065670d6b15138a02316511b9d04ad2a8c901cf2da6da"), looks := false }, kinds := [], alts := [], laidByText := true, laidKinds := [.data, .data, .data], laidTests := true, laidLooks := .later }
def RatioOrderCardSaid : Prop := Claim7.holds Tryd.pinned (.plain (OpenSpec.ofChange ratioOrderSpec)) ratioOrderCard

/-- THE TIED CARD OF 'highroadlaw02.RatioBounds'. -/
def ratioBoundsCard : Claim7 := { stood := { row := ratioBoundsRow, standIns := [], harness := (true, "f5bc1e310a8371303e4065670d6b15138a02316511b9d04ad2a8c901cf2da6da"), looks := false }, kinds := [], alts := [], laidByText := true, laidKinds := [.data, .data, .data], laidTests := true, laidLooks := .later }
def RatioBoundsCardSaid : Prop := Claim7.holds Tryd.pinned (.plain (OpenSpec.ofChange ratioBoundsSpec)) ratioBoundsCard

/-- THE TIED CARD OF 'highroadlaw02.RatioMore'. -/
def ratioMoreCard : Claim7 := { stood := { row := ratioMoreRow, standIns := [], harness := (true, "f5bc1e310a8371303e4065670d6b15138a02316511b9d04ad2a8c901cf2da6da"), looks := false }, kinds := [], alts := [], laidByText := true, laidKinds := [.data, .data, .data], laidTests := true, laidLooks := .later }
def RatioMoreCardSaid : Prop := Claim7.holds Tryd.pinned (.plain (OpenSpec.ofChange ratioMoreSpec)) ratioMoreCard

/-- THE SECOND FORM's CARD OF 'highroadlaw02.RatioTexts'. -/
def ratioTextsUptoCard : Claim7 := { stood := { row := ratioTextsUptoRow, standIns := [], harness := (true, "f5bc1e310a8371303e4065670d6b15138a02316511b9d04ad2a8c901cf2da6da"), looks := false }, kinds := [], alts := [], laidByText := true, laidKinds := [.data, .data, .data], laidTests := true, laidLooks := .later }
def RatioTextsUptoCardSaid : Prop := Claim7.holds Tryd.pinned (.plain (OpenSpec.upto ratioTextsSpec)) ratioTextsUptoCard

/-- THE SECOND FORM's CARD OF 'highroadlaw02.RatioOrder'. -/
def ratioOrderUptoCard : Claim7 := { stood := { row := ratioOrderUptoRow, standIns := [], harness := (true, "f5bc1e310a8371303e4065670d6b15138a02316511b9d04ad2a8c901cf2da6da"), looks := false }, kinds := [], alts := [], laidByText := true, laidKinds := [.data, .data, .data], laidTests := true, laidLooks := .later }
def RatioOrderUptoCardSaid : Prop := Claim7.holds Tryd.pinned (.plain (OpenSpec.upto ratioOrderSpec)) ratioOrderUptoCard

/-- THE SECOND FORM's CARD OF 'highroadlaw02.RatioBounds'. -/
def ratioBoundsUptoCard : Claim7 := { stood := { row := ratioBoundsUptoRow, standIns := [], harness := (true, "f5bc1e310a8371303e4065670d6b15138a02316511b9d04ad2a8c901cf2da6da"), looks := false }, kinds := [], alts := [], laidByText := true, laidKinds := [.data, .data, .data], laidTests := true, laidLooks := .later }
def RatioBoundsUptoCardSaid : Prop := Claim7.holds Tryd.pinned (.plain (OpenSpec.upto ratioBoundsSpec)) ratioBoundsUptoCard

/-- THE SECOND FORM's CARD OF 'highroadlaw02.RatioMore'. -/
def ratioMoreUptoCard : Claim7 := { stood := { row := ratioMoreUptoRow, standIns := [], harness := (true, "f5bc1e310a8371303e4065670d6b15138a02316511b9d04ad2a8c901cf2da6da"), looks := false }, kinds := [], alts := [], laidByText := true, laidKinds := [.data, .data, .data], laidTests := true, laidLooks := .later }
def RatioMoreUptoCardSaid : Prop := Claim7.holds Tryd.pinned (.plain (OpenSpec.upto ratioMoreSpec)) ratioMoreUptoCard
end Rows
end Go.Proofs.YtapfgfpkcnkgbaaDoor
