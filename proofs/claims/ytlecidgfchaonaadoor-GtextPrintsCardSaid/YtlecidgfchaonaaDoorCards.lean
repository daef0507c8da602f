/-
  DERIVED. GIVEN WITH THE SEED: THE CARDS: each row of YtlecidgfchaonaaDoorRows.lean that lists a variable, with what it lists TIED to the program's text (the seventh form; the later family's looks); each row that meets fmt, with fmt's text TOLD by the authors' own Lean function (tested against real Go, not proved from fmt's source: count such statements apart). THE CARD IS WHAT COUNTS. Prove the row's statement (the work); the ties are given (YtlecidgfchaonaaDoorTie.lean); close each card by the builder's one call (the guide's Derived/Test/ToyasCard.lean, 'card_holds'). Laid BY PROGRAM, IN A SANDBOX (cutbox-door.mjs). By AI agents, Wed Nov 11 2026. No macro, syntax, notation, axiom, sorry.
-/
import Derived.Test.YtlecidgfchaonaaDoorRows
import GoSem.ClaimSeven
namespace Go.Proofs.YtlecidgfchaonaaDoor
namespace Rows

/-- THE TIED CARD OF 'highroadlaw06.GtextPrints'. -/
def gtextPrintsCard : Claim7 := { stood := { row := gtextPrintsRow, standIns := [], harness := (true, "5e4ced1a8ebc2442467c29481e7775a38b05e9650375fabd870f5301e221f7bf"), looks := false }, kinds := [], alts := [], laidByText := true, laidKinds := [.data, .data, .data], laidTests := true, laidLooks := .later }
def GtextPrintsCardSaid : Prop := Claim7.holds Tryd.pinned (.plain (OpenSpec.ofChange gtextPrintsSpec)) gtextPrintsCard

/-- THE TIED CARD OF 'highroadlaw06.GtextParses'. -/
def gtextParsesCard : Claim7 := { stood := { row := gtextParsesRow, standIns := [], harness := (true, "5e4ced1a8ebc2442467c29481e7775a38b05e9650375fabd870f5301e221f7bf"), looks := false }, kinds := [], alts := [], laidByText := true, laidKinds := [.data, .data, .data], laidTests := true, laidLooks := .later }
def GtextParsesCardSaid : Prop := Claim7.holds Tryd.pinned (.plain (OpenSpec.ofChange gtextParsesSpec)) gtextParsesCard

/-- THE TIED CARD OF 'highroadlaw06.GtextBack'. -/
def gtextBackCard : Claim7 := { stood := { row := gtextBackRow, standIns := [], harness := (true, "5e4ced1a8ebc2442467c29481e7775a38b05e9650375fabd870f5301e221f7bf"), looks := false }, kinds := [], alts := [], laidByText := true, laidKinds := [.data, .data, .data], laidTests := true, laidLooks := .later }
def GtextBackCardSaid : Prop := Claim7.holds Tryd.pinned (.plain (OpenSpec.ofChange gtextBackSpec)) gtextBackCard

/-- THE SECOND FORM's CARD OF 'highroadlaw06.GtextPrints'. -/
def gtextPrintsUptoCard : Claim7 := { stood := { row := gtextPrintsUptoRow, standIns := [], harness := (true, "5e4ced1a8ebc2442467c29481e7775a38b05e9650375fabd870f5301e221f7bf"), looks := false }, kinds := [], alts := [], laidByText := true, laidKinds := [.data, .data, .data], laidTests := true, laidLooks := .later }
def GtextPrintsUptoCardSaid : Prop := Claim7.holds Tryd.pinned (.plain (OpenSpec.upto gtextPrintsSpec)) gtextPrintsUptoCard

/-- THE SECOND FORM's CARD OF 'highroadlaw06.GtextParses'. -/
def gtextParsesUptoCard : Claim7 := { stood := { row := gtextParsesUptoRow, standIns := [], harness := (true, "5e4ced1a8ebc2442467c29481e7775a38b05e9650375fabd870f5301e221f7bf"), looks := false }, kinds := [], alts := [], laidByText := true, laidKinds := [.data, .data, .data], laidTests := true, laidLooks := .later }
def GtextParsesUptoCardSaid : Prop := Claim7.holds Tryd.pinned (.plain (OpenSpec.upto gtextParsesSpec)) gtextParsesUptoCard

/-- THE SECOND FORM's CARD OF 'highroadlaw06.GtextBack'. -/
def gtextBackUptoCard : Claim7 := { stood := { row := gtextBackUptoRow, standIns := [], harness := (true, "5e4ced1a8ebc2442467c29481e7775a38b05e9650375fabd870f5301e221f7bf"), looks := false }, kinds := [], alts := [], laidByText := true, laidKinds := [.data, .data, .data], laidTests := true, laidLooks := .later }
def GtextBackUptoCardSaid : Prop := Claim7.holds Tryd.pinned (.plain (OpenSpec.upto gtextBackSpec)) gtextBackUptoCard
end Rows
end Go.Proofs.YtlecidgfchaonaaDoor
