/-
  DERIVED. GIVEN WITH THE SEED: THE CARDS: each row of YtapafniekmfkaaaDoorRows.lean that lists a variable, with what it lists TIED to the program's text (the seventh form; the later family's looks); each row that meets fmt, with fmt's text TOLD by the authors' own Lean function (tested against real Go, not proved from fmt's source: count such statements apart). THE CARD IS WHAT COUNTS. Prove the row's statement (the work); the ties are given (YtapafniekmfkaaaDoorTie.lean); close each card by the builder's one call (the guide's Derived/Test/ToyasCard.lean, 'card_holds'). Laid BY PROGRAM, IN A SANDBOX (cutbox-door.mjs). By AI agents, Wed Nov 11 2026. No macro, syntax, notation, axiom, sorry.
-/
import Derived.Test.YtapafniekmfkaaaDoorRows
import GoSem.ClaimSeven
namespace Go.Proofs.YtapafniekmfkaaaDoor
namespace Rows

/-- THE TIED CARD OF 'safehouselaw05.TermEncodes'. -/
def termEncodesCard : Claim7 := { stood := { row := termEncodesRow, standIns := [], harness := (true, "133de11d4c4687b407dd9cf5befd0d9e5fe204741f74ac68f908dc7913021f61"), looks := true }, kinds := [], alts := [], laidByText := true, laidKinds := [.data], laidTests := true, laidLooks := .later }
def TermEncodesCardSaid : Prop := Claim7.holds Tryd.pinned (.plain (OpenSpec.ofChange termEncodesSpec)) termEncodesCard

/-- THE TIED CARD OF 'safehouselaw05.TermOrders'. -/
def termOrdersCard : Claim7 := { stood := { row := termOrdersRow, standIns := [], harness := (true, "133de11d4c4687b407dd9cf5befd0d9e5fe204741f74ac68f908dc7913021f61"), looks := true }, kinds := [], alts := [], laidByText := true, laidKinds := [.data], laidTests := true, laidLooks := .later }
def TermOrdersCardSaid : Prop := Claim7.holds Tryd.pinned (.plain (OpenSpec.ofChange termOrdersSpec)) termOrdersCard

/-- THE TIED CARD OF 'safehouselaw05.TermMakes'. -/
def termMakesCard : Claim7 := { stood := { row := termMakesRow, standIns := [], harness := (true, "133de11d4c4687b407dd9cf5befd0d9e5fe204741f74ac68f908dc7913021f61"), looks := true }, kinds := [], alts := [], laidByText := true, laidKinds := [.data], laidTests := true, laidLooks := .later }
def TermMakesCardSaid : Prop := Claim7.holds Tryd.pinned (.plain (OpenSpec.ofChange termMakesSpec)) termMakesCard

/-- THE TIED CARD OF 'safehouselaw05.TermBack'. -/
def termBackCard : Claim7 := { stood := { row := termBackRow, standIns := [], harness := (true, "133de11d4c4687b407dd9cf5befd0d9e5fe204741f74ac68f908dc7913021f61"), looks := true }, kinds := [], alts := [], laidByText := true, laidKinds := [.data], laidTests := true, laidLooks := .later }
def TermBackCardSaid : Prop := Claim7.holds Tryd.pinned (.plain (OpenSpec.ofChange termBackSpec)) termBackCard

/-- THE TIED CARD OF 'safehouselaw05.TermOne'. -/
def termOneCard : Claim7 := { stood := { row := termOneRow, standIns := [], harness := (true, "133de11d4c4687b407dd9cf5befd0d9e5fe204741f74ac68f908dc7913021f61"), looks := true }, kinds := [], alts := [], laidByText := true, laidKinds := [.data], laidTests := true, laidLooks := .later }
def TermOneCardSaid : Prop := Claim7.holds Tryd.pinned (.plain (OpenSpec.ofChange termOneSpec)) termOneCard

/-- THE TIED CARD OF 'safehouselaw05.TermLists'. -/
def termListsCard : Claim7 := { stood := { row := termListsRow, standIns := [], harness := (true, "133de11d4c4687b407dd9cf5befd0d9e5fe204741f74ac68f908dc7913021f61"), looks := true }, kinds := [], alts := [], laidByText := true, laidKinds := [.data], laidTests := true, laidLooks := .later }
def TermListsCardSaid : Prop := Claim7.holds Tryd.pinned (.plain (OpenSpec.ofChange termListsSpec)) termListsCard

/-- THE TIED CARD OF 'safehouselaw07.CloseCan'. -/
def closeCanCard : Claim7 := { stood := { row := closeCanRow, standIns := [], harness := (true, "133de11d4c4687b407dd9cf5befd0d9e5fe204741f74ac68f908dc7913021f61"), looks := true }, kinds := [], alts := [], laidByText := true, laidKinds := [.data], laidTests := true, laidLooks := .later }
def CloseCanCardSaid : Prop := Claim7.holds Tryd.pinned (.plain (OpenSpec.ofChange closeCanSpec)) closeCanCard

/-- THE TIED CARD OF 'safehouselaw07.CloseMore'. -/
def closeMoreCard : Claim7 := { stood := { row := closeMoreRow, standIns := [], harness := (true, "133de11d4c4687b407dd9cf5befd0d9e5fe204741f74ac68f908dc7913021f61"), looks := true }, kinds := [], alts := [], laidByText := true, laidKinds := [.data], laidTests := true, laidLooks := .later }
def CloseMoreCardSaid : Prop := Claim7.holds Tryd.pinned (.plain (OpenSpec.ofChange closeMoreSpec)) closeMoreCard

/-- THE TIED CARD OF 'safehouselaw07.CloseAtoms'. -/
def closeAtomsCard : Claim7 := { stood := { row := closeAtomsRow, standIns := [], harness := (true, "133de11d4c4687b407dd9cf5befd0d9e5fe204741f74ac68f908dc7913021f61"), looks := true }, kinds := [], alts := [], laidByText := true, laidKinds := [.data], laidTests := true, laidLooks := .later }
def CloseAtomsCardSaid : Prop := Claim7.holds Tryd.pinned (.plain (OpenSpec.ofChange closeAtomsSpec)) closeAtomsCard

/-- THE TIED CARD OF 'safehouselaw07.CloseKeeps'. -/
def closeKeepsCard : Claim7 := { stood := { row := closeKeepsRow, standIns := [], harness := (true, "133de11d4c4687b407dd9cf5befd0d9e5fe204741f74ac68f908dc7913021f61"), looks := true }, kinds := [], alts := [], laidByText := true, laidKinds := [.data], laidTests := true, laidLooks := .later }
def CloseKeepsCardSaid : Prop := Claim7.holds Tryd.pinned (.plain (OpenSpec.ofChange closeKeepsSpec)) closeKeepsCard

/-- THE SECOND FORM's CARD OF 'safehouselaw05.TermEncodes'. -/
def termEncodesUptoCard : Claim7 := { stood := { row := termEncodesUptoRow, standIns := [], harness := (true, "133de11d4c4687b407dd9cf5befd0d9e5fe204741f74ac68f908dc7913021f61"), looks := true }, kinds := [], alts := [], laidByText := true, laidKinds := [.data], laidTests := true, laidLooks := .later }
def TermEncodesUptoCardSaid : Prop := Claim7.holds Tryd.pinned (.plain (OpenSpec.upto termEncodesSpec)) termEncodesUptoCard

/-- THE SECOND FORM's CARD OF 'safehouselaw05.TermOrders'. -/
def termOrdersUptoCard : Claim7 := { stood := { row := termOrdersUptoRow, standIns := [], harness := (true, "133de11d4c4687b407dd9cf5befd0d9e5fe204741f74ac68f908dc7913021f61"), looks := true }, kinds := [], alts := [], laidByText := true, laidKinds := [.data], laidTests := true, laidLooks := .later }
def TermOrdersUptoCardSaid : Prop := Claim7.holds Tryd.pinned (.plain (OpenSpec.upto termOrdersSpec)) termOrdersUptoCard

/-- THE SECOND FORM's CARD OF 'safehouselaw05.TermMakes'. -/
def termMakesUptoCard : Claim7 := { stood := { row := termMakesUptoRow, standIns := [], harness := (true, "133de11d4c4687b407dd9cf5befd0d9e5fe204741f74ac68f908dc7913021f61"), looks := true }, kinds := [], alts := [], laidByText := true, laidKinds := [.data], laidTests := true, laidLooks := .later }
def TermMakesUptoCardSaid : Prop := Claim7.holds Tryd.pinned (.plain (OpenSpec.upto termMakesSpec)) termMakesUptoCard

/-- THE SECOND FORM's CARD OF 'safehouselaw05.TermBack'. -/
def termBackUptoCard : Claim7 := { stood := { row := termBackUptoRow, standIns := [], harness := (true, "133de11d4c4687b407dd9cf5befd0d9e5fe204741f74ac68f908dc7913021f61"), looks := true }, kinds := [], alts := [], laidByText := true, laidKinds := [.data], laidTests := true, laidLooks := .later }
def TermBackUptoCardSaid : Prop := Claim7.holds Tryd.pinned (.plain (OpenSpec.upto termBackSpec)) termBackUptoCard

/-- THE SECOND FORM's CARD OF 'safehouselaw05.TermOne'. -/
def termOneUptoCard : Claim7 := { stood := { row := termOneUptoRow, standIns := [], harness := (true, "133de11d4c4687b407dd9cf5befd0d9e5fe204741f74ac68f908dc7913021f61"), looks := true }, kinds := [], alts := [], laidByText := true, laidKinds := [.data], laidTests := true, laidLooks := .later }
def TermOneUptoCardSaid : Prop := Claim7.holds Tryd.pinned (.plain (OpenSpec.upto termOneSpec)) termOneUptoCard

/-- THE SECOND FORM's CARD OF 'safehouselaw05.TermLists'. -/
def termListsUptoCard : Claim7 := { stood := { row := termListsUptoRow, standIns := [], harness := (true, "133de11d4c4687b407dd9cf5befd0d9e5fe204741f74ac68f908dc7913021f61"), looks := true }, kinds := [], alts := [], laidByText := true, laidKinds := [.data], laidTests := true, laidLooks := .later }
def TermListsUptoCardSaid : Prop := Claim7.holds Tryd.pinned (.plain (OpenSpec.upto termListsSpec)) termListsUptoCard

/-- THE SECOND FORM's CARD OF 'safehouselaw07.CloseCan'. -/
def closeCanUptoCard : Claim7 := { stood := { row := closeCanUptoRow, standIns := [], harness := (true, "133de11d4c4687b407dd9cf5befd0d9e5fe204741f74ac68f908dc7913021f61"), looks := true }, kinds := [], alts := [], laidByText := true, laidKinds := [.data], laidTests := true, laidLooks := .later }
def CloseCanUptoCardSaid : Prop := Claim7.holds Tryd.pinned (.plain (OpenSpec.upto closeCanSpec)) closeCanUptoCard

/-- THE SECOND FORM's CARD OF 'safehouselaw07.CloseMore'. -/
def closeMoreUptoCard : Claim7 := { stood := { row := closeMoreUptoRow, standIns := [], harness := (true, "133de11d4c4687b407dd9cf5befd0d9e5fe204741f74ac68f908dc7913021f61"), looks := true }, kinds := [], alts := [], laidByText := true, laidKinds := [.data], laidTests := true, laidLooks := .later }
def CloseMoreUptoCardSaid : Prop := Claim7.holds Tryd.pinned (.plain (OpenSpec.upto closeMoreSpec)) closeMoreUptoCard

/-- THE SECOND FORM's CARD OF 'safehouselaw07.CloseAtoms'. -/
def closeAtomsUptoCard : Claim7 := { stood := { row := closeAtomsUptoRow, standIns := [], harness := (true, "133de11d4c4687b407dd9cf5befd0d9e5fe204741f74ac68f908dc7913021f61"), looks := true }, kinds := [], alts := [], laidByText := true, laidKinds := [.data], laidTests := true, laidLooks := .later }
def CloseAtomsUptoCardSaid : Prop := Claim7.holds Tryd.pinned (.plain (OpenSpec.upto closeAtomsSpec)) closeAtomsUptoCard

/-- THE SECOND FORM's CARD OF 'safehouselaw07.CloseKeeps'. -/
def closeKeepsUptoCard : Claim7 := { stood := { row := closeKeepsUptoRow, standIns := [], harness := (true, "133de11d4c4687b407dd9cf5befd0d9e5fe204741f74ac68f908dc7913021f61"), looks := true }, kinds := [], alts := [], laidByText := true, laidKinds := [.data], laidTests := true, laidLooks := .later }
def CloseKeepsUptoCardSaid : Prop := Claim7.holds Tryd.pinned (.plain (OpenSpec.upto closeKeepsSpec)) closeKeepsUptoCard
end Rows
end Go.Proofs.YtapafniekmfkaaaDoor
