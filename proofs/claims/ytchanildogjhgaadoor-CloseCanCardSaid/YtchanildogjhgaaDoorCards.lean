/-
  DERIVED. GIVEN WITH THE SEED: THE CARDS: each row of YtchanildogjhgaaDoorRows.lean that lists a variable, with what it lists TIED to the program's text (the seventh form; the later family's looks); each row that meets fmt, with fmt's text TOLD by the authors' own Lean function (tested against real Go, not proved from fmt's source: count such statements apart). THE CARD IS WHAT COUNTS. Prove the row's statement (the work); the ties are given (YtchanildogjhgaaDoorTie.lean); close each card by the builder's one call (the guide's Derived/Test/ToyasCard.lean, 'card_holds'). Laid BY PROGRAM, IN A SANDBOX (cutbox-door.mjs). By AI agents, Wed Nov 11 2026. No macro, syntax, notation, axiom, sorry.
-/
import Derived.Test.YtchanildogjhgaaDoorRows
import GoSem.ClaimSeven
namespace Go.Proofs.YtchanildogjhgaaDoor
namespace Rows

/-- THE TIED CARD OF 'safehouselaw05.TermMakes'. -/
def termMakesCard : Claim7 := { stood := { row := termMakesRow, standIns := [], harness := (true, "6e02c29408a9d7d83ebef3957a9c196a38e1c7d592171301fc7cf13528ce221c"), looks := true }, kinds := [], alts := [], laidByText := true, laidKinds := [.data], laidTests := true, laidLooks := .later }
def TermMakesCardSaid : Prop := Claim7.holds Tryd.pinned (.plain (OpenSpec.ofChange termMakesSpec)) termMakesCard

/-- THE TIED CARD OF 'safehouselaw05.TermLists'. -/
def termListsCard : Claim7 := { stood := { row := termListsRow, standIns := [], harness := (true, "6e02c29408a9d7d83ebef3957a9c196a38e1c7d592171301fc7cf13528ce221c"), looks := true }, kinds := [], alts := [], laidByText := true, laidKinds := [.data], laidTests := true, laidLooks := .later }
def TermListsCardSaid : Prop := Claim7.holds Tryd.pinned (.plain (OpenSpec.ofChange termListsSpec)) termListsCard

/-- THE TIED CARD OF 'safehouselaw07.CloseCan'. -/
def closeCanCard : Claim7 := { stood := { row := closeCanRow, standIns := [], harness := (true, "6e02c29408a9d7d83ebef3957a9c196a38e1c7d592171301fc7cf13528ce221c"), looks := true }, kinds := [], alts := [], laidByText := true, laidKinds := [.data], laidTests := true, laidLooks := .later }
def CloseCanCardSaid : Prop := Claim7.holds Tryd.pinned (.plain (OpenSpec.ofChange closeCanSpec)) closeCanCard

/-- THE TIED CARD OF 'safehouselaw07.CloseMore'. -/
def closeMoreCard : Claim7 := { stood := { row := closeMoreRow, standIns := [], harness := (true, "6e02c29408a9d7d83ebef3957a9c196a38e1c7d592171301fc7cf13528ce221c"), looks := true }, kinds := [], alts := [], laidByText := true, laidKinds := [.data], laidTests := true, laidLooks := .later }
def CloseMoreCardSaid : Prop := Claim7.holds Tryd.pinned (.plain (OpenSpec.ofChange closeMoreSpec)) closeMoreCard

/-- THE TIED CARD OF 'safehouselaw07.CloseAtoms'. -/
def closeAtomsCard : Claim7 := { stood := { row := closeAtomsRow, standIns := [], harness := (true, "6e02c29408a9d7d83ebef3957a9c196a38e1c7d592171301fc7cf13528ce221c"), looks := true }, kinds := [], alts := [], laidByText := true, laidKinds := [.data], laidTests := true, laidLooks := .later }
def CloseAtomsCardSaid : Prop := Claim7.holds Tryd.pinned (.plain (OpenSpec.ofChange closeAtomsSpec)) closeAtomsCard

/-- THE TIED CARD OF 'safehouselaw07.CloseKeeps'. -/
def closeKeepsCard : Claim7 := { stood := { row := closeKeepsRow, standIns := [], harness := (true, "6e02c29408a9d7d83ebef3957a9c196a38e1c7d592171301fc7cf13528ce221c"), looks := true }, kinds := [], alts := [], laidByText := true, laidKinds := [.data], laidTests := true, laidLooks := .later }
def CloseKeepsCardSaid : Prop := Claim7.holds Tryd.pinned (.plain (OpenSpec.ofChange closeKeepsSpec)) closeKeepsCard

/-- THE TIED CARD OF 'safehouselaw09.RegressStates'. -/
def regressStatesCard : Claim7 := { stood := { row := regressStatesRow, standIns := [], harness := (true, "6e02c29408a9d7d83ebef3957a9c196a38e1c7d592171301fc7cf13528ce221c"), looks := true }, kinds := [], alts := [], laidByText := true, laidKinds := [.data], laidTests := true, laidLooks := .later }
def RegressStatesCardSaid : Prop := Claim7.holds Tryd.pinned (.plain (OpenSpec.ofChange regressStatesSpec)) regressStatesCard

/-- THE TIED CARD OF 'safehouselaw09.RegressKeys'. -/
def regressKeysCard : Claim7 := { stood := { row := regressKeysRow, standIns := [], harness := (true, "6e02c29408a9d7d83ebef3957a9c196a38e1c7d592171301fc7cf13528ce221c"), looks := true }, kinds := [], alts := [], laidByText := true, laidKinds := [.data], laidTests := true, laidLooks := .later }
def RegressKeysCardSaid : Prop := Claim7.holds Tryd.pinned (.plain (OpenSpec.ofChange regressKeysSpec)) regressKeysCard

/-- THE TIED CARD OF 'safehouselaw09.RegressBack'. -/
def regressBackCard : Claim7 := { stood := { row := regressBackRow, standIns := [], harness := (true, "6e02c29408a9d7d83ebef3957a9c196a38e1c7d592171301fc7cf13528ce221c"), looks := true }, kinds := [], alts := [], laidByText := true, laidKinds := [.data], laidTests := true, laidLooks := .later }
def RegressBackCardSaid : Prop := Claim7.holds Tryd.pinned (.plain (OpenSpec.ofChange regressBackSpec)) regressBackCard

/-- THE TIED CARD OF 'safehouselaw09.RegressSecrets'. -/
def regressSecretsCard : Claim7 := { stood := { row := regressSecretsRow, standIns := [], harness := (true, "6e02c29408a9d7d83ebef3957a9c196a38e1c7d592171301fc7cf13528ce221c"), looks := true }, kinds := [], alts := [], laidByText := true, laidKinds := [.data], laidTests := true, laidLooks := .later }
def RegressSecretsCardSaid : Prop := Claim7.holds Tryd.pinned (.plain (OpenSpec.ofChange regressSecretsSpec)) regressSecretsCard

/-- THE SECOND FORM's CARD OF 'safehouselaw05.TermMakes'. -/
def termMakesUptoCard : Claim7 := { stood := { row := termMakesUptoRow, standIns := [], harness := (true, "6e02c29408a9d7d83ebef3957a9c196a38e1c7d592171301fc7cf13528ce221c"), looks := true }, kinds := [], alts := [], laidByText := true, laidKinds := [.data], laidTests := true, laidLooks := .later }
def TermMakesUptoCardSaid : Prop := Claim7.holds Tryd.pinned (.plain (OpenSpec.upto termMakesSpec)) termMakesUptoCard

/-- THE SECOND FORM's CARD OF 'safehouselaw05.TermLists'. -/
def termListsUptoCard : Claim7 := { stood := { row := termListsUptoRow, standIns := [], harness := (true, "6e02c29408a9d7d83ebef3957a9c196a38e1c7d592171301fc7cf13528ce221c"), looks := true }, kinds := [], alts := [], laidByText := true, laidKinds := [.data], laidTests := true, laidLooks := .later }
def TermListsUptoCardSaid : Prop := Claim7.holds Tryd.pinned (.plain (OpenSpec.upto termListsSpec)) termListsUptoCard

/-- THE SECOND FORM's CARD OF 'safehouselaw07.CloseCan'. -/
def closeCanUptoCard : Claim7 := { stood := { row := closeCanUptoRow, standIns := [], harness := (true, "6e02c29408a9d7d83ebef3957a9c196a38e1c7d592171301fc7cf13528ce221c"), looks := true }, kinds := [], alts := [], laidByText := true, laidKinds := [.data], laidTests := true, laidLooks := .later }
def CloseCanUptoCardSaid : Prop := Claim7.holds Tryd.pinned (.plain (OpenSpec.upto closeCanSpec)) closeCanUptoCard

/-- THE SECOND FORM's CARD OF 'safehouselaw07.CloseMore'. -/
def closeMoreUptoCard : Claim7 := { stood := { row := closeMoreUptoRow, standIns := [], harness := (true, "6e02c29408a9d7d83ebef3957a9c196a38e1c7d592171301fc7cf13528ce221c"), looks := true }, kinds := [], alts := [], laidByText := true, laidKinds := [.data], laidTests := true, laidLooks := .later }
def CloseMoreUptoCardSaid : Prop := Claim7.holds Tryd.pinned (.plain (OpenSpec.upto closeMoreSpec)) closeMoreUptoCard

/-- THE SECOND FORM's CARD OF 'safehouselaw07.CloseAtoms'. -/
def closeAtomsUptoCard : Claim7 := { stood := { row := closeAtomsUptoRow, standIns := [], harness := (true, "6e02c29408a9d7d83ebef3957a9c196a38e1c7d592171301fc7cf13528ce221c"), looks := true }, kinds := [], alts := [], laidByText := true, laidKinds := [.data], laidTests := true, laidLooks := .later }
def CloseAtomsUptoCardSaid : Prop := Claim7.holds Tryd.pinned (.plain (OpenSpec.upto closeAtomsSpec)) closeAtomsUptoCard

/-- THE SECOND FORM's CARD OF 'safehouselaw07.CloseKeeps'. -/
def closeKeepsUptoCard : Claim7 := { stood := { row := closeKeepsUptoRow, standIns := [], harness := (true, "6e02c29408a9d7d83ebef3957a9c196a38e1c7d592171301fc7cf13528ce221c"), looks := true }, kinds := [], alts := [], laidByText := true, laidKinds := [.data], laidTests := true, laidLooks := .later }
def CloseKeepsUptoCardSaid : Prop := Claim7.holds Tryd.pinned (.plain (OpenSpec.upto closeKeepsSpec)) closeKeepsUptoCard

/-- THE SECOND FORM's CARD OF 'safehouselaw09.RegressStates'. -/
def regressStatesUptoCard : Claim7 := { stood := { row := regressStatesUptoRow, standIns := [], harness := (true, "6e02c29408a9d7d83ebef3957a9c196a38e1c7d592171301fc7cf13528ce221c"), looks := true }, kinds := [], alts := [], laidByText := true, laidKinds := [.data], laidTests := true, laidLooks := .later }
def RegressStatesUptoCardSaid : Prop := Claim7.holds Tryd.pinned (.plain (OpenSpec.upto regressStatesSpec)) regressStatesUptoCard

/-- THE SECOND FORM's CARD OF 'safehouselaw09.RegressKeys'. -/
def regressKeysUptoCard : Claim7 := { stood := { row := regressKeysUptoRow, standIns := [], harness := (true, "6e02c29408a9d7d83ebef3957a9c196a38e1c7d592171301fc7cf13528ce221c"), looks := true }, kinds := [], alts := [], laidByText := true, laidKinds := [.data], laidTests := true, laidLooks := .later }
def RegressKeysUptoCardSaid : Prop := Claim7.holds Tryd.pinned (.plain (OpenSpec.upto regressKeysSpec)) regressKeysUptoCard

/-- THE SECOND FORM's CARD OF 'safehouselaw09.RegressBack'. -/
def regressBackUptoCard : Claim7 := { stood := { row := regressBackUptoRow, standIns := [], harness := (true, "6e02c29408a9d7d83ebef3957a9c196a38e1c7d592171301fc7cf13528ce221c"), looks := true }, kinds := [], alts := [], laidByText := true, laidKinds := [.data], laidTests := true, laidLooks := .later }
def RegressBackUptoCardSaid : Prop := Claim7.holds Tryd.pinned (.plain (OpenSpec.upto regressBackSpec)) regressBackUptoCard

/-- THE SECOND FORM's CARD OF 'safehouselaw09.RegressSecrets'. -/
def regressSecretsUptoCard : Claim7 := { stood := { row := regressSecretsUptoRow, standIns := [], harness := (true, "6e02c29408a9d7d83ebef3957a9c196a38e1c7d592171301fc7cf13528ce221c"), looks := true }, kinds := [], alts := [], laidByText := true, laidKinds := [.data], laidTests := true, laidLooks := .later }
def RegressSecretsUptoCardSaid : Prop := Claim7.holds Tryd.pinned (.plain (OpenSpec.upto regressSecretsSpec)) regressSecretsUptoCard
end Rows
end Go.Proofs.YtchanildogjhgaaDoor
