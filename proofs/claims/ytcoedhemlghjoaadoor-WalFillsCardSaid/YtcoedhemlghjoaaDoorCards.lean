/-
  DERIVED. GIVEN WITH THE SEED: THE CARDS: each row of YtcoedhemlghjoaaDoorRows.lean that lists a variable, with what it lists TIED to the program's text (the seventh form; the later family's looks); each row that meets fmt, with fmt's text TOLD by the authors' own Lean function (tested against real Go, not proved from fmt's source: count such statements apart). THE CARD IS WHAT COUNTS. Prove the row's statement (the work); the ties are given (YtcoedhemlghjoaaDoorTie.lean); close each card by the builder's one call (the guide's Derived/Test/ToyasCard.lean, 'card_holds'). Laid BY PROGRAM, IN A SANDBOX (cutbox-door.mjs). By AI agents, Wed Nov 11 2026. No macro, syntax, notation, axiom, sorry.
-/
import Derived.Test.YtcoedhemlghjoaaDoorRows
import GoSem.ClaimSeven
namespace Go.Proofs.YtcoedhemlghjoaaDoor
namespace Rows

/-- THE TIED CARD OF 'safehouselaw04.WalFills'. -/
def walFillsCard : Claim7 := { stood := { row := walFillsRow, standIns := [], harness := (true, "8157a06d1a68f2a34f2b49508c7f02aa68a639964053e180c9496e39b79e06f3"), looks := false }, kinds := [], alts := [], laidByText := true, laidKinds := [.data, .data], laidTests := true, laidLooks := .later }
def WalFillsCardSaid : Prop := Claim7.holds Tryd.pinned (.plain (OpenSpec.ofChange walFillsSpec)) walFillsCard

/-- THE SECOND FORM's CARD OF 'safehouselaw04.WalFills'. -/
def walFillsUptoCard : Claim7 := { stood := { row := walFillsUptoRow, standIns := [], harness := (true, "8157a06d1a68f2a34f2b49508c7f02aa68a639964053e180c9496e39b79e06f3"), looks := false }, kinds := [], alts := [], laidByText := true, laidKinds := [.data, .data], laidTests := true, laidLooks := .later }
def WalFillsUptoCardSaid : Prop := Claim7.holds Tryd.pinned (.plain (OpenSpec.upto walFillsSpec)) walFillsUptoCard
end Rows
end Go.Proofs.YtcoedhemlghjoaaDoor
