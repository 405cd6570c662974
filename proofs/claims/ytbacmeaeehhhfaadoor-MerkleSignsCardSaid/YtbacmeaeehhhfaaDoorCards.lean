/-
  DERIVED. GIVEN WITH THE SEED: THE CARDS: each row of YtbacmeaeehhhfaaDoorRows.lean that lists a variable, with what it lists TIED to the program's text (the seventh form; the later family's looks); each row that meets fmt, with fmt's text TOLD by the authors' own Lean function (tested against real Go, not proved from fmt's source: count such statements apart). THE CARD IS WHAT COUNTS. Prove the row's statement (the work); the ties are given (YtbacmeaeehhhfaaDoorTie.lean); close each card by the builder's one call (the guide's Derived/Test/ToyasCard.lean, 'card_holds'). Laid BY PROGRAM, IN A SANDBOX (cutbox-door.mjs). By AI agents, Wed Nov 11 2026. No macro, syntax, notation, axiom, sorry.
-/
import Derived.Test.YtbacmeaeehhhfaaDoorRows
import GoSem.ClaimSeven
namespace Go.Proofs.YtbacmeaeehhhfaaDoor
namespace Rows

/-- THE TIED CARD OF 'safehouselaw08.MerkleTrees'. -/
def merkleTreesCard : Claim7 := { stood := { row := merkleTreesRow, standIns := [], harness := (true, "2f4cd7b5b8adc368c9f6128f3590370d56228937b2dca14ff7601829c9f81a1f"), looks := false }, kinds := [], alts := [], laidByText := true, laidKinds := [.data, .data], laidTests := true, laidLooks := .later }
def MerkleTreesCardSaid : Prop := Claim7.holds Tryd.pinned (.plain (OpenSpec.ofChange merkleTreesSpec)) merkleTreesCard

/-- THE TIED CARD OF 'safehouselaw08.MerkleClimbs'. -/
def merkleClimbsCard : Claim7 := { stood := { row := merkleClimbsRow, standIns := [], harness := (true, "2f4cd7b5b8adc368c9f6128f3590370d56228937b2dca14ff7601829c9f81a1f"), looks := false }, kinds := [], alts := [], laidByText := true, laidKinds := [.data, .data], laidTests := true, laidLooks := .later }
def MerkleClimbsCardSaid : Prop := Claim7.holds Tryd.pinned (.plain (OpenSpec.ofChange merkleClimbsSpec)) merkleClimbsCard

/-- THE TIED CARD OF 'safehouselaw08.MerkleSigns'. -/
def merkleSignsCard : Claim7 := { stood := { row := merkleSignsRow, standIns := [], harness := (true, "2f4cd7b5b8adc368c9f6128f3590370d56228937b2dca14ff7601829c9f81a1f"), looks := false }, kinds := [], alts := [], laidByText := true, laidKinds := [.data, .data], laidTests := true, laidLooks := .later }
def MerkleSignsCardSaid : Prop := Claim7.holds Tryd.pinned (.plain (OpenSpec.ofChange merkleSignsSpec)) merkleSignsCard

/-- THE TIED CARD OF 'safehouselaw08.MerkleBytes'. -/
def merkleBytesCard : Claim7 := { stood := { row := merkleBytesRow, standIns := [], harness := (true, "2f4cd7b5b8adc368c9f6128f3590370d56228937b2dca14ff7601829c9f81a1f"), looks := false }, kinds := [], alts := [], laidByText := true, laidKinds := [.data, .data], laidTests := true, laidLooks := .later }
def MerkleBytesCardSaid : Prop := Claim7.holds Tryd.pinned (.plain (OpenSpec.ofChange merkleBytesSpec)) merkleBytesCard

/-- THE TIED CARD OF 'safehouselaw08.MerkleVerifies'. -/
def merkleVerifiesCard : Claim7 := { stood := { row := merkleVerifiesRow, standIns := [], harness := (true, "2f4cd7b5b8adc368c9f6128f3590370d56228937b2dca14ff7601829c9f81a1f"), looks := false }, kinds := [], alts := [], laidByText := true, laidKinds := [.data, .data], laidTests := true, laidLooks := .later }
def MerkleVerifiesCardSaid : Prop := Claim7.holds Tryd.pinned (.plain (OpenSpec.ofChange merkleVerifiesSpec)) merkleVerifiesCard

/-- THE TIED CARD OF 'safehouselaw08.MerkleLeads'. -/
def merkleLeadsCard : Claim7 := { stood := { row := merkleLeadsRow, standIns := [], harness := (true, "2f4cd7b5b8adc368c9f6128f3590370d56228937b2dca14ff7601829c9f81a1f"), looks := false }, kinds := [], alts := [], laidByText := true, laidKinds := [.data, .data], laidTests := true, laidLooks := .later }
def MerkleLeadsCardSaid : Prop := Claim7.holds Tryd.pinned (.plain (OpenSpec.ofChange merkleLeadsSpec)) merkleLeadsCard

/-- THE TIED CARD OF 'safehouselaw08.MerkleBack'. -/
def merkleBackCard : Claim7 := { stood := { row := merkleBackRow, standIns := [], harness := (true, "2f4cd7b5b8adc368c9f6128f3590370d56228937b2dca14ff7601829c9f81a1f"), looks := false }, kinds := [], alts := [], laidByText := true, laidKinds := [.data, .data], laidTests := true, laidLooks := .later }
def MerkleBackCardSaid : Prop := Claim7.holds Tryd.pinned (.plain (OpenSpec.ofChange merkleBackSpec)) merkleBackCard

/-- THE SECOND FORM's CARD OF 'safehouselaw08.MerkleTrees'. -/
def merkleTreesUptoCard : Claim7 := { stood := { row := merkleTreesUptoRow, standIns := [], harness := (true, "2f4cd7b5b8adc368c9f6128f3590370d56228937b2dca14ff7601829c9f81a1f"), looks := false }, kinds := [], alts := [], laidByText := true, laidKinds := [.data, .data], laidTests := true, laidLooks := .later }
def MerkleTreesUptoCardSaid : Prop := Claim7.holds Tryd.pinned (.plain (OpenSpec.upto merkleTreesSpec)) merkleTreesUptoCard

/-- THE SECOND FORM's CARD OF 'safehouselaw08.MerkleClimbs'. -/
def merkleClimbsUptoCard : Claim7 := { stood := { row := merkleClimbsUptoRow, standIns := [], harness := (true, "2f4cd7b5b8adc368c9f6128f3590370d56228937b2dca14ff7601829c9f81a1f"), looks := false }, kinds := [], alts := [], laidByText := true, laidKinds := [.data, .data], laidTests := true, laidLooks := .later }
def MerkleClimbsUptoCardSaid : Prop := Claim7.holds Tryd.pinned (.plain (OpenSpec.upto merkleClimbsSpec)) merkleClimbsUptoCard

/-- THE SECOND FORM's CARD OF 'safehouselaw08.MerkleSigns'. -/
def merkleSignsUptoCard : Claim7 := { stood := { row := merkleSignsUptoRow, standIns := [], harness := (true, "2f4cd7b5b8adc368c9f6128f3590370d56228937b2dca14ff7601829c9f81a1f"), looks := false }, kinds := [], alts := [], laidByText := true, laidKinds := [.data, .data], laidTests := true, laidLooks := .later }
def MerkleSignsUptoCardSaid : Prop := Claim7.holds Tryd.pinned (.plain (OpenSpec.upto merkleSignsSpec)) merkleSignsUptoCard

/-- THE SECOND FORM's CARD OF 'safehouselaw08.MerkleBytes'. -/
def merkleBytesUptoCard : Claim7 := { stood := { row := merkleBytesUptoRow, standIns := [], harness := (true, "2f4cd7b5b8adc368c9f6128f3590370d56228937b2dca14ff7601829c9f81a1f"), looks := false }, kinds := [], alts := [], laidByText := true, laidKinds := [.data, .data], laidTests := true, laidLooks := .later }
def MerkleBytesUptoCardSaid : Prop := Claim7.holds Tryd.pinned (.plain (OpenSpec.upto merkleBytesSpec)) merkleBytesUptoCard

/-- THE SECOND FORM's CARD OF 'safehouselaw08.MerkleVerifies'. -/
def merkleVerifiesUptoCard : Claim7 := { stood := { row := merkleVerifiesUptoRow, standIns := [], harness := (true, "2f4cd7b5b8adc368c9f6128f3590370d56228937b2dca14ff7601829c9f81a1f"), looks := false }, kinds := [], alts := [], laidByText := true, laidKinds := [.data, .data], laidTests := true, laidLooks := .later }
def MerkleVerifiesUptoCardSaid : Prop := Claim7.holds Tryd.pinned (.plain (OpenSpec.upto merkleVerifiesSpec)) merkleVerifiesUptoCard

/-- THE SECOND FORM's CARD OF 'safehouselaw08.MerkleLeads'. -/
def merkleLeadsUptoCard : Claim7 := { stood := { row := merkleLeadsUptoRow, standIns := [], harness := (true, "2f4cd7b5b8adc368c9f6128f3590370d56228937b2dca14ff7601829c9f81a1f"), looks := false }, kinds := [], alts := [], laidByText := true, laidKinds := [.data, .data], laidTests := true, laidLooks := .later }
def MerkleLeadsUptoCardSaid : Prop := Claim7.holds Tryd.pinned (.plain (OpenSpec.upto merkleLeadsSpec)) merkleLeadsUptoCard

/-- THE SECOND FORM's CARD OF 'safehouselaw08.MerkleBack'. -/
def merkleBackUptoCard : Claim7 := { stood := { row := merkleBackUptoRow, standIns := [], harness := (true, "2f4cd7b5b8adc368c9f6128f3590370d56228937b2dca14ff7601829c9f81a1f"), looks := false }, kinds := [], alts := [], laidByText := true, laidKinds := [.data, .data], laidTests := true, laidLooks := .later }
def MerkleBackUptoCardSaid : Prop := Claim7.holds Tryd.pinned (.plain (OpenSpec.upto merkleBackSpec)) merkleBackUptoCard
end Rows
end Go.Proofs.YtbacmeaeehhhfaaDoor
