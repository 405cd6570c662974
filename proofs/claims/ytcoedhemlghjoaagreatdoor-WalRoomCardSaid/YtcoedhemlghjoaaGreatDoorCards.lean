/-
  DERIVED. GIVEN WITH THE SEED: THE CARDS: each row of YtcoedhemlghjoaaGreatDoorRows.lean that lists a variable, with what it lists TIED to the program's text (the seventh form; the later family's looks); each row that meets fmt, with fmt's text TOLD by the authors' own Lean function (tested against real Go, not proved from fmt's source: count such statements apart). THE CARD IS WHAT COUNTS. Prove the row's statement (the work); the ties are given (YtcoedhemlghjoaaGreatDoorTie.lean); close each card by the builder's one call (the guide's Derived/Test/ToyasCard.lean, 'card_holds'). Laid BY PROGRAM, IN A SANDBOX (cutbox-door.mjs). By AI agents, Wed Nov 11 2026. No macro, syntax, notation, axiom, sorry.
-/
import Derived.Test.YtcoedhemlghjoaaGreatDoorRows
import GoSem.ClaimSeven
namespace Go.Proofs.YtcoedhemlghjoaaGreatDoor
namespace Rows

/-- THE TIED CARD OF 'safehouselaw04.WalFollows'. -/
def walFollowsCard : Claim7 := { stood := { row := walFollowsRow, standIns := [], harness := (true, "beb4e0e2536aeae23f873a677e8221457ada8fa2fea53c6f67b4f38ceb0d6736"), looks := true }, kinds := [], alts := [], laidByText := true, laidKinds := [.data, .data], laidTests := true, laidLooks := .later }
def WalFollowsCardSaid : Prop := Claim7.holds Tryz.pinned (.plain (OpenSpec.ofChange walFollowsSpec)) walFollowsCard

/-- THE TIED CARD OF 'safehouselaw04.WalBegins'. -/
def walBeginsCard : Claim7 := { stood := { row := walBeginsRow, standIns := [], harness := (true, "beb4e0e2536aeae23f873a677e8221457ada8fa2fea53c6f67b4f38ceb0d6736"), looks := true }, kinds := [], alts := [], laidByText := true, laidKinds := [.data, .data], laidTests := true, laidLooks := .later }
def WalBeginsCardSaid : Prop := Claim7.holds Tryz.pinned (.plain (OpenSpec.ofChange walBeginsSpec)) walBeginsCard

/-- THE TIED CARD OF 'safehouselaw04.WalAbsent'. -/
def walAbsentCard : Claim7 := { stood := { row := walAbsentRow, standIns := [], harness := (true, "beb4e0e2536aeae23f873a677e8221457ada8fa2fea53c6f67b4f38ceb0d6736"), looks := true }, kinds := [], alts := [], laidByText := true, laidKinds := [.data, .data], laidTests := true, laidLooks := .later }
def WalAbsentCardSaid : Prop := Claim7.holds Tryz.pinned (.plain (OpenSpec.ofChange walAbsentSpec)) walAbsentCard

/-- THE TIED CARD OF 'safehouselaw04.WalLasts'. -/
def walLastsCard : Claim7 := { stood := { row := walLastsRow, standIns := [], harness := (true, "beb4e0e2536aeae23f873a677e8221457ada8fa2fea53c6f67b4f38ceb0d6736"), looks := true }, kinds := [], alts := [], laidByText := true, laidKinds := [.data, .data], laidTests := true, laidLooks := .later }
def WalLastsCardSaid : Prop := Claim7.holds Tryz.pinned (.plain (OpenSpec.ofChange walLastsSpec)) walLastsCard

/-- THE TIED CARD OF 'safehouselaw04.WalStill'. -/
def walStillCard : Claim7 := { stood := { row := walStillRow, standIns := [], harness := (true, "beb4e0e2536aeae23f873a677e8221457ada8fa2fea53c6f67b4f38ceb0d6736"), looks := true }, kinds := [], alts := [], laidByText := true, laidKinds := [.data, .data], laidTests := true, laidLooks := .later }
def WalStillCardSaid : Prop := Claim7.holds Tryz.pinned (.plain (OpenSpec.ofChange walStillSpec)) walStillCard

/-- THE TIED CARD OF 'safehouselaw04.WalRoom'. -/
def walRoomCard : Claim7 := { stood := { row := walRoomRow, standIns := [], harness := (true, "beb4e0e2536aeae23f873a677e8221457ada8fa2fea53c6f67b4f38ceb0d6736"), looks := true }, kinds := [], alts := [], laidByText := true, laidKinds := [.data, .data], laidTests := true, laidLooks := .later }
def WalRoomCardSaid : Prop := Claim7.holds Tryz.pinned (.plain (OpenSpec.ofChange walRoomSpec)) walRoomCard

/-- THE TIED CARD OF 'safehouselaw04.WalPicture'. -/
def walPictureCard : Claim7 := { stood := { row := walPictureRow, standIns := [], harness := (true, "beb4e0e2536aeae23f873a677e8221457ada8fa2fea53c6f67b4f38ceb0d6736"), looks := true }, kinds := [], alts := [], laidByText := true, laidKinds := [.data, .data], laidTests := true, laidLooks := .later }
def WalPictureCardSaid : Prop := Claim7.holds Tryz.pinned (.plain (OpenSpec.ofChange walPictureSpec)) walPictureCard

/-- THE SECOND FORM's CARD OF 'safehouselaw04.WalFollows'. -/
def walFollowsUptoCard : Claim7 := { stood := { row := walFollowsUptoRow, standIns := [], harness := (true, "beb4e0e2536aeae23f873a677e8221457ada8fa2fea53c6f67b4f38ceb0d6736"), looks := true }, kinds := [], alts := [], laidByText := true, laidKinds := [.data, .data], laidTests := true, laidLooks := .later }
def WalFollowsUptoCardSaid : Prop := Claim7.holds Tryz.pinned (.plain (OpenSpec.upto walFollowsSpec)) walFollowsUptoCard

/-- THE SECOND FORM's CARD OF 'safehouselaw04.WalBegins'. -/
def walBeginsUptoCard : Claim7 := { stood := { row := walBeginsUptoRow, standIns := [], harness := (true, "beb4e0e2536aeae23f873a677e8221457ada8fa2fea53c6f67b4f38ceb0d6736"), looks := true }, kinds := [], alts := [], laidByText := true, laidKinds := [.data, .data], laidTests := true, laidLooks := .later }
def WalBeginsUptoCardSaid : Prop := Claim7.holds Tryz.pinned (.plain (OpenSpec.upto walBeginsSpec)) walBeginsUptoCard

/-- THE SECOND FORM's CARD OF 'safehouselaw04.WalAbsent'. -/
def walAbsentUptoCard : Claim7 := { stood := { row := walAbsentUptoRow, standIns := [], harness := (true, "beb4e0e2536aeae23f873a677e8221457ada8fa2fea53c6f67b4f38ceb0d6736"), looks := true }, kinds := [], alts := [], laidByText := true, laidKinds := [.data, .data], laidTests := true, laidLooks := .later }
def WalAbsentUptoCardSaid : Prop := Claim7.holds Tryz.pinned (.plain (OpenSpec.upto walAbsentSpec)) walAbsentUptoCard

/-- THE SECOND FORM's CARD OF 'safehouselaw04.WalLasts'. -/
def walLastsUptoCard : Claim7 := { stood := { row := walLastsUptoRow, standIns := [], harness := (true, "beb4e0e2536aeae23f873a677e8221457ada8fa2fea53c6f67b4f38ceb0d6736"), looks := true }, kinds := [], alts := [], laidByText := true, laidKinds := [.data, .data], laidTests := true, laidLooks := .later }
def WalLastsUptoCardSaid : Prop := Claim7.holds Tryz.pinned (.plain (OpenSpec.upto walLastsSpec)) walLastsUptoCard

/-- THE SECOND FORM's CARD OF 'safehouselaw04.WalStill'. -/
def walStillUptoCard : Claim7 := { stood := { row := walStillUptoRow, standIns := [], harness := (true, "beb4e0e2536aeae23f873a677e8221457ada8fa2fea53c6f67b4f38ceb0d6736"), looks := true }, kinds := [], alts := [], laidByText := true, laidKinds := [.data, .data], laidTests := true, laidLooks := .later }
def WalStillUptoCardSaid : Prop := Claim7.holds Tryz.pinned (.plain (OpenSpec.upto walStillSpec)) walStillUptoCard

/-- THE SECOND FORM's CARD OF 'safehouselaw04.WalRoom'. -/
def walRoomUptoCard : Claim7 := { stood := { row := walRoomUptoRow, standIns := [], harness := (true, "beb4e0e2536aeae23f873a677e8221457ada8fa2fea53c6f67b4f38ceb0d6736"), looks := true }, kinds := [], alts := [], laidByText := true, laidKinds := [.data, .data], laidTests := true, laidLooks := .later }
def WalRoomUptoCardSaid : Prop := Claim7.holds Tryz.pinned (.plain (OpenSpec.upto walRoomSpec)) walRoomUptoCard

/-- THE SECOND FORM's CARD OF 'safehouselaw04.WalPicture'. -/
def walPictureUptoCard : Claim7 := { stood := { row := walPictureUptoRow, standIns := [], harness := (true, "beb4e0e2536aeae23f873a677e8221457ada8fa2fea53c6f67b4f38ceb0d6736"), looks := true }, kinds := [], alts := [], laidByText := true, laidKinds := [.data, .data], laidTests := true, laidLooks := .later }
def WalPictureUptoCardSaid : Prop := Claim7.holds Tryz.pinned (.plain (OpenSpec.upto walPictureSpec)) walPictureUptoCard
end Rows
end Go.Proofs.YtcoedhemlghjoaaGreatDoor
