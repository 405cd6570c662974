/-
  DERIVED. GIVEN WITH THE SEED: THE CARDS: each row of YtdolihecjomjiaaDoorRows.lean that lists a variable, with what it lists TIED to the program's text (the seventh form; the later family's looks); each row that meets fmt, with fmt's text TOLD by the authors' own Lean function (tested against real Go, not proved from fmt's source: count such statements apart). THE CARD IS WHAT COUNTS. Prove the row's statement (the work); the ties are given (YtdolihecjomjiaaDoorTie.lean); close each card by the builder's one call (the guide's Derived/Test/ToyasCard.lean, 'card_holds'). Laid BY PROGRAM, IN A SANDBOX (cutbox-door.mjs). By AI agents, Wed Nov 11 2026. No macro, syntax, notation, axiom, sorry.
-/
import Derived.Test.YtdolihecjomjiaaDoorRows
import GoSem.ClaimSeven
namespace Go.Proofs.YtdolihecjomjiaaDoor
namespace Rows

/-- THE TIED CARD OF 'safehouselaw06.WotsDigits'. -/
def wotsDigitsCard : Claim7 := { stood := { row := wotsDigitsRow, standIns := [], harness := (true, "f706e38dfbde261203f5e809ce220c1693d6db5da2d2dad34d1d0b12fb6a9e5f"), looks := false }, kinds := [], alts := [], laidByText := true, laidKinds := [.data, .data], laidTests := true, laidLooks := .later }
def WotsDigitsCardSaid : Prop := Claim7.holds Tryd.pinned (.plain (OpenSpec.ofChange wotsDigitsSpec)) wotsDigitsCard

/-- THE TIED CARD OF 'safehouselaw06.WotsChains'. -/
def wotsChainsCard : Claim7 := { stood := { row := wotsChainsRow, standIns := [], harness := (true, "f706e38dfbde261203f5e809ce220c1693d6db5da2d2dad34d1d0b12fb6a9e5f"), looks := false }, kinds := [], alts := [], laidByText := true, laidKinds := [.data, .data], laidTests := true, laidLooks := .later }
def WotsChainsCardSaid : Prop := Claim7.holds Tryd.pinned (.plain (OpenSpec.ofChange wotsChainsSpec)) wotsChainsCard

/-- THE TIED CARD OF 'safehouselaw06.WotsSigns'. -/
def wotsSignsCard : Claim7 := { stood := { row := wotsSignsRow, standIns := [], harness := (true, "f706e38dfbde261203f5e809ce220c1693d6db5da2d2dad34d1d0b12fb6a9e5f"), looks := false }, kinds := [], alts := [], laidByText := true, laidKinds := [.data, .data], laidTests := true, laidLooks := .later }
def WotsSignsCardSaid : Prop := Claim7.holds Tryd.pinned (.plain (OpenSpec.ofChange wotsSignsSpec)) wotsSignsCard

/-- THE TIED CARD OF 'safehouselaw06.WotsLong'. -/
def wotsLongCard : Claim7 := { stood := { row := wotsLongRow, standIns := [], harness := (true, "f706e38dfbde261203f5e809ce220c1693d6db5da2d2dad34d1d0b12fb6a9e5f"), looks := false }, kinds := [], alts := [], laidByText := true, laidKinds := [.data, .data], laidTests := true, laidLooks := .later }
def WotsLongCardSaid : Prop := Claim7.holds Tryd.pinned (.plain (OpenSpec.ofChange wotsLongSpec)) wotsLongCard

/-- THE TIED CARD OF 'safehouselaw06.WotsVerifies'. -/
def wotsVerifiesCard : Claim7 := { stood := { row := wotsVerifiesRow, standIns := [], harness := (true, "f706e38dfbde261203f5e809ce220c1693d6db5da2d2dad34d1d0b12fb6a9e5f"), looks := false }, kinds := [], alts := [], laidByText := true, laidKinds := [.data, .data], laidTests := true, laidLooks := .later }
def WotsVerifiesCardSaid : Prop := Claim7.holds Tryd.pinned (.plain (OpenSpec.ofChange wotsVerifiesSpec)) wotsVerifiesCard

/-- THE TIED CARD OF 'safehouselaw06.WotsBelow'. -/
def wotsBelowCard : Claim7 := { stood := { row := wotsBelowRow, standIns := [], harness := (true, "f706e38dfbde261203f5e809ce220c1693d6db5da2d2dad34d1d0b12fb6a9e5f"), looks := false }, kinds := [], alts := [], laidByText := true, laidKinds := [.data, .data], laidTests := true, laidLooks := .later }
def WotsBelowCardSaid : Prop := Claim7.holds Tryd.pinned (.plain (OpenSpec.ofChange wotsBelowSpec)) wotsBelowCard

/-- THE TIED CARD OF 'safehouselaw06.WotsAdds'. -/
def wotsAddsCard : Claim7 := { stood := { row := wotsAddsRow, standIns := [], harness := (true, "f706e38dfbde261203f5e809ce220c1693d6db5da2d2dad34d1d0b12fb6a9e5f"), looks := false }, kinds := [], alts := [], laidByText := true, laidKinds := [.data, .data], laidTests := true, laidLooks := .later }
def WotsAddsCardSaid : Prop := Claim7.holds Tryd.pinned (.plain (OpenSpec.ofChange wotsAddsSpec)) wotsAddsCard

/-- THE SECOND FORM's CARD OF 'safehouselaw06.WotsDigits'. -/
def wotsDigitsUptoCard : Claim7 := { stood := { row := wotsDigitsUptoRow, standIns := [], harness := (true, "f706e38dfbde261203f5e809ce220c1693d6db5da2d2dad34d1d0b12fb6a9e5f"), looks := false }, kinds := [], alts := [], laidByText := true, laidKinds := [.data, .data], laidTests := true, laidLooks := .later }
def WotsDigitsUptoCardSaid : Prop := Claim7.holds Tryd.pinned (.plain (OpenSpec.upto wotsDigitsSpec)) wotsDigitsUptoCard

/-- THE SECOND FORM's CARD OF 'safehouselaw06.WotsChains'. -/
def wotsChainsUptoCard : Claim7 := { stood := { row := wotsChainsUptoRow, standIns := [], harness := (true, "f706e38dfbde261203f5e809ce220c1693d6db5da2d2dad34d1d0b12fb6a9e5f"), looks := false }, kinds := [], alts := [], laidByText := true, laidKinds := [.data, .data], laidTests := true, laidLooks := .later }
def WotsChainsUptoCardSaid : Prop := Claim7.holds Tryd.pinned (.plain (OpenSpec.upto wotsChainsSpec)) wotsChainsUptoCard

/-- THE SECOND FORM's CARD OF 'safehouselaw06.WotsSigns'. -/
def wotsSignsUptoCard : Claim7 := { stood := { row := wotsSignsUptoRow, standIns := [], harness := (true, "f706e38dfbde261203f5e809ce220c1693d6db5da2d2dad34d1d0b12fb6a9e5f"), looks := false }, kinds := [], alts := [], laidByText := true, laidKinds := [.data, .data], laidTests := true, laidLooks := .later }
def WotsSignsUptoCardSaid : Prop := Claim7.holds Tryd.pinned (.plain (OpenSpec.upto wotsSignsSpec)) wotsSignsUptoCard

/-- THE SECOND FORM's CARD OF 'safehouselaw06.WotsLong'. -/
def wotsLongUptoCard : Claim7 := { stood := { row := wotsLongUptoRow, standIns := [], harness := (true, "f706e38dfbde261203f5e809ce220c1693d6db5da2d2dad34d1d0b12fb6a9e5f"), looks := false }, kinds := [], alts := [], laidByText := true, laidKinds := [.data, .data], laidTests := true, laidLooks := .later }
def WotsLongUptoCardSaid : Prop := Claim7.holds Tryd.pinned (.plain (OpenSpec.upto wotsLongSpec)) wotsLongUptoCard

/-- THE SECOND FORM's CARD OF 'safehouselaw06.WotsVerifies'. -/
def wotsVerifiesUptoCard : Claim7 := { stood := { row := wotsVerifiesUptoRow, standIns := [], harness := (true, "f706e38dfbde261203f5e809ce220c1693d6db5da2d2dad34d1d0b12fb6a9e5f"), looks := false }, kinds := [], alts := [], laidByText := true, laidKinds := [.data, .data], laidTests := true, laidLooks := .later }
def WotsVerifiesUptoCardSaid : Prop := Claim7.holds Tryd.pinned (.plain (OpenSpec.upto wotsVerifiesSpec)) wotsVerifiesUptoCard

/-- THE SECOND FORM's CARD OF 'safehouselaw06.WotsBelow'. -/
def wotsBelowUptoCard : Claim7 := { stood := { row := wotsBelowUptoRow, standIns := [], harness := (true, "f706e38dfbde261203f5e809ce220c1693d6db5da2d2dad34d1d0b12fb6a9e5f"), looks := false }, kinds := [], alts := [], laidByText := true, laidKinds := [.data, .data], laidTests := true, laidLooks := .later }
def WotsBelowUptoCardSaid : Prop := Claim7.holds Tryd.pinned (.plain (OpenSpec.upto wotsBelowSpec)) wotsBelowUptoCard

/-- THE SECOND FORM's CARD OF 'safehouselaw06.WotsAdds'. -/
def wotsAddsUptoCard : Claim7 := { stood := { row := wotsAddsUptoRow, standIns := [], harness := (true, "f706e38dfbde261203f5e809ce220c1693d6db5da2d2dad34d1d0b12fb6a9e5f"), looks := false }, kinds := [], alts := [], laidByText := true, laidKinds := [.data, .data], laidTests := true, laidLooks := .later }
def WotsAddsUptoCardSaid : Prop := Claim7.holds Tryd.pinned (.plain (OpenSpec.upto wotsAddsSpec)) wotsAddsUptoCard
end Rows
end Go.Proofs.YtdolihecjomjiaaDoor
