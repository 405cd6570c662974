/-
  DERIVED. GIVEN WITH THE SEED: THE CARDS: each row of YtgojheoelcmcpaaDoorRows.lean that lists a variable, with what it lists TIED to the program's text (the seventh form; the later family's looks); each row that meets fmt, with fmt's text TOLD by the authors' own Lean function (tested against real Go, not proved from fmt's source: count such statements apart). THE CARD IS WHAT COUNTS. Prove the row's statement (the work); the ties are given (YtgojheoelcmcpaaDoorTie.lean); close each card by the builder's one call (the guide's Derived/Test/ToyasCard.lean, 'card_holds'). Laid BY PROGRAM, IN A SANDBOX (cutbox-door.mjs). By AI agents, Wed Nov 11 2026. No macro, syntax, notation, axiom, sorry.
-/
import Derived.Test.YtgojheoelcmcpaaDoorRows
import GoSem.ClaimSeven
namespace Go.Proofs.YtgojheoelcmcpaaDoor
namespace Rows

/-- THE TIED CARD OF 'safehouselaw03.ShaTables'. -/
def shaTablesCard : Claim7 := { stood := { row := shaTablesRow, standIns := [], harness := (true, "c9e834fec615fbccc9faa7e6896abb70365cda7175e14ddc8a4d6b99ec6310bb"), looks := false }, kinds := [], alts := [], laidByText := true, laidKinds := [.data, .data], laidTests := true, laidLooks := .later }
def ShaTablesCardSaid : Prop := Claim7.holds Tryd.pinned (.plain (OpenSpec.ofChange shaTablesSpec)) shaTablesCard

/-- THE TIED CARD OF 'safehouselaw03.ShaBehind'. -/
def shaBehindCard : Claim7 := { stood := { row := shaBehindRow, standIns := [], harness := (true, "c9e834fec615fbccc9faa7e6896abb70365cda7175e14ddc8a4d6b99ec6310bb"), looks := false }, kinds := [], alts := [], laidByText := true, laidKinds := [.data, .data], laidTests := true, laidLooks := .later }
def ShaBehindCardSaid : Prop := Claim7.holds Tryd.pinned (.plain (OpenSpec.ofChange shaBehindSpec)) shaBehindCard

/-- THE TIED CARD OF 'safehouselaw03.ShaDigests'. -/
def shaDigestsCard : Claim7 := { stood := { row := shaDigestsRow, standIns := [], harness := (true, "c9e834fec615fbccc9faa7e6896abb70365cda7175e14ddc8a4d6b99ec6310bb"), looks := false }, kinds := [], alts := [], laidByText := true, laidKinds := [.data, .data], laidTests := true, laidLooks := .later }
def ShaDigestsCardSaid : Prop := Claim7.holds Tryd.pinned (.plain (OpenSpec.ofChange shaDigestsSpec)) shaDigestsCard

/-- THE TIED CARD OF 'safehouselaw03.ShaDigits'. -/
def shaDigitsCard : Claim7 := { stood := { row := shaDigitsRow, standIns := [], harness := (true, "c9e834fec615fbccc9faa7e6896abb70365cda7175e14ddc8a4d6b99ec6310bb"), looks := false }, kinds := [], alts := [], laidByText := true, laidKinds := [.data, .data], laidTests := true, laidLooks := .later }
def ShaDigitsCardSaid : Prop := Claim7.holds Tryd.pinned (.plain (OpenSpec.ofChange shaDigitsSpec)) shaDigitsCard

/-- THE TIED CARD OF 'safehouselaw03.ShaChains'. -/
def shaChainsCard : Claim7 := { stood := { row := shaChainsRow, standIns := [], harness := (true, "c9e834fec615fbccc9faa7e6896abb70365cda7175e14ddc8a4d6b99ec6310bb"), looks := false }, kinds := [], alts := [], laidByText := true, laidKinds := [.data, .data], laidTests := true, laidLooks := .later }
def ShaChainsCardSaid : Prop := Claim7.holds Tryd.pinned (.plain (OpenSpec.ofChange shaChainsSpec)) shaChainsCard

/-- THE TIED CARD OF 'safehouselaw03.ShaReturns'. -/
def shaReturnsCard : Claim7 := { stood := { row := shaReturnsRow, standIns := [], harness := (true, "c9e834fec615fbccc9faa7e6896abb70365cda7175e14ddc8a4d6b99ec6310bb"), looks := false }, kinds := [], alts := [], laidByText := true, laidKinds := [.data, .data], laidTests := true, laidLooks := .later }
def ShaReturnsCardSaid : Prop := Claim7.holds Tryd.pinned (.plain (OpenSpec.ofChange shaReturnsSpec)) shaReturnsCard

/-- THE TIED CARD OF 'safehouselaw03.ShaOrders'. -/
def shaOrdersCard : Claim7 := { stood := { row := shaOrdersRow, standIns := [], harness := (true, "c9e834fec615fbccc9faa7e6896abb70365cda7175e14ddc8a4d6b99ec6310bb"), looks := false }, kinds := [], alts := [], laidByText := true, laidKinds := [.data, .data], laidTests := true, laidLooks := .later }
def ShaOrdersCardSaid : Prop := Claim7.holds Tryd.pinned (.plain (OpenSpec.ofChange shaOrdersSpec)) shaOrdersCard

/-- THE SECOND FORM's CARD OF 'safehouselaw03.ShaTables'. -/
def shaTablesUptoCard : Claim7 := { stood := { row := shaTablesUptoRow, standIns := [], harness := (true, "c9e834fec615fbccc9faa7e6896abb70365cda7175e14ddc8a4d6b99ec6310bb"), looks := false }, kinds := [], alts := [], laidByText := true, laidKinds := [.data, .data], laidTests := true, laidLooks := .later }
def ShaTablesUptoCardSaid : Prop := Claim7.holds Tryd.pinned (.plain (OpenSpec.upto shaTablesSpec)) shaTablesUptoCard

/-- THE SECOND FORM's CARD OF 'safehouselaw03.ShaBehind'. -/
def shaBehindUptoCard : Claim7 := { stood := { row := shaBehindUptoRow, standIns := [], harness := (true, "c9e834fec615fbccc9faa7e6896abb70365cda7175e14ddc8a4d6b99ec6310bb"), looks := false }, kinds := [], alts := [], laidByText := true, laidKinds := [.data, .data], laidTests := true, laidLooks := .later }
def ShaBehindUptoCardSaid : Prop := Claim7.holds Tryd.pinned (.plain (OpenSpec.upto shaBehindSpec)) shaBehindUptoCard

/-- THE SECOND FORM's CARD OF 'safehouselaw03.ShaDigests'. -/
def shaDigestsUptoCard : Claim7 := { stood := { row := shaDigestsUptoRow, standIns := [], harness := (true, "c9e834fec615fbccc9faa7e6896abb70365cda7175e14ddc8a4d6b99ec6310bb"), looks := false }, kinds := [], alts := [], laidByText := true, laidKinds := [.data, .data], laidTests := true, laidLooks := .later }
def ShaDigestsUptoCardSaid : Prop := Claim7.holds Tryd.pinned (.plain (OpenSpec.upto shaDigestsSpec)) shaDigestsUptoCard

/-- THE SECOND FORM's CARD OF 'safehouselaw03.ShaDigits'. -/
def shaDigitsUptoCard : Claim7 := { stood := { row := shaDigitsUptoRow, standIns := [], harness := (true, "c9e834fec615fbccc9faa7e6896abb70365cda7175e14ddc8a4d6b99ec6310bb"), looks := false }, kinds := [], alts := [], laidByText := true, laidKinds := [.data, .data], laidTests := true, laidLooks := .later }
def ShaDigitsUptoCardSaid : Prop := Claim7.holds Tryd.pinned (.plain (OpenSpec.upto shaDigitsSpec)) shaDigitsUptoCard

/-- THE SECOND FORM's CARD OF 'safehouselaw03.ShaChains'. -/
def shaChainsUptoCard : Claim7 := { stood := { row := shaChainsUptoRow, standIns := [], harness := (true, "c9e834fec615fbccc9faa7e6896abb70365cda7175e14ddc8a4d6b99ec6310bb"), looks := false }, kinds := [], alts := [], laidByText := true, laidKinds := [.data, .data], laidTests := true, laidLooks := .later }
def ShaChainsUptoCardSaid : Prop := Claim7.holds Tryd.pinned (.plain (OpenSpec.upto shaChainsSpec)) shaChainsUptoCard

/-- THE SECOND FORM's CARD OF 'safehouselaw03.ShaReturns'. -/
def shaReturnsUptoCard : Claim7 := { stood := { row := shaReturnsUptoRow, standIns := [], harness := (true, "c9e834fec615fbccc9faa7e6896abb70365cda7175e14ddc8a4d6b99ec6310bb"), looks := false }, kinds := [], alts := [], laidByText := true, laidKinds := [.data, .data], laidTests := true, laidLooks := .later }
def ShaReturnsUptoCardSaid : Prop := Claim7.holds Tryd.pinned (.plain (OpenSpec.upto shaReturnsSpec)) shaReturnsUptoCard

/-- THE SECOND FORM's CARD OF 'safehouselaw03.ShaOrders'. -/
def shaOrdersUptoCard : Claim7 := { stood := { row := shaOrdersUptoRow, standIns := [], harness := (true, "c9e834fec615fbccc9faa7e6896abb70365cda7175e14ddc8a4d6b99ec6310bb"), looks := false }, kinds := [], alts := [], laidByText := true, laidKinds := [.data, .data], laidTests := true, laidLooks := .later }
def ShaOrdersUptoCardSaid : Prop := Claim7.holds Tryd.pinned (.plain (OpenSpec.upto shaOrdersSpec)) shaOrdersUptoCard
end Rows
end Go.Proofs.YtgojheoelcmcpaaDoor
