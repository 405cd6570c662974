/-
  NARROWER THAN 'FOR EVERY INPUT', by the rows' own cells (each row's printed sentence says how): TermEncodes: loops, laid · TermOrders: loops, laid · TermMakes: loops, laid · TermBack: loops, laid · TermOne: loops, laid · TermLists: loops, laid · CloseCan: loops, laid · CloseMore: loops, laid · CloseAtoms: loops, laid · CloseKeeps: loops, laid.
  DERIVED. THE GIVEN ROWS OF THIS SEAT. 10 by the template 'for every input the law returns true; each argument reads behind the call as it read before'; 0 by the template 'total and deterministic' (their statements: YtapafniekmfkaaaDoorTotals.lean).
  GIVEN WITH THE SEED: the statements are not yours to turn. If you find one false, say at which input.
  Laid BY PROGRAM, IN A SANDBOX (cutbox-rows.mjs): the forced cells as the released guide's own fill.sh prints them over the translation d665f13e5b42b589… (all of the seat's roots in one cut). By AI agents, Wed Nov 11 2026. No macro, syntax, notation, axiom, sorry.
-/
import Derived.Test.YtapafniekmfkaaaDoorChecked
import GoSem.Claim
import GoSem.ClaimJoined
import GoSem.ClaimMapViews
import Derived.JoinedTies
import Derived.KernelRfl
namespace Go.Proofs.YtapafniekmfkaaaDoor
/- THE CELL 'sum', in the pinned program and in every row, IS THE sha256 OF THE DUMP (.gsa) THAT YtapafniekmfkaaaDoorProg.lean LOADS. Nothing in Lean hashes anything: it is a label: what it is worth is what the hold of that sum in a sandbox is worth. -/
noncomputable def Tryd.pinned : Pinned := { name := "ytapafniekmfkaaadoor", sum := "d665f13e5b42b589d44207e2829aa10252cd5551022923eca8811803b4a75736", checked := Tryd.checked }
namespace Rows
def none {H : Type} : Left H := { results := [], args := [] }

/- WHAT THE LISTED PACKAGE-LEVEL VARIABLES READ AS WHEN THE CALL BEGINS. Each datum BY PROGRAM (the guide's laid-datum.mjs) off the statement by which the dump's own 'gosem.cut.vars' lays the variable. In a bare row this is a premise. The card (YtapafniekmfkaaaDoorCards.lean) ties it to the program's text. -/
def laid_safehouse_term_counting {H : Type} : DataW H := .agg [.lit (.int .u8 0), .lit (.int .u8 1), .lit (.int .u8 6), .lit (.int .u8 2), .lit (.int .u8 24), .lit (.int .u8 8), .lit (.int .u8 24), .lit (.int .u8 10), .lit (.int .u8 14)]

/-- 'safehouselaw05.TermEncodes': WHATEVER THE INPUT: true; the input reads as it did. -/
def termEncodesSpec : ChangeSpec := { name := "termEncodes", fn := fun _ => fun
  | [d] => { results := [.lit (.bool true)], args := [d] }
  | _ => none }
def termEncodesRow : OpenClaim := { program := "ytapafniekmfkaaadoor", sum := "d665f13e5b42b589d44207e2829aa10252cd5551022923eca8811803b4a75736", func := "safehouse/safehouselaw05.TermEncodes", spec := "termEncodes", unfollowed := true, recurses := true, named := ["safehouse/term.counting"], loops := true, plainKeys := false, apart := false, laid := [("safehouse/term.counting", laid_safehouse_term_counting)] }
def TermEncodesSaid : Prop := termEncodesRow.holds Tryd.pinned (OpenSpec.ofChange termEncodesSpec)

/-- ITS FALSE NEIGHBOUR: 'it returns false'. Refute it at one input. -/
def termEncodesWrong : ChangeSpec := { name := "termEncodes", fn := fun _ => fun
  | [d] => { results := [.lit (.bool false)], args := [d] }
  | _ => none }
def TermEncodesWrongFalsely : Prop := termEncodesRow.holds Tryd.pinned (OpenSpec.ofChange termEncodesWrong)

/-- 'safehouselaw05.TermOrders': WHATEVER THE INPUT: true; the input reads as it did. -/
def termOrdersSpec : ChangeSpec := { name := "termOrders", fn := fun _ => fun
  | [d1, d2] => { results := [.lit (.bool true)], args := [d1, d2] }
  | _ => none }
def termOrdersRow : OpenClaim := { program := "ytapafniekmfkaaadoor", sum := "d665f13e5b42b589d44207e2829aa10252cd5551022923eca8811803b4a75736", func := "safehouse/safehouselaw05.TermOrders", spec := "termOrders", inPlace := ["internal/bytealg.Compare"], unfollowed := true, recurses := true, named := ["safehouse/term.counting"], loops := true, plainKeys := false, apart := false, laid := [("safehouse/term.counting", laid_safehouse_term_counting)] }
def TermOrdersSaid : Prop := termOrdersRow.holds Tryd.pinned (OpenSpec.ofChange termOrdersSpec)

/-- ITS FALSE NEIGHBOUR: 'it returns false'. Refute it at one input. -/
def termOrdersWrong : ChangeSpec := { name := "termOrders", fn := fun _ => fun
  | [d1, d2] => { results := [.lit (.bool false)], args := [d1, d2] }
  | _ => none }
def TermOrdersWrongFalsely : Prop := termOrdersRow.holds Tryd.pinned (OpenSpec.ofChange termOrdersWrong)

/-- 'safehouselaw05.TermMakes': WHATEVER THE INPUT: true; the input reads as it did. -/
def termMakesSpec : ChangeSpec := { name := "termMakes", fn := fun _ => fun
  | [d1, d2, d3] => { results := [.lit (.bool true)], args := [d1, d2, d3] }
  | _ => none }
def termMakesRow : OpenClaim := { program := "ytapafniekmfkaaadoor", sum := "d665f13e5b42b589d44207e2829aa10252cd5551022923eca8811803b4a75736", func := "safehouse/safehouselaw05.TermMakes", spec := "termMakes", unfollowed := true, recurses := true, named := ["safehouse/term.counting"], loops := true, plainKeys := false, apart := false, laid := [("safehouse/term.counting", laid_safehouse_term_counting)] }
def TermMakesSaid : Prop := termMakesRow.holds Tryd.pinned (OpenSpec.ofChange termMakesSpec)

/-- ITS FALSE NEIGHBOUR: 'it returns false'. Refute it at one input. -/
def termMakesWrong : ChangeSpec := { name := "termMakes", fn := fun _ => fun
  | [d1, d2, d3] => { results := [.lit (.bool false)], args := [d1, d2, d3] }
  | _ => none }
def TermMakesWrongFalsely : Prop := termMakesRow.holds Tryd.pinned (OpenSpec.ofChange termMakesWrong)

/-- 'safehouselaw05.TermBack': WHATEVER THE INPUT: true; the input reads as it did. -/
def termBackSpec : ChangeSpec := { name := "termBack", fn := fun _ => fun
  | [d1, d2, d3] => { results := [.lit (.bool true)], args := [d1, d2, d3] }
  | _ => none }
def termBackRow : OpenClaim := { program := "ytapafniekmfkaaadoor", sum := "d665f13e5b42b589d44207e2829aa10252cd5551022923eca8811803b4a75736", func := "safehouse/safehouselaw05.TermBack", spec := "termBack", unfollowed := true, recurses := true, named := ["safehouse/term.counting"], loops := true, plainKeys := false, apart := false, laid := [("safehouse/term.counting", laid_safehouse_term_counting)] }
def TermBackSaid : Prop := termBackRow.holds Tryd.pinned (OpenSpec.ofChange termBackSpec)

/-- ITS FALSE NEIGHBOUR: 'it returns false'. Refute it at one input. -/
def termBackWrong : ChangeSpec := { name := "termBack", fn := fun _ => fun
  | [d1, d2, d3] => { results := [.lit (.bool false)], args := [d1, d2, d3] }
  | _ => none }
def TermBackWrongFalsely : Prop := termBackRow.holds Tryd.pinned (OpenSpec.ofChange termBackWrong)

/-- 'safehouselaw05.TermOne': WHATEVER THE INPUT: true; the input reads as it did. -/
def termOneSpec : ChangeSpec := { name := "termOne", fn := fun _ => fun
  | [d1, d2, d3] => { results := [.lit (.bool true)], args := [d1, d2, d3] }
  | _ => none }
def termOneRow : OpenClaim := { program := "ytapafniekmfkaaadoor", sum := "d665f13e5b42b589d44207e2829aa10252cd5551022923eca8811803b4a75736", func := "safehouse/safehouselaw05.TermOne", spec := "termOne", inPlace := ["internal/bytealg.Compare"], unfollowed := true, recurses := true, named := ["safehouse/term.counting"], loops := true, plainKeys := false, apart := false, laid := [("safehouse/term.counting", laid_safehouse_term_counting)] }
def TermOneSaid : Prop := termOneRow.holds Tryd.pinned (OpenSpec.ofChange termOneSpec)

/-- ITS FALSE NEIGHBOUR: 'it returns false'. Refute it at one input. -/
def termOneWrong : ChangeSpec := { name := "termOne", fn := fun _ => fun
  | [d1, d2, d3] => { results := [.lit (.bool false)], args := [d1, d2, d3] }
  | _ => none }
def TermOneWrongFalsely : Prop := termOneRow.holds Tryd.pinned (OpenSpec.ofChange termOneWrong)

/-- 'safehouselaw05.TermLists': WHATEVER THE INPUT: true; the input reads as it did. -/
def termListsSpec : ChangeSpec := { name := "termLists", fn := fun _ => fun
  | [d] => { results := [.lit (.bool true)], args := [d] }
  | _ => none }
def termListsRow : OpenClaim := { program := "ytapafniekmfkaaadoor", sum := "d665f13e5b42b589d44207e2829aa10252cd5551022923eca8811803b4a75736", func := "safehouse/safehouselaw05.TermLists", spec := "termLists", unfollowed := true, recurses := true, named := ["safehouse/term.counting"], loops := true, plainKeys := false, apart := false, laid := [("safehouse/term.counting", laid_safehouse_term_counting)] }
def TermListsSaid : Prop := termListsRow.holds Tryd.pinned (OpenSpec.ofChange termListsSpec)

/-- ITS FALSE NEIGHBOUR: 'it returns false'. Refute it at one input. -/
def termListsWrong : ChangeSpec := { name := "termLists", fn := fun _ => fun
  | [d] => { results := [.lit (.bool false)], args := [d] }
  | _ => none }
def TermListsWrongFalsely : Prop := termListsRow.holds Tryd.pinned (OpenSpec.ofChange termListsWrong)

/-- 'safehouselaw07.CloseCan': WHATEVER THE INPUT: true; the input reads as it did. -/
def closeCanSpec : ChangeSpec := { name := "closeCan", fn := fun _ => fun
  | [d1, d2] => { results := [.lit (.bool true)], args := [d1, d2] }
  | _ => none }
def closeCanRow : OpenClaim := { program := "ytapafniekmfkaaadoor", sum := "d665f13e5b42b589d44207e2829aa10252cd5551022923eca8811803b4a75736", func := "safehouse/safehouselaw07.CloseCan", spec := "closeCan", inPlace := ["internal/bytealg.Compare"], unfollowed := true, recurses := true, named := ["safehouse/term.counting"], loops := true, plainKeys := false, apart := false, laid := [("safehouse/term.counting", laid_safehouse_term_counting)] }
def CloseCanSaid : Prop := closeCanRow.holds Tryd.pinned (OpenSpec.ofChange closeCanSpec)

/-- ITS FALSE NEIGHBOUR: 'it returns false'. Refute it at one input. -/
def closeCanWrong : ChangeSpec := { name := "closeCan", fn := fun _ => fun
  | [d1, d2] => { results := [.lit (.bool false)], args := [d1, d2] }
  | _ => none }
def CloseCanWrongFalsely : Prop := closeCanRow.holds Tryd.pinned (OpenSpec.ofChange closeCanWrong)

/-- 'safehouselaw07.CloseMore': WHATEVER THE INPUT: true; the input reads as it did. -/
def closeMoreSpec : ChangeSpec := { name := "closeMore", fn := fun _ => fun
  | [d1, d2, d3] => { results := [.lit (.bool true)], args := [d1, d2, d3] }
  | _ => none }
def closeMoreRow : OpenClaim := { program := "ytapafniekmfkaaadoor", sum := "d665f13e5b42b589d44207e2829aa10252cd5551022923eca8811803b4a75736", func := "safehouse/safehouselaw07.CloseMore", spec := "closeMore", inPlace := ["internal/bytealg.Compare"], unfollowed := true, recurses := true, named := ["safehouse/term.counting"], loops := true, plainKeys := false, apart := false, laid := [("safehouse/term.counting", laid_safehouse_term_counting)] }
def CloseMoreSaid : Prop := closeMoreRow.holds Tryd.pinned (OpenSpec.ofChange closeMoreSpec)

/-- ITS FALSE NEIGHBOUR: 'it returns false'. Refute it at one input. -/
def closeMoreWrong : ChangeSpec := { name := "closeMore", fn := fun _ => fun
  | [d1, d2, d3] => { results := [.lit (.bool false)], args := [d1, d2, d3] }
  | _ => none }
def CloseMoreWrongFalsely : Prop := closeMoreRow.holds Tryd.pinned (OpenSpec.ofChange closeMoreWrong)

/-- 'safehouselaw07.CloseAtoms': WHATEVER THE INPUT: true; the input reads as it did. -/
def closeAtomsSpec : ChangeSpec := { name := "closeAtoms", fn := fun _ => fun
  | [d1, d2, d3] => { results := [.lit (.bool true)], args := [d1, d2, d3] }
  | _ => none }
def closeAtomsRow : OpenClaim := { program := "ytapafniekmfkaaadoor", sum := "d665f13e5b42b589d44207e2829aa10252cd5551022923eca8811803b4a75736", func := "safehouse/safehouselaw07.CloseAtoms", spec := "closeAtoms", inPlace := ["internal/bytealg.Compare"], unfollowed := true, recurses := true, named := ["safehouse/term.counting"], loops := true, plainKeys := false, apart := false, laid := [("safehouse/term.counting", laid_safehouse_term_counting)] }
def CloseAtomsSaid : Prop := closeAtomsRow.holds Tryd.pinned (OpenSpec.ofChange closeAtomsSpec)

/-- ITS FALSE NEIGHBOUR: 'it returns false'. Refute it at one input. -/
def closeAtomsWrong : ChangeSpec := { name := "closeAtoms", fn := fun _ => fun
  | [d1, d2, d3] => { results := [.lit (.bool false)], args := [d1, d2, d3] }
  | _ => none }
def CloseAtomsWrongFalsely : Prop := closeAtomsRow.holds Tryd.pinned (OpenSpec.ofChange closeAtomsWrong)

/-- 'safehouselaw07.CloseKeeps': WHATEVER THE INPUT: true; the input reads as it did. -/
def closeKeepsSpec : ChangeSpec := { name := "closeKeeps", fn := fun _ => fun
  | [d1, d2, d3] => { results := [.lit (.bool true)], args := [d1, d2, d3] }
  | _ => none }
def closeKeepsRow : OpenClaim := { program := "ytapafniekmfkaaadoor", sum := "d665f13e5b42b589d44207e2829aa10252cd5551022923eca8811803b4a75736", func := "safehouse/safehouselaw07.CloseKeeps", spec := "closeKeeps", inPlace := ["internal/bytealg.Compare"], unfollowed := true, recurses := true, named := ["safehouse/term.counting"], loops := true, plainKeys := false, apart := false, laid := [("safehouse/term.counting", laid_safehouse_term_counting)] }
def CloseKeepsSaid : Prop := closeKeepsRow.holds Tryd.pinned (OpenSpec.ofChange closeKeepsSpec)

/-- ITS FALSE NEIGHBOUR: 'it returns false'. Refute it at one input. -/
def closeKeepsWrong : ChangeSpec := { name := "closeKeeps", fn := fun _ => fun
  | [d1, d2, d3] => { results := [.lit (.bool false)], args := [d1, d2, d3] }
  | _ => none }
def CloseKeepsWrongFalsely : Prop := closeKeepsRow.holds Tryd.pinned (OpenSpec.ofChange closeKeepsWrong)

/- THE SECOND FORM. 'bulk': how many values and letters a reading holds, each counted each time it is reached (what is shared counts as often as it is met; a slice's spare places count too). A statement '..UptoSaid' is the law's where the arguments, and the package variables that the reading takes, are together of bulk at most 1048576: NARROWER than '..Said'. Prove '..Said' where nothing that the law and all that it calls make is longer than what came in: it says more and counts as full. Else prove '..UptoSaid'. A law counts once. -/
mutual
def uptoBulk {H : Type} : DataW H → Nat
  | .lit (.string bytes) => bytes.length + 1
  | .lit _ => 1
  | .nil => 1
  | .ptr d => uptoBulk d + 1
  | .slice elems spare => uptoBulkAll elems + uptoBulkAll spare + 1
  | .agg parts => uptoBulkAll parts + 1
  | .iface _ d => uptoBulk d + 1
  | .map entries => uptoBulkEntries entries + 1
  | .held _ => 1
def uptoBulkAll {H : Type} : List (DataW H) → Nat
  | [] => 0
  | d :: r => uptoBulk d + uptoBulkAll r
def uptoBulkEntries {H : Type} : List (Lit × DataW H) → Nat
  | [] => 0
  | x :: r => uptoBulkEntry x + uptoBulkEntries r
def uptoBulkEntry {H : Type} : Lit × DataW H → Nat
  | (.string bytes, d) => bytes.length + uptoBulk d + 1
  | (_, d) => uptoBulk d + 1
 end
def uptoSmall : (H : Type) → List (DataW H) → Bool := fun _ ds => decide (uptoBulkAll ds ≤ 1048576)
def OpenSpec.upto (s : _root_.Go.ChangeSpec) : _root_.Go.OpenSpec := { _root_.Go.OpenSpec.ofChange s with cond := some uptoSmall }

/-- 'safehouselaw05.TermEncodes', WHERE WHAT IT READS IS OF BULK AT MOST 1048576: true; the input reads as it did. -/
def termEncodesUptoRow : OpenClaim := { program := "ytapafniekmfkaaadoor", sum := "d665f13e5b42b589d44207e2829aa10252cd5551022923eca8811803b4a75736", func := "safehouse/safehouselaw05.TermEncodes", spec := "termEncodes", unfollowed := true, recurses := true, named := ["safehouse/term.counting"], loops := true, plainKeys := false, apart := false, laid := [("safehouse/term.counting", laid_safehouse_term_counting)], narrowed := true }
def TermEncodesUptoSaid : Prop := termEncodesUptoRow.holds Tryd.pinned (OpenSpec.upto termEncodesSpec)

/-- 'safehouselaw05.TermOrders', WHERE WHAT IT READS IS OF BULK AT MOST 1048576: true; the input reads as it did. -/
def termOrdersUptoRow : OpenClaim := { program := "ytapafniekmfkaaadoor", sum := "d665f13e5b42b589d44207e2829aa10252cd5551022923eca8811803b4a75736", func := "safehouse/safehouselaw05.TermOrders", spec := "termOrders", inPlace := ["internal/bytealg.Compare"], unfollowed := true, recurses := true, named := ["safehouse/term.counting"], loops := true, plainKeys := false, apart := false, laid := [("safehouse/term.counting", laid_safehouse_term_counting)], narrowed := true }
def TermOrdersUptoSaid : Prop := termOrdersUptoRow.holds Tryd.pinned (OpenSpec.upto termOrdersSpec)

/-- 'safehouselaw05.TermMakes', WHERE WHAT IT READS IS OF BULK AT MOST 1048576: true; the input reads as it did. -/
def termMakesUptoRow : OpenClaim := { program := "ytapafniekmfkaaadoor", sum := "d665f13e5b42b589d44207e2829aa10252cd5551022923eca8811803b4a75736", func := "safehouse/safehouselaw05.TermMakes", spec := "termMakes", unfollowed := true, recurses := true, named := ["safehouse/term.counting"], loops := true, plainKeys := false, apart := false, laid := [("safehouse/term.counting", laid_safehouse_term_counting)], narrowed := true }
def TermMakesUptoSaid : Prop := termMakesUptoRow.holds Tryd.pinned (OpenSpec.upto termMakesSpec)

/-- 'safehouselaw05.TermBack', WHERE WHAT IT READS IS OF BULK AT MOST 1048576: true; the input reads as it did. -/
def termBackUptoRow : OpenClaim := { program := "ytapafniekmfkaaadoor", sum := "d665f13e5b42b589d44207e2829aa10252cd5551022923eca8811803b4a75736", func := "safehouse/safehouselaw05.TermBack", spec := "termBack", unfollowed := true, recurses := true, named := ["safehouse/term.counting"], loops := true, plainKeys := false, apart := false, laid := [("safehouse/term.counting", laid_safehouse_term_counting)], narrowed := true }
def TermBackUptoSaid : Prop := termBackUptoRow.holds Tryd.pinned (OpenSpec.upto termBackSpec)

/-- 'safehouselaw05.TermOne', WHERE WHAT IT READS IS OF BULK AT MOST 1048576: true; the input reads as it did. -/
def termOneUptoRow : OpenClaim := { program := "ytapafniekmfkaaadoor", sum := "d665f13e5b42b589d44207e2829aa10252cd5551022923eca8811803b4a75736", func := "safehouse/safehouselaw05.TermOne", spec := "termOne", inPlace := ["internal/bytealg.Compare"], unfollowed := true, recurses := true, named := ["safehouse/term.counting"], loops := true, plainKeys := false, apart := false, laid := [("safehouse/term.counting", laid_safehouse_term_counting)], narrowed := true }
def TermOneUptoSaid : Prop := termOneUptoRow.holds Tryd.pinned (OpenSpec.upto termOneSpec)

/-- 'safehouselaw05.TermLists', WHERE WHAT IT READS IS OF BULK AT MOST 1048576: true; the input reads as it did. -/
def termListsUptoRow : OpenClaim := { program := "ytapafniekmfkaaadoor", sum := "d665f13e5b42b589d44207e2829aa10252cd5551022923eca8811803b4a75736", func := "safehouse/safehouselaw05.TermLists", spec := "termLists", unfollowed := true, recurses := true, named := ["safehouse/term.counting"], loops := true, plainKeys := false, apart := false, laid := [("safehouse/term.counting", laid_safehouse_term_counting)], narrowed := true }
def TermListsUptoSaid : Prop := termListsUptoRow.holds Tryd.pinned (OpenSpec.upto termListsSpec)

/-- 'safehouselaw07.CloseCan', WHERE WHAT IT READS IS OF BULK AT MOST 1048576: true; the input reads as it did. -/
def closeCanUptoRow : OpenClaim := { program := "ytapafniekmfkaaadoor", sum := "d665f13e5b42b589d44207e2829aa10252cd5551022923eca8811803b4a75736", func := "safehouse/safehouselaw07.CloseCan", spec := "closeCan", inPlace := ["internal/bytealg.Compare"], unfollowed := true, recurses := true, named := ["safehouse/term.counting"], loops := true, plainKeys := false, apart := false, laid := [("safehouse/term.counting", laid_safehouse_term_counting)], narrowed := true }
def CloseCanUptoSaid : Prop := closeCanUptoRow.holds Tryd.pinned (OpenSpec.upto closeCanSpec)

/-- 'safehouselaw07.CloseMore', WHERE WHAT IT READS IS OF BULK AT MOST 1048576: true; the input reads as it did. -/
def closeMoreUptoRow : OpenClaim := { program := "ytapafniekmfkaaadoor", sum := "d665f13e5b42b589d44207e2829aa10252cd5551022923eca8811803b4a75736", func := "safehouse/safehouselaw07.CloseMore", spec := "closeMore", inPlace := ["internal/bytealg.Compare"], unfollowed := true, recurses := true, named := ["safehouse/term.counting"], loops := true, plainKeys := false, apart := false, laid := [("safehouse/term.counting", laid_safehouse_term_counting)], narrowed := true }
def CloseMoreUptoSaid : Prop := closeMoreUptoRow.holds Tryd.pinned (OpenSpec.upto closeMoreSpec)

/-- 'safehouselaw07.CloseAtoms', WHERE WHAT IT READS IS OF BULK AT MOST 1048576: true; the input reads as it did. -/
def closeAtomsUptoRow : OpenClaim := { program := "ytapafniekmfkaaadoor", sum := "d665f13e5b42b589d44207e2829aa10252cd5551022923eca8811803b4a75736", func := "safehouse/safehouselaw07.CloseAtoms", spec := "closeAtoms", inPlace := ["internal/bytealg.Compare"], unfollowed := true, recurses := true, named := ["safehouse/term.counting"], loops := true, plainKeys := false, apart := false, laid := [("safehouse/term.counting", laid_safehouse_term_counting)], narrowed := true }
def CloseAtomsUptoSaid : Prop := closeAtomsUptoRow.holds Tryd.pinned (OpenSpec.upto closeAtomsSpec)

/-- 'safehouselaw07.CloseKeeps', WHERE WHAT IT READS IS OF BULK AT MOST 1048576: true; the input reads as it did. -/
def closeKeepsUptoRow : OpenClaim := { program := "ytapafniekmfkaaadoor", sum := "d665f13e5b42b589d44207e2829aa10252cd5551022923eca8811803b4a75736", func := "safehouse/safehouselaw07.CloseKeeps", spec := "closeKeeps", inPlace := ["internal/bytealg.Compare"], unfollowed := true, recurses := true, named := ["safehouse/term.counting"], loops := true, plainKeys := false, apart := false, laid := [("safehouse/term.counting", laid_safehouse_term_counting)], narrowed := true }
def CloseKeepsUptoSaid : Prop := closeKeepsUptoRow.holds Tryd.pinned (OpenSpec.upto closeKeepsSpec)

end Rows
end Go.Proofs.YtapafniekmfkaaaDoor
