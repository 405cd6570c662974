/-
  NARROWER THAN 'FOR EVERY INPUT', by the rows' own cells (each row's printed sentence says how): TermMakes: loops, laid · TermLists: loops, laid · CloseCan: loops, laid · CloseMore: loops, laid · CloseAtoms: loops, laid · CloseKeeps: loops, laid · RegressStates: loops, laid · RegressKeys: loops, laid · RegressBack: loops, laid · RegressSecrets: laid.
  DERIVED. THE GIVEN ROWS OF THIS SEAT. 10 by the template 'for every input the law returns true; each argument reads behind the call as it read before'; 0 by the template 'total and deterministic' (their statements: YtchanildogjhgaaDoorTotals.lean).
  GIVEN WITH THE SEED: the statements are not yours to turn. If you find one false, say at which input.
  Laid BY PROGRAM, IN A SANDBOX (cutbox-rows.mjs): the forced cells as the released guide's own fill.sh prints them over the translation 712b989d9b12095e… (all of the seat's roots in one cut). By AI agents, Wed Nov 11 2026. No macro, syntax, notation, axiom, sorry.
-/
import Derived.Test.YtchanildogjhgaaDoorChecked
import GoSem.Claim
import GoSem.ClaimJoined
import GoSem.ClaimMapViews
import Derived.JoinedTies
import Derived.KernelRfl
namespace Go.Proofs.YtchanildogjhgaaDoor
/- THE CELL 'sum', in the pinned program and in every row, IS THE sha256 OF THE DUMP (.gsa) THAT YtchanildogjhgaaDoorProg.lean LOADS. Nothing in Lean hashes anything: it is a label: what it is worth is what the hold of that sum in a sandbox is worth. -/
noncomputable def Tryd.pinned : Pinned := { name := "ytchanildogjhgaadoor", sum := "712b989d9b12095ea36ee208ca55888267a9c186a3dc254d68232c92bd816e20", checked := Tryd.checked }
namespace Rows
def none {H : Type} : Left H := { results := [], args := [] }

/- WHAT THE LISTED PACKAGE-LEVEL VARIABLES READ AS WHEN THE CALL BEGINS. Each datum BY PROGRAM (the guide's laid-datum.mjs) off the statement by which the dump's own 'gosem.cut.vars' lays the variable. In a bare row this is a premise. The card (YtchanildogjhgaaDoorCards.lean) ties it to the program's text. -/
def laid_safehouse_term_counting {H : Type} : DataW H := .agg [.lit (.int .u8 0), .lit (.int .u8 1), .lit (.int .u8 6), .lit (.int .u8 2), .lit (.int .u8 24), .lit (.int .u8 8), .lit (.int .u8 24), .lit (.int .u8 10), .lit (.int .u8 14)]

/-- 'safehouselaw05.TermMakes': WHATEVER THE INPUT: true; the input reads as it did. -/
def termMakesSpec : ChangeSpec := { name := "termMakes", fn := fun _ => fun
  | [d1, d2, d3] => { results := [.lit (.bool true)], args := [d1, d2, d3] }
  | _ => none }
def termMakesRow : OpenClaim := { program := "ytchanildogjhgaadoor", sum := "712b989d9b12095ea36ee208ca55888267a9c186a3dc254d68232c92bd816e20", func := "safehouse/safehouselaw05.TermMakes", spec := "termMakes", unfollowed := true, recurses := true, named := ["safehouse/term.counting"], loops := true, plainKeys := false, apart := false, laid := [("safehouse/term.counting", laid_safehouse_term_counting)] }
def TermMakesSaid : Prop := termMakesRow.holds Tryd.pinned (OpenSpec.ofChange termMakesSpec)

/-- ITS FALSE NEIGHBOUR: 'it returns false'. Refute it at one input. -/
def termMakesWrong : ChangeSpec := { name := "termMakes", fn := fun _ => fun
  | [d1, d2, d3] => { results := [.lit (.bool false)], args := [d1, d2, d3] }
  | _ => none }
def TermMakesWrongFalsely : Prop := termMakesRow.holds Tryd.pinned (OpenSpec.ofChange termMakesWrong)

/-- 'safehouselaw05.TermLists': WHATEVER THE INPUT: true; the input reads as it did. -/
def termListsSpec : ChangeSpec := { name := "termLists", fn := fun _ => fun
  | [d] => { results := [.lit (.bool true)], args := [d] }
  | _ => none }
def termListsRow : OpenClaim := { program := "ytchanildogjhgaadoor", sum := "712b989d9b12095ea36ee208ca55888267a9c186a3dc254d68232c92bd816e20", func := "safehouse/safehouselaw05.TermLists", spec := "termLists", unfollowed := true, recurses := true, named := ["safehouse/term.counting"], loops := true, plainKeys := false, apart := false, laid := [("safehouse/term.counting", laid_safehouse_term_counting)] }
def TermListsSaid : Prop := termListsRow.holds Tryd.pinned (OpenSpec.ofChange termListsSpec)

/-- ITS FALSE NEIGHBOUR: 'it returns false'. Refute it at one input. -/
def termListsWrong : ChangeSpec := { name := "termLists", fn := fun _ => fun
  | [d] => { results := [.lit (.bool false)], args := [d] }
  | _ => none }
def TermListsWrongFalsely : Prop := termListsRow.holds Tryd.pinned (OpenSpec.ofChange termListsWrong)

/-- 'safehouselaw07.CloseCan': WHATEVER THE INPUT: true; the input reads as it did. -/
def closeCanSpec : ChangeSpec := { name := "closeCan", fn := fun _ => fun
  | [d1, d2] => { results := [.lit (.bool true)], args := [d1, d2] }
  | _ => none }
def closeCanRow : OpenClaim := { program := "ytchanildogjhgaadoor", sum := "712b989d9b12095ea36ee208ca55888267a9c186a3dc254d68232c92bd816e20", func := "safehouse/safehouselaw07.CloseCan", spec := "closeCan", inPlace := ["internal/bytealg.Compare"], unfollowed := true, recurses := true, named := ["safehouse/term.counting"], loops := true, plainKeys := false, apart := false, laid := [("safehouse/term.counting", laid_safehouse_term_counting)] }
def CloseCanSaid : Prop := closeCanRow.holds Tryd.pinned (OpenSpec.ofChange closeCanSpec)

/-- ITS FALSE NEIGHBOUR: 'it returns false'. Refute it at one input. -/
def closeCanWrong : ChangeSpec := { name := "closeCan", fn := fun _ => fun
  | [d1, d2] => { results := [.lit (.bool false)], args := [d1, d2] }
  | _ => none }
def CloseCanWrongFalsely : Prop := closeCanRow.holds Tryd.pinned (OpenSpec.ofChange closeCanWrong)

/-- 'safehouselaw07.CloseMore': WHATEVER THE INPUT: true; the input reads as it did. -/
def closeMoreSpec : ChangeSpec := { name := "closeMore", fn := fun _ => fun
  | [d1, d2, d3] => { results := [.lit (.bool true)], args := [d1, d2, d3] }
  | _ => none }
def closeMoreRow : OpenClaim := { program := "ytchanildogjhgaadoor", sum := "712b989d9b12095ea36ee208ca55888267a9c186a3dc254d68232c92bd816e20", func := "safehouse/safehouselaw07.CloseMore", spec := "closeMore", inPlace := ["internal/bytealg.Compare"], unfollowed := true, recurses := true, named := ["safehouse/term.counting"], loops := true, plainKeys := false, apart := false, laid := [("safehouse/term.counting", laid_safehouse_term_counting)] }
def CloseMoreSaid : Prop := closeMoreRow.holds Tryd.pinned (OpenSpec.ofChange closeMoreSpec)

/-- ITS FALSE NEIGHBOUR: 'it returns false'. Refute it at one input. -/
def closeMoreWrong : ChangeSpec := { name := "closeMore", fn := fun _ => fun
  | [d1, d2, d3] => { results := [.lit (.bool false)], args := [d1, d2, d3] }
  | _ => none }
def CloseMoreWrongFalsely : Prop := closeMoreRow.holds Tryd.pinned (OpenSpec.ofChange closeMoreWrong)

/-- 'safehouselaw07.CloseAtoms': WHATEVER THE INPUT: true; the input reads as it did. -/
def closeAtomsSpec : ChangeSpec := { name := "closeAtoms", fn := fun _ => fun
  | [d1, d2, d3] => { results := [.lit (.bool true)], args := [d1, d2, d3] }
  | _ => none }
def closeAtomsRow : OpenClaim := { program := "ytchanildogjhgaadoor", sum := "712b989d9b12095ea36ee208ca55888267a9c186a3dc254d68232c92bd816e20", func := "safehouse/safehouselaw07.CloseAtoms", spec := "closeAtoms", inPlace := ["internal/bytealg.Compare"], unfollowed := true, recurses := true, named := ["safehouse/term.counting"], loops := true, plainKeys := false, apart := false, laid := [("safehouse/term.counting", laid_safehouse_term_counting)] }
def CloseAtomsSaid : Prop := closeAtomsRow.holds Tryd.pinned (OpenSpec.ofChange closeAtomsSpec)

/-- ITS FALSE NEIGHBOUR: 'it returns false'. Refute it at one input. -/
def closeAtomsWrong : ChangeSpec := { name := "closeAtoms", fn := fun _ => fun
  | [d1, d2, d3] => { results := [.lit (.bool false)], args := [d1, d2, d3] }
  | _ => none }
def CloseAtomsWrongFalsely : Prop := closeAtomsRow.holds Tryd.pinned (OpenSpec.ofChange closeAtomsWrong)

/-- 'safehouselaw07.CloseKeeps': WHATEVER THE INPUT: true; the input reads as it did. -/
def closeKeepsSpec : ChangeSpec := { name := "closeKeeps", fn := fun _ => fun
  | [d1, d2, d3] => { results := [.lit (.bool true)], args := [d1, d2, d3] }
  | _ => none }
def closeKeepsRow : OpenClaim := { program := "ytchanildogjhgaadoor", sum := "712b989d9b12095ea36ee208ca55888267a9c186a3dc254d68232c92bd816e20", func := "safehouse/safehouselaw07.CloseKeeps", spec := "closeKeeps", inPlace := ["internal/bytealg.Compare"], unfollowed := true, recurses := true, named := ["safehouse/term.counting"], loops := true, plainKeys := false, apart := false, laid := [("safehouse/term.counting", laid_safehouse_term_counting)] }
def CloseKeepsSaid : Prop := closeKeepsRow.holds Tryd.pinned (OpenSpec.ofChange closeKeepsSpec)

/-- ITS FALSE NEIGHBOUR: 'it returns false'. Refute it at one input. -/
def closeKeepsWrong : ChangeSpec := { name := "closeKeeps", fn := fun _ => fun
  | [d1, d2, d3] => { results := [.lit (.bool false)], args := [d1, d2, d3] }
  | _ => none }
def CloseKeepsWrongFalsely : Prop := closeKeepsRow.holds Tryd.pinned (OpenSpec.ofChange closeKeepsWrong)

/-- 'safehouselaw09.RegressStates': WHATEVER THE INPUT: true; the input reads as it did. -/
def regressStatesSpec : ChangeSpec := { name := "regressStates", fn := fun _ => fun
  | [d1, d2, d3] => { results := [.lit (.bool true)], args := [d1, d2, d3] }
  | _ => none }
def regressStatesRow : OpenClaim := { program := "ytchanildogjhgaadoor", sum := "712b989d9b12095ea36ee208ca55888267a9c186a3dc254d68232c92bd816e20", func := "safehouse/safehouselaw09.RegressStates", spec := "regressStates", unfollowed := true, recurses := true, named := ["safehouse/term.counting"], loops := true, plainKeys := false, apart := false, laid := [("safehouse/term.counting", laid_safehouse_term_counting)] }
def RegressStatesSaid : Prop := regressStatesRow.holds Tryd.pinned (OpenSpec.ofChange regressStatesSpec)

/-- ITS FALSE NEIGHBOUR: 'it returns false'. Refute it at one input. -/
def regressStatesWrong : ChangeSpec := { name := "regressStates", fn := fun _ => fun
  | [d1, d2, d3] => { results := [.lit (.bool false)], args := [d1, d2, d3] }
  | _ => none }
def RegressStatesWrongFalsely : Prop := regressStatesRow.holds Tryd.pinned (OpenSpec.ofChange regressStatesWrong)

/-- 'safehouselaw09.RegressKeys': WHATEVER THE INPUT: true; the input reads as it did. -/
def regressKeysSpec : ChangeSpec := { name := "regressKeys", fn := fun _ => fun
  | [d] => { results := [.lit (.bool true)], args := [d] }
  | _ => none }
def regressKeysRow : OpenClaim := { program := "ytchanildogjhgaadoor", sum := "712b989d9b12095ea36ee208ca55888267a9c186a3dc254d68232c92bd816e20", func := "safehouse/safehouselaw09.RegressKeys", spec := "regressKeys", unfollowed := true, recurses := true, named := ["safehouse/term.counting"], loops := true, plainKeys := false, apart := false, laid := [("safehouse/term.counting", laid_safehouse_term_counting)] }
def RegressKeysSaid : Prop := regressKeysRow.holds Tryd.pinned (OpenSpec.ofChange regressKeysSpec)

/-- ITS FALSE NEIGHBOUR: 'it returns false'. Refute it at one input. -/
def regressKeysWrong : ChangeSpec := { name := "regressKeys", fn := fun _ => fun
  | [d] => { results := [.lit (.bool false)], args := [d] }
  | _ => none }
def RegressKeysWrongFalsely : Prop := regressKeysRow.holds Tryd.pinned (OpenSpec.ofChange regressKeysWrong)

/-- 'safehouselaw09.RegressBack': WHATEVER THE INPUT: true; the input reads as it did. -/
def regressBackSpec : ChangeSpec := { name := "regressBack", fn := fun _ => fun
  | [d1, d2, d3] => { results := [.lit (.bool true)], args := [d1, d2, d3] }
  | _ => none }
def regressBackRow : OpenClaim := { program := "ytchanildogjhgaadoor", sum := "712b989d9b12095ea36ee208ca55888267a9c186a3dc254d68232c92bd816e20", func := "safehouse/safehouselaw09.RegressBack", spec := "regressBack", unfollowed := true, recurses := true, named := ["safehouse/term.counting"], loops := true, plainKeys := false, apart := false, laid := [("safehouse/term.counting", laid_safehouse_term_counting)] }
def RegressBackSaid : Prop := regressBackRow.holds Tryd.pinned (OpenSpec.ofChange regressBackSpec)

/-- ITS FALSE NEIGHBOUR: 'it returns false'. Refute it at one input. -/
def regressBackWrong : ChangeSpec := { name := "regressBack", fn := fun _ => fun
  | [d1, d2, d3] => { results := [.lit (.bool false)], args := [d1, d2, d3] }
  | _ => none }
def RegressBackWrongFalsely : Prop := regressBackRow.holds Tryd.pinned (OpenSpec.ofChange regressBackWrong)

/-- 'safehouselaw09.RegressSecrets': WHATEVER THE INPUT: true; the input reads as it did. -/
def regressSecretsSpec : ChangeSpec := { name := "regressSecrets", fn := fun _ => fun
  | [d1, d2, d3] => { results := [.lit (.bool true)], args := [d1, d2, d3] }
  | _ => none }
def regressSecretsRow : OpenClaim := { program := "ytchanildogjhgaadoor", sum := "712b989d9b12095ea36ee208ca55888267a9c186a3dc254d68232c92bd816e20", func := "safehouse/safehouselaw09.RegressSecrets", spec := "regressSecrets", unfollowed := true, recurses := true, named := ["safehouse/term.counting"], plainKeys := false, apart := false, laid := [("safehouse/term.counting", laid_safehouse_term_counting)] }
def RegressSecretsSaid : Prop := regressSecretsRow.holds Tryd.pinned (OpenSpec.ofChange regressSecretsSpec)

/-- ITS FALSE NEIGHBOUR: 'it returns false'. Refute it at one input. -/
def regressSecretsWrong : ChangeSpec := { name := "regressSecrets", fn := fun _ => fun
  | [d1, d2, d3] => { results := [.lit (.bool false)], args := [d1, d2, d3] }
  | _ => none }
def RegressSecretsWrongFalsely : Prop := regressSecretsRow.holds Tryd.pinned (OpenSpec.ofChange regressSecretsWrong)

/- THE SECOND FORM. 'bulk': how many values and letters a reading holds, each counted each time it is reached (what is shared counts as often as it is met; a slice's spare places count too). A statement '..UptoSaid' is the law's where the arguments, and the package variables that the reading takes, are together of bulk at most 1048576: NARROWER than '..Said'. Prove '..Said' where nothing that the law and all that it calls make is longer than what came in: it says more and counts as full. Else prove '..UptoSaid'. A law counts once. -/
mutual
def uptoBulk {H : Type} : DataW H → Nat
  | .lit (.string bytes) => bytes.length + 1
  | .lit _ => 1
  | .nil => 1
  | .ptr d => uptoBulk d + 1
  | .slice elems spare => uptoBulkAll elems + uptoBulkAll spare + 1
  | .agg parts => uptoBulkAll parts + 1
  | .iface _ d => uptoBulk d + 1
  | .map entries => uptoBulkEntries entries + 1
  | .held _ => 1
def uptoBulkAll {H : Type} : List (DataW H) → Nat
  | [] => 0
  | d :: r => uptoBulk d + uptoBulkAll r
def uptoBulkEntries {H : Type} : List (Lit × DataW H) → Nat
  | [] => 0
  | x :: r => uptoBulkEntry x + uptoBulkEntries r
def uptoBulkEntry {H : Type} : Lit × DataW H → Nat
  | (.string bytes, d) => bytes.length + uptoBulk d + 1
  | (_, d) => uptoBulk d + 1
 end
def uptoSmall : (H : Type) → List (DataW H) → Bool := fun _ ds => decide (uptoBulkAll ds ≤ 1048576)
def OpenSpec.upto (s : _root_.Go.ChangeSpec) : _root_.Go.OpenSpec := { _root_.Go.OpenSpec.ofChange s with cond := some uptoSmall }

/-- 'safehouselaw05.TermMakes', WHERE WHAT IT READS IS OF BULK AT MOST 1048576: true; the input reads as it did. -/
def termMakesUptoRow : OpenClaim := { program := "ytchanildogjhgaadoor", sum := "712b989d9b12095ea36ee208ca55888267a9c186a3dc254d68232c92bd816e20", func := "safehouse/safehouselaw05.TermMakes", spec := "termMakes", unfollowed := true, recurses := true, named := ["safehouse/term.counting"], loops := true, plainKeys := false, apart := false, laid := [("safehouse/term.counting", laid_safehouse_term_counting)], narrowed := true }
def TermMakesUptoSaid : Prop := termMakesUptoRow.holds Tryd.pinned (OpenSpec.upto termMakesSpec)

/-- 'safehouselaw05.TermLists', WHERE WHAT IT READS IS OF BULK AT MOST 1048576: true; the input reads as it did. -/
def termListsUptoRow : OpenClaim := { program := "ytchanildogjhgaadoor", sum := "712b989d9b12095ea36ee208ca55888267a9c186a3dc254d68232c92bd816e20", func := "safehouse/safehouselaw05.TermLists", spec := "termLists", unfollowed := true, recurses := true, named := ["safehouse/term.counting"], loops := true, plainKeys := false, apart := false, laid := [("safehouse/term.counting", laid_safehouse_term_counting)], narrowed := true }
def TermListsUptoSaid : Prop := termListsUptoRow.holds Tryd.pinned (OpenSpec.upto termListsSpec)

/-- 'safehouselaw07.CloseCan', WHERE WHAT IT READS IS OF BULK AT MOST 1048576: true; the input reads as it did. -/
def closeCanUptoRow : OpenClaim := { program := "ytchanildogjhgaadoor", sum := "712b989d9b12095ea36ee208ca55888267a9c186a3dc254d68232c92bd816e20", func := "safehouse/safehouselaw07.CloseCan", spec := "closeCan", inPlace := ["internal/bytealg.Compare"], unfollowed := true, recurses := true, named := ["safehouse/term.counting"], loops := true, plainKeys := false, apart := false, laid := [("safehouse/term.counting", laid_safehouse_term_counting)], narrowed := true }
def CloseCanUptoSaid : Prop := closeCanUptoRow.holds Tryd.pinned (OpenSpec.upto closeCanSpec)

/-- 'safehouselaw07.CloseMore', WHERE WHAT IT READS IS OF BULK AT MOST 1048576: true; the input reads as it did. -/
def closeMoreUptoRow : OpenClaim := { program := "ytchanildogjhgaadoor", sum := "712b989d9b12095ea36ee208ca55888267a9c186a3dc254d68232c92bd816e20", func := "safehouse/safehouselaw07.CloseMore", spec := "closeMore", inPlace := ["internal/bytealg.Compare"], unfollowed := true, recurses := true, named := ["safehouse/term.counting"], loops := true, plainKeys := false, apart := false, laid := [("safehouse/term.counting", laid_safehouse_term_counting)], narrowed := true }
def CloseMoreUptoSaid : Prop := closeMoreUptoRow.holds Tryd.pinned (OpenSpec.upto closeMoreSpec)

/-- 'safehouselaw07.CloseAtoms', WHERE WHAT IT READS IS OF BULK AT MOST 1048576: true; the input reads as it did. -/
def closeAtomsUptoRow : OpenClaim := { program := "ytchanildogjhgaadoor", sum := "712b989d9b12095ea36ee208ca55888267a9c186a3dc254d68232c92bd816e20", func := "safehouse/safehouselaw07.CloseAtoms", spec := "closeAtoms", inPlace := ["internal/bytealg.Compare"], unfollowed := true, recurses := true, named := ["safehouse/term.counting"], loops := true, plainKeys := false, apart := false, laid := [("safehouse/term.counting", laid_safehouse_term_counting)], narrowed := true }
def CloseAtomsUptoSaid : Prop := closeAtomsUptoRow.holds Tryd.pinned (OpenSpec.upto closeAtomsSpec)

/-- 'safehouselaw07.CloseKeeps', WHERE WHAT IT READS IS OF BULK AT MOST 1048576: true; the input reads as it did. -/
def closeKeepsUptoRow : OpenClaim := { program := "ytchanildogjhgaadoor", sum := "712b989d9b12095ea36ee208ca55888267a9c186a3dc254d68232c92bd816e20", func := "safehouse/safehouselaw07.CloseKeeps", spec := "closeKeeps", inPlace := ["internal/bytealg.Compare"], unfollowed := true, recurses := true, named := ["safehouse/term.counting"], loops := true, plainKeys := false, apart := false, laid := [("safehouse/term.counting", laid_safehouse_term_counting)], narrowed := true }
def CloseKeepsUptoSaid : Prop := closeKeepsUptoRow.holds Tryd.pinned (OpenSpec.upto closeKeepsSpec)

/-- 'safehouselaw09.RegressStates', WHERE WHAT IT READS IS OF BULK AT MOST 1048576: true; the input reads as it did. -/
def regressStatesUptoRow : OpenClaim := { program := "ytchanildogjhgaadoor", sum := "712b989d9b12095ea36ee208ca55888267a9c186a3dc254d68232c92bd816e20", func := "safehouse/safehouselaw09.RegressStates", spec := "regressStates", unfollowed := true, recurses := true, named := ["safehouse/term.counting"], loops := true, plainKeys := false, apart := false, laid := [("safehouse/term.counting", laid_safehouse_term_counting)], narrowed := true }
def RegressStatesUptoSaid : Prop := regressStatesUptoRow.holds Tryd.pinned (OpenSpec.upto regressStatesSpec)

/-- 'safehouselaw09.RegressKeys', WHERE WHAT IT READS IS OF BULK AT MOST 1048576: true; the input reads as it did. -/
def regressKeysUptoRow : OpenClaim := { program := "ytchanildogjhgaadoor", sum := "712b989d9b12095ea36ee208ca55888267a9c186a3dc254d68232c92bd816e20", func := "safehouse/safehouselaw09.RegressKeys", spec := "regressKeys", unfollowed := true, recurses := true, named := ["safehouse/term.counting"], loops := true, plainKeys := false, apart := false, laid := [("safehouse/term.counting", laid_safehouse_term_counting)], narrowed := true }
def RegressKeysUptoSaid : Prop := regressKeysUptoRow.holds Tryd.pinned (OpenSpec.upto regressKeysSpec)

/-- 'safehouselaw09.RegressBack', WHERE WHAT IT READS IS OF BULK AT MOST 1048576: true; the input reads as it did. -/
def regressBackUptoRow : OpenClaim := { program := "ytchanildogjhgaadoor", sum := "712b989d9b12095ea36ee208ca55888267a9c186a3dc254d68232c92bd816e20", func := "safehouse/safehouselaw09.RegressBack", spec := "regressBack", unfollowed := true, recurses := true, named := ["safehouse/term.counting"], loops := true, plainKeys := false, apart := false, laid := [("safehouse/term.counting", laid_safehouse_term_counting)], narrowed := true }
def RegressBackUptoSaid : Prop := regressBackUptoRow.holds Tryd.pinned (OpenSpec.upto regressBackSpec)

/-- 'safehouselaw09.RegressSecrets', WHERE WHAT IT READS IS OF BULK AT MOST 1048576: true; the input reads as it did. -/
def regressSecretsUptoRow : OpenClaim := { program := "ytchanildogjhgaadoor", sum := "712b989d9b12095ea36ee208ca55888267a9c186a3dc254d68232c92bd816e20", func := "safehouse/safehouselaw09.RegressSecrets", spec := "regressSecrets", unfollowed := true, recurses := true, named := ["safehouse/term.counting"], plainKeys := false, apart := false, laid := [("safehouse/term.counting", laid_safehouse_term_counting)], narrowed := true }
def RegressSecretsUptoSaid : Prop := regressSecretsUptoRow.holds Tryd.pinned (OpenSpec.upto regressSecretsSpec)

end Rows
end Go.Proofs.YtchanildogjhgaaDoor
