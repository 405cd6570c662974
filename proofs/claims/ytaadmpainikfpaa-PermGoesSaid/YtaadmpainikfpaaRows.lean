/-
  No cell of these rows narrows 'for every input' (looked for: loops, veiled, ifaces, maps, wideKeys, modest, calm, conditions, laid).
  DERIVED. THE GIVEN ROWS OF THIS SEAT. 4 by the template 'for every input the law returns true; each argument reads behind the call as it read before'; 0 by the template 'total and deterministic' (their statements: YtaadmpainikfpaaTotals.lean).
  GIVEN WITH THE SEED: the statements are not yours to turn. If you find one false, say at which input.
  Laid BY PROGRAM, IN A SANDBOX (cutbox-rows.mjs): the forced cells as the released guide's own fill.sh prints them over the translation fdfd44f19392872a… (all of the seat's roots in one cut). By AI agents, Wed Nov 11 2026. No macro, syntax, notation, axiom, sorry.
-/
import Derived.Test.YtaadmpainikfpaaChecked
import GoSem.Claim
import GoSem.ClaimJoined
import GoSem.ClaimMapViews
import Derived.JoinedTies
import Derived.KernelRfl
namespace Go.Proofs.Ytaadmpainikfpaa
/- THE CELL 'sum', in the pinned program and in every row, IS THE sha256 OF THE DUMP (.gsa) THAT YtaadmpainikfpaaProg.lean LOADS. Nothing in Lean hashes anything: it is a label: what it is worth is what the hold of that sum in a sandbox is worth. -/
noncomputable def Try.pinned : Pinned := { name := "ytaadmpainikfpaa", sum := "fdfd44f19392872ae4b59e2fa31ea2d43010eac24e780eec3c7a4c5fa04000b7", checked := Try.checked }
namespace Rows
def none {H : Type} : Left H := { results := [], args := [] }

/-- 'safehouselaw11.PermChanges': WHATEVER THE INPUT: true; the input reads as it did. -/
def permChangesSpec : ChangeSpec := { name := "permChanges", fn := fun _ => fun
  | [d1, d2] => { results := [.lit (.bool true)], args := [d1, d2] }
  | _ => none }
def permChangesRow : OpenClaim := { program := "ytaadmpainikfpaa", sum := "fdfd44f19392872ae4b59e2fa31ea2d43010eac24e780eec3c7a4c5fa04000b7", func := "safehouse/safehouselaw11.PermChanges", spec := "permChanges", inPlace := ["slices.overlaps[int]"], unfollowed := true, recurses := true, apart := false }
def PermChangesSaid : Prop := permChangesRow.holds Try.pinned (OpenSpec.ofChange permChangesSpec)

/-- ITS FALSE NEIGHBOUR: 'it returns false'. Refute it at one input. -/
def permChangesWrong : ChangeSpec := { name := "permChanges", fn := fun _ => fun
  | [d1, d2] => { results := [.lit (.bool false)], args := [d1, d2] }
  | _ => none }
def PermChangesWrongFalsely : Prop := permChangesRow.holds Try.pinned (OpenSpec.ofChange permChangesWrong)

/-- 'safehouselaw11.PermTells': WHATEVER THE INPUT: true; the input reads as it did. -/
def permTellsSpec : ChangeSpec := { name := "permTells", fn := fun _ => fun
  | [d1, d2, d3] => { results := [.lit (.bool true)], args := [d1, d2, d3] }
  | _ => none }
def permTellsRow : OpenClaim := { program := "ytaadmpainikfpaa", sum := "fdfd44f19392872ae4b59e2fa31ea2d43010eac24e780eec3c7a4c5fa04000b7", func := "safehouse/safehouselaw11.PermTells", spec := "permTells", inPlace := ["slices.overlaps[int]"], unfollowed := true, recurses := true, apart := false }
def PermTellsSaid : Prop := permTellsRow.holds Try.pinned (OpenSpec.ofChange permTellsSpec)

/-- ITS FALSE NEIGHBOUR: 'it returns false'. Refute it at one input. -/
def permTellsWrong : ChangeSpec := { name := "permTells", fn := fun _ => fun
  | [d1, d2, d3] => { results := [.lit (.bool false)], args := [d1, d2, d3] }
  | _ => none }
def PermTellsWrongFalsely : Prop := permTellsRow.holds Try.pinned (OpenSpec.ofChange permTellsWrong)

/-- 'safehouselaw11.PermGoes': WHATEVER THE INPUT: true; the input reads as it did. -/
def permGoesSpec : ChangeSpec := { name := "permGoes", fn := fun _ => fun
  | [d1, d2, d3] => { results := [.lit (.bool true)], args := [d1, d2, d3] }
  | _ => none }
def permGoesRow : OpenClaim := { program := "ytaadmpainikfpaa", sum := "fdfd44f19392872ae4b59e2fa31ea2d43010eac24e780eec3c7a4c5fa04000b7", func := "safehouse/safehouselaw11.PermGoes", spec := "permGoes", inPlace := ["slices.overlaps[int]"], unfollowed := true, recurses := true, apart := false }
def PermGoesSaid : Prop := permGoesRow.holds Try.pinned (OpenSpec.ofChange permGoesSpec)

/-- ITS FALSE NEIGHBOUR: 'it returns false'. Refute it at one input. -/
def permGoesWrong : ChangeSpec := { name := "permGoes", fn := fun _ => fun
  | [d1, d2, d3] => { results := [.lit (.bool false)], args := [d1, d2, d3] }
  | _ => none }
def PermGoesWrongFalsely : Prop := permGoesRow.holds Try.pinned (OpenSpec.ofChange permGoesWrong)

/-- 'safehouselaw11.PermBack': WHATEVER THE INPUT: true; the input reads as it did. -/
def permBackSpec : ChangeSpec := { name := "permBack", fn := fun _ => fun
  | [d1, d2, d3] => { results := [.lit (.bool true)], args := [d1, d2, d3] }
  | _ => none }
def permBackRow : OpenClaim := { program := "ytaadmpainikfpaa", sum := "fdfd44f19392872ae4b59e2fa31ea2d43010eac24e780eec3c7a4c5fa04000b7", func := "safehouse/safehouselaw11.PermBack", spec := "permBack", inPlace := ["slices.overlaps[int]"], unfollowed := true, recurses := true, apart := false }
def PermBackSaid : Prop := permBackRow.holds Try.pinned (OpenSpec.ofChange permBackSpec)

/-- ITS FALSE NEIGHBOUR: 'it returns false'. Refute it at one input. -/
def permBackWrong : ChangeSpec := { name := "permBack", fn := fun _ => fun
  | [d1, d2, d3] => { results := [.lit (.bool false)], args := [d1, d2, d3] }
  | _ => none }
def PermBackWrongFalsely : Prop := permBackRow.holds Try.pinned (OpenSpec.ofChange permBackWrong)

/- THE SECOND FORM. 'bulk': how many values and letters a reading holds, each counted each time it is reached (what is shared counts as often as it is met; a slice's spare places count too). A statement '..UptoSaid' is the law's where the arguments, and the package variables that the reading takes, are together of bulk at most 1048576: NARROWER than '..Said'. Prove '..Said' where nothing that the law and all that it calls make is longer than what came in: it says more and counts as full. Else prove '..UptoSaid'. A law counts once. -/
mutual
def uptoBulk {H : Type} : DataW H → Nat
  | .lit (.string bytes) => bytes.length + 1
  | .lit _ => 1
  | .nil => 1
  | .ptr d => uptoBulk d + 1
  | .slice elems spare => uptoBulkAll elems + uptoBulkAll spare + 1
  | .agg parts => uptoBulkAll parts + 1
  | .iface _ d => uptoBulk d + 1
  | .map entries => uptoBulkEntries entries + 1
  | .held _ => 1
def uptoBulkAll {H : Type} : List (DataW H) → Nat
  | [] => 0
  | d :: r => uptoBulk d + uptoBulkAll r
def uptoBulkEntries {H : Type} : List (Lit × DataW H) → Nat
  | [] => 0
  | x :: r => uptoBulkEntry x + uptoBulkEntries r
def uptoBulkEntry {H : Type} : Lit × DataW H → Nat
  | (.string bytes, d) => bytes.length + uptoBulk d + 1
  | (_, d) => uptoBulk d + 1
 end
def uptoSmall : (H : Type) → List (DataW H) → Bool := fun _ ds => decide (uptoBulkAll ds ≤ 1048576)
def OpenSpec.upto (s : _root_.Go.ChangeSpec) : _root_.Go.OpenSpec := { _root_.Go.OpenSpec.ofChange s with cond := some uptoSmall }

/-- 'safehouselaw11.PermChanges', WHERE WHAT IT READS IS OF BULK AT MOST 1048576: true; the input reads as it did. -/
def permChangesUptoRow : OpenClaim := { program := "ytaadmpainikfpaa", sum := "fdfd44f19392872ae4b59e2fa31ea2d43010eac24e780eec3c7a4c5fa04000b7", func := "safehouse/safehouselaw11.PermChanges", spec := "permChanges", inPlace := ["slices.overlaps[int]"], unfollowed := true, recurses := true, apart := false, narrowed := true }
def PermChangesUptoSaid : Prop := permChangesUptoRow.holds Try.pinned (OpenSpec.upto permChangesSpec)

/-- 'safehouselaw11.PermTells', WHERE WHAT IT READS IS OF BULK AT MOST 1048576: true; the input reads as it did. -/
def permTellsUptoRow : OpenClaim := { program := "ytaadmpainikfpaa", sum := "fdfd44f19392872ae4b59e2fa31ea2d43010eac24e780eec3c7a4c5fa04000b7", func := "safehouse/safehouselaw11.PermTells", spec := "permTells", inPlace := ["slices.overlaps[int]"], unfollowed := true, recurses := true, apart := false, narrowed := true }
def PermTellsUptoSaid : Prop := permTellsUptoRow.holds Try.pinned (OpenSpec.upto permTellsSpec)

/-- 'safehouselaw11.PermGoes', WHERE WHAT IT READS IS OF BULK AT MOST 1048576: true; the input reads as it did. -/
def permGoesUptoRow : OpenClaim := { program := "ytaadmpainikfpaa", sum := "fdfd44f19392872ae4b59e2fa31ea2d43010eac24e780eec3c7a4c5fa04000b7", func := "safehouse/safehouselaw11.PermGoes", spec := "permGoes", inPlace := ["slices.overlaps[int]"], unfollowed := true, recurses := true, apart := false, narrowed := true }
def PermGoesUptoSaid : Prop := permGoesUptoRow.holds Try.pinned (OpenSpec.upto permGoesSpec)

/-- 'safehouselaw11.PermBack', WHERE WHAT IT READS IS OF BULK AT MOST 1048576: true; the input reads as it did. -/
def permBackUptoRow : OpenClaim := { program := "ytaadmpainikfpaa", sum := "fdfd44f19392872ae4b59e2fa31ea2d43010eac24e780eec3c7a4c5fa04000b7", func := "safehouse/safehouselaw11.PermBack", spec := "permBack", inPlace := ["slices.overlaps[int]"], unfollowed := true, recurses := true, apart := false, narrowed := true }
def PermBackUptoSaid : Prop := permBackUptoRow.holds Try.pinned (OpenSpec.upto permBackSpec)

end Rows
end Go.Proofs.Ytaadmpainikfpaa
