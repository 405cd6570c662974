/-
  NARROWER THAN 'FOR EVERY INPUT', by the rows' own cells (each row's printed sentence says how): MerkleTrees: laid · MerkleClimbs: laid · MerkleSigns: laid · MerkleBytes: laid · MerkleVerifies: laid · MerkleLeads: laid · MerkleBack: laid.
  DERIVED. THE GIVEN ROWS OF THIS SEAT. 7 by the template 'for every input the law returns true; each argument reads behind the call as it read before'; 0 by the template 'total and deterministic' (their statements: YtbacmeaeehhhfaaDoorTotals.lean).
  GIVEN WITH THE SEED: the statements are not yours to turn. If you find one false, say at which input.
  Laid BY PROGRAM, IN A SANDBOX (cutbox-rows.mjs): the forced cells as the released guide's own fill.sh prints them over the translation 596eb9517d42d843… (all of the seat's roots in one cut). By AI agents, Wed Nov 11 2026. No macro, syntax, notation, axiom, sorry.
-/
import Derived.Test.YtbacmeaeehhhfaaDoorChecked
import GoSem.Claim
import GoSem.ClaimJoined
import GoSem.ClaimMapViews
import Derived.JoinedTies
import Derived.KernelRfl
namespace Go.Proofs.YtbacmeaeehhhfaaDoor
/- THE CELL 'sum', in the pinned program and in every row, IS THE sha256 OF THE DUMP (.gsa) THAT YtbacmeaeehhhfaaDoorProg.lean LOADS. Nothing in Lean hashes anything: it is a label: what it is worth is what the hold of that sum in a sandbox is worth. -/
noncomputable def Tryd.pinned : Pinned := { name := "ytbacmeaeehhhfaadoor", sum := "596eb9517d42d843cac6c63270341ff9ab9a4798041ab136a538921b730f9ee2", checked := Tryd.checked }
namespace Rows
def none {H : Type} : Left H := { results := [], args := [] }

/- WHAT THE LISTED PACKAGE-LEVEL VARIABLES READ AS WHEN THE CALL BEGINS. Each datum BY PROGRAM (the guide's laid-datum.mjs) off the statement by which the dump's own 'gosem.cut.vars' lays the variable. In a bare row this is a premise. The card (YtbacmeaeehhhfaaDoorCards.lean) ties it to the program's text. -/
def laid_safehouse_sha_start {H : Type} : DataW H := .agg [.lit (.int .u32 1779033703), .lit (.int .u32 3144134277), .lit (.int .u32 1013904242), .lit (.int .u32 2773480762), .lit (.int .u32 1359893119), .lit (.int .u32 2600822924), .lit (.int .u32 528734635), .lit (.int .u32 1541459225)]
def laid_safehouse_sha_constants {H : Type} : DataW H := .agg [.lit (.int .u32 1116352408), .lit (.int .u32 1899447441), .lit (.int .u32 3049323471), .lit (.int .u32 3921009573), .lit (.int .u32 961987163), .lit (.int .u32 1508970993), .lit (.int .u32 2453635748), .lit (.int .u32 2870763221), .lit (.int .u32 3624381080), .lit (.int .u32 310598401), .lit (.int .u32 607225278), .lit (.int .u32 1426881987), .lit (.int .u32 1925078388), .lit (.int .u32 2162078206), .lit (.int .u32 2614888103), .lit (.int .u32 3248222580), .lit (.int .u32 3835390401), .lit (.int .u32 4022224774), .lit (.int .u32 264347078), .lit (.int .u32 604807628), .lit (.int .u32 770255983), .lit (.int .u32 1249150122), .lit (.int .u32 1555081692), .lit (.int .u32 1996064986), .lit (.int .u32 2554220882), .lit (.int .u32 2821834349), .lit (.int .u32 2952996808), .lit (.int .u32 3210313671), .lit (.int .u32 3336571891), .lit (.int .u32 3584528711), .lit (.int .u32 113926993), .lit (.int .u32 338241895), .lit (.int .u32 666307205), .lit (.int .u32 773529912), .lit (.int .u32 1294757372), .lit (.int .u32 1396182291), .lit (.int .u32 1695183700), .lit (.int .u32 1986661051), .lit (.int .u32 2177026350), .lit (.int .u32 2456956037), .lit (.int .u32 2730485921), .lit (.int .u32 2820302411), .lit (.int .u32 3259730800), .lit (.int .u32 3345764771), .lit (.int .u32 3516065817), .lit (.int .u32 3600352804), .lit (.int .u32 4094571909), .lit (.int .u32 275423344), .lit (.int .u32 430227734), .lit (.int .u32 506948616), .lit (.int .u32 659060556), .lit (.int .u32 883997877), .lit (.int .u32 958139571), .lit (.int .u32 1322822218), .lit (.int .u32 1537002063), .lit (.int .u32 1747873779), .lit (.int .u32 1955562222), .lit (.int .u32 2024104815), .lit (.int .u32 2227730452), .lit (.int .u32 2361852424), .lit (.int .u32 2428436474), .lit (.int .u32 2756734187), .lit (.int .u32 3204031479), .lit (.int .u32 3329325298)]

/-- 'safehouselaw08.MerkleTrees': WHATEVER THE INPUT: true; the input reads as it did. -/
def merkleTreesSpec : ChangeSpec := { name := "merkleTrees", fn := fun _ => fun
  | [d1, d2] => { results := [.lit (.bool true)], args := [d1, d2] }
  | _ => none }
def merkleTreesRow : OpenClaim := { program := "ytbacmeaeehhhfaadoor", sum := "596eb9517d42d843cac6c63270341ff9ab9a4798041ab136a538921b730f9ee2", func := "safehouse/safehouselaw08.MerkleTrees", spec := "merkleTrees", unfollowed := true, recurses := true, named := ["safehouse/sha.start", "safehouse/sha.constants"], apart := false, laid := [("safehouse/sha.start", laid_safehouse_sha_start), ("safehouse/sha.constants", laid_safehouse_sha_constants)] }
def MerkleTreesSaid : Prop := merkleTreesRow.holds Tryd.pinned (OpenSpec.ofChange merkleTreesSpec)

/-- ITS FALSE NEIGHBOUR: 'it returns false'. Refute it at one input. -/
def merkleTreesWrong : ChangeSpec := { name := "merkleTrees", fn := fun _ => fun
  | [d1, d2] => { results := [.lit (.bool false)], args := [d1, d2] }
  | _ => none }
def MerkleTreesWrongFalsely : Prop := merkleTreesRow.holds Tryd.pinned (OpenSpec.ofChange merkleTreesWrong)

/-- 'safehouselaw08.MerkleClimbs': WHATEVER THE INPUT: true; the input reads as it did. -/
def merkleClimbsSpec : ChangeSpec := { name := "merkleClimbs", fn := fun _ => fun
  | [d1, d2, d3] => { results := [.lit (.bool true)], args := [d1, d2, d3] }
  | _ => none }
def merkleClimbsRow : OpenClaim := { program := "ytbacmeaeehhhfaadoor", sum := "596eb9517d42d843cac6c63270341ff9ab9a4798041ab136a538921b730f9ee2", func := "safehouse/safehouselaw08.MerkleClimbs", spec := "merkleClimbs", unfollowed := true, recurses := true, named := ["safehouse/sha.start", "safehouse/sha.constants"], apart := false, laid := [("safehouse/sha.start", laid_safehouse_sha_start), ("safehouse/sha.constants", laid_safehouse_sha_constants)] }
def MerkleClimbsSaid : Prop := merkleClimbsRow.holds Tryd.pinned (OpenSpec.ofChange merkleClimbsSpec)

/-- ITS FALSE NEIGHBOUR: 'it returns false'. Refute it at one input. -/
def merkleClimbsWrong : ChangeSpec := { name := "merkleClimbs", fn := fun _ => fun
  | [d1, d2, d3] => { results := [.lit (.bool false)], args := [d1, d2, d3] }
  | _ => none }
def MerkleClimbsWrongFalsely : Prop := merkleClimbsRow.holds Tryd.pinned (OpenSpec.ofChange merkleClimbsWrong)

/-- 'safehouselaw08.MerkleSigns': WHATEVER THE INPUT: true; the input reads as it did. -/
def merkleSignsSpec : ChangeSpec := { name := "merkleSigns", fn := fun _ => fun
  | [d1, d2, d3] => { results := [.lit (.bool true)], args := [d1, d2, d3] }
  | _ => none }
def merkleSignsRow : OpenClaim := { program := "ytbacmeaeehhhfaadoor", sum := "596eb9517d42d843cac6c63270341ff9ab9a4798041ab136a538921b730f9ee2", func := "safehouse/safehouselaw08.MerkleSigns", spec := "merkleSigns", unfollowed := true, recurses := true, named := ["safehouse/sha.start", "safehouse/sha.constants"], apart := false, laid := [("safehouse/sha.start", laid_safehouse_sha_start), ("safehouse/sha.constants", laid_safehouse_sha_constants)] }
def MerkleSignsSaid : Prop := merkleSignsRow.holds Tryd.pinned (OpenSpec.ofChange merkleSignsSpec)

/-- ITS FALSE NEIGHBOUR: 'it returns false'. Refute it at one input. -/
def merkleSignsWrong : ChangeSpec := { name := "merkleSigns", fn := fun _ => fun
  | [d1, d2, d3] => { results := [.lit (.bool false)], args := [d1, d2, d3] }
  | _ => none }
def MerkleSignsWrongFalsely : Prop := merkleSignsRow.holds Tryd.pinned (OpenSpec.ofChange merkleSignsWrong)

/-- 'safehouselaw08.MerkleBytes': WHATEVER THE INPUT: true; the input reads as it did. -/
def merkleBytesSpec : ChangeSpec := { name := "merkleBytes", fn := fun _ => fun
  | [d1, d2] => { results := [.lit (.bool true)], args := [d1, d2] }
  | _ => none }
def merkleBytesRow : OpenClaim := { program := "ytbacmeaeehhhfaadoor", sum := "596eb9517d42d843cac6c63270341ff9ab9a4798041ab136a538921b730f9ee2", func := "safehouse/safehouselaw08.MerkleBytes", spec := "merkleBytes", unfollowed := true, recurses := true, named := ["safehouse/sha.start", "safehouse/sha.constants"], apart := false, laid := [("safehouse/sha.start", laid_safehouse_sha_start), ("safehouse/sha.constants", laid_safehouse_sha_constants)] }
def MerkleBytesSaid : Prop := merkleBytesRow.holds Tryd.pinned (OpenSpec.ofChange merkleBytesSpec)

/-- ITS FALSE NEIGHBOUR: 'it returns false'. Refute it at one input. -/
def merkleBytesWrong : ChangeSpec := { name := "merkleBytes", fn := fun _ => fun
  | [d1, d2] => { results := [.lit (.bool false)], args := [d1, d2] }
  | _ => none }
def MerkleBytesWrongFalsely : Prop := merkleBytesRow.holds Tryd.pinned (OpenSpec.ofChange merkleBytesWrong)

/-- 'safehouselaw08.MerkleVerifies': WHATEVER THE INPUT: true; the input reads as it did. -/
def merkleVerifiesSpec : ChangeSpec := { name := "merkleVerifies", fn := fun _ => fun
  | [d1, d2, d3] => { results := [.lit (.bool true)], args := [d1, d2, d3] }
  | _ => none }
def merkleVerifiesRow : OpenClaim := { program := "ytbacmeaeehhhfaadoor", sum := "596eb9517d42d843cac6c63270341ff9ab9a4798041ab136a538921b730f9ee2", func := "safehouse/safehouselaw08.MerkleVerifies", spec := "merkleVerifies", unfollowed := true, recurses := true, named := ["safehouse/sha.start", "safehouse/sha.constants"], apart := false, laid := [("safehouse/sha.start", laid_safehouse_sha_start), ("safehouse/sha.constants", laid_safehouse_sha_constants)] }
def MerkleVerifiesSaid : Prop := merkleVerifiesRow.holds Tryd.pinned (OpenSpec.ofChange merkleVerifiesSpec)

/-- ITS FALSE NEIGHBOUR: 'it returns false'. Refute it at one input. -/
def merkleVerifiesWrong : ChangeSpec := { name := "merkleVerifies", fn := fun _ => fun
  | [d1, d2, d3] => { results := [.lit (.bool false)], args := [d1, d2, d3] }
  | _ => none }
def MerkleVerifiesWrongFalsely : Prop := merkleVerifiesRow.holds Tryd.pinned (OpenSpec.ofChange merkleVerifiesWrong)

/-- 'safehouselaw08.MerkleLeads': WHATEVER THE INPUT: true; the input reads as it did. -/
def merkleLeadsSpec : ChangeSpec := { name := "merkleLeads", fn := fun _ => fun
  | [d1, d2] => { results := [.lit (.bool true)], args := [d1, d2] }
  | _ => none }
def merkleLeadsRow : OpenClaim := { program := "ytbacmeaeehhhfaadoor", sum := "596eb9517d42d843cac6c63270341ff9ab9a4798041ab136a538921b730f9ee2", func := "safehouse/safehouselaw08.MerkleLeads", spec := "merkleLeads", unfollowed := true, recurses := true, named := ["safehouse/sha.start", "safehouse/sha.constants"], apart := false, laid := [("safehouse/sha.start", laid_safehouse_sha_start), ("safehouse/sha.constants", laid_safehouse_sha_constants)] }
def MerkleLeadsSaid : Prop := merkleLeadsRow.holds Tryd.pinned (OpenSpec.ofChange merkleLeadsSpec)

/-- ITS FALSE NEIGHBOUR: 'it returns false'. Refute it at one input. -/
def merkleLeadsWrong : ChangeSpec := { name := "merkleLeads", fn := fun _ => fun
  | [d1, d2] => { results := [.lit (.bool false)], args := [d1, d2] }
  | _ => none }
def MerkleLeadsWrongFalsely : Prop := merkleLeadsRow.holds Tryd.pinned (OpenSpec.ofChange merkleLeadsWrong)

/-- 'safehouselaw08.MerkleBack': WHATEVER THE INPUT: true; the input reads as it did. -/
def merkleBackSpec : ChangeSpec := { name := "merkleBack", fn := fun _ => fun
  | [d1, d2, d3] => { results := [.lit (.bool true)], args := [d1, d2, d3] }
  | _ => none }
def merkleBackRow : OpenClaim := { program := "ytbacmeaeehhhfaadoor", sum := "596eb9517d42d843cac6c63270341ff9ab9a4798041ab136a538921b730f9ee2", func := "safehouse/safehouselaw08.MerkleBack", spec := "merkleBack", unfollowed := true, recurses := true, named := ["safehouse/sha.start", "safehouse/sha.constants"], apart := false, laid := [("safehouse/sha.start", laid_safehouse_sha_start), ("safehouse/sha.constants", laid_safehouse_sha_constants)] }
def MerkleBackSaid : Prop := merkleBackRow.holds Tryd.pinned (OpenSpec.ofChange merkleBackSpec)

/-- ITS FALSE NEIGHBOUR: 'it returns false'. Refute it at one input. -/
def merkleBackWrong : ChangeSpec := { name := "merkleBack", fn := fun _ => fun
  | [d1, d2, d3] => { results := [.lit (.bool false)], args := [d1, d2, d3] }
  | _ => none }
def MerkleBackWrongFalsely : Prop := merkleBackRow.holds Tryd.pinned (OpenSpec.ofChange merkleBackWrong)

/- THE SECOND FORM. 'bulk': how many values and letters a reading holds, each counted each time it is reached (what is shared counts as often as it is met; a slice's spare places count too). A statement '..UptoSaid' is the law's where the arguments, and the package variables that the reading takes, are together of bulk at most 1048576: NARROWER than '..Said'. Prove '..Said' where nothing that the law and all that it calls make is longer than what came in: it says more and counts as full. Else prove '..UptoSaid'. A law counts once. -/
mutual
def uptoBulk {H : Type} : DataW H → Nat
  | .lit (.string bytes) => bytes.length + 1
  | .lit _ => 1
  | .nil => 1
  | .ptr d => uptoBulk d + 1
  | .slice elems spare => uptoBulkAll elems + uptoBulkAll spare + 1
  | .agg parts => uptoBulkAll parts + 1
  | .iface _ d => uptoBulk d + 1
  | .map entries => uptoBulkEntries entries + 1
  | .held _ => 1
def uptoBulkAll {H : Type} : List (DataW H) → Nat
  | [] => 0
  | d :: r => uptoBulk d + uptoBulkAll r
def uptoBulkEntries {H : Type} : List (Lit × DataW H) → Nat
  | [] => 0
  | x :: r => uptoBulkEntry x + uptoBulkEntries r
def uptoBulkEntry {H : Type} : Lit × DataW H → Nat
  | (.string bytes, d) => bytes.length + uptoBulk d + 1
  | (_, d) => uptoBulk d + 1
 end
def uptoSmall : (H : Type) → List (DataW H) → Bool := fun _ ds => decide (uptoBulkAll ds ≤ 1048576)
def OpenSpec.upto (s : _root_.Go.ChangeSpec) : _root_.Go.OpenSpec := { _root_.Go.OpenSpec.ofChange s with cond := some uptoSmall }

/-- 'safehouselaw08.MerkleTrees', WHERE WHAT IT READS IS OF BULK AT MOST 1048576: true; the input reads as it did. -/
def merkleTreesUptoRow : OpenClaim := { program := "ytbacmeaeehhhfaadoor", sum := "596eb9517d42d843cac6c63270341ff9ab9a4798041ab136a538921b730f9ee2", func := "safehouse/safehouselaw08.MerkleTrees", spec := "merkleTrees", unfollowed := true, recurses := true, named := ["safehouse/sha.start", "safehouse/sha.constants"], apart := false, laid := [("safehouse/sha.start", laid_safehouse_sha_start), ("safehouse/sha.constants", laid_safehouse_sha_constants)], narrowed := true }
def MerkleTreesUptoSaid : Prop := merkleTreesUptoRow.holds Tryd.pinned (OpenSpec.upto merkleTreesSpec)

/-- 'safehouselaw08.MerkleClimbs', WHERE WHAT IT READS IS OF BULK AT MOST 1048576: true; the input reads as it did. -/
def merkleClimbsUptoRow : OpenClaim := { program := "ytbacmeaeehhhfaadoor", sum := "596eb9517d42d843cac6c63270341ff9ab9a4798041ab136a538921b730f9ee2", func := "safehouse/safehouselaw08.MerkleClimbs", spec := "merkleClimbs", unfollowed := true, recurses := true, named := ["safehouse/sha.start", "safehouse/sha.constants"], apart := false, laid := [("safehouse/sha.start", laid_safehouse_sha_start), ("safehouse/sha.constants", laid_safehouse_sha_constants)], narrowed := true }
def MerkleClimbsUptoSaid : Prop := merkleClimbsUptoRow.holds Tryd.pinned (OpenSpec.upto merkleClimbsSpec)

/-- 'safehouselaw08.MerkleSigns', WHERE WHAT IT READS IS OF BULK AT MOST 1048576: true; the input reads as it did. -/
def merkleSignsUptoRow : OpenClaim := { program := "ytbacmeaeehhhfaadoor", sum := "596eb9517d42d843cac6c63270341ff9ab9a4798041ab136a538921b730f9ee2", func := "safehouse/safehouselaw08.MerkleSigns", spec := "merkleSigns", unfollowed := true, recurses := true, named := ["safehouse/sha.start", "safehouse/sha.constants"], apart := false, laid := [("safehouse/sha.start", laid_safehouse_sha_start), ("safehouse/sha.constants", laid_safehouse_sha_constants)], narrowed := true }
def MerkleSignsUptoSaid : Prop := merkleSignsUptoRow.holds Tryd.pinned (OpenSpec.upto merkleSignsSpec)

/-- 'safehouselaw08.MerkleBytes', WHERE WHAT IT READS IS OF BULK AT MOST 1048576: true; the input reads as it did. -/
def merkleBytesUptoRow : OpenClaim := { program := "ytbacmeaeehhhfaadoor", sum := "596eb9517d42d843cac6c63270341ff9ab9a4798041ab136a538921b730f9ee2", func := "safehouse/safehouselaw08.MerkleBytes", spec := "merkleBytes", unfollowed := true, recurses := true, named := ["safehouse/sha.start", "safehouse/sha.constants"], apart := false, laid := [("safehouse/sha.start", laid_safehouse_sha_start), ("safehouse/sha.constants", laid_safehouse_sha_constants)], narrowed := true }
def MerkleBytesUptoSaid : Prop := merkleBytesUptoRow.holds Tryd.pinned (OpenSpec.upto merkleBytesSpec)

/-- 'safehouselaw08.MerkleVerifies', WHERE WHAT IT READS IS OF BULK AT MOST 1048576: true; the input reads as it did. -/
def merkleVerifiesUptoRow : OpenClaim := { program := "ytbacmeaeehhhfaadoor", sum := "596eb9517d42d843cac6c63270341ff9ab9a4798041ab136a538921b730f9ee2", func := "safehouse/safehouselaw08.MerkleVerifies", spec := "merkleVerifies", unfollowed := true, recurses := true, named := ["safehouse/sha.start", "safehouse/sha.constants"], apart := false, laid := [("safehouse/sha.start", laid_safehouse_sha_start), ("safehouse/sha.constants", laid_safehouse_sha_constants)], narrowed := true }
def MerkleVerifiesUptoSaid : Prop := merkleVerifiesUptoRow.holds Tryd.pinned (OpenSpec.upto merkleVerifiesSpec)

/-- 'safehouselaw08.MerkleLeads', WHERE WHAT IT READS IS OF BULK AT MOST 1048576: true; the input reads as it did. -/
def merkleLeadsUptoRow : OpenClaim := { program := "ytbacmeaeehhhfaadoor", sum := "596eb9517d42d843cac6c63270341ff9ab9a4798041ab136a538921b730f9ee2", func := "safehouse/safehouselaw08.MerkleLeads", spec := "merkleLeads", unfollowed := true, recurses := true, named := ["safehouse/sha.start", "safehouse/sha.constants"], apart := false, laid := [("safehouse/sha.start", laid_safehouse_sha_start), ("safehouse/sha.constants", laid_safehouse_sha_constants)], narrowed := true }
def MerkleLeadsUptoSaid : Prop := merkleLeadsUptoRow.holds Tryd.pinned (OpenSpec.upto merkleLeadsSpec)

/-- 'safehouselaw08.MerkleBack', WHERE WHAT IT READS IS OF BULK AT MOST 1048576: true; the input reads as it did. -/
def merkleBackUptoRow : OpenClaim := { program := "ytbacmeaeehhhfaadoor", sum := "596eb9517d42d843cac6c63270341ff9ab9a4798041ab136a538921b730f9ee2", func := "safehouse/safehouselaw08.MerkleBack", spec := "merkleBack", unfollowed := true, recurses := true, named := ["safehouse/sha.start", "safehouse/sha.constants"], apart := false, laid := [("safehouse/sha.start", laid_safehouse_sha_start), ("safehouse/sha.constants", laid_safehouse_sha_constants)], narrowed := true }
def MerkleBackUptoSaid : Prop := merkleBackUptoRow.holds Tryd.pinned (OpenSpec.upto merkleBackSpec)

end Rows
end Go.Proofs.YtbacmeaeehhhfaaDoor
