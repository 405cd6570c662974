/-
  NARROWER THAN 'FOR EVERY INPUT', by the rows' own cells (each row's printed sentence says how): WotsDigits: laid · WotsChains: laid · WotsSigns: laid · WotsLong: laid · WotsVerifies: laid · WotsBelow: laid · WotsAdds: laid.
  DERIVED. THE GIVEN ROWS OF THIS SEAT. 7 by the template 'for every input the law returns true; each argument reads behind the call as it read before'; 0 by the template 'total and deterministic' (their statements: YtdolihecjomjiaaDoorTotals.lean).
  GIVEN WITH THE SEED: the statements are not yours to turn. If you find one false, say at which input.
  Laid BY PROGRAM, IN A SANDBOX (cutbox-rows.mjs): the forced cells as the released guide's own fill.sh prints them over the translation d8cdf20e085a7dbd… (all of the seat's roots in one cut). By AI agents, Wed Nov 11 2026. No macro, syntax, notation, axiom, sorry.
-/
import Derived.Test.YtdolihecjomjiaaDoorChecked
import GoSem.Claim
import GoSem.ClaimJoined
import GoSem.ClaimMapViews
import Derived.JoinedTies
import Derived.KernelRfl
namespace Go.Proofs.YtdolihecjomjiaaDoor
/- THE CELL 'sum', in the pinned program and in every row, IS THE sha256 OF THE DUMP (.gsa) THAT YtdolihecjomjiaaDoorProg.lean LOADS. Nothing in Lean hashes anything: it is a label: what it is worth is what the hold of that sum in a sandbox is worth. -/
noncomputable def Tryd.pinned : Pinned := { name := "ytdolihecjomjiaadoor", sum := "d8cdf20e085a7dbd5f9d3c57c8ccb2352aedef61f1b73e272f9eb263fb6274ac", checked := Tryd.checked }
namespace Rows
def none {H : Type} : Left H := { results := [], args := [] }

/- WHAT THE LISTED PACKAGE-LEVEL VARIABLES READ AS WHEN THE CALL BEGINS. Each datum BY PROGRAM (the guide's laid-datum.mjs) off the statement by which the dump's own 'gosem.cut.vars' lays the variable. In a bare row this is a premise. The card (YtdolihecjomjiaaDoorCards.lean) ties it to the program's text. -/
def laid_safehouse_sha_start {H : Type} : DataW H := .agg [.lit (.int .u32 1779033703), .lit (.int .u32 3144134277), .lit (.int .u32 1013904242), .lit (.int .u32 2773480762), .lit (.int .u32 1359893119), .lit (.int .u32 2600822924), .lit (.int .u32 528734635), .lit (.int .u32 1541459225)]
def laid_safehouse_sha_constants {H : Type} : DataW H := .agg [.lit (.int .u32 1116352408), .lit (.int .u32 1899447441), .lit (.int .u32 3049323471), .lit (.int .u32 3921009573), .lit (.int .u32 961987163), .lit (.int .u32 1508970993), .lit (.int .u32 2453635748), .lit (.int .u32 2870763221), .lit (.int .u32 3624381080), .lit (.int .u32 310598401), .lit (.int .u32 607225278), .lit (.int .u32 1426881987), .lit (.int .u32 1925078388), .lit (.int .u32 2162078206), .lit (.int .u32 2614888103), .lit (.int .u32 3248222580), .lit (.int .u32 3835390401), .lit (.int .u32 4022224774), .lit (.int .u32 264347078), .lit (.int .u32 604807628), .lit (.int .u32 770255983), .lit (.int .u32 1249150122), .lit (.int .u32 1555081692), .lit (.int .u32 1996064986), .lit (.int .u32 2554220882), .lit (.int .u32 2821834349), .lit (.int .u32 2952996808), .lit (.int .u32 3210313671), .lit (.int .u32 3336571891), .lit (.int .u32 3584528711), .lit (.int .u32 113926993), .lit (.int .u32 338241895), .lit (.int .u32 666307205), .lit (.int .u32 773529912), .lit (.int .u32 1294757372), .lit (.int .u32 1396182291), .lit (.int .u32 1695183700), .lit (.int .u32 1986661051), .lit (.int .u32 2177026350), .lit (.int .u32 2456956037), .lit (.int .u32 2730485921), .lit (.int .u32 2820302411), .lit (.int .u32 3259730800), .lit (.int .u32 3345764771), .lit (.int .u32 3516065817), .lit (.int .u32 3600352804), .lit (.int .u32 4094571909), .lit (.int .u32 275423344), .lit (.int .u32 430227734), .lit (.int .u32 506948616), .lit (.int .u32 659060556), .lit (.int .u32 883997877), .lit (.int .u32 958139571), .lit (.int .u32 1322822218), .lit (.int .u32 1537002063), .lit (.int .u32 1747873779), .lit (.int .u32 1955562222), .lit (.int .u32 2024104815), .lit (.int .u32 2227730452), .lit (.int .u32 2361852424), .lit (.int .u32 2428436474), .lit (.int .u32 2756734187), .lit (.int .u32 3204031479), .lit (.int .u32 3329325298)]

/-- 'safehouselaw06.WotsDigits': WHATEVER THE INPUT: true; the input reads as it did. -/
def wotsDigitsSpec : ChangeSpec := { name := "wotsDigits", fn := fun _ => fun
  | [d] => { results := [.lit (.bool true)], args := [d] }
  | _ => none }
def wotsDigitsRow : OpenClaim := { program := "ytdolihecjomjiaadoor", sum := "d8cdf20e085a7dbd5f9d3c57c8ccb2352aedef61f1b73e272f9eb263fb6274ac", func := "safehouse/safehouselaw06.WotsDigits", spec := "wotsDigits", unfollowed := true, recurses := true, named := ["safehouse/sha.start", "safehouse/sha.constants"], apart := false, laid := [("safehouse/sha.start", laid_safehouse_sha_start), ("safehouse/sha.constants", laid_safehouse_sha_constants)] }
def WotsDigitsSaid : Prop := wotsDigitsRow.holds Tryd.pinned (OpenSpec.ofChange wotsDigitsSpec)

/-- ITS FALSE NEIGHBOUR: 'it returns false'. Refute it at one input. -/
def wotsDigitsWrong : ChangeSpec := { name := "wotsDigits", fn := fun _ => fun
  | [d] => { results := [.lit (.bool false)], args := [d] }
  | _ => none }
def WotsDigitsWrongFalsely : Prop := wotsDigitsRow.holds Tryd.pinned (OpenSpec.ofChange wotsDigitsWrong)

/-- 'safehouselaw06.WotsChains': WHATEVER THE INPUT: true; the input reads as it did. -/
def wotsChainsSpec : ChangeSpec := { name := "wotsChains", fn := fun _ => fun
  | [d] => { results := [.lit (.bool true)], args := [d] }
  | _ => none }
def wotsChainsRow : OpenClaim := { program := "ytdolihecjomjiaadoor", sum := "d8cdf20e085a7dbd5f9d3c57c8ccb2352aedef61f1b73e272f9eb263fb6274ac", func := "safehouse/safehouselaw06.WotsChains", spec := "wotsChains", unfollowed := true, recurses := true, named := ["safehouse/sha.start", "safehouse/sha.constants"], apart := false, laid := [("safehouse/sha.start", laid_safehouse_sha_start), ("safehouse/sha.constants", laid_safehouse_sha_constants)] }
def WotsChainsSaid : Prop := wotsChainsRow.holds Tryd.pinned (OpenSpec.ofChange wotsChainsSpec)

/-- ITS FALSE NEIGHBOUR: 'it returns false'. Refute it at one input. -/
def wotsChainsWrong : ChangeSpec := { name := "wotsChains", fn := fun _ => fun
  | [d] => { results := [.lit (.bool false)], args := [d] }
  | _ => none }
def WotsChainsWrongFalsely : Prop := wotsChainsRow.holds Tryd.pinned (OpenSpec.ofChange wotsChainsWrong)

/-- 'safehouselaw06.WotsSigns': WHATEVER THE INPUT: true; the input reads as it did. -/
def wotsSignsSpec : ChangeSpec := { name := "wotsSigns", fn := fun _ => fun
  | [d1, d2, d3] => { results := [.lit (.bool true)], args := [d1, d2, d3] }
  | _ => none }
def wotsSignsRow : OpenClaim := { program := "ytdolihecjomjiaadoor", sum := "d8cdf20e085a7dbd5f9d3c57c8ccb2352aedef61f1b73e272f9eb263fb6274ac", func := "safehouse/safehouselaw06.WotsSigns", spec := "wotsSigns", unfollowed := true, recurses := true, named := ["safehouse/sha.start", "safehouse/sha.constants"], apart := false, laid := [("safehouse/sha.start", laid_safehouse_sha_start), ("safehouse/sha.constants", laid_safehouse_sha_constants)] }
def WotsSignsSaid : Prop := wotsSignsRow.holds Tryd.pinned (OpenSpec.ofChange wotsSignsSpec)

/-- ITS FALSE NEIGHBOUR: 'it returns false'. Refute it at one input. -/
def wotsSignsWrong : ChangeSpec := { name := "wotsSigns", fn := fun _ => fun
  | [d1, d2, d3] => { results := [.lit (.bool false)], args := [d1, d2, d3] }
  | _ => none }
def WotsSignsWrongFalsely : Prop := wotsSignsRow.holds Tryd.pinned (OpenSpec.ofChange wotsSignsWrong)

/-- 'safehouselaw06.WotsLong': WHATEVER THE INPUT: true; the input reads as it did. -/
def wotsLongSpec : ChangeSpec := { name := "wotsLong", fn := fun _ => fun
  | [d1, d2, d3] => { results := [.lit (.bool true)], args := [d1, d2, d3] }
  | _ => none }
def wotsLongRow : OpenClaim := { program := "ytdolihecjomjiaadoor", sum := "d8cdf20e085a7dbd5f9d3c57c8ccb2352aedef61f1b73e272f9eb263fb6274ac", func := "safehouse/safehouselaw06.WotsLong", spec := "wotsLong", unfollowed := true, recurses := true, named := ["safehouse/sha.start", "safehouse/sha.constants"], apart := false, laid := [("safehouse/sha.start", laid_safehouse_sha_start), ("safehouse/sha.constants", laid_safehouse_sha_constants)] }
def WotsLongSaid : Prop := wotsLongRow.holds Tryd.pinned (OpenSpec.ofChange wotsLongSpec)

/-- ITS FALSE NEIGHBOUR: 'it returns false'. Refute it at one input. -/
def wotsLongWrong : ChangeSpec := { name := "wotsLong", fn := fun _ => fun
  | [d1, d2, d3] => { results := [.lit (.bool false)], args := [d1, d2, d3] }
  | _ => none }
def WotsLongWrongFalsely : Prop := wotsLongRow.holds Tryd.pinned (OpenSpec.ofChange wotsLongWrong)

/-- 'safehouselaw06.WotsVerifies': WHATEVER THE INPUT: true; the input reads as it did. -/
def wotsVerifiesSpec : ChangeSpec := { name := "wotsVerifies", fn := fun _ => fun
  | [d1, d2] => { results := [.lit (.bool true)], args := [d1, d2] }
  | _ => none }
def wotsVerifiesRow : OpenClaim := { program := "ytdolihecjomjiaadoor", sum := "d8cdf20e085a7dbd5f9d3c57c8ccb2352aedef61f1b73e272f9eb263fb6274ac", func := "safehouse/safehouselaw06.WotsVerifies", spec := "wotsVerifies", unfollowed := true, recurses := true, named := ["safehouse/sha.start", "safehouse/sha.constants"], apart := false, laid := [("safehouse/sha.start", laid_safehouse_sha_start), ("safehouse/sha.constants", laid_safehouse_sha_constants)] }
def WotsVerifiesSaid : Prop := wotsVerifiesRow.holds Tryd.pinned (OpenSpec.ofChange wotsVerifiesSpec)

/-- ITS FALSE NEIGHBOUR: 'it returns false'. Refute it at one input. -/
def wotsVerifiesWrong : ChangeSpec := { name := "wotsVerifies", fn := fun _ => fun
  | [d1, d2] => { results := [.lit (.bool false)], args := [d1, d2] }
  | _ => none }
def WotsVerifiesWrongFalsely : Prop := wotsVerifiesRow.holds Tryd.pinned (OpenSpec.ofChange wotsVerifiesWrong)

/-- 'safehouselaw06.WotsBelow': WHATEVER THE INPUT: true; the input reads as it did. -/
def wotsBelowSpec : ChangeSpec := { name := "wotsBelow", fn := fun _ => fun
  | [d1, d2] => { results := [.lit (.bool true)], args := [d1, d2] }
  | _ => none }
def wotsBelowRow : OpenClaim := { program := "ytdolihecjomjiaadoor", sum := "d8cdf20e085a7dbd5f9d3c57c8ccb2352aedef61f1b73e272f9eb263fb6274ac", func := "safehouse/safehouselaw06.WotsBelow", spec := "wotsBelow", unfollowed := true, recurses := true, named := ["safehouse/sha.start", "safehouse/sha.constants"], apart := false, laid := [("safehouse/sha.start", laid_safehouse_sha_start), ("safehouse/sha.constants", laid_safehouse_sha_constants)] }
def WotsBelowSaid : Prop := wotsBelowRow.holds Tryd.pinned (OpenSpec.ofChange wotsBelowSpec)

/-- ITS FALSE NEIGHBOUR: 'it returns false'. Refute it at one input. -/
def wotsBelowWrong : ChangeSpec := { name := "wotsBelow", fn := fun _ => fun
  | [d1, d2] => { results := [.lit (.bool false)], args := [d1, d2] }
  | _ => none }
def WotsBelowWrongFalsely : Prop := wotsBelowRow.holds Tryd.pinned (OpenSpec.ofChange wotsBelowWrong)

/-- 'safehouselaw06.WotsAdds': WHATEVER THE INPUT: true; the input reads as it did. -/
def wotsAddsSpec : ChangeSpec := { name := "wotsAdds", fn := fun _ => fun
  | [d1, d2, d3] => { results := [.lit (.bool true)], args := [d1, d2, d3] }
  | _ => none }
def wotsAddsRow : OpenClaim := { program := "ytdolihecjomjiaadoor", sum := "d8cdf20e085a7dbd5f9d3c57c8ccb2352aedef61f1b73e272f9eb263fb6274ac", func := "safehouse/safehouselaw06.WotsAdds", spec := "wotsAdds", unfollowed := true, recurses := true, named := ["safehouse/sha.start", "safehouse/sha.constants"], apart := false, laid := [("safehouse/sha.start", laid_safehouse_sha_start), ("safehouse/sha.constants", laid_safehouse_sha_constants)] }
def WotsAddsSaid : Prop := wotsAddsRow.holds Tryd.pinned (OpenSpec.ofChange wotsAddsSpec)

/-- ITS FALSE NEIGHBOUR: 'it returns false'. Refute it at one input. -/
def wotsAddsWrong : ChangeSpec := { name := "wotsAdds", fn := fun _ => fun
  | [d1, d2, d3] => { results := [.lit (.bool false)], args := [d1, d2, d3] }
  | _ => none }
def WotsAddsWrongFalsely : Prop := wotsAddsRow.holds Tryd.pinned (OpenSpec.ofChange wotsAddsWrong)

/- THE SECOND FORM. 'bulk': how many values and letters a reading holds, each counted each time it is reached (what is shared counts as often as it is met; a slice's spare places count too). A statement '..UptoSaid' is the law's where the arguments, and the package variables that the reading takes, are together of bulk at most 1048576: NARROWER than '..Said'. Prove '..Said' where nothing that the law and all that it calls make is longer than what came in: it says more and counts as full. Else prove '..UptoSaid'. A law counts once. -/
mutual
def uptoBulk {H : Type} : DataW H → Nat
  | .lit (.string bytes) => bytes.length + 1
  | .lit _ => 1
  | .nil => 1
  | .ptr d => uptoBulk d + 1
  | .slice elems spare => uptoBulkAll elems + uptoBulkAll spare + 1
  | .agg parts => uptoBulkAll parts + 1
  | .iface _ d => uptoBulk d + 1
  | .map entries => uptoBulkEntries entries + 1
  | .held _ => 1
def uptoBulkAll {H : Type} : List (DataW H) → Nat
  | [] => 0
  | d :: r => uptoBulk d + uptoBulkAll r
def uptoBulkEntries {H : Type} : List (Lit × DataW H) → Nat
  | [] => 0
  | x :: r => uptoBulkEntry x + uptoBulkEntries r
def uptoBulkEntry {H : Type} : Lit × DataW H → Nat
  | (.string bytes, d) => bytes.length + uptoBulk d + 1
  | (_, d) => uptoBulk d + 1
 end
def uptoSmall : (H : Type) → List (DataW H) → Bool := fun _ ds => decide (uptoBulkAll ds ≤ 1048576)
def OpenSpec.upto (s : _root_.Go.ChangeSpec) : _root_.Go.OpenSpec := { _root_.Go.OpenSpec.ofChange s with cond := some uptoSmall }

/-- 'safehouselaw06.WotsDigits', WHERE WHAT IT READS IS OF BULK AT MOST 1048576: true; the input reads as it did. -/
def wotsDigitsUptoRow : OpenClaim := { program := "ytdolihecjomjiaadoor", sum := "d8cdf20e085a7dbd5f9d3c57c8ccb2352aedef61f1b73e272f9eb263fb6274ac", func := "safehouse/safehouselaw06.WotsDigits", spec := "wotsDigits", unfollowed := true, recurses := true, named := ["safehouse/sha.start", "safehouse/sha.constants"], apart := false, laid := [("safehouse/sha.start", laid_safehouse_sha_start), ("safehouse/sha.constants", laid_safehouse_sha_constants)], narrowed := true }
def WotsDigitsUptoSaid : Prop := wotsDigitsUptoRow.holds Tryd.pinned (OpenSpec.upto wotsDigitsSpec)

/-- 'safehouselaw06.WotsChains', WHERE WHAT IT READS IS OF BULK AT MOST 1048576: true; the input reads as it did. -/
def wotsChainsUptoRow : OpenClaim := { program := "ytdolihecjomjiaadoor", sum := "d8cdf20e085a7dbd5f9d3c57c8ccb2352aedef61f1b73e272f9eb263fb6274ac", func := "safehouse/safehouselaw06.WotsChains", spec := "wotsChains", unfollowed := true, recurses := true, named := ["safehouse/sha.start", "safehouse/sha.constants"], apart := false, laid := [("safehouse/sha.start", laid_safehouse_sha_start), ("safehouse/sha.constants", laid_safehouse_sha_constants)], narrowed := true }
def WotsChainsUptoSaid : Prop := wotsChainsUptoRow.holds Tryd.pinned (OpenSpec.upto wotsChainsSpec)

/-- 'safehouselaw06.WotsSigns', WHERE WHAT IT READS IS OF BULK AT MOST 1048576: true; the input reads as it did. -/
def wotsSignsUptoRow : OpenClaim := { program := "ytdolihecjomjiaadoor", sum := "d8cdf20e085a7dbd5f9d3c57c8ccb2352aedef61f1b73e272f9eb263fb6274ac", func := "safehouse/safehouselaw06.WotsSigns", spec := "wotsSigns", unfollowed := true, recurses := true, named := ["safehouse/sha.start", "safehouse/sha.constants"], apart := false, laid := [("safehouse/sha.start", laid_safehouse_sha_start), ("safehouse/sha.constants", laid_safehouse_sha_constants)], narrowed := true }
def WotsSignsUptoSaid : Prop := wotsSignsUptoRow.holds Tryd.pinned (OpenSpec.upto wotsSignsSpec)

/-- 'safehouselaw06.WotsLong', WHERE WHAT IT READS IS OF BULK AT MOST 1048576: true; the input reads as it did. -/
def wotsLongUptoRow : OpenClaim := { program := "ytdolihecjomjiaadoor", sum := "d8cdf20e085a7dbd5f9d3c57c8ccb2352aedef61f1b73e272f9eb263fb6274ac", func := "safehouse/safehouselaw06.WotsLong", spec := "wotsLong", unfollowed := true, recurses := true, named := ["safehouse/sha.start", "safehouse/sha.constants"], apart := false, laid := [("safehouse/sha.start", laid_safehouse_sha_start), ("safehouse/sha.constants", laid_safehouse_sha_constants)], narrowed := true }
def WotsLongUptoSaid : Prop := wotsLongUptoRow.holds Tryd.pinned (OpenSpec.upto wotsLongSpec)

/-- 'safehouselaw06.WotsVerifies', WHERE WHAT IT READS IS OF BULK AT MOST 1048576: true; the input reads as it did. -/
def wotsVerifiesUptoRow : OpenClaim := { program := "ytdolihecjomjiaadoor", sum := "d8cdf20e085a7dbd5f9d3c57c8ccb2352aedef61f1b73e272f9eb263fb6274ac", func := "safehouse/safehouselaw06.WotsVerifies", spec := "wotsVerifies", unfollowed := true, recurses := true, named := ["safehouse/sha.start", "safehouse/sha.constants"], apart := false, laid := [("safehouse/sha.start", laid_safehouse_sha_start), ("safehouse/sha.constants", laid_safehouse_sha_constants)], narrowed := true }
def WotsVerifiesUptoSaid : Prop := wotsVerifiesUptoRow.holds Tryd.pinned (OpenSpec.upto wotsVerifiesSpec)

/-- 'safehouselaw06.WotsBelow', WHERE WHAT IT READS IS OF BULK AT MOST 1048576: true; the input reads as it did. -/
def wotsBelowUptoRow : OpenClaim := { program := "ytdolihecjomjiaadoor", sum := "d8cdf20e085a7dbd5f9d3c57c8ccb2352aedef61f1b73e272f9eb263fb6274ac", func := "safehouse/safehouselaw06.WotsBelow", spec := "wotsBelow", unfollowed := true, recurses := true, named := ["safehouse/sha.start", "safehouse/sha.constants"], apart := false, laid := [("safehouse/sha.start", laid_safehouse_sha_start), ("safehouse/sha.constants", laid_safehouse_sha_constants)], narrowed := true }
def WotsBelowUptoSaid : Prop := wotsBelowUptoRow.holds Tryd.pinned (OpenSpec.upto wotsBelowSpec)

/-- 'safehouselaw06.WotsAdds', WHERE WHAT IT READS IS OF BULK AT MOST 1048576: true; the input reads as it did. -/
def wotsAddsUptoRow : OpenClaim := { program := "ytdolihecjomjiaadoor", sum := "d8cdf20e085a7dbd5f9d3c57c8ccb2352aedef61f1b73e272f9eb263fb6274ac", func := "safehouse/safehouselaw06.WotsAdds", spec := "wotsAdds", unfollowed := true, recurses := true, named := ["safehouse/sha.start", "safehouse/sha.constants"], apart := false, laid := [("safehouse/sha.start", laid_safehouse_sha_start), ("safehouse/sha.constants", laid_safehouse_sha_constants)], narrowed := true }
def WotsAddsUptoSaid : Prop := wotsAddsUptoRow.holds Tryd.pinned (OpenSpec.upto wotsAddsSpec)

end Rows
end Go.Proofs.YtdolihecjomjiaaDoor
