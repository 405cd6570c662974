/-
  NARROWER THAN 'FOR EVERY INPUT', by the rows' own cells (each row's printed sentence says how): WalFollows: laid · WalBegins: laid · WalAbsent: laid · WalLasts: laid · WalStill: laid · WalRoom: laid · WalPicture: laid.
  DERIVED. THE GIVEN ROWS OF THIS SEAT. 7 by the template 'for every input the law returns true; each argument reads behind the call as it read before'; 0 by the template 'total and deterministic' (their statements: YtcoedhemlghjoaaGreatDoorTotals.lean).
  GIVEN WITH THE SEED: the statements are not yours to turn. If you find one false, say at which input.
  Laid BY PROGRAM, IN A SANDBOX (cutbox-rows.mjs): the forced cells as the released guide's own fill.sh prints them over the translation 8aa3ec0a0c8ffa3e… (all of the seat's roots in one cut). By AI agents, Wed Nov 11 2026. No macro, syntax, notation, axiom, sorry.
-/
import Derived.Test.YtcoedhemlghjoaaGreatDoorChecked
import GoSem.Claim
import GoSem.ClaimJoined
import GoSem.ClaimMapViews
import Derived.JoinedTies
import Derived.KernelRfl
namespace Go.Proofs.YtcoedhemlghjoaaGreatDoor
/- THE CELL 'sum', in the pinned program and in every row, IS THE sha256 OF THE DUMP (.gsa) THAT YtcoedhemlghjoaaGreatDoorProg.lean LOADS. Nothing in Lean hashes anything: it is a label: what it is worth is what the hold of that sum in a sandbox is worth. -/
noncomputable def Tryz.pinned : Pinned := { name := "ytcoedhemlghjoaagreatdoor", sum := "8aa3ec0a0c8ffa3ec444ec930aad105ca1b761def7196fcf1fbf49edcf3ea545", checked := Tryz.checked }
namespace Rows
def none {H : Type} : Left H := { results := [], args := [] }

/- WHAT THE LISTED PACKAGE-LEVEL VARIABLES READ AS WHEN THE CALL BEGINS. Each datum BY PROGRAM (the guide's laid-datum.mjs) off the statement by which the dump's own 'gosem.cut.vars' lays the variable. In a bare row this is a premise. The card (YtcoedhemlghjoaaGreatDoorCards.lean) ties it to the program's text. -/
def laid_safehouse_sha_start {H : Type} : DataW H := .agg [.lit (.int .u32 1779033703), .lit (.int .u32 3144134277), .lit (.int .u32 1013904242), .lit (.int .u32 2773480762), .lit (.int .u32 1359893119), .lit (.int .u32 2600822924), .lit (.int .u32 528734635), .lit (.int .u32 1541459225)]
def laid_safehouse_sha_constants {H : Type} : DataW H := .agg [.lit (.int .u32 1116352408), .lit (.int .u32 1899447441), .lit (.int .u32 3049323471), .lit (.int .u32 3921009573), .lit (.int .u32 961987163), .lit (.int .u32 1508970993), .lit (.int .u32 2453635748), .lit (.int .u32 2870763221), .lit (.int .u32 3624381080), .lit (.int .u32 310598401), .lit (.int .u32 607225278), .lit (.int .u32 1426881987), .lit (.int .u32 1925078388), .lit (.int .u32 2162078206), .lit (.int .u32 2614888103), .lit (.int .u32 3248222580), .lit (.int .u32 3835390401), .lit (.int .u32 4022224774), .lit (.int .u32 264347078), .lit (.int .u32 604807628), .lit (.int .u32 770255983), .lit (.int .u32 1249150122), .lit (.int .u32 1555081692), .lit (.int .u32 1996064986), .lit (.int .u32 2554220882), .lit (.int .u32 2821834349), .lit (.int .u32 2952996808), .lit (.int .u32 3210313671), .lit (.int .u32 3336571891), .lit (.int .u32 3584528711), .lit (.int .u32 113926993), .lit (.int .u32 338241895), .lit (.int .u32 666307205), .lit (.int .u32 773529912), .lit (.int .u32 1294757372), .lit (.int .u32 1396182291), .lit (.int .u32 1695183700), .lit (.int .u32 1986661051), .lit (.int .u32 2177026350), .lit (.int .u32 2456956037), .lit (.int .u32 2730485921), .lit (.int .u32 2820302411), .lit (.int .u32 3259730800), .lit (.int .u32 3345764771), .lit (.int .u32 3516065817), .lit (.int .u32 3600352804), .lit (.int .u32 4094571909), .lit (.int .u32 275423344), .lit (.int .u32 430227734), .lit (.int .u32 506948616), .lit (.int .u32 659060556), .lit (.int .u32 883997877), .lit (.int .u32 958139571), .lit (.int .u32 1322822218), .lit (.int .u32 1537002063), .lit (.int .u32 1747873779), .lit (.int .u32 1955562222), .lit (.int .u32 2024104815), .lit (.int .u32 2227730452), .lit (.int .u32 2361852424), .lit (.int .u32 2428436474), .lit (.int .u32 2756734187), .lit (.int .u32 3204031479), .lit (.int .u32 3329325298)]

/-- 'safehouselaw04.WalFollows': WHATEVER THE INPUT: true; the input reads as it did. -/
def walFollowsSpec : ChangeSpec := { name := "walFollows", fn := fun _ => fun
  | [d1, d2] => { results := [.lit (.bool true)], args := [d1, d2] }
  | _ => none }
def walFollowsRow : OpenClaim := { program := "ytcoedhemlghjoaagreatdoor", sum := "8aa3ec0a0c8ffa3ec444ec930aad105ca1b761def7196fcf1fbf49edcf3ea545", func := "safehouse/safehouselaw04.WalFollows", spec := "walFollows", inPlace := ["maps.clone"], unfollowed := true, recurses := true, named := ["safehouse/sha.start", "safehouse/sha.constants"], apart := false, laid := [("safehouse/sha.start", laid_safehouse_sha_start), ("safehouse/sha.constants", laid_safehouse_sha_constants)] }
def WalFollowsSaid : Prop := walFollowsRow.holds Tryz.pinned (OpenSpec.ofChange walFollowsSpec)

/-- ITS FALSE NEIGHBOUR: 'it returns false'. Refute it at one input. -/
def walFollowsWrong : ChangeSpec := { name := "walFollows", fn := fun _ => fun
  | [d1, d2] => { results := [.lit (.bool false)], args := [d1, d2] }
  | _ => none }
def WalFollowsWrongFalsely : Prop := walFollowsRow.holds Tryz.pinned (OpenSpec.ofChange walFollowsWrong)

/-- 'safehouselaw04.WalBegins': WHATEVER THE INPUT: true; the input reads as it did. -/
def walBeginsSpec : ChangeSpec := { name := "walBegins", fn := fun _ => fun
  | [d1, d2, d3] => { results := [.lit (.bool true)], args := [d1, d2, d3] }
  | _ => none }
def walBeginsRow : OpenClaim := { program := "ytcoedhemlghjoaagreatdoor", sum := "8aa3ec0a0c8ffa3ec444ec930aad105ca1b761def7196fcf1fbf49edcf3ea545", func := "safehouse/safehouselaw04.WalBegins", spec := "walBegins", inPlace := ["maps.clone"], unfollowed := true, recurses := true, named := ["safehouse/sha.start", "safehouse/sha.constants"], apart := false, laid := [("safehouse/sha.start", laid_safehouse_sha_start), ("safehouse/sha.constants", laid_safehouse_sha_constants)] }
def WalBeginsSaid : Prop := walBeginsRow.holds Tryz.pinned (OpenSpec.ofChange walBeginsSpec)

/-- ITS FALSE NEIGHBOUR: 'it returns false'. Refute it at one input. -/
def walBeginsWrong : ChangeSpec := { name := "walBegins", fn := fun _ => fun
  | [d1, d2, d3] => { results := [.lit (.bool false)], args := [d1, d2, d3] }
  | _ => none }
def WalBeginsWrongFalsely : Prop := walBeginsRow.holds Tryz.pinned (OpenSpec.ofChange walBeginsWrong)

/-- 'safehouselaw04.WalAbsent': WHATEVER THE INPUT: true; the input reads as it did. -/
def walAbsentSpec : ChangeSpec := { name := "walAbsent", fn := fun _ => fun
  | [d1, d2] => { results := [.lit (.bool true)], args := [d1, d2] }
  | _ => none }
def walAbsentRow : OpenClaim := { program := "ytcoedhemlghjoaagreatdoor", sum := "8aa3ec0a0c8ffa3ec444ec930aad105ca1b761def7196fcf1fbf49edcf3ea545", func := "safehouse/safehouselaw04.WalAbsent", spec := "walAbsent", unfollowed := true, recurses := true, named := ["safehouse/sha.start", "safehouse/sha.constants"], apart := false, laid := [("safehouse/sha.start", laid_safehouse_sha_start), ("safehouse/sha.constants", laid_safehouse_sha_constants)] }
def WalAbsentSaid : Prop := walAbsentRow.holds Tryz.pinned (OpenSpec.ofChange walAbsentSpec)

/-- ITS FALSE NEIGHBOUR: 'it returns false'. Refute it at one input. -/
def walAbsentWrong : ChangeSpec := { name := "walAbsent", fn := fun _ => fun
  | [d1, d2] => { results := [.lit (.bool false)], args := [d1, d2] }
  | _ => none }
def WalAbsentWrongFalsely : Prop := walAbsentRow.holds Tryz.pinned (OpenSpec.ofChange walAbsentWrong)

/-- 'safehouselaw04.WalLasts': WHATEVER THE INPUT: true; the input reads as it did. -/
def walLastsSpec : ChangeSpec := { name := "walLasts", fn := fun _ => fun
  | [d1, d2, d3] => { results := [.lit (.bool true)], args := [d1, d2, d3] }
  | _ => none }
def walLastsRow : OpenClaim := { program := "ytcoedhemlghjoaagreatdoor", sum := "8aa3ec0a0c8ffa3ec444ec930aad105ca1b761def7196fcf1fbf49edcf3ea545", func := "safehouse/safehouselaw04.WalLasts", spec := "walLasts", unfollowed := true, recurses := true, named := ["safehouse/sha.start", "safehouse/sha.constants"], apart := false, laid := [("safehouse/sha.start", laid_safehouse_sha_start), ("safehouse/sha.constants", laid_safehouse_sha_constants)] }
def WalLastsSaid : Prop := walLastsRow.holds Tryz.pinned (OpenSpec.ofChange walLastsSpec)

/-- ITS FALSE NEIGHBOUR: 'it returns false'. Refute it at one input. -/
def walLastsWrong : ChangeSpec := { name := "walLasts", fn := fun _ => fun
  | [d1, d2, d3] => { results := [.lit (.bool false)], args := [d1, d2, d3] }
  | _ => none }
def WalLastsWrongFalsely : Prop := walLastsRow.holds Tryz.pinned (OpenSpec.ofChange walLastsWrong)

/-- 'safehouselaw04.WalStill': WHATEVER THE INPUT: true; the input reads as it did. -/
def walStillSpec : ChangeSpec := { name := "walStill", fn := fun _ => fun
  | [d1, d2] => { results := [.lit (.bool true)], args := [d1, d2] }
  | _ => none }
def walStillRow : OpenClaim := { program := "ytcoedhemlghjoaagreatdoor", sum := "8aa3ec0a0c8ffa3ec444ec930aad105ca1b761def7196fcf1fbf49edcf3ea545", func := "safehouse/safehouselaw04.WalStill", spec := "walStill", unfollowed := true, recurses := true, named := ["safehouse/sha.start", "safehouse/sha.constants"], apart := false, laid := [("safehouse/sha.start", laid_safehouse_sha_start), ("safehouse/sha.constants", laid_safehouse_sha_constants)] }
def WalStillSaid : Prop := walStillRow.holds Tryz.pinned (OpenSpec.ofChange walStillSpec)

/-- ITS FALSE NEIGHBOUR: 'it returns false'. Refute it at one input. -/
def walStillWrong : ChangeSpec := { name := "walStill", fn := fun _ => fun
  | [d1, d2] => { results := [.lit (.bool false)], args := [d1, d2] }
  | _ => none }
def WalStillWrongFalsely : Prop := walStillRow.holds Tryz.pinned (OpenSpec.ofChange walStillWrong)

/-- 'safehouselaw04.WalRoom': WHATEVER THE INPUT: true; the input reads as it did. -/
def walRoomSpec : ChangeSpec := { name := "walRoom", fn := fun _ => fun
  | [d1, d2] => { results := [.lit (.bool true)], args := [d1, d2] }
  | _ => none }
def walRoomRow : OpenClaim := { program := "ytcoedhemlghjoaagreatdoor", sum := "8aa3ec0a0c8ffa3ec444ec930aad105ca1b761def7196fcf1fbf49edcf3ea545", func := "safehouse/safehouselaw04.WalRoom", spec := "walRoom", unfollowed := true, recurses := true, named := ["safehouse/sha.start", "safehouse/sha.constants"], apart := false, laid := [("safehouse/sha.start", laid_safehouse_sha_start), ("safehouse/sha.constants", laid_safehouse_sha_constants)] }
def WalRoomSaid : Prop := walRoomRow.holds Tryz.pinned (OpenSpec.ofChange walRoomSpec)

/-- ITS FALSE NEIGHBOUR: 'it returns false'. Refute it at one input. -/
def walRoomWrong : ChangeSpec := { name := "walRoom", fn := fun _ => fun
  | [d1, d2] => { results := [.lit (.bool false)], args := [d1, d2] }
  | _ => none }
def WalRoomWrongFalsely : Prop := walRoomRow.holds Tryz.pinned (OpenSpec.ofChange walRoomWrong)

/-- 'safehouselaw04.WalPicture': WHATEVER THE INPUT: true; the input reads as it did. -/
def walPictureSpec : ChangeSpec := { name := "walPicture", fn := fun _ => fun
  | [d1, d2, d3] => { results := [.lit (.bool true)], args := [d1, d2, d3] }
  | _ => none }
def walPictureRow : OpenClaim := { program := "ytcoedhemlghjoaagreatdoor", sum := "8aa3ec0a0c8ffa3ec444ec930aad105ca1b761def7196fcf1fbf49edcf3ea545", func := "safehouse/safehouselaw04.WalPicture", spec := "walPicture", unfollowed := true, recurses := true, named := ["safehouse/sha.start", "safehouse/sha.constants"], apart := false, laid := [("safehouse/sha.start", laid_safehouse_sha_start), ("safehouse/sha.constants", laid_safehouse_sha_constants)] }
def WalPictureSaid : Prop := walPictureRow.holds Tryz.pinned (OpenSpec.ofChange walPictureSpec)

/-- ITS FALSE NEIGHBOUR: 'it returns false'. Refute it at one input. -/
def walPictureWrong : ChangeSpec := { name := "walPicture", fn := fun _ => fun
  | [d1, d2, d3] => { results := [.lit (.bool false)], args := [d1, d2, d3] }
  | _ => none }
def WalPictureWrongFalsely : Prop := walPictureRow.holds Tryz.pinned (OpenSpec.ofChange walPictureWrong)

/- THE SECOND FORM. 'bulk': how many values and letters a reading holds, each counted each time it is reached (what is shared counts as often as it is met; a slice's spare places count too). A statement '..UptoSaid' is the law's where the arguments, and the package variables that the reading takes, are together of bulk at most 1048576: NARROWER than '..Said'. Prove '..Said' where nothing that the law and all that it calls make is longer than what came in: it says more and counts as full. Else prove '..UptoSaid'. A law counts once. -/
mutual
def uptoBulk {H : Type} : DataW H → Nat
  | .lit (.string bytes) => bytes.length + 1
  | .lit _ => 1
  | .nil => 1
  | .ptr d => uptoBulk d + 1
  | .slice elems spare => uptoBulkAll elems + uptoBulkAll spare + 1
  | .agg parts => uptoBulkAll parts + 1
  | .iface _ d => uptoBulk d + 1
  | .map entries => uptoBulkEntries entries + 1
  | .held _ => 1
def uptoBulkAll {H : Type} : List (DataW H) → Nat
  | [] => 0
  | d :: r => uptoBulk d + uptoBulkAll r
def uptoBulkEntries {H : Type} : List (Lit × DataW H) → Nat
  | [] => 0
  | x :: r => uptoBulkEntry x + uptoBulkEntries r
def uptoBulkEntry {H : Type} : Lit × DataW H → Nat
  | (.string bytes, d) => bytes.length + uptoBulk d + 1
  | (_, d) => uptoBulk d + 1
 end
def uptoSmall : (H : Type) → List (DataW H) → Bool := fun _ ds => decide (uptoBulkAll ds ≤ 1048576)
def OpenSpec.upto (s : _root_.Go.ChangeSpec) : _root_.Go.OpenSpec := { _root_.Go.OpenSpec.ofChange s with cond := some uptoSmall }

/-- 'safehouselaw04.WalFollows', WHERE WHAT IT READS IS OF BULK AT MOST 1048576: true; the input reads as it did. -/
def walFollowsUptoRow : OpenClaim := { program := "ytcoedhemlghjoaagreatdoor", sum := "8aa3ec0a0c8ffa3ec444ec930aad105ca1b761def7196fcf1fbf49edcf3ea545", func := "safehouse/safehouselaw04.WalFollows", spec := "walFollows", inPlace := ["maps.clone"], unfollowed := true, recurses := true, named := ["safehouse/sha.start", "safehouse/sha.constants"], apart := false, laid := [("safehouse/sha.start", laid_safehouse_sha_start), ("safehouse/sha.constants", laid_safehouse_sha_constants)], narrowed := true }
def WalFollowsUptoSaid : Prop := walFollowsUptoRow.holds Tryz.pinned (OpenSpec.upto walFollowsSpec)

/-- 'safehouselaw04.WalBegins', WHERE WHAT IT READS IS OF BULK AT MOST 1048576: true; the input reads as it did. -/
def walBeginsUptoRow : OpenClaim := { program := "ytcoedhemlghjoaagreatdoor", sum := "8aa3ec0a0c8ffa3ec444ec930aad105ca1b761def7196fcf1fbf49edcf3ea545", func := "safehouse/safehouselaw04.WalBegins", spec := "walBegins", inPlace := ["maps.clone"], unfollowed := true, recurses := true, named := ["safehouse/sha.start", "safehouse/sha.constants"], apart := false, laid := [("safehouse/sha.start", laid_safehouse_sha_start), ("safehouse/sha.constants", laid_safehouse_sha_constants)], narrowed := true }
def WalBeginsUptoSaid : Prop := walBeginsUptoRow.holds Tryz.pinned (OpenSpec.upto walBeginsSpec)

/-- 'safehouselaw04.WalAbsent', WHERE WHAT IT READS IS OF BULK AT MOST 1048576: true; the input reads as it did. -/
def walAbsentUptoRow : OpenClaim := { program := "ytcoedhemlghjoaagreatdoor", sum := "8aa3ec0a0c8ffa3ec444ec930aad105ca1b761def7196fcf1fbf49edcf3ea545", func := "safehouse/safehouselaw04.WalAbsent", spec := "walAbsent", unfollowed := true, recurses := true, named := ["safehouse/sha.start", "safehouse/sha.constants"], apart := false, laid := [("safehouse/sha.start", laid_safehouse_sha_start), ("safehouse/sha.constants", laid_safehouse_sha_constants)], narrowed := true }
def WalAbsentUptoSaid : Prop := walAbsentUptoRow.holds Tryz.pinned (OpenSpec.upto walAbsentSpec)

/-- 'safehouselaw04.WalLasts', WHERE WHAT IT READS IS OF BULK AT MOST 1048576: true; the input reads as it did. -/
def walLastsUptoRow : OpenClaim := { program := "ytcoedhemlghjoaagreatdoor", sum := "8aa3ec0a0c8ffa3ec444ec930aad105ca1b761def7196fcf1fbf49edcf3ea545", func := "safehouse/safehouselaw04.WalLasts", spec := "walLasts", unfollowed := true, recurses := true, named := ["safehouse/sha.start", "safehouse/sha.constants"], apart := false, laid := [("safehouse/sha.start", laid_safehouse_sha_start), ("safehouse/sha.constants", laid_safehouse_sha_constants)], narrowed := true }
def WalLastsUptoSaid : Prop := walLastsUptoRow.holds Tryz.pinned (OpenSpec.upto walLastsSpec)

/-- 'safehouselaw04.WalStill', WHERE WHAT IT READS IS OF BULK AT MOST 1048576: true; the input reads as it did. -/
def walStillUptoRow : OpenClaim := { program := "ytcoedhemlghjoaagreatdoor", sum := "8aa3ec0a0c8ffa3ec444ec930aad105ca1b761def7196fcf1fbf49edcf3ea545", func := "safehouse/safehouselaw04.WalStill", spec := "walStill", unfollowed := true, recurses := true, named := ["safehouse/sha.start", "safehouse/sha.constants"], apart := false, laid := [("safehouse/sha.start", laid_safehouse_sha_start), ("safehouse/sha.constants", laid_safehouse_sha_constants)], narrowed := true }
def WalStillUptoSaid : Prop := walStillUptoRow.holds Tryz.pinned (OpenSpec.upto walStillSpec)

/-- 'safehouselaw04.WalRoom', WHERE WHAT IT READS IS OF BULK AT MOST 1048576: true; the input reads as it did. -/
def walRoomUptoRow : OpenClaim := { program := "ytcoedhemlghjoaagreatdoor", sum := "8aa3ec0a0c8ffa3ec444ec930aad105ca1b761def7196fcf1fbf49edcf3ea545", func := "safehouse/safehouselaw04.WalRoom", spec := "walRoom", unfollowed := true, recurses := true, named := ["safehouse/sha.start", "safehouse/sha.constants"], apart := false, laid := [("safehouse/sha.start", laid_safehouse_sha_start), ("safehouse/sha.constants", laid_safehouse_sha_constants)], narrowed := true }
def WalRoomUptoSaid : Prop := walRoomUptoRow.holds Tryz.pinned (OpenSpec.upto walRoomSpec)

/-- 'safehouselaw04.WalPicture', WHERE WHAT IT READS IS OF BULK AT MOST 1048576: true; the input reads as it did. -/
def walPictureUptoRow : OpenClaim := { program := "ytcoedhemlghjoaagreatdoor", sum := "8aa3ec0a0c8ffa3ec444ec930aad105ca1b761def7196fcf1fbf49edcf3ea545", func := "safehouse/safehouselaw04.WalPicture", spec := "walPicture", unfollowed := true, recurses := true, named := ["safehouse/sha.start", "safehouse/sha.constants"], apart := false, laid := [("safehouse/sha.start", laid_safehouse_sha_start), ("safehouse/sha.constants", laid_safehouse_sha_constants)], narrowed := true }
def WalPictureUptoSaid : Prop := walPictureUptoRow.holds Tryz.pinned (OpenSpec.upto walPictureSpec)

end Rows
end Go.Proofs.YtcoedhemlghjoaaGreatDoor
