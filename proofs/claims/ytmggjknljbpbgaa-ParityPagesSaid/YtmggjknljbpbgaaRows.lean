/-
  No cell of these rows narrows 'for every input' (looked for: loops, veiled, ifaces, maps, wideKeys, modest, calm, conditions, laid).
  DERIVED. THE GIVEN ROWS OF THIS SEAT. 13 by the template 'for every input the law returns true; each argument reads behind the call as it read before'; 0 by the template 'total and deterministic' (their statements: YtmggjknljbpbgaaTotals.lean).
  GIVEN WITH THE SEED: the statements are not yours to turn. If you find one false, say at which input.
  Laid BY PROGRAM, IN A SANDBOX (cutbox-rows.mjs): the forced cells as the released guide's own fill.sh prints them over the translation 9afb12d432fd9b45… (all of the seat's roots in one cut). By AI agents, Wed Nov 11 2026. No macro, syntax, notation, axiom, sorry.
-/
import Derived.Test.YtmggjknljbpbgaaChecked
import GoSem.Claim
import GoSem.ClaimJoined
import GoSem.ClaimMapViews
import Derived.JoinedTies
import Derived.KernelRfl
namespace Go.Proofs.Ytmggjknljbpbgaa
/- THE CELL 'sum', in the pinned program and in every row, IS THE sha256 OF THE DUMP (.gsa) THAT YtmggjknljbpbgaaProg.lean LOADS. Nothing in Lean hashes anything: it is a label: what it is worth is what the hold of that sum in a sandbox is worth. -/
noncomputable def Try.pinned : Pinned := { name := "ytmggjknljbpbgaa", sum := "9afb12d432fd9b455f8ca4b884a69d32eb36570633319d7b4c100f063ea4ae00", checked := Try.checked }
namespace Rows
def none {H : Type} : Left H := { results := [], args := [] }

/-- 'gabionlaw08.GeomStripes': WHATEVER THE INPUT: true; the input reads as it did. -/
def geomStripesSpec : ChangeSpec := { name := "geomStripes", fn := fun _ => fun
  | [d1, d2, d3] => { results := [.lit (.bool true)], args := [d1, d2, d3] }
  | _ => none }
def geomStripesRow : OpenClaim := { program := "ytmggjknljbpbgaa", sum := "9afb12d432fd9b455f8ca4b884a69d32eb36570633319d7b4c100f063ea4ae00", func := "gabion/gabionlaw08.GeomStripes", spec := "geomStripes", unfollowed := true, recurses := true, apart := false }
def GeomStripesSaid : Prop := geomStripesRow.holds Try.pinned (OpenSpec.ofChange geomStripesSpec)

/-- ITS FALSE NEIGHBOUR: 'it returns false'. Refute it at one input. -/
def geomStripesWrong : ChangeSpec := { name := "geomStripes", fn := fun _ => fun
  | [d1, d2, d3] => { results := [.lit (.bool false)], args := [d1, d2, d3] }
  | _ => none }
def GeomStripesWrongFalsely : Prop := geomStripesRow.holds Try.pinned (OpenSpec.ofChange geomStripesWrong)

/-- 'gabionlaw08.GeomNumbers': WHATEVER THE INPUT: true; the input reads as it did. -/
def geomNumbersSpec : ChangeSpec := { name := "geomNumbers", fn := fun _ => fun
  | [d1, d2, d3] => { results := [.lit (.bool true)], args := [d1, d2, d3] }
  | _ => none }
def geomNumbersRow : OpenClaim := { program := "ytmggjknljbpbgaa", sum := "9afb12d432fd9b455f8ca4b884a69d32eb36570633319d7b4c100f063ea4ae00", func := "gabion/gabionlaw08.GeomNumbers", spec := "geomNumbers", apart := false }
def GeomNumbersSaid : Prop := geomNumbersRow.holds Try.pinned (OpenSpec.ofChange geomNumbersSpec)

/-- ITS FALSE NEIGHBOUR: 'it returns false'. Refute it at one input. -/
def geomNumbersWrong : ChangeSpec := { name := "geomNumbers", fn := fun _ => fun
  | [d1, d2, d3] => { results := [.lit (.bool false)], args := [d1, d2, d3] }
  | _ => none }
def GeomNumbersWrongFalsely : Prop := geomNumbersRow.holds Try.pinned (OpenSpec.ofChange geomNumbersWrong)

/-- 'gabionlaw08.GeomTurns': WHATEVER THE INPUT: true; the input reads as it did. -/
def geomTurnsSpec : ChangeSpec := { name := "geomTurns", fn := fun _ => fun
  | [d1, d2, d3] => { results := [.lit (.bool true)], args := [d1, d2, d3] }
  | _ => none }
def geomTurnsRow : OpenClaim := { program := "ytmggjknljbpbgaa", sum := "9afb12d432fd9b455f8ca4b884a69d32eb36570633319d7b4c100f063ea4ae00", func := "gabion/gabionlaw08.GeomTurns", spec := "geomTurns", apart := false }
def GeomTurnsSaid : Prop := geomTurnsRow.holds Try.pinned (OpenSpec.ofChange geomTurnsSpec)

/-- ITS FALSE NEIGHBOUR: 'it returns false'. Refute it at one input. -/
def geomTurnsWrong : ChangeSpec := { name := "geomTurns", fn := fun _ => fun
  | [d1, d2, d3] => { results := [.lit (.bool false)], args := [d1, d2, d3] }
  | _ => none }
def GeomTurnsWrongFalsely : Prop := geomTurnsRow.holds Try.pinned (OpenSpec.ofChange geomTurnsWrong)

/-- 'gabionlaw08.GeomSizes': WHATEVER THE INPUT: true; the input reads as it did. -/
def geomSizesSpec : ChangeSpec := { name := "geomSizes", fn := fun _ => fun
  | [d] => { results := [.lit (.bool true)], args := [d] }
  | _ => none }
def geomSizesRow : OpenClaim := { program := "ytmggjknljbpbgaa", sum := "9afb12d432fd9b455f8ca4b884a69d32eb36570633319d7b4c100f063ea4ae00", func := "gabion/gabionlaw08.GeomSizes", spec := "geomSizes", apart := false }
def GeomSizesSaid : Prop := geomSizesRow.holds Try.pinned (OpenSpec.ofChange geomSizesSpec)

/-- ITS FALSE NEIGHBOUR: 'it returns false'. Refute it at one input. -/
def geomSizesWrong : ChangeSpec := { name := "geomSizes", fn := fun _ => fun
  | [d] => { results := [.lit (.bool false)], args := [d] }
  | _ => none }
def GeomSizesWrongFalsely : Prop := geomSizesRow.holds Try.pinned (OpenSpec.ofChange geomSizesWrong)

/-- 'gabionlaw08.GeomMembers': WHATEVER THE INPUT: true; the input reads as it did. -/
def geomMembersSpec : ChangeSpec := { name := "geomMembers", fn := fun _ => fun
  | [d1, d2, d3] => { results := [.lit (.bool true)], args := [d1, d2, d3] }
  | _ => none }
def geomMembersRow : OpenClaim := { program := "ytmggjknljbpbgaa", sum := "9afb12d432fd9b455f8ca4b884a69d32eb36570633319d7b4c100f063ea4ae00", func := "gabion/gabionlaw08.GeomMembers", spec := "geomMembers", unfollowed := true, recurses := true, apart := false }
def GeomMembersSaid : Prop := geomMembersRow.holds Try.pinned (OpenSpec.ofChange geomMembersSpec)

/-- ITS FALSE NEIGHBOUR: 'it returns false'. Refute it at one input. -/
def geomMembersWrong : ChangeSpec := { name := "geomMembers", fn := fun _ => fun
  | [d1, d2, d3] => { results := [.lit (.bool false)], args := [d1, d2, d3] }
  | _ => none }
def GeomMembersWrongFalsely : Prop := geomMembersRow.holds Try.pinned (OpenSpec.ofChange geomMembersWrong)

/-- 'gabionlaw08.GeomNexts': WHATEVER THE INPUT: true; the input reads as it did. -/
def geomNextsSpec : ChangeSpec := { name := "geomNexts", fn := fun _ => fun
  | [d1, d2] => { results := [.lit (.bool true)], args := [d1, d2] }
  | _ => none }
def geomNextsRow : OpenClaim := { program := "ytmggjknljbpbgaa", sum := "9afb12d432fd9b455f8ca4b884a69d32eb36570633319d7b4c100f063ea4ae00", func := "gabion/gabionlaw08.GeomNexts", spec := "geomNexts", apart := false }
def GeomNextsSaid : Prop := geomNextsRow.holds Try.pinned (OpenSpec.ofChange geomNextsSpec)

/-- ITS FALSE NEIGHBOUR: 'it returns false'. Refute it at one input. -/
def geomNextsWrong : ChangeSpec := { name := "geomNexts", fn := fun _ => fun
  | [d1, d2] => { results := [.lit (.bool false)], args := [d1, d2] }
  | _ => none }
def GeomNextsWrongFalsely : Prop := geomNextsRow.holds Try.pinned (OpenSpec.ofChange geomNextsWrong)

/-- 'gabionlaw08.GeomRoom': WHATEVER THE INPUT: true; the input reads as it did. -/
def geomRoomSpec : ChangeSpec := { name := "geomRoom", fn := fun _ => fun
  | [d] => { results := [.lit (.bool true)], args := [d] }
  | _ => none }
def geomRoomRow : OpenClaim := { program := "ytmggjknljbpbgaa", sum := "9afb12d432fd9b455f8ca4b884a69d32eb36570633319d7b4c100f063ea4ae00", func := "gabion/gabionlaw08.GeomRoom", spec := "geomRoom", apart := false }
def GeomRoomSaid : Prop := geomRoomRow.holds Try.pinned (OpenSpec.ofChange geomRoomSpec)

/-- ITS FALSE NEIGHBOUR: 'it returns false'. Refute it at one input. -/
def geomRoomWrong : ChangeSpec := { name := "geomRoom", fn := fun _ => fun
  | [d] => { results := [.lit (.bool false)], args := [d] }
  | _ => none }
def GeomRoomWrongFalsely : Prop := geomRoomRow.holds Try.pinned (OpenSpec.ofChange geomRoomWrong)

/-- 'gabionlaw09.ParityXors': WHATEVER THE INPUT: true; the input reads as it did. -/
def parityXorsSpec : ChangeSpec := { name := "parityXors", fn := fun _ => fun
  | [d] => { results := [.lit (.bool true)], args := [d] }
  | _ => none }
def parityXorsRow : OpenClaim := { program := "ytmggjknljbpbgaa", sum := "9afb12d432fd9b455f8ca4b884a69d32eb36570633319d7b4c100f063ea4ae00", func := "gabion/gabionlaw09.ParityXors", spec := "parityXors", apart := false }
def ParityXorsSaid : Prop := parityXorsRow.holds Try.pinned (OpenSpec.ofChange parityXorsSpec)

/-- ITS FALSE NEIGHBOUR: 'it returns false'. Refute it at one input. -/
def parityXorsWrong : ChangeSpec := { name := "parityXors", fn := fun _ => fun
  | [d] => { results := [.lit (.bool false)], args := [d] }
  | _ => none }
def ParityXorsWrongFalsely : Prop := parityXorsRow.holds Try.pinned (OpenSpec.ofChange parityXorsWrong)

/-- 'gabionlaw09.ParityPages': WHATEVER THE INPUT: true; the input reads as it did. -/
def parityPagesSpec : ChangeSpec := { name := "parityPages", fn := fun _ => fun
  | [d] => { results := [.lit (.bool true)], args := [d] }
  | _ => none }
def parityPagesRow : OpenClaim := { program := "ytmggjknljbpbgaa", sum := "9afb12d432fd9b455f8ca4b884a69d32eb36570633319d7b4c100f063ea4ae00", func := "gabion/gabionlaw09.ParityPages", spec := "parityPages", apart := false }
def ParityPagesSaid : Prop := parityPagesRow.holds Try.pinned (OpenSpec.ofChange parityPagesSpec)

/-- ITS FALSE NEIGHBOUR: 'it returns false'. Refute it at one input. -/
def parityPagesWrong : ChangeSpec := { name := "parityPages", fn := fun _ => fun
  | [d] => { results := [.lit (.bool false)], args := [d] }
  | _ => none }
def ParityPagesWrongFalsely : Prop := parityPagesRow.holds Try.pinned (OpenSpec.ofChange parityPagesWrong)

/-- 'gabionlaw09.ParityBack': WHATEVER THE INPUT: true; the input reads as it did. -/
def parityBackSpec : ChangeSpec := { name := "parityBack", fn := fun _ => fun
  | [d] => { results := [.lit (.bool true)], args := [d] }
  | _ => none }
def parityBackRow : OpenClaim := { program := "ytmggjknljbpbgaa", sum := "9afb12d432fd9b455f8ca4b884a69d32eb36570633319d7b4c100f063ea4ae00", func := "gabion/gabionlaw09.ParityBack", spec := "parityBack", unfollowed := true, recurses := true, apart := false }
def ParityBackSaid : Prop := parityBackRow.holds Try.pinned (OpenSpec.ofChange parityBackSpec)

/-- ITS FALSE NEIGHBOUR: 'it returns false'. Refute it at one input. -/
def parityBackWrong : ChangeSpec := { name := "parityBack", fn := fun _ => fun
  | [d] => { results := [.lit (.bool false)], args := [d] }
  | _ => none }
def ParityBackWrongFalsely : Prop := parityBackRow.holds Try.pinned (OpenSpec.ofChange parityBackWrong)

/-- 'gabionlaw09.ParitySpoilt': WHATEVER THE INPUT: true; the input reads as it did. -/
def paritySpoiltSpec : ChangeSpec := { name := "paritySpoilt", fn := fun _ => fun
  | [d] => { results := [.lit (.bool true)], args := [d] }
  | _ => none }
def paritySpoiltRow : OpenClaim := { program := "ytmggjknljbpbgaa", sum := "9afb12d432fd9b455f8ca4b884a69d32eb36570633319d7b4c100f063ea4ae00", func := "gabion/gabionlaw09.ParitySpoilt", spec := "paritySpoilt", unfollowed := true, recurses := true, apart := false }
def ParitySpoiltSaid : Prop := paritySpoiltRow.holds Try.pinned (OpenSpec.ofChange paritySpoiltSpec)

/-- ITS FALSE NEIGHBOUR: 'it returns false'. Refute it at one input. -/
def paritySpoiltWrong : ChangeSpec := { name := "paritySpoilt", fn := fun _ => fun
  | [d] => { results := [.lit (.bool false)], args := [d] }
  | _ => none }
def ParitySpoiltWrongFalsely : Prop := paritySpoiltRow.holds Try.pinned (OpenSpec.ofChange paritySpoiltWrong)

/-- 'gabionlaw09.ParityParts': WHATEVER THE INPUT: true; the input reads as it did. -/
def parityPartsSpec : ChangeSpec := { name := "parityParts", fn := fun _ => fun
  | [d1, d2] => { results := [.lit (.bool true)], args := [d1, d2] }
  | _ => none }
def parityPartsRow : OpenClaim := { program := "ytmggjknljbpbgaa", sum := "9afb12d432fd9b455f8ca4b884a69d32eb36570633319d7b4c100f063ea4ae00", func := "gabion/gabionlaw09.ParityParts", spec := "parityParts", apart := false }
def ParityPartsSaid : Prop := parityPartsRow.holds Try.pinned (OpenSpec.ofChange parityPartsSpec)

/-- ITS FALSE NEIGHBOUR: 'it returns false'. Refute it at one input. -/
def parityPartsWrong : ChangeSpec := { name := "parityParts", fn := fun _ => fun
  | [d1, d2] => { results := [.lit (.bool false)], args := [d1, d2] }
  | _ => none }
def ParityPartsWrongFalsely : Prop := parityPartsRow.holds Try.pinned (OpenSpec.ofChange parityPartsWrong)

/-- 'gabionlaw09.ParityOne': WHATEVER THE INPUT: true; the input reads as it did. -/
def parityOneSpec : ChangeSpec := { name := "parityOne", fn := fun _ => fun
  | [d1, d2, d3] => { results := [.lit (.bool true)], args := [d1, d2, d3] }
  | _ => none }
def parityOneRow : OpenClaim := { program := "ytmggjknljbpbgaa", sum := "9afb12d432fd9b455f8ca4b884a69d32eb36570633319d7b4c100f063ea4ae00", func := "gabion/gabionlaw09.ParityOne", spec := "parityOne", unfollowed := true, recurses := true, apart := false }
def ParityOneSaid : Prop := parityOneRow.holds Try.pinned (OpenSpec.ofChange parityOneSpec)

/-- ITS FALSE NEIGHBOUR: 'it returns false'. Refute it at one input. -/
def parityOneWrong : ChangeSpec := { name := "parityOne", fn := fun _ => fun
  | [d1, d2, d3] => { results := [.lit (.bool false)], args := [d1, d2, d3] }
  | _ => none }
def ParityOneWrongFalsely : Prop := parityOneRow.holds Try.pinned (OpenSpec.ofChange parityOneWrong)

/- THE SECOND FORM. 'bulk': how many values and letters a reading holds, each counted each time it is reached (what is shared counts as often as it is met; a slice's spare places count too). A statement '..UptoSaid' is the law's where the arguments, and the package variables that the reading takes, are together of bulk at most 1048576: NARROWER than '..Said'. Prove '..Said' where nothing that the law and all that it calls make is longer than what came in: it says more and counts as full. Else prove '..UptoSaid'. A law counts once. -/
mutual
def uptoBulk {H : Type} : DataW H → Nat
  | .lit (.string bytes) => bytes.length + 1
  | .lit _ => 1
  | .nil => 1
  | .ptr d => uptoBulk d + 1
  | .slice elems spare => uptoBulkAll elems + uptoBulkAll spare + 1
  | .agg parts => uptoBulkAll parts + 1
  | .iface _ d => uptoBulk d + 1
  | .map entries => uptoBulkEntries entries + 1
  | .held _ => 1
def uptoBulkAll {H : Type} : List (DataW H) → Nat
  | [] => 0
  | d :: r => uptoBulk d + uptoBulkAll r
def uptoBulkEntries {H : Type} : List (Lit × DataW H) → Nat
  | [] => 0
  | x :: r => uptoBulkEntry x + uptoBulkEntries r
def uptoBulkEntry {H : Type} : Lit × DataW H → Nat
  | (.string bytes, d) => bytes.length + uptoBulk d + 1
  | (_, d) => uptoBulk d + 1
 end
def uptoSmall : (H : Type) → List (DataW H) → Bool := fun _ ds => decide (uptoBulkAll ds ≤ 1048576)
def OpenSpec.upto (s : _root_.Go.ChangeSpec) : _root_.Go.OpenSpec := { _root_.Go.OpenSpec.ofChange s with cond := some uptoSmall }

/-- 'gabionlaw08.GeomStripes', WHERE WHAT IT READS IS OF BULK AT MOST 1048576: true; the input reads as it did. -/
def geomStripesUptoRow : OpenClaim := { program := "ytmggjknljbpbgaa", sum := "9afb12d432fd9b455f8ca4b884a69d32eb36570633319d7b4c100f063ea4ae00", func := "gabion/gabionlaw08.GeomStripes", spec := "geomStripes", unfollowed := true, recurses := true, apart := false, narrowed := true }
def GeomStripesUptoSaid : Prop := geomStripesUptoRow.holds Try.pinned (OpenSpec.upto geomStripesSpec)

/-- 'gabionlaw08.GeomNumbers', WHERE WHAT IT READS IS OF BULK AT MOST 1048576: true; the input reads as it did. -/
def geomNumbersUptoRow : OpenClaim := { program := "ytmggjknljbpbgaa", sum := "9afb12d432fd9b455f8ca4b884a69d32eb36570633319d7b4c100f063ea4ae00", func := "gabion/gabionlaw08.GeomNumbers", spec := "geomNumbers", apart := false, narrowed := true }
def GeomNumbersUptoSaid : Prop := geomNumbersUptoRow.holds Try.pinned (OpenSpec.upto geomNumbersSpec)

/-- 'gabionlaw08.GeomTurns', WHERE WHAT IT READS IS OF BULK AT MOST 1048576: true; the input reads as it did. -/
def geomTurnsUptoRow : OpenClaim := { program := "ytmggjknljbpbgaa", sum := "9afb12d432fd9b455f8ca4b884a69d32eb36570633319d7b4c100f063ea4ae00", func := "gabion/gabionlaw08.GeomTurns", spec := "geomTurns", apart := false, narrowed := true }
def GeomTurnsUptoSaid : Prop := geomTurnsUptoRow.holds Try.pinned (OpenSpec.upto geomTurnsSpec)

/-- 'gabionlaw08.GeomSizes', WHERE WHAT IT READS IS OF BULK AT MOST 1048576: true; the input reads as it did. -/
def geomSizesUptoRow : OpenClaim := { program := "ytmggjknljbpbgaa", sum := "9afb12d432fd9b455f8ca4b884a69d32eb36570633319d7b4c100f063ea4ae00", func := "gabion/gabionlaw08.GeomSizes", spec := "geomSizes", apart := false, narrowed := true }
def GeomSizesUptoSaid : Prop := geomSizesUptoRow.holds Try.pinned (OpenSpec.upto geomSizesSpec)

/-- 'gabionlaw08.GeomMembers', WHERE WHAT IT READS IS OF BULK AT MOST 1048576: true; the input reads as it did. -/
def geomMembersUptoRow : OpenClaim := { program := "ytmggjknljbpbgaa", sum := "9afb12d432fd9b455f8ca4b884a69d32eb36570633319d7b4c100f063ea4ae00", func := "gabion/gabionlaw08.GeomMembers", spec := "geomMembers", unfollowed := true, recurses := true, apart := false, narrowed := true }
def GeomMembersUptoSaid : Prop := geomMembersUptoRow.holds Try.pinned (OpenSpec.upto geomMembersSpec)

/-- 'gabionlaw08.GeomNexts', WHERE WHAT IT READS IS OF BULK AT MOST 1048576: true; the input reads as it did. -/
def geomNextsUptoRow : OpenClaim := { program := "ytmggjknljbpbgaa", sum := "9afb12d432fd9b455f8ca4b884a69d32eb36570633319d7b4c100f063ea4ae00", func := "gabion/gabionlaw08.GeomNexts", spec := "geomNexts", apart := false, narrowed := true }
def GeomNextsUptoSaid : Prop := geomNextsUptoRow.holds Try.pinned (OpenSpec.upto geomNextsSpec)

/-- 'gabionlaw08.GeomRoom', WHERE WHAT IT READS IS OF BULK AT MOST 1048576: true; the input reads as it did. -/
def geomRoomUptoRow : OpenClaim := { program := "ytmggjknljbpbgaa", sum := "9afb12d432fd9b455f8ca4b884a69d32eb36570633319d7b4c100f063ea4ae00", func := "gabion/gabionlaw08.GeomRoom", spec := "geomRoom", apart := false, narrowed := true }
def GeomRoomUptoSaid : Prop := geomRoomUptoRow.holds Try.pinned (OpenSpec.upto geomRoomSpec)

/-- 'gabionlaw09.ParityXors', WHERE WHAT IT READS IS OF BULK AT MOST 1048576: true; the input reads as it did. -/
def parityXorsUptoRow : OpenClaim := { program := "ytmggjknljbpbgaa", sum := "9afb12d432fd9b455f8ca4b884a69d32eb36570633319d7b4c100f063ea4ae00", func := "gabion/gabionlaw09.ParityXors", spec := "parityXors", apart := false, narrowed := true }
def ParityXorsUptoSaid : Prop := parityXorsUptoRow.holds Try.pinned (OpenSpec.upto parityXorsSpec)

/-- 'gabionlaw09.ParityPages', WHERE WHAT IT READS IS OF BULK AT MOST 1048576: true; the input reads as it did. -/
def parityPagesUptoRow : OpenClaim := { program := "ytmggjknljbpbgaa", sum := "9afb12d432fd9b455f8ca4b884a69d32eb36570633319d7b4c100f063ea4ae00", func := "gabion/gabionlaw09.ParityPages", spec := "parityPages", apart := false, narrowed := true }
def ParityPagesUptoSaid : Prop := parityPagesUptoRow.holds Try.pinned (OpenSpec.upto parityPagesSpec)

/-- 'gabionlaw09.ParityBack', WHERE WHAT IT READS IS OF BULK AT MOST 1048576: true; the input reads as it did. -/
def parityBackUptoRow : OpenClaim := { program := "ytmggjknljbpbgaa", sum := "9afb12d432fd9b455f8ca4b884a69d32eb36570633319d7b4c100f063ea4ae00", func := "gabion/gabionlaw09.ParityBack", spec := "parityBack", unfollowed := true, recurses := true, apart := false, narrowed := true }
def ParityBackUptoSaid : Prop := parityBackUptoRow.holds Try.pinned (OpenSpec.upto parityBackSpec)

/-- 'gabionlaw09.ParitySpoilt', WHERE WHAT IT READS IS OF BULK AT MOST 1048576: true; the input reads as it did. -/
def paritySpoiltUptoRow : OpenClaim := { program := "ytmggjknljbpbgaa", sum := "9afb12d432fd9b455f8ca4b884a69d32eb36570633319d7b4c100f063ea4ae00", func := "gabion/gabionlaw09.ParitySpoilt", spec := "paritySpoilt", unfollowed := true, recurses := true, apart := false, narrowed := true }
def ParitySpoiltUptoSaid : Prop := paritySpoiltUptoRow.holds Try.pinned (OpenSpec.upto paritySpoiltSpec)

/-- 'gabionlaw09.ParityParts', WHERE WHAT IT READS IS OF BULK AT MOST 1048576: true; the input reads as it did. -/
def parityPartsUptoRow : OpenClaim := { program := "ytmggjknljbpbgaa", sum := "9afb12d432fd9b455f8ca4b884a69d32eb36570633319d7b4c100f063ea4ae00", func := "gabion/gabionlaw09.ParityParts", spec := "parityParts", apart := false, narrowed := true }
def ParityPartsUptoSaid : Prop := parityPartsUptoRow.holds Try.pinned (OpenSpec.upto parityPartsSpec)

/-- 'gabionlaw09.ParityOne', WHERE WHAT IT READS IS OF BULK AT MOST 1048576: true; the input reads as it did. -/
def parityOneUptoRow : OpenClaim := { program := "ytmggjknljbpbgaa", sum := "9afb12d432fd9b455f8ca4b884a69d32eb36570633319d7b4c100f063ea4ae00", func := "gabion/gabionlaw09.ParityOne", spec := "parityOne", unfollowed := true, recurses := true, apart := false, narrowed := true }
def ParityOneUptoSaid : Prop := parityOneUptoRow.holds Try.pinned (OpenSpec.upto parityOneSpec)

end Rows
end Go.Proofs.Ytmggjknljbpbgaa
