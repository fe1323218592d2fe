/-
  No cell of these rows narrows 'for every input' (looked for: loops, veiled, ifaces, maps, wideKeys, modest, calm, conditions, laid).
  DERIVED. THE GIVEN ROWS OF THIS SEAT. 7 by the template 'for every input the law returns true; each argument reads behind the call as it read before'; 0 by the template 'total and deterministic' (their statements: YtjljikhdhhmfcaaTotals.lean).
  GIVEN WITH THE SEED: the statements are not yours to turn. If you find one false, say at which input.
  Laid BY PROGRAM, IN A SANDBOX (cutbox-rows.mjs): the forced cells as the released guide's own fill.sh prints them over the translation 5250d3303d6595e1… (all of the seat's roots in one cut). By AI agents, Wed Nov 11 2026. No macro, syntax, notation, axiom, sorry.
-/
import Derived.Test.YtjljikhdhhmfcaaChecked
import GoSem.Claim
import GoSem.ClaimJoined
import GoSem.ClaimMapViews
import Derived.JoinedTies
import Derived.KernelRfl
namespace Go.Proofs.Ytjljikhdhhmfcaa
/- THE CELL 'sum', in the pinned program and in every row, IS THE sha256 OF THE DUMP (.gsa) THAT YtjljikhdhhmfcaaProg.lean LOADS. Nothing in Lean hashes anything: it is a label: what it is worth is what the hold of that sum in a sandbox is worth. -/
noncomputable def Try.pinned : Pinned := { name := "ytjljikhdhhmfcaa", sum := "5250d3303d6595e183484f0d6e020524ecbd4cfffe40ddb758f8fbe27b2f1b99", checked := Try.checked }
namespace Rows
def none {H : Type} : Left H := { results := [], args := [] }

/-- 'gabionlaw09.ParitySpoilt': WHATEVER THE INPUT: true; the input reads as it did. -/
def paritySpoiltSpec : ChangeSpec := { name := "paritySpoilt", fn := fun _ => fun
  | [d] => { results := [.lit (.bool true)], args := [d] }
  | _ => none }
def paritySpoiltRow : OpenClaim := { program := "ytjljikhdhhmfcaa", sum := "5250d3303d6595e183484f0d6e020524ecbd4cfffe40ddb758f8fbe27b2f1b99", func := "gabion/gabionlaw09.ParitySpoilt", spec := "paritySpoilt", unfollowed := true, recurses := true, plainKeys := false, apart := false }
def ParitySpoiltSaid : Prop := paritySpoiltRow.holds Try.pinned (OpenSpec.ofChange paritySpoiltSpec)

/-- ITS FALSE NEIGHBOUR: 'it returns false'. Refute it at one input. -/
def paritySpoiltWrong : ChangeSpec := { name := "paritySpoilt", fn := fun _ => fun
  | [d] => { results := [.lit (.bool false)], args := [d] }
  | _ => none }
def ParitySpoiltWrongFalsely : Prop := paritySpoiltRow.holds Try.pinned (OpenSpec.ofChange paritySpoiltWrong)

/-- 'gabionlaw10.StripeWrites': WHATEVER THE INPUT: true; the input reads as it did. -/
def stripeWritesSpec : ChangeSpec := { name := "stripeWrites", fn := fun _ => fun
  | [d] => { results := [.lit (.bool true)], args := [d] }
  | _ => none }
def stripeWritesRow : OpenClaim := { program := "ytjljikhdhhmfcaa", sum := "5250d3303d6595e183484f0d6e020524ecbd4cfffe40ddb758f8fbe27b2f1b99", func := "gabion/gabionlaw10.StripeWrites", spec := "stripeWrites", inPlace := ["slices.overlaps[int]"], unfollowed := true, recurses := true, plainKeys := false, apart := false }
def StripeWritesSaid : Prop := stripeWritesRow.holds Try.pinned (OpenSpec.ofChange stripeWritesSpec)

/-- ITS FALSE NEIGHBOUR: 'it returns false'. Refute it at one input. -/
def stripeWritesWrong : ChangeSpec := { name := "stripeWrites", fn := fun _ => fun
  | [d] => { results := [.lit (.bool false)], args := [d] }
  | _ => none }
def StripeWritesWrongFalsely : Prop := stripeWritesRow.holds Try.pinned (OpenSpec.ofChange stripeWritesWrong)

/-- 'gabionlaw10.StripeReads': WHATEVER THE INPUT: true; the input reads as it did. -/
def stripeReadsSpec : ChangeSpec := { name := "stripeReads", fn := fun _ => fun
  | [d] => { results := [.lit (.bool true)], args := [d] }
  | _ => none }
def stripeReadsRow : OpenClaim := { program := "ytjljikhdhhmfcaa", sum := "5250d3303d6595e183484f0d6e020524ecbd4cfffe40ddb758f8fbe27b2f1b99", func := "gabion/gabionlaw10.StripeReads", spec := "stripeReads", inPlace := ["slices.overlaps[int]"], unfollowed := true, recurses := true, plainKeys := false, apart := false }
def StripeReadsSaid : Prop := stripeReadsRow.holds Try.pinned (OpenSpec.ofChange stripeReadsSpec)

/-- ITS FALSE NEIGHBOUR: 'it returns false'. Refute it at one input. -/
def stripeReadsWrong : ChangeSpec := { name := "stripeReads", fn := fun _ => fun
  | [d] => { results := [.lit (.bool false)], args := [d] }
  | _ => none }
def StripeReadsWrongFalsely : Prop := stripeReadsRow.holds Try.pinned (OpenSpec.ofChange stripeReadsWrong)

/-- 'gabionlaw10.StripeMany': WHATEVER THE INPUT: true; the input reads as it did. -/
def stripeManySpec : ChangeSpec := { name := "stripeMany", fn := fun _ => fun
  | [d1, d2] => { results := [.lit (.bool true)], args := [d1, d2] }
  | _ => none }
def stripeManyRow : OpenClaim := { program := "ytjljikhdhhmfcaa", sum := "5250d3303d6595e183484f0d6e020524ecbd4cfffe40ddb758f8fbe27b2f1b99", func := "gabion/gabionlaw10.StripeMany", spec := "stripeMany", inPlace := ["slices.overlaps[int]"], unfollowed := true, recurses := true, plainKeys := false, apart := false }
def StripeManySaid : Prop := stripeManyRow.holds Try.pinned (OpenSpec.ofChange stripeManySpec)

/-- ITS FALSE NEIGHBOUR: 'it returns false'. Refute it at one input. -/
def stripeManyWrong : ChangeSpec := { name := "stripeMany", fn := fun _ => fun
  | [d1, d2] => { results := [.lit (.bool false)], args := [d1, d2] }
  | _ => none }
def StripeManyWrongFalsely : Prop := stripeManyRow.holds Try.pinned (OpenSpec.ofChange stripeManyWrong)

/-- 'gabionlaw12.MemberPlains': WHATEVER THE INPUT: true; the input reads as it did. -/
def memberPlainsSpec : ChangeSpec := { name := "memberPlains", fn := fun _ => fun
  | [d] => { results := [.lit (.bool true)], args := [d] }
  | _ => none }
def memberPlainsRow : OpenClaim := { program := "ytjljikhdhhmfcaa", sum := "5250d3303d6595e183484f0d6e020524ecbd4cfffe40ddb758f8fbe27b2f1b99", func := "gabion/gabionlaw12.MemberPlains", spec := "memberPlains", unfollowed := true, recurses := true, plainKeys := false, apart := false }
def MemberPlainsSaid : Prop := memberPlainsRow.holds Try.pinned (OpenSpec.ofChange memberPlainsSpec)

/-- ITS FALSE NEIGHBOUR: 'it returns false'. Refute it at one input. -/
def memberPlainsWrong : ChangeSpec := { name := "memberPlains", fn := fun _ => fun
  | [d] => { results := [.lit (.bool false)], args := [d] }
  | _ => none }
def MemberPlainsWrongFalsely : Prop := memberPlainsRow.holds Try.pinned (OpenSpec.ofChange memberPlainsWrong)

/-- 'gabionlaw12.MemberParses': WHATEVER THE INPUT: true; the input reads as it did. -/
def memberParsesSpec : ChangeSpec := { name := "memberParses", fn := fun _ => fun
  | [d] => { results := [.lit (.bool true)], args := [d] }
  | _ => none }
def memberParsesRow : OpenClaim := { program := "ytjljikhdhhmfcaa", sum := "5250d3303d6595e183484f0d6e020524ecbd4cfffe40ddb758f8fbe27b2f1b99", func := "gabion/gabionlaw12.MemberParses", spec := "memberParses", unfollowed := true, recurses := true, plainKeys := false, apart := false }
def MemberParsesSaid : Prop := memberParsesRow.holds Try.pinned (OpenSpec.ofChange memberParsesSpec)

/-- ITS FALSE NEIGHBOUR: 'it returns false'. Refute it at one input. -/
def memberParsesWrong : ChangeSpec := { name := "memberParses", fn := fun _ => fun
  | [d] => { results := [.lit (.bool false)], args := [d] }
  | _ => none }
def MemberParsesWrongFalsely : Prop := memberParsesRow.holds Try.pinned (OpenSpec.ofChange memberParsesWrong)

/-- 'gabionlaw14.PointNils': WHATEVER THE INPUT: true; the input reads as it did. -/
def pointNilsSpec : ChangeSpec := { name := "pointNils", fn := fun _ => fun
  | [d1, d2] => { results := [.lit (.bool true)], args := [d1, d2] }
  | _ => none }
def pointNilsRow : OpenClaim := { program := "ytjljikhdhhmfcaa", sum := "5250d3303d6595e183484f0d6e020524ecbd4cfffe40ddb758f8fbe27b2f1b99", func := "gabion/gabionlaw14.PointNils", spec := "pointNils", inPlace := ["slices.overlaps[int]"], unfollowed := true, recurses := true, plainKeys := false, apart := false }
def PointNilsSaid : Prop := pointNilsRow.holds Try.pinned (OpenSpec.ofChange pointNilsSpec)

/-- ITS FALSE NEIGHBOUR: 'it returns false'. Refute it at one input. -/
def pointNilsWrong : ChangeSpec := { name := "pointNils", fn := fun _ => fun
  | [d1, d2] => { results := [.lit (.bool false)], args := [d1, d2] }
  | _ => none }
def PointNilsWrongFalsely : Prop := pointNilsRow.holds Try.pinned (OpenSpec.ofChange pointNilsWrong)

/- THE SECOND FORM. 'bulk': how many values and letters a reading holds, each counted each time it is reached (what is shared counts as often as it is met; a slice's spare places count too). A statement '..UptoSaid' is the law's where the arguments, and the package variables that the reading takes, are together of bulk at most 1048576: NARROWER than '..Said'. Prove '..Said' where nothing that the law and all that it calls make is longer than what came in: it says more and counts as full. Else prove '..UptoSaid'. A law counts once. -/
mutual
def uptoBulk {H : Type} : DataW H → Nat
  | .lit (.string bytes) => bytes.length + 1
  | .lit _ => 1
  | .nil => 1
  | .ptr d => uptoBulk d + 1
  | .slice elems spare => uptoBulkAll elems + uptoBulkAll spare + 1
  | .agg parts => uptoBulkAll parts + 1
  | .iface _ d => uptoBulk d + 1
  | .map entries => uptoBulkEntries entries + 1
  | .held _ => 1
def uptoBulkAll {H : Type} : List (DataW H) → Nat
  | [] => 0
  | d :: r => uptoBulk d + uptoBulkAll r
def uptoBulkEntries {H : Type} : List (Lit × DataW H) → Nat
  | [] => 0
  | x :: r => uptoBulkEntry x + uptoBulkEntries r
def uptoBulkEntry {H : Type} : Lit × DataW H → Nat
  | (.string bytes, d) => bytes.length + uptoBulk d + 1
  | (_, d) => uptoBulk d + 1
 end
def uptoSmall : (H : Type) → List (DataW H) → Bool := fun _ ds => decide (uptoBulkAll ds ≤ 1048576)
def OpenSpec.upto (s : _root_.Go.ChangeSpec) : _root_.Go.OpenSpec := { _root_.Go.OpenSpec.ofChange s with cond := some uptoSmall }

/-- 'gabionlaw09.ParitySpoilt', WHERE WHAT IT READS IS OF BULK AT MOST 1048576: true; the input reads as it did. -/
def paritySpoiltUptoRow : OpenClaim := { program := "ytjljikhdhhmfcaa", sum := "5250d3303d6595e183484f0d6e020524ecbd4cfffe40ddb758f8fbe27b2f1b99", func := "gabion/gabionlaw09.ParitySpoilt", spec := "paritySpoilt", unfollowed := true, recurses := true, plainKeys := false, apart := false, narrowed := true }
def ParitySpoiltUptoSaid : Prop := paritySpoiltUptoRow.holds Try.pinned (OpenSpec.upto paritySpoiltSpec)

/-- 'gabionlaw10.StripeWrites', WHERE WHAT IT READS IS OF BULK AT MOST 1048576: true; the input reads as it did. -/
def stripeWritesUptoRow : OpenClaim := { program := "ytjljikhdhhmfcaa", sum := "5250d3303d6595e183484f0d6e020524ecbd4cfffe40ddb758f8fbe27b2f1b99", func := "gabion/gabionlaw10.StripeWrites", spec := "stripeWrites", inPlace := ["slices.overlaps[int]"], unfollowed := true, recurses := true, plainKeys := false, apart := false, narrowed := true }
def StripeWritesUptoSaid : Prop := stripeWritesUptoRow.holds Try.pinned (OpenSpec.upto stripeWritesSpec)

/-- 'gabionlaw10.StripeReads', WHERE WHAT IT READS IS OF BULK AT MOST 1048576: true; the input reads as it did. -/
def stripeReadsUptoRow : OpenClaim := { program := "ytjljikhdhhmfcaa", sum := "5250d3303d6595e183484f0d6e020524ecbd4cfffe40ddb758f8fbe27b2f1b99", func := "gabion/gabionlaw10.StripeReads", spec := "stripeReads", inPlace := ["slices.overlaps[int]"], unfollowed := true, recurses := true, plainKeys := false, apart := false, narrowed := true }
def StripeReadsUptoSaid : Prop := stripeReadsUptoRow.holds Try.pinned (OpenSpec.upto stripeReadsSpec)

/-- 'gabionlaw10.StripeMany', WHERE WHAT IT READS IS OF BULK AT MOST 1048576: true; the input reads as it did. -/
def stripeManyUptoRow : OpenClaim := { program := "ytjljikhdhhmfcaa", sum := "5250d3303d6595e183484f0d6e020524ecbd4cfffe40ddb758f8fbe27b2f1b99", func := "gabion/gabionlaw10.StripeMany", spec := "stripeMany", inPlace := ["slices.overlaps[int]"], unfollowed := true, recurses := true, plainKeys := false, apart := false, narrowed := true }
def StripeManyUptoSaid : Prop := stripeManyUptoRow.holds Try.pinned (OpenSpec.upto stripeManySpec)

/-- 'gabionlaw12.MemberPlains', WHERE WHAT IT READS IS OF BULK AT MOST 1048576: true; the input reads as it did. -/
def memberPlainsUptoRow : OpenClaim := { program := "ytjljikhdhhmfcaa", sum := "5250d3303d6595e183484f0d6e020524ecbd4cfffe40ddb758f8fbe27b2f1b99", func := "gabion/gabionlaw12.MemberPlains", spec := "memberPlains", unfollowed := true, recurses := true, plainKeys := false, apart := false, narrowed := true }
def MemberPlainsUptoSaid : Prop := memberPlainsUptoRow.holds Try.pinned (OpenSpec.upto memberPlainsSpec)

/-- 'gabionlaw12.MemberParses', WHERE WHAT IT READS IS OF BULK AT MOST 1048576: true; the input reads as it did. -/
def memberParsesUptoRow : OpenClaim := { program := "ytjljikhdhhmfcaa", sum := "5250d3303d6595e183484f0d6e020524ecbd4cfffe40ddb758f8fbe27b2f1b99", func := "gabion/gabionlaw12.MemberParses", spec := "memberParses", unfollowed := true, recurses := true, plainKeys := false, apart := false, narrowed := true }
def MemberParsesUptoSaid : Prop := memberParsesUptoRow.holds Try.pinned (OpenSpec.upto memberParsesSpec)

/-- 'gabionlaw14.PointNils', WHERE WHAT IT READS IS OF BULK AT MOST 1048576: true; the input reads as it did. -/
def pointNilsUptoRow : OpenClaim := { program := "ytjljikhdhhmfcaa", sum := "5250d3303d6595e183484f0d6e020524ecbd4cfffe40ddb758f8fbe27b2f1b99", func := "gabion/gabionlaw14.PointNils", spec := "pointNils", inPlace := ["slices.overlaps[int]"], unfollowed := true, recurses := true, plainKeys := false, apart := false, narrowed := true }
def PointNilsUptoSaid : Prop := pointNilsUptoRow.holds Try.pinned (OpenSpec.upto pointNilsSpec)

end Rows
end Go.Proofs.Ytjljikhdhhmfcaa
