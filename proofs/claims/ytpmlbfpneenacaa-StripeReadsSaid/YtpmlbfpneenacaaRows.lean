/-
  No cell of these rows narrows 'for every input' (looked for: loops, veiled, ifaces, maps, wideKeys, modest, calm, conditions, laid).
  DERIVED. THE GIVEN ROWS OF THIS SEAT. 14 by the template 'for every input the law returns true; each argument reads behind the call as it read before'; 0 by the template 'total and deterministic' (their statements: YtpmlbfpneenacaaTotals.lean).
  GIVEN WITH THE SEED: the statements are not yours to turn. If you find one false, say at which input.
  Laid BY PROGRAM, IN A SANDBOX (cutbox-rows.mjs): the forced cells as the released guide's own fill.sh prints them over the translation 1dba04b4414b792a… (all of the seat's roots in one cut). By AI agents, Wed Nov 11 2026. No macro, syntax, notation, axiom, sorry.
-/
import Derived.Test.YtpmlbfpneenacaaChecked
import GoSem.Claim
import GoSem.ClaimJoined
import GoSem.ClaimMapViews
import Derived.JoinedTies
import Derived.KernelRfl
namespace Go.Proofs.Ytpmlbfpneenacaa
/- THE CELL 'sum', in the pinned program and in every row, IS THE sha256 OF THE DUMP (.gsa) THAT YtpmlbfpneenacaaProg.lean LOADS. Nothing in Lean hashes anything: it is a label: what it is worth is what the hold of that sum in a sandbox is worth. -/
noncomputable def Try.pinned : Pinned := { name := "ytpmlbfpneenacaa", sum := "1dba04b4414b792a6399d8d9372f5df68fddab6fc35edd6fb5e7e52f40827e7e", checked := Try.checked }
namespace Rows
def none {H : Type} : Left H := { results := [], args := [] }

/-- 'gabionlaw09.ParitySpoilt': WHATEVER THE INPUT: true; the input reads as it did. -/
def paritySpoiltSpec : ChangeSpec := { name := "paritySpoilt", fn := fun _ => fun
  | [d] => { results := [.lit (.bool true)], args := [d] }
  | _ => none }
def paritySpoiltRow : OpenClaim := { program := "ytpmlbfpneenacaa", sum := "1dba04b4414b792a6399d8d9372f5df68fddab6fc35edd6fb5e7e52f40827e7e", func := "gabion/gabionlaw09.ParitySpoilt", spec := "paritySpoilt", unfollowed := true, recurses := true, plainKeys := false, apart := false }
def ParitySpoiltSaid : Prop := paritySpoiltRow.holds Try.pinned (OpenSpec.ofChange paritySpoiltSpec)

/-- ITS FALSE NEIGHBOUR: 'it returns false'. Refute it at one input. -/
def paritySpoiltWrong : ChangeSpec := { name := "paritySpoilt", fn := fun _ => fun
  | [d] => { results := [.lit (.bool false)], args := [d] }
  | _ => none }
def ParitySpoiltWrongFalsely : Prop := paritySpoiltRow.holds Try.pinned (OpenSpec.ofChange paritySpoiltWrong)

/-- 'gabionlaw10.StripeWrites': WHATEVER THE INPUT: true; the input reads as it did. -/
def stripeWritesSpec : ChangeSpec := { name := "stripeWrites", fn := fun _ => fun
  | [d] => { results := [.lit (.bool true)], args := [d] }
  | _ => none }
def stripeWritesRow : OpenClaim := { program := "ytpmlbfpneenacaa", sum := "1dba04b4414b792a6399d8d9372f5df68fddab6fc35edd6fb5e7e52f40827e7e", func := "gabion/gabionlaw10.StripeWrites", spec := "stripeWrites", inPlace := ["slices.overlaps[int]"], unfollowed := true, recurses := true, plainKeys := false, apart := false }
def StripeWritesSaid : Prop := stripeWritesRow.holds Try.pinned (OpenSpec.ofChange stripeWritesSpec)

/-- ITS FALSE NEIGHBOUR: 'it returns false'. Refute it at one input. -/
def stripeWritesWrong : ChangeSpec := { name := "stripeWrites", fn := fun _ => fun
  | [d] => { results := [.lit (.bool false)], args := [d] }
  | _ => none }
def StripeWritesWrongFalsely : Prop := stripeWritesRow.holds Try.pinned (OpenSpec.ofChange stripeWritesWrong)

/-- 'gabionlaw10.StripeReads': WHATEVER THE INPUT: true; the input reads as it did. -/
def stripeReadsSpec : ChangeSpec := { name := "stripeReads", fn := fun _ => fun
  | [d] => { results := [.lit (.bool true)], args := [d] }
  | _ => none }
def stripeReadsRow : OpenClaim := { program := "ytpmlbfpneenacaa", sum := "1dba04b4414b792a6399d8d9372f5df68fddab6fc35edd6fb5e7e52f40827e7e", func := "gabion/gabionlaw10.StripeReads", spec := "stripeReads", inPlace := ["slices.overlaps[int]"], unfollowed := true, recurses := true, plainKeys := false, apart := false }
def StripeReadsSaid : Prop := stripeReadsRow.holds Try.pinned (OpenSpec.ofChange stripeReadsSpec)

/-- ITS FALSE NEIGHBOUR: 'it returns false'. Refute it at one input. -/
def stripeReadsWrong : ChangeSpec := { name := "stripeReads", fn := fun _ => fun
  | [d] => { results := [.lit (.bool false)], args := [d] }
  | _ => none }
def StripeReadsWrongFalsely : Prop := stripeReadsRow.holds Try.pinned (OpenSpec.ofChange stripeReadsWrong)

/-- 'gabionlaw10.StripeMany': WHATEVER THE INPUT: true; the input reads as it did. -/
def stripeManySpec : ChangeSpec := { name := "stripeMany", fn := fun _ => fun
  | [d1, d2] => { results := [.lit (.bool true)], args := [d1, d2] }
  | _ => none }
def stripeManyRow : OpenClaim := { program := "ytpmlbfpneenacaa", sum := "1dba04b4414b792a6399d8d9372f5df68fddab6fc35edd6fb5e7e52f40827e7e", func := "gabion/gabionlaw10.StripeMany", spec := "stripeMany", inPlace := ["slices.overlaps[int]"], unfollowed := true, recurses := true, plainKeys := false, apart := false }
def StripeManySaid : Prop := stripeManyRow.holds Try.pinned (OpenSpec.ofChange stripeManySpec)

/-- ITS FALSE NEIGHBOUR: 'it returns false'. Refute it at one input. -/
def stripeManyWrong : ChangeSpec := { name := "stripeMany", fn := fun _ => fun
  | [d1, d2] => { results := [.lit (.bool false)], args := [d1, d2] }
  | _ => none }
def StripeManyWrongFalsely : Prop := stripeManyRow.holds Try.pinned (OpenSpec.ofChange stripeManyWrong)

/-- 'gabionlaw11.StageSpots': WHATEVER THE INPUT: true; the input reads as it did. -/
def stageSpotsSpec : ChangeSpec := { name := "stageSpots", fn := fun _ => fun
  | [d1, d2, d3] => { results := [.lit (.bool true)], args := [d1, d2, d3] }
  | _ => none }
def stageSpotsRow : OpenClaim := { program := "ytpmlbfpneenacaa", sum := "1dba04b4414b792a6399d8d9372f5df68fddab6fc35edd6fb5e7e52f40827e7e", func := "gabion/gabionlaw11.StageSpots", spec := "stageSpots", inPlace := ["slices.overlaps[int]"], unfollowed := true, recurses := true, plainKeys := false, apart := false }
def StageSpotsSaid : Prop := stageSpotsRow.holds Try.pinned (OpenSpec.ofChange stageSpotsSpec)

/-- ITS FALSE NEIGHBOUR: 'it returns false'. Refute it at one input. -/
def stageSpotsWrong : ChangeSpec := { name := "stageSpots", fn := fun _ => fun
  | [d1, d2, d3] => { results := [.lit (.bool false)], args := [d1, d2, d3] }
  | _ => none }
def StageSpotsWrongFalsely : Prop := stageSpotsRow.holds Try.pinned (OpenSpec.ofChange stageSpotsWrong)

/-- 'gabionlaw11.StagePlays': WHATEVER THE INPUT: true; the input reads as it did. -/
def stagePlaysSpec : ChangeSpec := { name := "stagePlays", fn := fun _ => fun
  | [d] => { results := [.lit (.bool true)], args := [d] }
  | _ => none }
def stagePlaysRow : OpenClaim := { program := "ytpmlbfpneenacaa", sum := "1dba04b4414b792a6399d8d9372f5df68fddab6fc35edd6fb5e7e52f40827e7e", func := "gabion/gabionlaw11.StagePlays", spec := "stagePlays", inPlace := ["slices.overlaps[int]"], unfollowed := true, recurses := true, plainKeys := false, apart := false }
def StagePlaysSaid : Prop := stagePlaysRow.holds Try.pinned (OpenSpec.ofChange stagePlaysSpec)

/-- ITS FALSE NEIGHBOUR: 'it returns false'. Refute it at one input. -/
def stagePlaysWrong : ChangeSpec := { name := "stagePlays", fn := fun _ => fun
  | [d] => { results := [.lit (.bool false)], args := [d] }
  | _ => none }
def StagePlaysWrongFalsely : Prop := stagePlaysRow.holds Try.pinned (OpenSpec.ofChange stagePlaysWrong)

/-- 'gabionlaw11.StageSpoilt': WHATEVER THE INPUT: true; the input reads as it did. -/
def stageSpoiltSpec : ChangeSpec := { name := "stageSpoilt", fn := fun _ => fun
  | [d] => { results := [.lit (.bool true)], args := [d] }
  | _ => none }
def stageSpoiltRow : OpenClaim := { program := "ytpmlbfpneenacaa", sum := "1dba04b4414b792a6399d8d9372f5df68fddab6fc35edd6fb5e7e52f40827e7e", func := "gabion/gabionlaw11.StageSpoilt", spec := "stageSpoilt", inPlace := ["slices.overlaps[int]"], unfollowed := true, recurses := true, plainKeys := false, apart := false }
def StageSpoiltSaid : Prop := stageSpoiltRow.holds Try.pinned (OpenSpec.ofChange stageSpoiltSpec)

/-- ITS FALSE NEIGHBOUR: 'it returns false'. Refute it at one input. -/
def stageSpoiltWrong : ChangeSpec := { name := "stageSpoilt", fn := fun _ => fun
  | [d] => { results := [.lit (.bool false)], args := [d] }
  | _ => none }
def StageSpoiltWrongFalsely : Prop := stageSpoiltRow.holds Try.pinned (OpenSpec.ofChange stageSpoiltWrong)

/-- 'gabionlaw11.StageLost': WHATEVER THE INPUT: true; the input reads as it did. -/
def stageLostSpec : ChangeSpec := { name := "stageLost", fn := fun _ => fun
  | [d1, d2, d3] => { results := [.lit (.bool true)], args := [d1, d2, d3] }
  | _ => none }
def stageLostRow : OpenClaim := { program := "ytpmlbfpneenacaa", sum := "1dba04b4414b792a6399d8d9372f5df68fddab6fc35edd6fb5e7e52f40827e7e", func := "gabion/gabionlaw11.StageLost", spec := "stageLost", inPlace := ["slices.overlaps[int]"], unfollowed := true, recurses := true, plainKeys := false, apart := false }
def StageLostSaid : Prop := stageLostRow.holds Try.pinned (OpenSpec.ofChange stageLostSpec)

/-- ITS FALSE NEIGHBOUR: 'it returns false'. Refute it at one input. -/
def stageLostWrong : ChangeSpec := { name := "stageLost", fn := fun _ => fun
  | [d1, d2, d3] => { results := [.lit (.bool false)], args := [d1, d2, d3] }
  | _ => none }
def StageLostWrongFalsely : Prop := stageLostRow.holds Try.pinned (OpenSpec.ofChange stageLostWrong)

/-- 'gabionlaw11.StageBlocks': WHATEVER THE INPUT: true; the input reads as it did. -/
def stageBlocksSpec : ChangeSpec := { name := "stageBlocks", fn := fun _ => fun
  | [d] => { results := [.lit (.bool true)], args := [d] }
  | _ => none }
def stageBlocksRow : OpenClaim := { program := "ytpmlbfpneenacaa", sum := "1dba04b4414b792a6399d8d9372f5df68fddab6fc35edd6fb5e7e52f40827e7e", func := "gabion/gabionlaw11.StageBlocks", spec := "stageBlocks", inPlace := ["slices.overlaps[int]"], unfollowed := true, recurses := true, plainKeys := false, apart := false }
def StageBlocksSaid : Prop := stageBlocksRow.holds Try.pinned (OpenSpec.ofChange stageBlocksSpec)

/-- ITS FALSE NEIGHBOUR: 'it returns false'. Refute it at one input. -/
def stageBlocksWrong : ChangeSpec := { name := "stageBlocks", fn := fun _ => fun
  | [d] => { results := [.lit (.bool false)], args := [d] }
  | _ => none }
def StageBlocksWrongFalsely : Prop := stageBlocksRow.holds Try.pinned (OpenSpec.ofChange stageBlocksWrong)

/-- 'gabionlaw12.MemberPlains': WHATEVER THE INPUT: true; the input reads as it did. -/
def memberPlainsSpec : ChangeSpec := { name := "memberPlains", fn := fun _ => fun
  | [d] => { results := [.lit (.bool true)], args := [d] }
  | _ => none }
def memberPlainsRow : OpenClaim := { program := "ytpmlbfpneenacaa", sum := "1dba04b4414b792a6399d8d9372f5df68fddab6fc35edd6fb5e7e52f40827e7e", func := "gabion/gabionlaw12.MemberPlains", spec := "memberPlains", unfollowed := true, recurses := true, plainKeys := false, apart := false }
def MemberPlainsSaid : Prop := memberPlainsRow.holds Try.pinned (OpenSpec.ofChange memberPlainsSpec)

/-- ITS FALSE NEIGHBOUR: 'it returns false'. Refute it at one input. -/
def memberPlainsWrong : ChangeSpec := { name := "memberPlains", fn := fun _ => fun
  | [d] => { results := [.lit (.bool false)], args := [d] }
  | _ => none }
def MemberPlainsWrongFalsely : Prop := memberPlainsRow.holds Try.pinned (OpenSpec.ofChange memberPlainsWrong)

/-- 'gabionlaw12.MemberParses': WHATEVER THE INPUT: true; the input reads as it did. -/
def memberParsesSpec : ChangeSpec := { name := "memberParses", fn := fun _ => fun
  | [d] => { results := [.lit (.bool true)], args := [d] }
  | _ => none }
def memberParsesRow : OpenClaim := { program := "ytpmlbfpneenacaa", sum := "1dba04b4414b792a6399d8d9372f5df68fddab6fc35edd6fb5e7e52f40827e7e", func := "gabion/gabionlaw12.MemberParses", spec := "memberParses", unfollowed := true, recurses := true, plainKeys := false, apart := false }
def MemberParsesSaid : Prop := memberParsesRow.holds Try.pinned (OpenSpec.ofChange memberParsesSpec)

/-- ITS FALSE NEIGHBOUR: 'it returns false'. Refute it at one input. -/
def memberParsesWrong : ChangeSpec := { name := "memberParses", fn := fun _ => fun
  | [d] => { results := [.lit (.bool false)], args := [d] }
  | _ => none }
def MemberParsesWrongFalsely : Prop := memberParsesRow.holds Try.pinned (OpenSpec.ofChange memberParsesWrong)

/-- 'gabionlaw12.MemberNewest': WHATEVER THE INPUT: true; the input reads as it did. -/
def memberNewestSpec : ChangeSpec := { name := "memberNewest", fn := fun _ => fun
  | [d] => { results := [.lit (.bool true)], args := [d] }
  | _ => none }
def memberNewestRow : OpenClaim := { program := "ytpmlbfpneenacaa", sum := "1dba04b4414b792a6399d8d9372f5df68fddab6fc35edd6fb5e7e52f40827e7e", func := "gabion/gabionlaw12.MemberNewest", spec := "memberNewest", plainKeys := false, apart := false }
def MemberNewestSaid : Prop := memberNewestRow.holds Try.pinned (OpenSpec.ofChange memberNewestSpec)

/-- ITS FALSE NEIGHBOUR: 'it returns false'. Refute it at one input. -/
def memberNewestWrong : ChangeSpec := { name := "memberNewest", fn := fun _ => fun
  | [d] => { results := [.lit (.bool false)], args := [d] }
  | _ => none }
def MemberNewestWrongFalsely : Prop := memberNewestRow.holds Try.pinned (OpenSpec.ofChange memberNewestWrong)

/-- 'gabionlaw12.MemberFirsts': WHATEVER THE INPUT: true; the input reads as it did. -/
def memberFirstsSpec : ChangeSpec := { name := "memberFirsts", fn := fun _ => fun
  | [d] => { results := [.lit (.bool true)], args := [d] }
  | _ => none }
def memberFirstsRow : OpenClaim := { program := "ytpmlbfpneenacaa", sum := "1dba04b4414b792a6399d8d9372f5df68fddab6fc35edd6fb5e7e52f40827e7e", func := "gabion/gabionlaw12.MemberFirsts", spec := "memberFirsts", plainKeys := false, apart := false }
def MemberFirstsSaid : Prop := memberFirstsRow.holds Try.pinned (OpenSpec.ofChange memberFirstsSpec)

/-- ITS FALSE NEIGHBOUR: 'it returns false'. Refute it at one input. -/
def memberFirstsWrong : ChangeSpec := { name := "memberFirsts", fn := fun _ => fun
  | [d] => { results := [.lit (.bool false)], args := [d] }
  | _ => none }
def MemberFirstsWrongFalsely : Prop := memberFirstsRow.holds Try.pinned (OpenSpec.ofChange memberFirstsWrong)

/-- 'gabionlaw12.MemberTwice': WHATEVER THE INPUT: true; the input reads as it did. -/
def memberTwiceSpec : ChangeSpec := { name := "memberTwice", fn := fun _ => fun
  | [d] => { results := [.lit (.bool true)], args := [d] }
  | _ => none }
def memberTwiceRow : OpenClaim := { program := "ytpmlbfpneenacaa", sum := "1dba04b4414b792a6399d8d9372f5df68fddab6fc35edd6fb5e7e52f40827e7e", func := "gabion/gabionlaw12.MemberTwice", spec := "memberTwice", plainKeys := false, apart := false }
def MemberTwiceSaid : Prop := memberTwiceRow.holds Try.pinned (OpenSpec.ofChange memberTwiceSpec)

/-- ITS FALSE NEIGHBOUR: 'it returns false'. Refute it at one input. -/
def memberTwiceWrong : ChangeSpec := { name := "memberTwice", fn := fun _ => fun
  | [d] => { results := [.lit (.bool false)], args := [d] }
  | _ => none }
def MemberTwiceWrongFalsely : Prop := memberTwiceRow.holds Try.pinned (OpenSpec.ofChange memberTwiceWrong)

/- THE SECOND FORM. 'bulk': how many values and letters a reading holds, each counted each time it is reached (what is shared counts as often as it is met; a slice's spare places count too). A statement '..UptoSaid' is the law's where the arguments, and the package variables that the reading takes, are together of bulk at most 1048576: NARROWER than '..Said'. Prove '..Said' where nothing that the law and all that it calls make is longer than what came in: it says more and counts as full. Else prove '..UptoSaid'. A law counts once. -/
mutual
def uptoBulk {H : Type} : DataW H → Nat
  | .lit (.string bytes) => bytes.length + 1
  | .lit _ => 1
  | .nil => 1
  | .ptr d => uptoBulk d + 1
  | .slice elems spare => uptoBulkAll elems + uptoBulkAll spare + 1
  | .agg parts => uptoBulkAll parts + 1
  | .iface _ d => uptoBulk d + 1
  | .map entries => uptoBulkEntries entries + 1
  | .held _ => 1
def uptoBulkAll {H : Type} : List (DataW H) → Nat
  | [] => 0
  | d :: r => uptoBulk d + uptoBulkAll r
def uptoBulkEntries {H : Type} : List (Lit × DataW H) → Nat
  | [] => 0
  | x :: r => uptoBulkEntry x + uptoBulkEntries r
def uptoBulkEntry {H : Type} : Lit × DataW H → Nat
  | (.string bytes, d) => bytes.length + uptoBulk d + 1
  | (_, d) => uptoBulk d + 1
 end
def uptoSmall : (H : Type) → List (DataW H) → Bool := fun _ ds => decide (uptoBulkAll ds ≤ 1048576)
def OpenSpec.upto (s : _root_.Go.ChangeSpec) : _root_.Go.OpenSpec := { _root_.Go.OpenSpec.ofChange s with cond := some uptoSmall }

/-- 'gabionlaw09.ParitySpoilt', WHERE WHAT IT READS IS OF BULK AT MOST 1048576: true; the input reads as it did. -/
def paritySpoiltUptoRow : OpenClaim := { program := "ytpmlbfpneenacaa", sum := "1dba04b4414b792a6399d8d9372f5df68fddab6fc35edd6fb5e7e52f40827e7e", func := "gabion/gabionlaw09.ParitySpoilt", spec := "paritySpoilt", unfollowed := true, recurses := true, plainKeys := false, apart := false, narrowed := true }
def ParitySpoiltUptoSaid : Prop := paritySpoiltUptoRow.holds Try.pinned (OpenSpec.upto paritySpoiltSpec)

/-- 'gabionlaw10.StripeWrites', WHERE WHAT IT READS IS OF BULK AT MOST 1048576: true; the input reads as it did. -/
def stripeWritesUptoRow : OpenClaim := { program := "ytpmlbfpneenacaa", sum := "1dba04b4414b792a6399d8d9372f5df68fddab6fc35edd6fb5e7e52f40827e7e", func := "gabion/gabionlaw10.StripeWrites", spec := "stripeWrites", inPlace := ["slices.overlaps[int]"], unfollowed := true, recurses := true, plainKeys := false, apart := false, narrowed := true }
def StripeWritesUptoSaid : Prop := stripeWritesUptoRow.holds Try.pinned (OpenSpec.upto stripeWritesSpec)

/-- 'gabionlaw10.StripeReads', WHERE WHAT IT READS IS OF BULK AT MOST 1048576: true; the input reads as it did. -/
def stripeReadsUptoRow : OpenClaim := { program := "ytpmlbfpneenacaa", sum := "1dba04b4414b792a6399d8d9372f5df68fddab6fc35edd6fb5e7e52f40827e7e", func := "gabion/gabionlaw10.StripeReads", spec := "stripeReads", inPlace := ["slices.overlaps[int]"], unfollowed := true, recurses := true, plainKeys := false, apart := false, narrowed := true }
def StripeReadsUptoSaid : Prop := stripeReadsUptoRow.holds Try.pinned (OpenSpec.upto stripeReadsSpec)

/-- 'gabionlaw10.StripeMany', WHERE WHAT IT READS IS OF BULK AT MOST 1048576: true; the input reads as it did. -/
def stripeManyUptoRow : OpenClaim := { program := "ytpmlbfpneenacaa", sum := "1dba04b4414b792a6399d8d9372f5df68fddab6fc35edd6fb5e7e52f40827e7e", func := "gabion/gabionlaw10.StripeMany", spec := "stripeMany", inPlace := ["slices.overlaps[int]"], unfollowed := true, recurses := true, plainKeys := false, apart := false, narrowed := true }
def StripeManyUptoSaid : Prop := stripeManyUptoRow.holds Try.pinned (OpenSpec.upto stripeManySpec)

/-- 'gabionlaw11.StageSpots', WHERE WHAT IT READS IS OF BULK AT MOST 1048576: true; the input reads as it did. -/
def stageSpotsUptoRow : OpenClaim := { program := "ytpmlbfpneenacaa", sum := "1dba04b4414b792a6399d8d9372f5df68fddab6fc35edd6fb5e7e52f40827e7e", func := "gabion/gabionlaw11.StageSpots", spec := "stageSpots", inPlace := ["slices.overlaps[int]"], unfollowed := true, recurses := true, plainKeys := false, apart := false, narrowed := true }
def StageSpotsUptoSaid : Prop := stageSpotsUptoRow.holds Try.pinned (OpenSpec.upto stageSpotsSpec)

/-- 'gabionlaw11.StagePlays', WHERE WHAT IT READS IS OF BULK AT MOST 1048576: true; the input reads as it did. -/
def stagePlaysUptoRow : OpenClaim := { program := "ytpmlbfpneenacaa", sum := "1dba04b4414b792a6399d8d9372f5df68fddab6fc35edd6fb5e7e52f40827e7e", func := "gabion/gabionlaw11.StagePlays", spec := "stagePlays", inPlace := ["slices.overlaps[int]"], unfollowed := true, recurses := true, plainKeys := false, apart := false, narrowed := true }
def StagePlaysUptoSaid : Prop := stagePlaysUptoRow.holds Try.pinned (OpenSpec.upto stagePlaysSpec)

/-- 'gabionlaw11.StageSpoilt', WHERE WHAT IT READS IS OF BULK AT MOST 1048576: true; the input reads as it did. -/
def stageSpoiltUptoRow : OpenClaim := { program := "ytpmlbfpneenacaa", sum := "1dba04b4414b792a6399d8d9372f5df68fddab6fc35edd6fb5e7e52f40827e7e", func := "gabion/gabionlaw11.StageSpoilt", spec := "stageSpoilt", inPlace := ["slices.overlaps[int]"], unfollowed := true, recurses := true, plainKeys := false, apart := false, narrowed := true }
def StageSpoiltUptoSaid : Prop := stageSpoiltUptoRow.holds Try.pinned (OpenSpec.upto stageSpoiltSpec)

/-- 'gabionlaw11.StageLost', WHERE WHAT IT READS IS OF BULK AT MOST 1048576: true; the input reads as it did. -/
def stageLostUptoRow : OpenClaim := { program := "ytpmlbfpneenacaa", sum := "1dba04b4414b792a6399d8d9372f5df68fddab6fc35edd6fb5e7e52f40827e7e", func := "gabion/gabionlaw11.StageLost", spec := "stageLost", inPlace := ["slices.overlaps[int]"], unfollowed := true, recurses := true, plainKeys := false, apart := false, narrowed := true }
def StageLostUptoSaid : Prop := stageLostUptoRow.holds Try.pinned (OpenSpec.upto stageLostSpec)

/-- 'gabionlaw11.StageBlocks', WHERE WHAT IT READS IS OF BULK AT MOST 1048576: true; the input reads as it did. -/
def stageBlocksUptoRow : OpenClaim := { program := "ytpmlbfpneenacaa", sum := "1dba04b4414b792a6399d8d9372f5df68fddab6fc35edd6fb5e7e52f40827e7e", func := "gabion/gabionlaw11.StageBlocks", spec := "stageBlocks", inPlace := ["slices.overlaps[int]"], unfollowed := true, recurses := true, plainKeys := false, apart := false, narrowed := true }
def StageBlocksUptoSaid : Prop := stageBlocksUptoRow.holds Try.pinned (OpenSpec.upto stageBlocksSpec)

/-- 'gabionlaw12.MemberPlains', WHERE WHAT IT READS IS OF BULK AT MOST 1048576: true; the input reads as it did. -/
def memberPlainsUptoRow : OpenClaim := { program := "ytpmlbfpneenacaa", sum := "1dba04b4414b792a6399d8d9372f5df68fddab6fc35edd6fb5e7e52f40827e7e", func := "gabion/gabionlaw12.MemberPlains", spec := "memberPlains", unfollowed := true, recurses := true, plainKeys := false, apart := false, narrowed := true }
def MemberPlainsUptoSaid : Prop := memberPlainsUptoRow.holds Try.pinned (OpenSpec.upto memberPlainsSpec)

/-- 'gabionlaw12.MemberParses', WHERE WHAT IT READS IS OF BULK AT MOST 1048576: true; the input reads as it did. -/
def memberParsesUptoRow : OpenClaim := { program := "ytpmlbfpneenacaa", sum := "1dba04b4414b792a6399d8d9372f5df68fddab6fc35edd6fb5e7e52f40827e7e", func := "gabion/gabionlaw12.MemberParses", spec := "memberParses", unfollowed := true, recurses := true, plainKeys := false, apart := false, narrowed := true }
def MemberParsesUptoSaid : Prop := memberParsesUptoRow.holds Try.pinned (OpenSpec.upto memberParsesSpec)

/-- 'gabionlaw12.MemberNewest', WHERE WHAT IT READS IS OF BULK AT MOST 1048576: true; the input reads as it did. -/
def memberNewestUptoRow : OpenClaim := { program := "ytpmlbfpneenacaa", sum := "1dba04b4414b792a6399d8d9372f5df68fddab6fc35edd6fb5e7e52f40827e7e", func := "gabion/gabionlaw12.MemberNewest", spec := "memberNewest", plainKeys := false, apart := false, narrowed := true }
def MemberNewestUptoSaid : Prop := memberNewestUptoRow.holds Try.pinned (OpenSpec.upto memberNewestSpec)

/-- 'gabionlaw12.MemberFirsts', WHERE WHAT IT READS IS OF BULK AT MOST 1048576: true; the input reads as it did. -/
def memberFirstsUptoRow : OpenClaim := { program := "ytpmlbfpneenacaa", sum := "1dba04b4414b792a6399d8d9372f5df68fddab6fc35edd6fb5e7e52f40827e7e", func := "gabion/gabionlaw12.MemberFirsts", spec := "memberFirsts", plainKeys := false, apart := false, narrowed := true }
def MemberFirstsUptoSaid : Prop := memberFirstsUptoRow.holds Try.pinned (OpenSpec.upto memberFirstsSpec)

/-- 'gabionlaw12.MemberTwice', WHERE WHAT IT READS IS OF BULK AT MOST 1048576: true; the input reads as it did. -/
def memberTwiceUptoRow : OpenClaim := { program := "ytpmlbfpneenacaa", sum := "1dba04b4414b792a6399d8d9372f5df68fddab6fc35edd6fb5e7e52f40827e7e", func := "gabion/gabionlaw12.MemberTwice", spec := "memberTwice", plainKeys := false, apart := false, narrowed := true }
def MemberTwiceUptoSaid : Prop := memberTwiceUptoRow.holds Try.pinned (OpenSpec.upto memberTwiceSpec)

end Rows
end Go.Proofs.Ytpmlbfpneenacaa
