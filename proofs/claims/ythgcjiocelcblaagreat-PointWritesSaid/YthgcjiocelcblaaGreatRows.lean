/-
  No cell of these rows narrows 'for every input' (looked for: loops, veiled, ifaces, maps, wideKeys, modest, calm, conditions, laid).
  DERIVED. THE GIVEN ROWS OF THIS SEAT. 5 by the template 'for every input the law returns true; each argument reads behind the call as it read before'; 0 by the template 'total and deterministic' (their statements: YthgcjiocelcblaaGreatTotals.lean).
  GIVEN WITH THE SEED: the statements are not yours to turn. If you find one false, say at which input.
  Laid BY PROGRAM, IN A SANDBOX (cutbox-rows.mjs): the forced cells as the released guide's own fill.sh prints them over the translation 10d70a4ed1536c18… (all of the seat's roots in one cut). By AI agents, Wed Nov 11 2026. No macro, syntax, notation, axiom, sorry.
-/
import Derived.Test.YthgcjiocelcblaaGreatChecked
import GoSem.Claim
import GoSem.ClaimJoined
import GoSem.ClaimMapViews
import Derived.JoinedTies
import Derived.KernelRfl
namespace Go.Proofs.YthgcjiocelcblaaGreat
/- THE CELL 'sum', in the pinned program and in every row, IS THE sha256 OF THE DUMP (.gsa) THAT YthgcjiocelcblaaGreatProg.lean LOADS. Nothing in Lean hashes anything: it is a label: what it is worth is what the hold of that sum in a sandbox is worth. -/
noncomputable def Tryz.pinned : Pinned := { name := "ythgcjiocelcblaagreat", sum := "10d70a4ed1536c1872d686ae25395434d0fb104afedd4fb4123991855c075d1e", checked := Tryz.checked }
namespace Rows
def none {H : Type} : Left H := { results := [], args := [] }

/-- 'gabionlaw14.PointCodes': WHATEVER THE INPUT: true; the input reads as it did. -/
def pointCodesSpec : ChangeSpec := { name := "pointCodes", fn := fun _ => fun
  | [d1, d2] => { results := [.lit (.bool true)], args := [d1, d2] }
  | _ => none }
def pointCodesRow : OpenClaim := { program := "ythgcjiocelcblaagreat", sum := "10d70a4ed1536c1872d686ae25395434d0fb104afedd4fb4123991855c075d1e", func := "gabion/gabionlaw14.PointCodes", spec := "pointCodes", inPlace := ["slices.overlaps[int]"], unfollowed := true, recurses := true, plainKeys := false, apart := false }
def PointCodesSaid : Prop := pointCodesRow.holds Tryz.pinned (OpenSpec.ofChange pointCodesSpec)

/-- ITS FALSE NEIGHBOUR: 'it returns false'. Refute it at one input. -/
def pointCodesWrong : ChangeSpec := { name := "pointCodes", fn := fun _ => fun
  | [d1, d2] => { results := [.lit (.bool false)], args := [d1, d2] }
  | _ => none }
def PointCodesWrongFalsely : Prop := pointCodesRow.holds Tryz.pinned (OpenSpec.ofChange pointCodesWrong)

/-- 'gabionlaw14.PointDecodes': WHATEVER THE INPUT: true; the input reads as it did. -/
def pointDecodesSpec : ChangeSpec := { name := "pointDecodes", fn := fun _ => fun
  | [d1, d2, d3] => { results := [.lit (.bool true)], args := [d1, d2, d3] }
  | _ => none }
def pointDecodesRow : OpenClaim := { program := "ythgcjiocelcblaagreat", sum := "10d70a4ed1536c1872d686ae25395434d0fb104afedd4fb4123991855c075d1e", func := "gabion/gabionlaw14.PointDecodes", spec := "pointDecodes", inPlace := ["slices.overlaps[int]"], unfollowed := true, recurses := true, plainKeys := false, apart := false }
def PointDecodesSaid : Prop := pointDecodesRow.holds Tryz.pinned (OpenSpec.ofChange pointDecodesSpec)

/-- ITS FALSE NEIGHBOUR: 'it returns false'. Refute it at one input. -/
def pointDecodesWrong : ChangeSpec := { name := "pointDecodes", fn := fun _ => fun
  | [d1, d2, d3] => { results := [.lit (.bool false)], args := [d1, d2, d3] }
  | _ => none }
def PointDecodesWrongFalsely : Prop := pointDecodesRow.holds Tryz.pinned (OpenSpec.ofChange pointDecodesWrong)

/-- 'gabionlaw14.PointWrites': WHATEVER THE INPUT: true; the input reads as it did. -/
def pointWritesSpec : ChangeSpec := { name := "pointWrites", fn := fun _ => fun
  | [d1, d2, d3] => { results := [.lit (.bool true)], args := [d1, d2, d3] }
  | _ => none }
def pointWritesRow : OpenClaim := { program := "ythgcjiocelcblaagreat", sum := "10d70a4ed1536c1872d686ae25395434d0fb104afedd4fb4123991855c075d1e", func := "gabion/gabionlaw14.PointWrites", spec := "pointWrites", inPlace := ["slices.overlaps[int]"], unfollowed := true, recurses := true, plainKeys := false, apart := false }
def PointWritesSaid : Prop := pointWritesRow.holds Tryz.pinned (OpenSpec.ofChange pointWritesSpec)

/-- ITS FALSE NEIGHBOUR: 'it returns false'. Refute it at one input. -/
def pointWritesWrong : ChangeSpec := { name := "pointWrites", fn := fun _ => fun
  | [d1, d2, d3] => { results := [.lit (.bool false)], args := [d1, d2, d3] }
  | _ => none }
def PointWritesWrongFalsely : Prop := pointWritesRow.holds Tryz.pinned (OpenSpec.ofChange pointWritesWrong)

/-- 'gabionlaw14.PointSpoilt': WHATEVER THE INPUT: true; the input reads as it did. -/
def pointSpoiltSpec : ChangeSpec := { name := "pointSpoilt", fn := fun _ => fun
  | [d] => { results := [.lit (.bool true)], args := [d] }
  | _ => none }
def pointSpoiltRow : OpenClaim := { program := "ythgcjiocelcblaagreat", sum := "10d70a4ed1536c1872d686ae25395434d0fb104afedd4fb4123991855c075d1e", func := "gabion/gabionlaw14.PointSpoilt", spec := "pointSpoilt", inPlace := ["slices.overlaps[int]"], unfollowed := true, recurses := true, plainKeys := false, apart := false }
def PointSpoiltSaid : Prop := pointSpoiltRow.holds Tryz.pinned (OpenSpec.ofChange pointSpoiltSpec)

/-- ITS FALSE NEIGHBOUR: 'it returns false'. Refute it at one input. -/
def pointSpoiltWrong : ChangeSpec := { name := "pointSpoilt", fn := fun _ => fun
  | [d] => { results := [.lit (.bool false)], args := [d] }
  | _ => none }
def PointSpoiltWrongFalsely : Prop := pointSpoiltRow.holds Tryz.pinned (OpenSpec.ofChange pointSpoiltWrong)

/-- 'gabionlaw14.PointAgain': WHATEVER THE INPUT: true; the input reads as it did. -/
def pointAgainSpec : ChangeSpec := { name := "pointAgain", fn := fun _ => fun
  | [d1, d2, d3] => { results := [.lit (.bool true)], args := [d1, d2, d3] }
  | _ => none }
def pointAgainRow : OpenClaim := { program := "ythgcjiocelcblaagreat", sum := "10d70a4ed1536c1872d686ae25395434d0fb104afedd4fb4123991855c075d1e", func := "gabion/gabionlaw14.PointAgain", spec := "pointAgain", inPlace := ["slices.overlaps[int]"], unfollowed := true, recurses := true, plainKeys := false, apart := false }
def PointAgainSaid : Prop := pointAgainRow.holds Tryz.pinned (OpenSpec.ofChange pointAgainSpec)

/-- ITS FALSE NEIGHBOUR: 'it returns false'. Refute it at one input. -/
def pointAgainWrong : ChangeSpec := { name := "pointAgain", fn := fun _ => fun
  | [d1, d2, d3] => { results := [.lit (.bool false)], args := [d1, d2, d3] }
  | _ => none }
def PointAgainWrongFalsely : Prop := pointAgainRow.holds Tryz.pinned (OpenSpec.ofChange pointAgainWrong)

/- THE SECOND FORM. 'bulk': how many values and letters a reading holds, each counted each time it is reached (what is shared counts as often as it is met; a slice's spare places count too). A statement '..UptoSaid' is the law's where the arguments, and the package variables that the reading takes, are together of bulk at most 1048576: NARROWER than '..Said'. Prove '..Said' where nothing that the law and all that it calls make is longer than what came in: it says more and counts as full. Else prove '..UptoSaid'. A law counts once. -/
mutual
def uptoBulk {H : Type} : DataW H → Nat
  | .lit (.string bytes) => bytes.length + 1
  | .lit _ => 1
  | .nil => 1
  | .ptr d => uptoBulk d + 1
  | .slice elems spare => uptoBulkAll elems + uptoBulkAll spare + 1
  | .agg parts => uptoBulkAll parts + 1
  | .iface _ d => uptoBulk d + 1
  | .map entries => uptoBulkEntries entries + 1
  | .held _ => 1
def uptoBulkAll {H : Type} : List (DataW H) → Nat
  | [] => 0
  | d :: r => uptoBulk d + uptoBulkAll r
def uptoBulkEntries {H : Type} : List (Lit × DataW H) → Nat
  | [] => 0
  | x :: r => uptoBulkEntry x + uptoBulkEntries r
def uptoBulkEntry {H : Type} : Lit × DataW H → Nat
  | (.string bytes, d) => bytes.length + uptoBulk d + 1
  | (_, d) => uptoBulk d + 1
 end
def uptoSmall : (H : Type) → List (DataW H) → Bool := fun _ ds => decide (uptoBulkAll ds ≤ 1048576)
def OpenSpec.upto (s : _root_.Go.ChangeSpec) : _root_.Go.OpenSpec := { _root_.Go.OpenSpec.ofChange s with cond := some uptoSmall }

/-- 'gabionlaw14.PointCodes', WHERE WHAT IT READS IS OF BULK AT MOST 1048576: true; the input reads as it did. -/
def pointCodesUptoRow : OpenClaim := { program := "ythgcjiocelcblaagreat", sum := "10d70a4ed1536c1872d686ae25395434d0fb104afedd4fb4123991855c075d1e", func := "gabion/gabionlaw14.PointCodes", spec := "pointCodes", inPlace := ["slices.overlaps[int]"], unfollowed := true, recurses := true, plainKeys := false, apart := false, narrowed := true }
def PointCodesUptoSaid : Prop := pointCodesUptoRow.holds Tryz.pinned (OpenSpec.upto pointCodesSpec)

/-- 'gabionlaw14.PointDecodes', WHERE WHAT IT READS IS OF BULK AT MOST 1048576: true; the input reads as it did. -/
def pointDecodesUptoRow : OpenClaim := { program := "ythgcjiocelcblaagreat", sum := "10d70a4ed1536c1872d686ae25395434d0fb104afedd4fb4123991855c075d1e", func := "gabion/gabionlaw14.PointDecodes", spec := "pointDecodes", inPlace := ["slices.overlaps[int]"], unfollowed := true, recurses := true, plainKeys := false, apart := false, narrowed := true }
def PointDecodesUptoSaid : Prop := pointDecodesUptoRow.holds Tryz.pinned (OpenSpec.upto pointDecodesSpec)

/-- 'gabionlaw14.PointWrites', WHERE WHAT IT READS IS OF BULK AT MOST 1048576: true; the input reads as it did. -/
def pointWritesUptoRow : OpenClaim := { program := "ythgcjiocelcblaagreat", sum := "10d70a4ed1536c1872d686ae25395434d0fb104afedd4fb4123991855c075d1e", func := "gabion/gabionlaw14.PointWrites", spec := "pointWrites", inPlace := ["slices.overlaps[int]"], unfollowed := true, recurses := true, plainKeys := false, apart := false, narrowed := true }
def PointWritesUptoSaid : Prop := pointWritesUptoRow.holds Tryz.pinned (OpenSpec.upto pointWritesSpec)

/-- 'gabionlaw14.PointSpoilt', WHERE WHAT IT READS IS OF BULK AT MOST 1048576: true; the input reads as it did. -/
def pointSpoiltUptoRow : OpenClaim := { program := "ythgcjiocelcblaagreat", sum := "10d70a4ed1536c1872d686ae25395434d0fb104afedd4fb4123991855c075d1e", func := "gabion/gabionlaw14.PointSpoilt", spec := "pointSpoilt", inPlace := ["slices.overlaps[int]"], unfollowed := true, recurses := true, plainKeys := false, apart := false, narrowed := true }
def PointSpoiltUptoSaid : Prop := pointSpoiltUptoRow.holds Tryz.pinned (OpenSpec.upto pointSpoiltSpec)

/-- 'gabionlaw14.PointAgain', WHERE WHAT IT READS IS OF BULK AT MOST 1048576: true; the input reads as it did. -/
def pointAgainUptoRow : OpenClaim := { program := "ythgcjiocelcblaagreat", sum := "10d70a4ed1536c1872d686ae25395434d0fb104afedd4fb4123991855c075d1e", func := "gabion/gabionlaw14.PointAgain", spec := "pointAgain", inPlace := ["slices.overlaps[int]"], unfollowed := true, recurses := true, plainKeys := false, apart := false, narrowed := true }
def PointAgainUptoSaid : Prop := pointAgainUptoRow.holds Tryz.pinned (OpenSpec.upto pointAgainSpec)

end Rows
end Go.Proofs.YthgcjiocelcblaaGreat
