/-
  No cell of these rows narrows 'for every input' (looked for: loops, veiled, ifaces, maps, wideKeys, modest, calm, conditions, laid).
  DERIVED. THE GIVEN ROWS OF THIS SEAT. 4 by the template 'for every input the law returns true; each argument reads behind the call as it read before'; 0 by the template 'total and deterministic' (their statements: YtdnaacbfhjcjbaaTotals.lean).
  GIVEN WITH THE SEED: the statements are not yours to turn. If you find one false, say at which input.
  Laid BY PROGRAM, IN A SANDBOX (cutbox-rows.mjs): the forced cells as the released guide's own fill.sh prints them over the translation 8f01c6a92ecb3bf3… (all of the seat's roots in one cut). By AI agents, Wed Nov 11 2026. No macro, syntax, notation, axiom, sorry.
-/
import Derived.Test.YtdnaacbfhjcjbaaChecked
import GoSem.Claim
import GoSem.ClaimJoined
import GoSem.ClaimMapViews
import Derived.JoinedTies
import Derived.KernelRfl
namespace Go.Proofs.Ytdnaacbfhjcjbaa
/- THE CELL 'sum', in the pinned program and in every row, IS THE sha256 OF THE DUMP (.gsa) THAT YtdnaacbfhjcjbaaProg.lean LOADS. Nothing in Lean hashes anything: it is a label: what it is worth is what the hold of that sum in a sandbox is worth. -/
noncomputable def Try.pinned : Pinned := { name := "ytdnaacbfhjcjbaa", sum := "8f01c6a92ecb3bf3abe234bff57eeb5e0c8c17a47f429a113e24dee36ac3f910", checked := Try.checked }
namespace Rows
def none {H : Type} : Left H := { results := [], args := [] }

/-- 'hurdlelaw12.FramesEncodes': WHATEVER THE INPUT: true; the input reads as it did. -/
def framesEncodesSpec : ChangeSpec := { name := "framesEncodes", fn := fun _ => fun
  | [d] => { results := [.lit (.bool true)], args := [d] }
  | _ => none }
def framesEncodesRow : OpenClaim := { program := "ytdnaacbfhjcjbaa", sum := "8f01c6a92ecb3bf3abe234bff57eeb5e0c8c17a47f429a113e24dee36ac3f910", func := "hurdle/hurdlelaw12.FramesEncodes", spec := "framesEncodes", unfollowed := true, recurses := true, apart := false }
def FramesEncodesSaid : Prop := framesEncodesRow.holds Try.pinned (OpenSpec.ofChange framesEncodesSpec)

/-- ITS FALSE NEIGHBOUR: 'it returns false'. Refute it at one input. -/
def framesEncodesWrong : ChangeSpec := { name := "framesEncodes", fn := fun _ => fun
  | [d] => { results := [.lit (.bool false)], args := [d] }
  | _ => none }
def FramesEncodesWrongFalsely : Prop := framesEncodesRow.holds Try.pinned (OpenSpec.ofChange framesEncodesWrong)

/-- 'hurdlelaw12.FramesDecodes': WHATEVER THE INPUT: true; the input reads as it did. -/
def framesDecodesSpec : ChangeSpec := { name := "framesDecodes", fn := fun _ => fun
  | [d] => { results := [.lit (.bool true)], args := [d] }
  | _ => none }
def framesDecodesRow : OpenClaim := { program := "ytdnaacbfhjcjbaa", sum := "8f01c6a92ecb3bf3abe234bff57eeb5e0c8c17a47f429a113e24dee36ac3f910", func := "hurdle/hurdlelaw12.FramesDecodes", spec := "framesDecodes", unfollowed := true, recurses := true, apart := false }
def FramesDecodesSaid : Prop := framesDecodesRow.holds Try.pinned (OpenSpec.ofChange framesDecodesSpec)

/-- ITS FALSE NEIGHBOUR: 'it returns false'. Refute it at one input. -/
def framesDecodesWrong : ChangeSpec := { name := "framesDecodes", fn := fun _ => fun
  | [d] => { results := [.lit (.bool false)], args := [d] }
  | _ => none }
def FramesDecodesWrongFalsely : Prop := framesDecodesRow.holds Try.pinned (OpenSpec.ofChange framesDecodesWrong)

/-- 'hurdlelaw12.FramesBack': WHATEVER THE INPUT: true; the input reads as it did. -/
def framesBackSpec : ChangeSpec := { name := "framesBack", fn := fun _ => fun
  | [d1, d2] => { results := [.lit (.bool true)], args := [d1, d2] }
  | _ => none }
def framesBackRow : OpenClaim := { program := "ytdnaacbfhjcjbaa", sum := "8f01c6a92ecb3bf3abe234bff57eeb5e0c8c17a47f429a113e24dee36ac3f910", func := "hurdle/hurdlelaw12.FramesBack", spec := "framesBack", unfollowed := true, recurses := true, apart := false }
def FramesBackSaid : Prop := framesBackRow.holds Try.pinned (OpenSpec.ofChange framesBackSpec)

/-- ITS FALSE NEIGHBOUR: 'it returns false'. Refute it at one input. -/
def framesBackWrong : ChangeSpec := { name := "framesBack", fn := fun _ => fun
  | [d1, d2] => { results := [.lit (.bool false)], args := [d1, d2] }
  | _ => none }
def FramesBackWrongFalsely : Prop := framesBackRow.holds Try.pinned (OpenSpec.ofChange framesBackWrong)

/-- 'hurdlelaw12.FramesByte': WHATEVER THE INPUT: true; the input reads as it did. -/
def framesByteSpec : ChangeSpec := { name := "framesByte", fn := fun _ => fun
  | [d1, d2, d3] => { results := [.lit (.bool true)], args := [d1, d2, d3] }
  | _ => none }
def framesByteRow : OpenClaim := { program := "ytdnaacbfhjcjbaa", sum := "8f01c6a92ecb3bf3abe234bff57eeb5e0c8c17a47f429a113e24dee36ac3f910", func := "hurdle/hurdlelaw12.FramesByte", spec := "framesByte", unfollowed := true, recurses := true, apart := false }
def FramesByteSaid : Prop := framesByteRow.holds Try.pinned (OpenSpec.ofChange framesByteSpec)

/-- ITS FALSE NEIGHBOUR: 'it returns false'. Refute it at one input. -/
def framesByteWrong : ChangeSpec := { name := "framesByte", fn := fun _ => fun
  | [d1, d2, d3] => { results := [.lit (.bool false)], args := [d1, d2, d3] }
  | _ => none }
def FramesByteWrongFalsely : Prop := framesByteRow.holds Try.pinned (OpenSpec.ofChange framesByteWrong)

/- THE SECOND FORM. 'bulk': how many values and letters a reading holds, each counted each time it is reached (what is shared counts as often as it is met; a slice's spare places count too). A statement '..UptoSaid' is the law's where the arguments, and the package variables that the reading takes, are together of bulk at most 1048576: NARROWER than '..Said'. Prove '..Said' where nothing that the law and all that it calls make is longer than what came in: it says more and counts as full. Else prove '..UptoSaid'. A law counts once. -/
mutual
def uptoBulk {H : Type} : DataW H → Nat
  | .lit (.string bytes) => bytes.length + 1
  | .lit _ => 1
  | .nil => 1
  | .ptr d => uptoBulk d + 1
  | .slice elems spare => uptoBulkAll elems + uptoBulkAll spare + 1
  | .agg parts => uptoBulkAll parts + 1
  | .iface _ d => uptoBulk d + 1
  | .map entries => uptoBulkEntries entries + 1
  | .held _ => 1
def uptoBulkAll {H : Type} : List (DataW H) → Nat
  | [] => 0
  | d :: r => uptoBulk d + uptoBulkAll r
def uptoBulkEntries {H : Type} : List (Lit × DataW H) → Nat
  | [] => 0
  | x :: r => uptoBulkEntry x + uptoBulkEntries r
def uptoBulkEntry {H : Type} : Lit × DataW H → Nat
  | (.string bytes, d) => bytes.length + uptoBulk d + 1
  | (_, d) => uptoBulk d + 1
 end
def uptoSmall : (H : Type) → List (DataW H) → Bool := fun _ ds => decide (uptoBulkAll ds ≤ 1048576)
def OpenSpec.upto (s : _root_.Go.ChangeSpec) : _root_.Go.OpenSpec := { _root_.Go.OpenSpec.ofChange s with cond := some uptoSmall }

/-- 'hurdlelaw12.FramesEncodes', WHERE WHAT IT READS IS OF BULK AT MOST 1048576: true; the input reads as it did. -/
def framesEncodesUptoRow : OpenClaim := { program := "ytdnaacbfhjcjbaa", sum := "8f01c6a92ecb3bf3abe234bff57eeb5e0c8c17a47f429a113e24dee36ac3f910", func := "hurdle/hurdlelaw12.FramesEncodes", spec := "framesEncodes", unfollowed := true, recurses := true, apart := false, narrowed := true }
def FramesEncodesUptoSaid : Prop := framesEncodesUptoRow.holds Try.pinned (OpenSpec.upto framesEncodesSpec)

/-- 'hurdlelaw12.FramesDecodes', WHERE WHAT IT READS IS OF BULK AT MOST 1048576: true; the input reads as it did. -/
def framesDecodesUptoRow : OpenClaim := { program := "ytdnaacbfhjcjbaa", sum := "8f01c6a92ecb3bf3abe234bff57eeb5e0c8c17a47f429a113e24dee36ac3f910", func := "hurdle/hurdlelaw12.FramesDecodes", spec := "framesDecodes", unfollowed := true, recurses := true, apart := false, narrowed := true }
def FramesDecodesUptoSaid : Prop := framesDecodesUptoRow.holds Try.pinned (OpenSpec.upto framesDecodesSpec)

/-- 'hurdlelaw12.FramesBack', WHERE WHAT IT READS IS OF BULK AT MOST 1048576: true; the input reads as it did. -/
def framesBackUptoRow : OpenClaim := { program := "ytdnaacbfhjcjbaa", sum := "8f01c6a92ecb3bf3abe234bff57eeb5e0c8c17a47f429a113e24dee36ac3f910", func := "hurdle/hurdlelaw12.FramesBack", spec := "framesBack", unfollowed := true, recurses := true, apart := false, narrowed := true }
def FramesBackUptoSaid : Prop := framesBackUptoRow.holds Try.pinned (OpenSpec.upto framesBackSpec)

/-- 'hurdlelaw12.FramesByte', WHERE WHAT IT READS IS OF BULK AT MOST 1048576: true; the input reads as it did. -/
def framesByteUptoRow : OpenClaim := { program := "ytdnaacbfhjcjbaa", sum := "8f01c6a92ecb3bf3abe234bff57eeb5e0c8c17a47f429a113e24dee36ac3f910", func := "hurdle/hurdlelaw12.FramesByte", spec := "framesByte", unfollowed := true, recurses := true, apart := false, narrowed := true }
def FramesByteUptoSaid : Prop := framesByteUptoRow.holds Try.pinned (OpenSpec.upto framesByteSpec)

end Rows
end Go.Proofs.Ytdnaacbfhjcjbaa
