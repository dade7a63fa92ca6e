/-
  No cell of these rows narrows 'for every input' (looked for: loops, veiled, ifaces, maps, wideKeys, modest, calm, conditions, laid).
  DERIVED. THE GIVEN ROWS OF THIS SEAT. 4 by the template 'for every input the law returns true; each argument reads behind the call as it read before'; 0 by the template 'total and deterministic' (their statements: YtajgjkkggppbiaaTotals.lean).
  GIVEN WITH THE SEED: the statements are not yours to turn. If you find one false, say at which input.
  Laid BY PROGRAM, IN A SANDBOX (cutbox-rows.mjs): the forced cells as the released guide's own fill.sh prints them over the translation 79cbc679b7c08231… (all of the seat's roots in one cut). By AI agents, Wed Nov 11 2026. No macro, syntax, notation, axiom, sorry.
-/
import Derived.Test.YtajgjkkggppbiaaChecked
import GoSem.Claim
import GoSem.ClaimJoined
import GoSem.ClaimMapViews
import Derived.JoinedTies
import Derived.KernelRfl
namespace Go.Proofs.Ytajgjkkggppbiaa
/- THE CELL 'sum', in the pinned program and in every row, IS THE sha256 OF THE DUMP (.gsa) THAT YtajgjkkggppbiaaProg.lean LOADS. Nothing in Lean hashes anything: it is a label: what it is worth is what the hold of that sum in a sandbox is worth. -/
noncomputable def Try.pinned : Pinned := { name := "ytajgjkkggppbiaa", sum := "79cbc679b7c082317707f24a7b71a071add71219c9114f7882bc0e50856896ae", checked := Try.checked }
namespace Rows
def none {H : Type} : Left H := { results := [], args := [] }

/-- 'hurdlelaw05.ExtentsPlays': WHATEVER THE INPUT: true; the input reads as it did. -/
def extentsPlaysSpec : ChangeSpec := { name := "extentsPlays", fn := fun _ => fun
  | [d] => { results := [.lit (.bool true)], args := [d] }
  | _ => none }
def extentsPlaysRow : OpenClaim := { program := "ytajgjkkggppbiaa", sum := "79cbc679b7c082317707f24a7b71a071add71219c9114f7882bc0e50856896ae", func := "hurdle/hurdlelaw05.ExtentsPlays", spec := "extentsPlays", inPlace := ["slices.overlaps[hurdle/api.Extent]"], unfollowed := true, recurses := true, apart := false }
def ExtentsPlaysSaid : Prop := extentsPlaysRow.holds Try.pinned (OpenSpec.ofChange extentsPlaysSpec)

/-- ITS FALSE NEIGHBOUR: 'it returns false'. Refute it at one input. -/
def extentsPlaysWrong : ChangeSpec := { name := "extentsPlays", fn := fun _ => fun
  | [d] => { results := [.lit (.bool false)], args := [d] }
  | _ => none }
def ExtentsPlaysWrongFalsely : Prop := extentsPlaysRow.holds Try.pinned (OpenSpec.ofChange extentsPlaysWrong)

/-- 'hurdlelaw05.ExtentsLooks': WHATEVER THE INPUT: true; the input reads as it did. -/
def extentsLooksSpec : ChangeSpec := { name := "extentsLooks", fn := fun _ => fun
  | [d1, d2, d3] => { results := [.lit (.bool true)], args := [d1, d2, d3] }
  | _ => none }
def extentsLooksRow : OpenClaim := { program := "ytajgjkkggppbiaa", sum := "79cbc679b7c082317707f24a7b71a071add71219c9114f7882bc0e50856896ae", func := "hurdle/hurdlelaw05.ExtentsLooks", spec := "extentsLooks", inPlace := ["slices.overlaps[hurdle/api.Extent]"], unfollowed := true, recurses := true, apart := false }
def ExtentsLooksSaid : Prop := extentsLooksRow.holds Try.pinned (OpenSpec.ofChange extentsLooksSpec)

/-- ITS FALSE NEIGHBOUR: 'it returns false'. Refute it at one input. -/
def extentsLooksWrong : ChangeSpec := { name := "extentsLooks", fn := fun _ => fun
  | [d1, d2, d3] => { results := [.lit (.bool false)], args := [d1, d2, d3] }
  | _ => none }
def ExtentsLooksWrongFalsely : Prop := extentsLooksRow.holds Try.pinned (OpenSpec.ofChange extentsLooksWrong)

/-- 'hurdlelaw05.ExtentsRead': WHATEVER THE INPUT: true; the input reads as it did. -/
def extentsReadSpec : ChangeSpec := { name := "extentsRead", fn := fun _ => fun
  | [d1, d2] => { results := [.lit (.bool true)], args := [d1, d2] }
  | _ => none }
def extentsReadRow : OpenClaim := { program := "ytajgjkkggppbiaa", sum := "79cbc679b7c082317707f24a7b71a071add71219c9114f7882bc0e50856896ae", func := "hurdle/hurdlelaw05.ExtentsRead", spec := "extentsRead", inPlace := ["slices.overlaps[hurdle/api.Extent]"], unfollowed := true, recurses := true, apart := false }
def ExtentsReadSaid : Prop := extentsReadRow.holds Try.pinned (OpenSpec.ofChange extentsReadSpec)

/-- ITS FALSE NEIGHBOUR: 'it returns false'. Refute it at one input. -/
def extentsReadWrong : ChangeSpec := { name := "extentsRead", fn := fun _ => fun
  | [d1, d2] => { results := [.lit (.bool false)], args := [d1, d2] }
  | _ => none }
def ExtentsReadWrongFalsely : Prop := extentsReadRow.holds Try.pinned (OpenSpec.ofChange extentsReadWrong)

/-- 'hurdlelaw05.ExtentsApart': WHATEVER THE INPUT: true; the input reads as it did. -/
def extentsApartSpec : ChangeSpec := { name := "extentsApart", fn := fun _ => fun
  | [d] => { results := [.lit (.bool true)], args := [d] }
  | _ => none }
def extentsApartRow : OpenClaim := { program := "ytajgjkkggppbiaa", sum := "79cbc679b7c082317707f24a7b71a071add71219c9114f7882bc0e50856896ae", func := "hurdle/hurdlelaw05.ExtentsApart", spec := "extentsApart", inPlace := ["slices.overlaps[hurdle/api.Extent]"], unfollowed := true, recurses := true, apart := false }
def ExtentsApartSaid : Prop := extentsApartRow.holds Try.pinned (OpenSpec.ofChange extentsApartSpec)

/-- ITS FALSE NEIGHBOUR: 'it returns false'. Refute it at one input. -/
def extentsApartWrong : ChangeSpec := { name := "extentsApart", fn := fun _ => fun
  | [d] => { results := [.lit (.bool false)], args := [d] }
  | _ => none }
def ExtentsApartWrongFalsely : Prop := extentsApartRow.holds Try.pinned (OpenSpec.ofChange extentsApartWrong)

/- THE SECOND FORM. 'bulk': how many values and letters a reading holds, each counted each time it is reached (what is shared counts as often as it is met; a slice's spare places count too). A statement '..UptoSaid' is the law's where the arguments, and the package variables that the reading takes, are together of bulk at most 1048576: NARROWER than '..Said'. Prove '..Said' where nothing that the law and all that it calls make is longer than what came in: it says more and counts as full. Else prove '..UptoSaid'. A law counts once. -/
mutual
def uptoBulk {H : Type} : DataW H → Nat
  | .lit (.string bytes) => bytes.length + 1
  | .lit _ => 1
  | .nil => 1
  | .ptr d => uptoBulk d + 1
  | .slice elems spare => uptoBulkAll elems + uptoBulkAll spare + 1
  | .agg parts => uptoBulkAll parts + 1
  | .iface _ d => uptoBulk d + 1
  | .map entries => uptoBulkEntries entries + 1
  | .held _ => 1
def uptoBulkAll {H : Type} : List (DataW H) → Nat
  | [] => 0
  | d :: r => uptoBulk d + uptoBulkAll r
def uptoBulkEntries {H : Type} : List (Lit × DataW H) → Nat
  | [] => 0
  | x :: r => uptoBulkEntry x + uptoBulkEntries r
def uptoBulkEntry {H : Type} : Lit × DataW H → Nat
  | (.string bytes, d) => bytes.length + uptoBulk d + 1
  | (_, d) => uptoBulk d + 1
 end
def uptoSmall : (H : Type) → List (DataW H) → Bool := fun _ ds => decide (uptoBulkAll ds ≤ 1048576)
def OpenSpec.upto (s : _root_.Go.ChangeSpec) : _root_.Go.OpenSpec := { _root_.Go.OpenSpec.ofChange s with cond := some uptoSmall }

/-- 'hurdlelaw05.ExtentsPlays', WHERE WHAT IT READS IS OF BULK AT MOST 1048576: true; the input reads as it did. -/
def extentsPlaysUptoRow : OpenClaim := { program := "ytajgjkkggppbiaa", sum := "79cbc679b7c082317707f24a7b71a071add71219c9114f7882bc0e50856896ae", func := "hurdle/hurdlelaw05.ExtentsPlays", spec := "extentsPlays", inPlace := ["slices.overlaps[hurdle/api.Extent]"], unfollowed := true, recurses := true, apart := false, narrowed := true }
def ExtentsPlaysUptoSaid : Prop := extentsPlaysUptoRow.holds Try.pinned (OpenSpec.upto extentsPlaysSpec)

/-- 'hurdlelaw05.ExtentsLooks', WHERE WHAT IT READS IS OF BULK AT MOST 1048576: true; the input reads as it did. -/
def extentsLooksUptoRow : OpenClaim := { program := "ytajgjkkggppbiaa", sum := "79cbc679b7c082317707f24a7b71a071add71219c9114f7882bc0e50856896ae", func := "hurdle/hurdlelaw05.ExtentsLooks", spec := "extentsLooks", inPlace := ["slices.overlaps[hurdle/api.Extent]"], unfollowed := true, recurses := true, apart := false, narrowed := true }
def ExtentsLooksUptoSaid : Prop := extentsLooksUptoRow.holds Try.pinned (OpenSpec.upto extentsLooksSpec)

/-- 'hurdlelaw05.ExtentsRead', WHERE WHAT IT READS IS OF BULK AT MOST 1048576: true; the input reads as it did. -/
def extentsReadUptoRow : OpenClaim := { program := "ytajgjkkggppbiaa", sum := "79cbc679b7c082317707f24a7b71a071add71219c9114f7882bc0e50856896ae", func := "hurdle/hurdlelaw05.ExtentsRead", spec := "extentsRead", inPlace := ["slices.overlaps[hurdle/api.Extent]"], unfollowed := true, recurses := true, apart := false, narrowed := true }
def ExtentsReadUptoSaid : Prop := extentsReadUptoRow.holds Try.pinned (OpenSpec.upto extentsReadSpec)

/-- 'hurdlelaw05.ExtentsApart', WHERE WHAT IT READS IS OF BULK AT MOST 1048576: true; the input reads as it did. -/
def extentsApartUptoRow : OpenClaim := { program := "ytajgjkkggppbiaa", sum := "79cbc679b7c082317707f24a7b71a071add71219c9114f7882bc0e50856896ae", func := "hurdle/hurdlelaw05.ExtentsApart", spec := "extentsApart", inPlace := ["slices.overlaps[hurdle/api.Extent]"], unfollowed := true, recurses := true, apart := false, narrowed := true }
def ExtentsApartUptoSaid : Prop := extentsApartUptoRow.holds Try.pinned (OpenSpec.upto extentsApartSpec)

end Rows
end Go.Proofs.Ytajgjkkggppbiaa
