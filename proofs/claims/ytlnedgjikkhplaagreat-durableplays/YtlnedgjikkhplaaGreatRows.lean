/-
  No cell of these rows narrows 'for every input' (looked for: loops, veiled, ifaces, maps, wideKeys, modest, calm, conditions, laid).
  DERIVED. THE GIVEN ROWS OF THIS SEAT. 4 by the template 'for every input the law returns true; each argument reads behind the call as it read before'; 0 by the template 'total and deterministic' (their statements: YtlnedgjikkhplaaGreatTotals.lean).
  GIVEN WITH THE SEED: the statements are not yours to turn. If you find one false, say at which input.
  Laid BY PROGRAM, IN A SANDBOX (cutbox-rows.mjs): the forced cells as the released guide's own fill.sh prints them over the translation 61887c085798990d… (all of the seat's roots in one cut). By AI agents, Wed Nov 11 2026. No macro, syntax, notation, axiom, sorry.
-/
import Derived.Test.YtlnedgjikkhplaaGreatChecked
import GoSem.Claim
import GoSem.ClaimJoined
import GoSem.ClaimMapViews
import Derived.JoinedTies
import Derived.KernelRfl
namespace Go.Proofs.YtlnedgjikkhplaaGreat
/- THE CELL 'sum', in the pinned program and in every row, IS THE sha256 OF THE DUMP (.gsa) THAT YtlnedgjikkhplaaGreatProg.lean LOADS. Nothing in Lean hashes anything: it is a label: what it is worth is what the hold of that sum in a sandbox is worth. -/
noncomputable def Tryz.pinned : Pinned := { name := "ytlnedgjikkhplaagreat", sum := "61887c085798990d3574971d5cc259cba01ae09767cd4acd5f1fa8dc0ed4fec3", checked := Tryz.checked }
namespace Rows
def none {H : Type} : Left H := { results := [], args := [] }

/-- 'hurdlelaw18.DurablePlays': WHATEVER THE INPUT: true; the input reads as it did. -/
def durablePlaysSpec : ChangeSpec := { name := "durablePlays", fn := fun _ => fun
  | [d1, d2] => { results := [.lit (.bool true)], args := [d1, d2] }
  | _ => none }
def durablePlaysRow : OpenClaim := { program := "ytlnedgjikkhplaagreat", sum := "61887c085798990d3574971d5cc259cba01ae09767cd4acd5f1fa8dc0ed4fec3", func := "hurdle/hurdlelaw18.DurablePlays", spec := "durablePlays", inPlace := ["internal/abi.NoEscape", "internal/bytealg.MakeNoZero", "slices.overlaps[hurdle/api.Vote]"], unfollowed := true, recurses := true, apart := false }
def DurablePlaysSaid : Prop := durablePlaysRow.holds Tryz.pinned (OpenSpec.ofChange durablePlaysSpec)

/-- ITS FALSE NEIGHBOUR: 'it returns false'. Refute it at one input. -/
def durablePlaysWrong : ChangeSpec := { name := "durablePlays", fn := fun _ => fun
  | [d1, d2] => { results := [.lit (.bool false)], args := [d1, d2] }
  | _ => none }
def DurablePlaysWrongFalsely : Prop := durablePlaysRow.holds Tryz.pinned (OpenSpec.ofChange durablePlaysWrong)

/-- 'hurdlelaw18.DurableLasts': WHATEVER THE INPUT: true; the input reads as it did. -/
def durableLastsSpec : ChangeSpec := { name := "durableLasts", fn := fun _ => fun
  | [d1, d2, d3] => { results := [.lit (.bool true)], args := [d1, d2, d3] }
  | _ => none }
def durableLastsRow : OpenClaim := { program := "ytlnedgjikkhplaagreat", sum := "61887c085798990d3574971d5cc259cba01ae09767cd4acd5f1fa8dc0ed4fec3", func := "hurdle/hurdlelaw18.DurableLasts", spec := "durableLasts", inPlace := ["internal/abi.NoEscape", "internal/bytealg.MakeNoZero", "slices.overlaps[hurdle/api.Vote]"], unfollowed := true, recurses := true, apart := false }
def DurableLastsSaid : Prop := durableLastsRow.holds Tryz.pinned (OpenSpec.ofChange durableLastsSpec)

/-- ITS FALSE NEIGHBOUR: 'it returns false'. Refute it at one input. -/
def durableLastsWrong : ChangeSpec := { name := "durableLasts", fn := fun _ => fun
  | [d1, d2, d3] => { results := [.lit (.bool false)], args := [d1, d2, d3] }
  | _ => none }
def DurableLastsWrongFalsely : Prop := durableLastsRow.holds Tryz.pinned (OpenSpec.ofChange durableLastsWrong)

/-- 'hurdlelaw18.DurableRoom': WHATEVER THE INPUT: true; the input reads as it did. -/
def durableRoomSpec : ChangeSpec := { name := "durableRoom", fn := fun _ => fun
  | [d1, d2] => { results := [.lit (.bool true)], args := [d1, d2] }
  | _ => none }
def durableRoomRow : OpenClaim := { program := "ytlnedgjikkhplaagreat", sum := "61887c085798990d3574971d5cc259cba01ae09767cd4acd5f1fa8dc0ed4fec3", func := "hurdle/hurdlelaw18.DurableRoom", spec := "durableRoom", inPlace := ["internal/abi.NoEscape", "internal/bytealg.MakeNoZero", "slices.overlaps[hurdle/api.Vote]"], unfollowed := true, recurses := true, apart := false }
def DurableRoomSaid : Prop := durableRoomRow.holds Tryz.pinned (OpenSpec.ofChange durableRoomSpec)

/-- ITS FALSE NEIGHBOUR: 'it returns false'. Refute it at one input. -/
def durableRoomWrong : ChangeSpec := { name := "durableRoom", fn := fun _ => fun
  | [d1, d2] => { results := [.lit (.bool false)], args := [d1, d2] }
  | _ => none }
def DurableRoomWrongFalsely : Prop := durableRoomRow.holds Tryz.pinned (OpenSpec.ofChange durableRoomWrong)

/-- 'hurdlelaw18.DurableNone': WHATEVER THE INPUT: true; the input reads as it did. -/
def durableNoneSpec : ChangeSpec := { name := "durableNone", fn := fun _ => fun
  | [d] => { results := [.lit (.bool true)], args := [d] }
  | _ => none }
def durableNoneRow : OpenClaim := { program := "ytlnedgjikkhplaagreat", sum := "61887c085798990d3574971d5cc259cba01ae09767cd4acd5f1fa8dc0ed4fec3", func := "hurdle/hurdlelaw18.DurableNone", spec := "durableNone", inPlace := ["internal/abi.NoEscape", "internal/bytealg.MakeNoZero", "slices.overlaps[hurdle/api.Vote]"], unfollowed := true, recurses := true, apart := false }
def DurableNoneSaid : Prop := durableNoneRow.holds Tryz.pinned (OpenSpec.ofChange durableNoneSpec)

/-- ITS FALSE NEIGHBOUR: 'it returns false'. Refute it at one input. -/
def durableNoneWrong : ChangeSpec := { name := "durableNone", fn := fun _ => fun
  | [d] => { results := [.lit (.bool false)], args := [d] }
  | _ => none }
def DurableNoneWrongFalsely : Prop := durableNoneRow.holds Tryz.pinned (OpenSpec.ofChange durableNoneWrong)

/- THE SECOND FORM. 'bulk': how many values and letters a reading holds, each counted each time it is reached (what is shared counts as often as it is met; a slice's spare places count too). A statement '..UptoSaid' is the law's where the arguments, and the package variables that the reading takes, are together of bulk at most 1048576: NARROWER than '..Said'. Prove '..Said' where nothing that the law and all that it calls make is longer than what came in: it says more and counts as full. Else prove '..UptoSaid'. A law counts once. -/
mutual
def uptoBulk {H : Type} : DataW H → Nat
  | .lit (.string bytes) => bytes.length + 1
  | .lit _ => 1
  | .nil => 1
  | .ptr d => uptoBulk d + 1
  | .slice elems spare => uptoBulkAll elems + uptoBulkAll spare + 1
  | .agg parts => uptoBulkAll parts + 1
  | .iface _ d => uptoBulk d + 1
  | .map entries => uptoBulkEntries entries + 1
  | .held _ => 1
def uptoBulkAll {H : Type} : List (DataW H) → Nat
  | [] => 0
  | d :: r => uptoBulk d + uptoBulkAll r
def uptoBulkEntries {H : Type} : List (Lit × DataW H) → Nat
  | [] => 0
  | x :: r => uptoBulkEntry x + uptoBulkEntries r
def uptoBulkEntry {H : Type} : Lit × DataW H → Nat
  | (.string bytes, d) => bytes.length + uptoBulk d + 1
  | (_, d) => uptoBulk d + 1
 end
def uptoSmall : (H : Type) → List (DataW H) → Bool := fun _ ds => decide (uptoBulkAll ds ≤ 1048576)
def OpenSpec.upto (s : _root_.Go.ChangeSpec) : _root_.Go.OpenSpec := { _root_.Go.OpenSpec.ofChange s with cond := some uptoSmall }

/-- 'hurdlelaw18.DurablePlays', WHERE WHAT IT READS IS OF BULK AT MOST 1048576: true; the input reads as it did. -/
def durablePlaysUptoRow : OpenClaim := { program := "ytlnedgjikkhplaagreat", sum := "61887c085798990d3574971d5cc259cba01ae09767cd4acd5f1fa8dc0ed4fec3", func := "hurdle/hurdlelaw18.DurablePlays", spec := "durablePlays", inPlace := ["internal/abi.NoEscape", "internal/bytealg.MakeNoZero", "slices.overlaps[hurdle/api.Vote]"], unfollowed := true, recurses := true, apart := false, narrowed := true }
def DurablePlaysUptoSaid : Prop := durablePlaysUptoRow.holds Tryz.pinned (OpenSpec.upto durablePlaysSpec)

/-- 'hurdlelaw18.DurableLasts', WHERE WHAT IT READS IS OF BULK AT MOST 1048576: true; the input reads as it did. -/
def durableLastsUptoRow : OpenClaim := { program := "ytlnedgjikkhplaagreat", sum := "61887c085798990d3574971d5cc259cba01ae09767cd4acd5f1fa8dc0ed4fec3", func := "hurdle/hurdlelaw18.DurableLasts", spec := "durableLasts", inPlace := ["internal/abi.NoEscape", "internal/bytealg.MakeNoZero", "slices.overlaps[hurdle/api.Vote]"], unfollowed := true, recurses := true, apart := false, narrowed := true }
def DurableLastsUptoSaid : Prop := durableLastsUptoRow.holds Tryz.pinned (OpenSpec.upto durableLastsSpec)

/-- 'hurdlelaw18.DurableRoom', WHERE WHAT IT READS IS OF BULK AT MOST 1048576: true; the input reads as it did. -/
def durableRoomUptoRow : OpenClaim := { program := "ytlnedgjikkhplaagreat", sum := "61887c085798990d3574971d5cc259cba01ae09767cd4acd5f1fa8dc0ed4fec3", func := "hurdle/hurdlelaw18.DurableRoom", spec := "durableRoom", inPlace := ["internal/abi.NoEscape", "internal/bytealg.MakeNoZero", "slices.overlaps[hurdle/api.Vote]"], unfollowed := true, recurses := true, apart := false, narrowed := true }
def DurableRoomUptoSaid : Prop := durableRoomUptoRow.holds Tryz.pinned (OpenSpec.upto durableRoomSpec)

/-- 'hurdlelaw18.DurableNone', WHERE WHAT IT READS IS OF BULK AT MOST 1048576: true; the input reads as it did. -/
def durableNoneUptoRow : OpenClaim := { program := "ytlnedgjikkhplaagreat", sum := "61887c085798990d3574971d5cc259cba01ae09767cd4acd5f1fa8dc0ed4fec3", func := "hurdle/hurdlelaw18.DurableNone", spec := "durableNone", inPlace := ["internal/abi.NoEscape", "internal/bytealg.MakeNoZero", "slices.overlaps[hurdle/api.Vote]"], unfollowed := true, recurses := true, apart := false, narrowed := true }
def DurableNoneUptoSaid : Prop := durableNoneUptoRow.holds Tryz.pinned (OpenSpec.upto durableNoneSpec)

end Rows
end Go.Proofs.YtlnedgjikkhplaaGreat
