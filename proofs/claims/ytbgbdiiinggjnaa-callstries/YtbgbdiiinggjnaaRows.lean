/-
  No cell of these rows narrows 'for every input' (looked for: loops, veiled, ifaces, maps, wideKeys, modest, calm, conditions, laid).
  DERIVED. THE GIVEN ROWS OF THIS SEAT. 4 by the template 'for every input the law returns true; each argument reads behind the call as it read before'; 0 by the template 'total and deterministic' (their statements: YtbgbdiiinggjnaaTotals.lean).
  GIVEN WITH THE SEED: the statements are not yours to turn. If you find one false, say at which input.
  Laid BY PROGRAM, IN A SANDBOX (cutbox-rows.mjs): the forced cells as the released guide's own fill.sh prints them over the translation 2b282acfcb0fdb01… (all of the seat's roots in one cut). By AI agents, Wed Nov 11 2026. No macro, syntax, notation, axiom, sorry.
-/
import Derived.Test.YtbgbdiiinggjnaaChecked
import GoSem.Claim
import GoSem.ClaimJoined
import GoSem.ClaimMapViews
import Derived.JoinedTies
import Derived.KernelRfl
namespace Go.Proofs.Ytbgbdiiinggjnaa
/- THE CELL 'sum', in the pinned program and in every row, IS THE sha256 OF THE DUMP (.gsa) THAT YtbgbdiiinggjnaaProg.lean LOADS. Nothing in Lean hashes anything: it is a label: what it is worth is what the hold of that sum in a sandbox is worth. -/
noncomputable def Try.pinned : Pinned := { name := "ytbgbdiiinggjnaa", sum := "2b282acfcb0fdb016d0d1e9c186062bae2081d4771df9c1eb634f04858633258", checked := Try.checked }
namespace Rows
def none {H : Type} : Left H := { results := [], args := [] }

/-- 'hurdlelaw14.CallsPlays': WHATEVER THE INPUT: true; the input reads as it did. -/
def callsPlaysSpec : ChangeSpec := { name := "callsPlays", fn := fun _ => fun
  | [d1, d2, d3] => { results := [.lit (.bool true)], args := [d1, d2, d3] }
  | _ => none }
def callsPlaysRow : OpenClaim := { program := "ytbgbdiiinggjnaa", sum := "2b282acfcb0fdb016d0d1e9c186062bae2081d4771df9c1eb634f04858633258", func := "hurdle/hurdlelaw14.CallsPlays", spec := "callsPlays", inPlace := ["slices.overlaps[hurdle/api.Timer]"], unfollowed := true, recurses := true, apart := false }
def CallsPlaysSaid : Prop := callsPlaysRow.holds Try.pinned (OpenSpec.ofChange callsPlaysSpec)

/-- ITS FALSE NEIGHBOUR: 'it returns false'. Refute it at one input. -/
def callsPlaysWrong : ChangeSpec := { name := "callsPlays", fn := fun _ => fun
  | [d1, d2, d3] => { results := [.lit (.bool false)], args := [d1, d2, d3] }
  | _ => none }
def CallsPlaysWrongFalsely : Prop := callsPlaysRow.holds Try.pinned (OpenSpec.ofChange callsPlaysWrong)

/-- 'hurdlelaw14.CallsTries': WHATEVER THE INPUT: true; the input reads as it did. -/
def callsTriesSpec : ChangeSpec := { name := "callsTries", fn := fun _ => fun
  | [d1, d2] => { results := [.lit (.bool true)], args := [d1, d2] }
  | _ => none }
def callsTriesRow : OpenClaim := { program := "ytbgbdiiinggjnaa", sum := "2b282acfcb0fdb016d0d1e9c186062bae2081d4771df9c1eb634f04858633258", func := "hurdle/hurdlelaw14.CallsTries", spec := "callsTries", inPlace := ["slices.overlaps[hurdle/api.Timer]"], unfollowed := true, recurses := true, apart := false }
def CallsTriesSaid : Prop := callsTriesRow.holds Try.pinned (OpenSpec.ofChange callsTriesSpec)

/-- ITS FALSE NEIGHBOUR: 'it returns false'. Refute it at one input. -/
def callsTriesWrong : ChangeSpec := { name := "callsTries", fn := fun _ => fun
  | [d1, d2] => { results := [.lit (.bool false)], args := [d1, d2] }
  | _ => none }
def CallsTriesWrongFalsely : Prop := callsTriesRow.holds Try.pinned (OpenSpec.ofChange callsTriesWrong)

/-- 'hurdlelaw14.CallsOnce': WHATEVER THE INPUT: true; the input reads as it did. -/
def callsOnceSpec : ChangeSpec := { name := "callsOnce", fn := fun _ => fun
  | [d] => { results := [.lit (.bool true)], args := [d] }
  | _ => none }
def callsOnceRow : OpenClaim := { program := "ytbgbdiiinggjnaa", sum := "2b282acfcb0fdb016d0d1e9c186062bae2081d4771df9c1eb634f04858633258", func := "hurdle/hurdlelaw14.CallsOnce", spec := "callsOnce", inPlace := ["slices.overlaps[hurdle/api.Timer]"], unfollowed := true, recurses := true, apart := false }
def CallsOnceSaid : Prop := callsOnceRow.holds Try.pinned (OpenSpec.ofChange callsOnceSpec)

/-- ITS FALSE NEIGHBOUR: 'it returns false'. Refute it at one input. -/
def callsOnceWrong : ChangeSpec := { name := "callsOnce", fn := fun _ => fun
  | [d] => { results := [.lit (.bool false)], args := [d] }
  | _ => none }
def CallsOnceWrongFalsely : Prop := callsOnceRow.holds Try.pinned (OpenSpec.ofChange callsOnceWrong)

/-- 'hurdlelaw14.CallsNone': WHATEVER THE INPUT: true; the input reads as it did. -/
def callsNoneSpec : ChangeSpec := { name := "callsNone", fn := fun _ => fun
  | [d] => { results := [.lit (.bool true)], args := [d] }
  | _ => none }
def callsNoneRow : OpenClaim := { program := "ytbgbdiiinggjnaa", sum := "2b282acfcb0fdb016d0d1e9c186062bae2081d4771df9c1eb634f04858633258", func := "hurdle/hurdlelaw14.CallsNone", spec := "callsNone", inPlace := ["slices.overlaps[hurdle/api.Timer]"], unfollowed := true, recurses := true, apart := false }
def CallsNoneSaid : Prop := callsNoneRow.holds Try.pinned (OpenSpec.ofChange callsNoneSpec)

/-- ITS FALSE NEIGHBOUR: 'it returns false'. Refute it at one input. -/
def callsNoneWrong : ChangeSpec := { name := "callsNone", fn := fun _ => fun
  | [d] => { results := [.lit (.bool false)], args := [d] }
  | _ => none }
def CallsNoneWrongFalsely : Prop := callsNoneRow.holds Try.pinned (OpenSpec.ofChange callsNoneWrong)

/- THE SECOND FORM. 'bulk': how many values and letters a reading holds, each counted each time it is reached (what is shared counts as often as it is met; a slice's spare places count too). A statement '..UptoSaid' is the law's where the arguments, and the package variables that the reading takes, are together of bulk at most 1048576: NARROWER than '..Said'. Prove '..Said' where nothing that the law and all that it calls make is longer than what came in: it says more and counts as full. Else prove '..UptoSaid'. A law counts once. -/
mutual
def uptoBulk {H : Type} : DataW H → Nat
  | .lit (.string bytes) => bytes.length + 1
  | .lit _ => 1
  | .nil => 1
  | .ptr d => uptoBulk d + 1
  | .slice elems spare => uptoBulkAll elems + uptoBulkAll spare + 1
  | .agg parts => uptoBulkAll parts + 1
  | .iface _ d => uptoBulk d + 1
  | .map entries => uptoBulkEntries entries + 1
  | .held _ => 1
def uptoBulkAll {H : Type} : List (DataW H) → Nat
  | [] => 0
  | d :: r => uptoBulk d + uptoBulkAll r
def uptoBulkEntries {H : Type} : List (Lit × DataW H) → Nat
  | [] => 0
  | x :: r => uptoBulkEntry x + uptoBulkEntries r
def uptoBulkEntry {H : Type} : Lit × DataW H → Nat
  | (.string bytes, d) => bytes.length + uptoBulk d + 1
  | (_, d) => uptoBulk d + 1
 end
def uptoSmall : (H : Type) → List (DataW H) → Bool := fun _ ds => decide (uptoBulkAll ds ≤ 1048576)
def OpenSpec.upto (s : _root_.Go.ChangeSpec) : _root_.Go.OpenSpec := { _root_.Go.OpenSpec.ofChange s with cond := some uptoSmall }

/-- 'hurdlelaw14.CallsPlays', WHERE WHAT IT READS IS OF BULK AT MOST 1048576: true; the input reads as it did. -/
def callsPlaysUptoRow : OpenClaim := { program := "ytbgbdiiinggjnaa", sum := "2b282acfcb0fdb016d0d1e9c186062bae2081d4771df9c1eb634f04858633258", func := "hurdle/hurdlelaw14.CallsPlays", spec := "callsPlays", inPlace := ["slices.overlaps[hurdle/api.Timer]"], unfollowed := true, recurses := true, apart := false, narrowed := true }
def CallsPlaysUptoSaid : Prop := callsPlaysUptoRow.holds Try.pinned (OpenSpec.upto callsPlaysSpec)

/-- 'hurdlelaw14.CallsTries', WHERE WHAT IT READS IS OF BULK AT MOST 1048576: true; the input reads as it did. -/
def callsTriesUptoRow : OpenClaim := { program := "ytbgbdiiinggjnaa", sum := "2b282acfcb0fdb016d0d1e9c186062bae2081d4771df9c1eb634f04858633258", func := "hurdle/hurdlelaw14.CallsTries", spec := "callsTries", inPlace := ["slices.overlaps[hurdle/api.Timer]"], unfollowed := true, recurses := true, apart := false, narrowed := true }
def CallsTriesUptoSaid : Prop := callsTriesUptoRow.holds Try.pinned (OpenSpec.upto callsTriesSpec)

/-- 'hurdlelaw14.CallsOnce', WHERE WHAT IT READS IS OF BULK AT MOST 1048576: true; the input reads as it did. -/
def callsOnceUptoRow : OpenClaim := { program := "ytbgbdiiinggjnaa", sum := "2b282acfcb0fdb016d0d1e9c186062bae2081d4771df9c1eb634f04858633258", func := "hurdle/hurdlelaw14.CallsOnce", spec := "callsOnce", inPlace := ["slices.overlaps[hurdle/api.Timer]"], unfollowed := true, recurses := true, apart := false, narrowed := true }
def CallsOnceUptoSaid : Prop := callsOnceUptoRow.holds Try.pinned (OpenSpec.upto callsOnceSpec)

/-- 'hurdlelaw14.CallsNone', WHERE WHAT IT READS IS OF BULK AT MOST 1048576: true; the input reads as it did. -/
def callsNoneUptoRow : OpenClaim := { program := "ytbgbdiiinggjnaa", sum := "2b282acfcb0fdb016d0d1e9c186062bae2081d4771df9c1eb634f04858633258", func := "hurdle/hurdlelaw14.CallsNone", spec := "callsNone", inPlace := ["slices.overlaps[hurdle/api.Timer]"], unfollowed := true, recurses := true, apart := false, narrowed := true }
def CallsNoneUptoSaid : Prop := callsNoneUptoRow.holds Try.pinned (OpenSpec.upto callsNoneSpec)

end Rows
end Go.Proofs.Ytbgbdiiinggjnaa
