/-
  No cell of these rows narrows 'for every input' (looked for: loops, veiled, ifaces, maps, wideKeys, modest, calm, conditions, laid).
  DERIVED. THE GIVEN ROWS OF THIS SEAT. 4 by the template 'for every input the law returns true; each argument reads behind the call as it read before'; 0 by the template 'total and deterministic' (their statements: YtpfmdchmgaaakaaTotals.lean).
  GIVEN WITH THE SEED: the statements are not yours to turn. If you find one false, say at which input.
  Laid BY PROGRAM, IN A SANDBOX (cutbox-rows.mjs): the forced cells as the released guide's own fill.sh prints them over the translation 1057ab9aadc08ef6… (all of the seat's roots in one cut). By AI agents, Wed Nov 11 2026. No macro, syntax, notation, axiom, sorry.
-/
import Derived.Test.YtpfmdchmgaaakaaChecked
import GoSem.Claim
import GoSem.ClaimJoined
import GoSem.ClaimMapViews
import Derived.JoinedTies
import Derived.KernelRfl
namespace Go.Proofs.Ytpfmdchmgaaakaa
/- THE CELL 'sum', in the pinned program and in every row, IS THE sha256 OF THE DUMP (.gsa) THAT YtpfmdchmgaaakaaProg.lean LOADS. Nothing in Lean hashes anything: it is a label: what it is worth is what the hold of that sum in a sandbox is worth. -/
noncomputable def Try.pinned : Pinned := { name := "ytpfmdchmgaaakaa", sum := "1057ab9aadc08ef6869cdc34a0a4a3a4f0d3a8aa15dafcd79050af7a322876fd", checked := Try.checked }
namespace Rows
def none {H : Type} : Left H := { results := [], args := [] }

/-- 'hurdlelaw06.LruPlays': WHATEVER THE INPUT: true; the input reads as it did. -/
def lruPlaysSpec : ChangeSpec := { name := "lruPlays", fn := fun _ => fun
  | [d1, d2] => { results := [.lit (.bool true)], args := [d1, d2] }
  | _ => none }
def lruPlaysRow : OpenClaim := { program := "ytpfmdchmgaaakaa", sum := "1057ab9aadc08ef6869cdc34a0a4a3a4f0d3a8aa15dafcd79050af7a322876fd", func := "hurdle/hurdlelaw06.LruPlays", spec := "lruPlays", apart := false }
def LruPlaysSaid : Prop := lruPlaysRow.holds Try.pinned (OpenSpec.ofChange lruPlaysSpec)

/-- ITS FALSE NEIGHBOUR: 'it returns false'. Refute it at one input. -/
def lruPlaysWrong : ChangeSpec := { name := "lruPlays", fn := fun _ => fun
  | [d1, d2] => { results := [.lit (.bool false)], args := [d1, d2] }
  | _ => none }
def LruPlaysWrongFalsely : Prop := lruPlaysRow.holds Try.pinned (OpenSpec.ofChange lruPlaysWrong)

/-- 'hurdlelaw06.LruBound': WHATEVER THE INPUT: true; the input reads as it did. -/
def lruBoundSpec : ChangeSpec := { name := "lruBound", fn := fun _ => fun
  | [d1, d2] => { results := [.lit (.bool true)], args := [d1, d2] }
  | _ => none }
def lruBoundRow : OpenClaim := { program := "ytpfmdchmgaaakaa", sum := "1057ab9aadc08ef6869cdc34a0a4a3a4f0d3a8aa15dafcd79050af7a322876fd", func := "hurdle/hurdlelaw06.LruBound", spec := "lruBound", apart := false }
def LruBoundSaid : Prop := lruBoundRow.holds Try.pinned (OpenSpec.ofChange lruBoundSpec)

/-- ITS FALSE NEIGHBOUR: 'it returns false'. Refute it at one input. -/
def lruBoundWrong : ChangeSpec := { name := "lruBound", fn := fun _ => fun
  | [d1, d2] => { results := [.lit (.bool false)], args := [d1, d2] }
  | _ => none }
def LruBoundWrongFalsely : Prop := lruBoundRow.holds Try.pinned (OpenSpec.ofChange lruBoundWrong)

/-- 'hurdlelaw06.LruGot': WHATEVER THE INPUT: true; the input reads as it did. -/
def lruGotSpec : ChangeSpec := { name := "lruGot", fn := fun _ => fun
  | [d1, d2] => { results := [.lit (.bool true)], args := [d1, d2] }
  | _ => none }
def lruGotRow : OpenClaim := { program := "ytpfmdchmgaaakaa", sum := "1057ab9aadc08ef6869cdc34a0a4a3a4f0d3a8aa15dafcd79050af7a322876fd", func := "hurdle/hurdlelaw06.LruGot", spec := "lruGot", apart := false }
def LruGotSaid : Prop := lruGotRow.holds Try.pinned (OpenSpec.ofChange lruGotSpec)

/-- ITS FALSE NEIGHBOUR: 'it returns false'. Refute it at one input. -/
def lruGotWrong : ChangeSpec := { name := "lruGot", fn := fun _ => fun
  | [d1, d2] => { results := [.lit (.bool false)], args := [d1, d2] }
  | _ => none }
def LruGotWrongFalsely : Prop := lruGotRow.holds Try.pinned (OpenSpec.ofChange lruGotWrong)

/-- 'hurdlelaw06.LruNone': WHATEVER THE INPUT: true; the input reads as it did. -/
def lruNoneSpec : ChangeSpec := { name := "lruNone", fn := fun _ => fun
  | [d] => { results := [.lit (.bool true)], args := [d] }
  | _ => none }
def lruNoneRow : OpenClaim := { program := "ytpfmdchmgaaakaa", sum := "1057ab9aadc08ef6869cdc34a0a4a3a4f0d3a8aa15dafcd79050af7a322876fd", func := "hurdle/hurdlelaw06.LruNone", spec := "lruNone", apart := false }
def LruNoneSaid : Prop := lruNoneRow.holds Try.pinned (OpenSpec.ofChange lruNoneSpec)

/-- ITS FALSE NEIGHBOUR: 'it returns false'. Refute it at one input. -/
def lruNoneWrong : ChangeSpec := { name := "lruNone", fn := fun _ => fun
  | [d] => { results := [.lit (.bool false)], args := [d] }
  | _ => none }
def LruNoneWrongFalsely : Prop := lruNoneRow.holds Try.pinned (OpenSpec.ofChange lruNoneWrong)

/- THE SECOND FORM. 'bulk': how many values and letters a reading holds, each counted each time it is reached (what is shared counts as often as it is met; a slice's spare places count too). A statement '..UptoSaid' is the law's where the arguments, and the package variables that the reading takes, are together of bulk at most 1048576: NARROWER than '..Said'. Prove '..Said' where nothing that the law and all that it calls make is longer than what came in: it says more and counts as full. Else prove '..UptoSaid'. A law counts once. -/
mutual
def uptoBulk {H : Type} : DataW H → Nat
  | .lit (.string bytes) => bytes.length + 1
  | .lit _ => 1
  | .nil => 1
  | .ptr d => uptoBulk d + 1
  | .slice elems spare => uptoBulkAll elems + uptoBulkAll spare + 1
  | .agg parts => uptoBulkAll parts + 1
  | .iface _ d => uptoBulk d + 1
  | .map entries => uptoBulkEntries entries + 1
  | .held _ => 1
def uptoBulkAll {H : Type} : List (DataW H) → Nat
  | [] => 0
  | d :: r => uptoBulk d + uptoBulkAll r
def uptoBulkEntries {H : Type} : List (Lit × DataW H) → Nat
  | [] => 0
  | x :: r => uptoBulkEntry x + uptoBulkEntries r
def uptoBulkEntry {H : Type} : Lit × DataW H → Nat
  | (.string bytes, d) => bytes.length + uptoBulk d + 1
  | (_, d) => uptoBulk d + 1
 end
def uptoSmall : (H : Type) → List (DataW H) → Bool := fun _ ds => decide (uptoBulkAll ds ≤ 1048576)
def OpenSpec.upto (s : _root_.Go.ChangeSpec) : _root_.Go.OpenSpec := { _root_.Go.OpenSpec.ofChange s with cond := some uptoSmall }

/-- 'hurdlelaw06.LruPlays', WHERE WHAT IT READS IS OF BULK AT MOST 1048576: true; the input reads as it did. -/
def lruPlaysUptoRow : OpenClaim := { program := "ytpfmdchmgaaakaa", sum := "1057ab9aadc08ef6869cdc34a0a4a3a4f0d3a8aa15dafcd79050af7a322876fd", func := "hurdle/hurdlelaw06.LruPlays", spec := "lruPlays", apart := false, narrowed := true }
def LruPlaysUptoSaid : Prop := lruPlaysUptoRow.holds Try.pinned (OpenSpec.upto lruPlaysSpec)

/-- 'hurdlelaw06.LruBound', WHERE WHAT IT READS IS OF BULK AT MOST 1048576: true; the input reads as it did. -/
def lruBoundUptoRow : OpenClaim := { program := "ytpfmdchmgaaakaa", sum := "1057ab9aadc08ef6869cdc34a0a4a3a4f0d3a8aa15dafcd79050af7a322876fd", func := "hurdle/hurdlelaw06.LruBound", spec := "lruBound", apart := false, narrowed := true }
def LruBoundUptoSaid : Prop := lruBoundUptoRow.holds Try.pinned (OpenSpec.upto lruBoundSpec)

/-- 'hurdlelaw06.LruGot', WHERE WHAT IT READS IS OF BULK AT MOST 1048576: true; the input reads as it did. -/
def lruGotUptoRow : OpenClaim := { program := "ytpfmdchmgaaakaa", sum := "1057ab9aadc08ef6869cdc34a0a4a3a4f0d3a8aa15dafcd79050af7a322876fd", func := "hurdle/hurdlelaw06.LruGot", spec := "lruGot", apart := false, narrowed := true }
def LruGotUptoSaid : Prop := lruGotUptoRow.holds Try.pinned (OpenSpec.upto lruGotSpec)

/-- 'hurdlelaw06.LruNone', WHERE WHAT IT READS IS OF BULK AT MOST 1048576: true; the input reads as it did. -/
def lruNoneUptoRow : OpenClaim := { program := "ytpfmdchmgaaakaa", sum := "1057ab9aadc08ef6869cdc34a0a4a3a4f0d3a8aa15dafcd79050af7a322876fd", func := "hurdle/hurdlelaw06.LruNone", spec := "lruNone", apart := false, narrowed := true }
def LruNoneUptoSaid : Prop := lruNoneUptoRow.holds Try.pinned (OpenSpec.upto lruNoneSpec)

end Rows
end Go.Proofs.Ytpfmdchmgaaakaa
