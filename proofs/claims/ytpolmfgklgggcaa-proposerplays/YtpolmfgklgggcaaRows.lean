/-
  No cell of these rows narrows 'for every input' (looked for: loops, veiled, ifaces, maps, wideKeys, modest, calm, conditions, laid).
  DERIVED. THE GIVEN ROWS OF THIS SEAT. 4 by the template 'for every input the law returns true; each argument reads behind the call as it read before'; 0 by the template 'total and deterministic' (their statements: YtpolmfgklgggcaaTotals.lean).
  GIVEN WITH THE SEED: the statements are not yours to turn. If you find one false, say at which input.
  Laid BY PROGRAM, IN A SANDBOX (cutbox-rows.mjs): the forced cells as the released guide's own fill.sh prints them over the translation 49f6f7365f1685ab… (all of the seat's roots in one cut). By AI agents, Wed Nov 11 2026. No macro, syntax, notation, axiom, sorry.
-/
import Derived.Test.YtpolmfgklgggcaaChecked
import GoSem.Claim
import GoSem.ClaimJoined
import GoSem.ClaimMapViews
import Derived.JoinedTies
import Derived.KernelRfl
namespace Go.Proofs.Ytpolmfgklgggcaa
/- THE CELL 'sum', in the pinned program and in every row, IS THE sha256 OF THE DUMP (.gsa) THAT YtpolmfgklgggcaaProg.lean LOADS. Nothing in Lean hashes anything: it is a label: what it is worth is what the hold of that sum in a sandbox is worth. -/
noncomputable def Try.pinned : Pinned := { name := "ytpolmfgklgggcaa", sum := "49f6f7365f1685ab5c67043d8c0629a6080a96e34eec087b6d2b5254660cf24c", checked := Try.checked }
namespace Rows
def none {H : Type} : Left H := { results := [], args := [] }

/-- 'hurdlelaw19.ProposerPlays': WHATEVER THE INPUT: true; the input reads as it did. -/
def proposerPlaysSpec : ChangeSpec := { name := "proposerPlays", fn := fun _ => fun
  | [d1, d2, d3] => { results := [.lit (.bool true)], args := [d1, d2, d3] }
  | _ => none }
def proposerPlaysRow : OpenClaim := { program := "ytpolmfgklgggcaa", sum := "49f6f7365f1685ab5c67043d8c0629a6080a96e34eec087b6d2b5254660cf24c", func := "hurdle/hurdlelaw19.ProposerPlays", spec := "proposerPlays", apart := false }
def ProposerPlaysSaid : Prop := proposerPlaysRow.holds Try.pinned (OpenSpec.ofChange proposerPlaysSpec)

/-- ITS FALSE NEIGHBOUR: 'it returns false'. Refute it at one input. -/
def proposerPlaysWrong : ChangeSpec := { name := "proposerPlays", fn := fun _ => fun
  | [d1, d2, d3] => { results := [.lit (.bool false)], args := [d1, d2, d3] }
  | _ => none }
def ProposerPlaysWrongFalsely : Prop := proposerPlaysRow.holds Try.pinned (OpenSpec.ofChange proposerPlaysWrong)

/-- 'hurdlelaw19.ProposerOnce': WHATEVER THE INPUT: true; the input reads as it did. -/
def proposerOnceSpec : ChangeSpec := { name := "proposerOnce", fn := fun _ => fun
  | [d1, d2, d3] => { results := [.lit (.bool true)], args := [d1, d2, d3] }
  | _ => none }
def proposerOnceRow : OpenClaim := { program := "ytpolmfgklgggcaa", sum := "49f6f7365f1685ab5c67043d8c0629a6080a96e34eec087b6d2b5254660cf24c", func := "hurdle/hurdlelaw19.ProposerOnce", spec := "proposerOnce", apart := false }
def ProposerOnceSaid : Prop := proposerOnceRow.holds Try.pinned (OpenSpec.ofChange proposerOnceSpec)

/-- ITS FALSE NEIGHBOUR: 'it returns false'. Refute it at one input. -/
def proposerOnceWrong : ChangeSpec := { name := "proposerOnce", fn := fun _ => fun
  | [d1, d2, d3] => { results := [.lit (.bool false)], args := [d1, d2, d3] }
  | _ => none }
def ProposerOnceWrongFalsely : Prop := proposerOnceRow.holds Try.pinned (OpenSpec.ofChange proposerOnceWrong)

/-- 'hurdlelaw19.ProposerSafe': WHATEVER THE INPUT: true; the input reads as it did. -/
def proposerSafeSpec : ChangeSpec := { name := "proposerSafe", fn := fun _ => fun
  | [d1, d2, d3] => { results := [.lit (.bool true)], args := [d1, d2, d3] }
  | _ => none }
def proposerSafeRow : OpenClaim := { program := "ytpolmfgklgggcaa", sum := "49f6f7365f1685ab5c67043d8c0629a6080a96e34eec087b6d2b5254660cf24c", func := "hurdle/hurdlelaw19.ProposerSafe", spec := "proposerSafe", apart := false }
def ProposerSafeSaid : Prop := proposerSafeRow.holds Try.pinned (OpenSpec.ofChange proposerSafeSpec)

/-- ITS FALSE NEIGHBOUR: 'it returns false'. Refute it at one input. -/
def proposerSafeWrong : ChangeSpec := { name := "proposerSafe", fn := fun _ => fun
  | [d1, d2, d3] => { results := [.lit (.bool false)], args := [d1, d2, d3] }
  | _ => none }
def ProposerSafeWrongFalsely : Prop := proposerSafeRow.holds Try.pinned (OpenSpec.ofChange proposerSafeWrong)

/-- 'hurdlelaw19.ProposerNone': WHATEVER THE INPUT: true; the input reads as it did. -/
def proposerNoneSpec : ChangeSpec := { name := "proposerNone", fn := fun _ => fun
  | [d] => { results := [.lit (.bool true)], args := [d] }
  | _ => none }
def proposerNoneRow : OpenClaim := { program := "ytpolmfgklgggcaa", sum := "49f6f7365f1685ab5c67043d8c0629a6080a96e34eec087b6d2b5254660cf24c", func := "hurdle/hurdlelaw19.ProposerNone", spec := "proposerNone", apart := false }
def ProposerNoneSaid : Prop := proposerNoneRow.holds Try.pinned (OpenSpec.ofChange proposerNoneSpec)

/-- ITS FALSE NEIGHBOUR: 'it returns false'. Refute it at one input. -/
def proposerNoneWrong : ChangeSpec := { name := "proposerNone", fn := fun _ => fun
  | [d] => { results := [.lit (.bool false)], args := [d] }
  | _ => none }
def ProposerNoneWrongFalsely : Prop := proposerNoneRow.holds Try.pinned (OpenSpec.ofChange proposerNoneWrong)

/- THE SECOND FORM. 'bulk': how many values and letters a reading holds, each counted each time it is reached (what is shared counts as often as it is met; a slice's spare places count too). A statement '..UptoSaid' is the law's where the arguments, and the package variables that the reading takes, are together of bulk at most 1048576: NARROWER than '..Said'. Prove '..Said' where nothing that the law and all that it calls make is longer than what came in: it says more and counts as full. Else prove '..UptoSaid'. A law counts once. -/
mutual
def uptoBulk {H : Type} : DataW H → Nat
  | .lit (.string bytes) => bytes.length + 1
  | .lit _ => 1
  | .nil => 1
  | .ptr d => uptoBulk d + 1
  | .slice elems spare => uptoBulkAll elems + uptoBulkAll spare + 1
  | .agg parts => uptoBulkAll parts + 1
  | .iface _ d => uptoBulk d + 1
  | .map entries => uptoBulkEntries entries + 1
  | .held _ => 1
def uptoBulkAll {H : Type} : List (DataW H) → Nat
  | [] => 0
  | d :: r => uptoBulk d + uptoBulkAll r
def uptoBulkEntries {H : Type} : List (Lit × DataW H) → Nat
  | [] => 0
  | x :: r => uptoBulkEntry x + uptoBulkEntries r
def uptoBulkEntry {H : Type} : Lit × DataW H → Nat
  | (.string bytes, d) => bytes.length + uptoBulk d + 1
  | (_, d) => uptoBulk d + 1
 end
def uptoSmall : (H : Type) → List (DataW H) → Bool := fun _ ds => decide (uptoBulkAll ds ≤ 1048576)
def OpenSpec.upto (s : _root_.Go.ChangeSpec) : _root_.Go.OpenSpec := { _root_.Go.OpenSpec.ofChange s with cond := some uptoSmall }

/-- 'hurdlelaw19.ProposerPlays', WHERE WHAT IT READS IS OF BULK AT MOST 1048576: true; the input reads as it did. -/
def proposerPlaysUptoRow : OpenClaim := { program := "ytpolmfgklgggcaa", sum := "49f6f7365f1685ab5c67043d8c0629a6080a96e34eec087b6d2b5254660cf24c", func := "hurdle/hurdlelaw19.ProposerPlays", spec := "proposerPlays", apart := false, narrowed := true }
def ProposerPlaysUptoSaid : Prop := proposerPlaysUptoRow.holds Try.pinned (OpenSpec.upto proposerPlaysSpec)

/-- 'hurdlelaw19.ProposerOnce', WHERE WHAT IT READS IS OF BULK AT MOST 1048576: true; the input reads as it did. -/
def proposerOnceUptoRow : OpenClaim := { program := "ytpolmfgklgggcaa", sum := "49f6f7365f1685ab5c67043d8c0629a6080a96e34eec087b6d2b5254660cf24c", func := "hurdle/hurdlelaw19.ProposerOnce", spec := "proposerOnce", apart := false, narrowed := true }
def ProposerOnceUptoSaid : Prop := proposerOnceUptoRow.holds Try.pinned (OpenSpec.upto proposerOnceSpec)

/-- 'hurdlelaw19.ProposerSafe', WHERE WHAT IT READS IS OF BULK AT MOST 1048576: true; the input reads as it did. -/
def proposerSafeUptoRow : OpenClaim := { program := "ytpolmfgklgggcaa", sum := "49f6f7365f1685ab5c67043d8c0629a6080a96e34eec087b6d2b5254660cf24c", func := "hurdle/hurdlelaw19.ProposerSafe", spec := "proposerSafe", apart := false, narrowed := true }
def ProposerSafeUptoSaid : Prop := proposerSafeUptoRow.holds Try.pinned (OpenSpec.upto proposerSafeSpec)

/-- 'hurdlelaw19.ProposerNone', WHERE WHAT IT READS IS OF BULK AT MOST 1048576: true; the input reads as it did. -/
def proposerNoneUptoRow : OpenClaim := { program := "ytpolmfgklgggcaa", sum := "49f6f7365f1685ab5c67043d8c0629a6080a96e34eec087b6d2b5254660cf24c", func := "hurdle/hurdlelaw19.ProposerNone", spec := "proposerNone", apart := false, narrowed := true }
def ProposerNoneUptoSaid : Prop := proposerNoneUptoRow.holds Try.pinned (OpenSpec.upto proposerNoneSpec)

end Rows
end Go.Proofs.Ytpolmfgklgggcaa
