/-
  No cell of these rows narrows 'for every input' (looked for: loops, veiled, ifaces, maps, wideKeys, modest, calm, conditions, laid).
  DERIVED. THE GIVEN ROWS OF THIS SEAT. 6 by the template 'for every input the law returns true; each argument reads behind the call as it read before'; 0 by the template 'total and deterministic' (their statements: YtnflpmaeekgmjaaTotals.lean).
  GIVEN WITH THE SEED: the statements are not yours to turn. If you find one false, say at which input.
  Laid BY PROGRAM, IN A SANDBOX (cutbox-rows.mjs): the forced cells as the released guide's own fill.sh prints them over the translation cf95b3e3d9706aff… (all of the seat's roots in one cut). By AI agents, Wed Nov 11 2026. No macro, syntax, notation, axiom, sorry.
-/
import Derived.Test.YtnflpmaeekgmjaaChecked
import GoSem.Claim
import GoSem.ClaimJoined
import GoSem.ClaimMapViews
import Derived.JoinedTies
import Derived.KernelRfl
namespace Go.Proofs.Ytnflpmaeekgmjaa
/- THE CELL 'sum', in the pinned program and in every row, IS THE sha256 OF THE DUMP (.gsa) THAT YtnflpmaeekgmjaaProg.lean LOADS. Nothing in Lean hashes anything: it is a label: what it is worth is what the hold of that sum in a sandbox is worth. -/
noncomputable def Try.pinned : Pinned := { name := "ytnflpmaeekgmjaa", sum := "cf95b3e3d9706aff3cd4e8af11e7f9fb303fcfd167802a0a1e78e27c71ffc3de", checked := Try.checked }
namespace Rows
def none {H : Type} : Left H := { results := [], args := [] }

/-- 'hurdlelaw01.BytesXors': WHATEVER THE INPUT: true; the input reads as it did. -/
def bytesXorsSpec : ChangeSpec := { name := "bytesXors", fn := fun _ => fun
  | [d1, d2, d3] => { results := [.lit (.bool true)], args := [d1, d2, d3] }
  | _ => none }
def bytesXorsRow : OpenClaim := { program := "ytnflpmaeekgmjaa", sum := "cf95b3e3d9706aff3cd4e8af11e7f9fb303fcfd167802a0a1e78e27c71ffc3de", func := "hurdle/hurdlelaw01.BytesXors", spec := "bytesXors", apart := false }
def BytesXorsSaid : Prop := bytesXorsRow.holds Try.pinned (OpenSpec.ofChange bytesXorsSpec)

/-- ITS FALSE NEIGHBOUR: 'it returns false'. Refute it at one input. -/
def bytesXorsWrong : ChangeSpec := { name := "bytesXors", fn := fun _ => fun
  | [d1, d2, d3] => { results := [.lit (.bool false)], args := [d1, d2, d3] }
  | _ => none }
def BytesXorsWrongFalsely : Prop := bytesXorsRow.holds Try.pinned (OpenSpec.ofChange bytesXorsWrong)

/-- 'hurdlelaw01.BytesCuts': WHATEVER THE INPUT: true; the input reads as it did. -/
def bytesCutsSpec : ChangeSpec := { name := "bytesCuts", fn := fun _ => fun
  | [d1, d2] => { results := [.lit (.bool true)], args := [d1, d2] }
  | _ => none }
def bytesCutsRow : OpenClaim := { program := "ytnflpmaeekgmjaa", sum := "cf95b3e3d9706aff3cd4e8af11e7f9fb303fcfd167802a0a1e78e27c71ffc3de", func := "hurdle/hurdlelaw01.BytesCuts", spec := "bytesCuts", apart := false }
def BytesCutsSaid : Prop := bytesCutsRow.holds Try.pinned (OpenSpec.ofChange bytesCutsSpec)

/-- ITS FALSE NEIGHBOUR: 'it returns false'. Refute it at one input. -/
def bytesCutsWrong : ChangeSpec := { name := "bytesCuts", fn := fun _ => fun
  | [d1, d2] => { results := [.lit (.bool false)], args := [d1, d2] }
  | _ => none }
def BytesCutsWrongFalsely : Prop := bytesCutsRow.holds Try.pinned (OpenSpec.ofChange bytesCutsWrong)

/-- 'hurdlelaw01.BytesPuts': WHATEVER THE INPUT: true; the input reads as it did. -/
def bytesPutsSpec : ChangeSpec := { name := "bytesPuts", fn := fun _ => fun
  | [d1, d2, d3] => { results := [.lit (.bool true)], args := [d1, d2, d3] }
  | _ => none }
def bytesPutsRow : OpenClaim := { program := "ytnflpmaeekgmjaa", sum := "cf95b3e3d9706aff3cd4e8af11e7f9fb303fcfd167802a0a1e78e27c71ffc3de", func := "hurdle/hurdlelaw01.BytesPuts", spec := "bytesPuts", apart := false }
def BytesPutsSaid : Prop := bytesPutsRow.holds Try.pinned (OpenSpec.ofChange bytesPutsSpec)

/-- ITS FALSE NEIGHBOUR: 'it returns false'. Refute it at one input. -/
def bytesPutsWrong : ChangeSpec := { name := "bytesPuts", fn := fun _ => fun
  | [d1, d2, d3] => { results := [.lit (.bool false)], args := [d1, d2, d3] }
  | _ => none }
def BytesPutsWrongFalsely : Prop := bytesPutsRow.holds Try.pinned (OpenSpec.ofChange bytesPutsWrong)

/-- 'hurdlelaw01.BytesTwice': WHATEVER THE INPUT: true; the input reads as it did. -/
def bytesTwiceSpec : ChangeSpec := { name := "bytesTwice", fn := fun _ => fun
  | [d1, d2] => { results := [.lit (.bool true)], args := [d1, d2] }
  | _ => none }
def bytesTwiceRow : OpenClaim := { program := "ytnflpmaeekgmjaa", sum := "cf95b3e3d9706aff3cd4e8af11e7f9fb303fcfd167802a0a1e78e27c71ffc3de", func := "hurdle/hurdlelaw01.BytesTwice", spec := "bytesTwice", apart := false }
def BytesTwiceSaid : Prop := bytesTwiceRow.holds Try.pinned (OpenSpec.ofChange bytesTwiceSpec)

/-- ITS FALSE NEIGHBOUR: 'it returns false'. Refute it at one input. -/
def bytesTwiceWrong : ChangeSpec := { name := "bytesTwice", fn := fun _ => fun
  | [d1, d2] => { results := [.lit (.bool false)], args := [d1, d2] }
  | _ => none }
def BytesTwiceWrongFalsely : Prop := bytesTwiceRow.holds Try.pinned (OpenSpec.ofChange bytesTwiceWrong)

/-- 'hurdlelaw01.BytesLost': WHATEVER THE INPUT: true; the input reads as it did. -/
def bytesLostSpec : ChangeSpec := { name := "bytesLost", fn := fun _ => fun
  | [d1, d2] => { results := [.lit (.bool true)], args := [d1, d2] }
  | _ => none }
def bytesLostRow : OpenClaim := { program := "ytnflpmaeekgmjaa", sum := "cf95b3e3d9706aff3cd4e8af11e7f9fb303fcfd167802a0a1e78e27c71ffc3de", func := "hurdle/hurdlelaw01.BytesLost", spec := "bytesLost", apart := false }
def BytesLostSaid : Prop := bytesLostRow.holds Try.pinned (OpenSpec.ofChange bytesLostSpec)

/-- ITS FALSE NEIGHBOUR: 'it returns false'. Refute it at one input. -/
def bytesLostWrong : ChangeSpec := { name := "bytesLost", fn := fun _ => fun
  | [d1, d2] => { results := [.lit (.bool false)], args := [d1, d2] }
  | _ => none }
def BytesLostWrongFalsely : Prop := bytesLostRow.holds Try.pinned (OpenSpec.ofChange bytesLostWrong)

/-- 'hurdlelaw01.BytesRead': WHATEVER THE INPUT: true; the input reads as it did. -/
def bytesReadSpec : ChangeSpec := { name := "bytesRead", fn := fun _ => fun
  | [d1, d2, d3] => { results := [.lit (.bool true)], args := [d1, d2, d3] }
  | _ => none }
def bytesReadRow : OpenClaim := { program := "ytnflpmaeekgmjaa", sum := "cf95b3e3d9706aff3cd4e8af11e7f9fb303fcfd167802a0a1e78e27c71ffc3de", func := "hurdle/hurdlelaw01.BytesRead", spec := "bytesRead", apart := false }
def BytesReadSaid : Prop := bytesReadRow.holds Try.pinned (OpenSpec.ofChange bytesReadSpec)

/-- ITS FALSE NEIGHBOUR: 'it returns false'. Refute it at one input. -/
def bytesReadWrong : ChangeSpec := { name := "bytesRead", fn := fun _ => fun
  | [d1, d2, d3] => { results := [.lit (.bool false)], args := [d1, d2, d3] }
  | _ => none }
def BytesReadWrongFalsely : Prop := bytesReadRow.holds Try.pinned (OpenSpec.ofChange bytesReadWrong)

/- THE SECOND FORM. 'bulk': how many values and letters a reading holds, each counted each time it is reached (what is shared counts as often as it is met; a slice's spare places count too). A statement '..UptoSaid' is the law's where the arguments, and the package variables that the reading takes, are together of bulk at most 1048576: NARROWER than '..Said'. Prove '..Said' where nothing that the law and all that it calls make is longer than what came in: it says more and counts as full. Else prove '..UptoSaid'. A law counts once. -/
mutual
def uptoBulk {H : Type} : DataW H → Nat
  | .lit (.string bytes) => bytes.length + 1
  | .lit _ => 1
  | .nil => 1
  | .ptr d => uptoBulk d + 1
  | .slice elems spare => uptoBulkAll elems + uptoBulkAll spare + 1
  | .agg parts => uptoBulkAll parts + 1
  | .iface _ d => uptoBulk d + 1
  | .map entries => uptoBulkEntries entries + 1
  | .held _ => 1
def uptoBulkAll {H : Type} : List (DataW H) → Nat
  | [] => 0
  | d :: r => uptoBulk d + uptoBulkAll r
def uptoBulkEntries {H : Type} : List (Lit × DataW H) → Nat
  | [] => 0
  | x :: r => uptoBulkEntry x + uptoBulkEntries r
def uptoBulkEntry {H : Type} : Lit × DataW H → Nat
  | (.string bytes, d) => bytes.length + uptoBulk d + 1
  | (_, d) => uptoBulk d + 1
 end
def uptoSmall : (H : Type) → List (DataW H) → Bool := fun _ ds => decide (uptoBulkAll ds ≤ 1048576)
def OpenSpec.upto (s : _root_.Go.ChangeSpec) : _root_.Go.OpenSpec := { _root_.Go.OpenSpec.ofChange s with cond := some uptoSmall }

/-- 'hurdlelaw01.BytesXors', WHERE WHAT IT READS IS OF BULK AT MOST 1048576: true; the input reads as it did. -/
def bytesXorsUptoRow : OpenClaim := { program := "ytnflpmaeekgmjaa", sum := "cf95b3e3d9706aff3cd4e8af11e7f9fb303fcfd167802a0a1e78e27c71ffc3de", func := "hurdle/hurdlelaw01.BytesXors", spec := "bytesXors", apart := false, narrowed := true }
def BytesXorsUptoSaid : Prop := bytesXorsUptoRow.holds Try.pinned (OpenSpec.upto bytesXorsSpec)

/-- 'hurdlelaw01.BytesCuts', WHERE WHAT IT READS IS OF BULK AT MOST 1048576: true; the input reads as it did. -/
def bytesCutsUptoRow : OpenClaim := { program := "ytnflpmaeekgmjaa", sum := "cf95b3e3d9706aff3cd4e8af11e7f9fb303fcfd167802a0a1e78e27c71ffc3de", func := "hurdle/hurdlelaw01.BytesCuts", spec := "bytesCuts", apart := false, narrowed := true }
def BytesCutsUptoSaid : Prop := bytesCutsUptoRow.holds Try.pinned (OpenSpec.upto bytesCutsSpec)

/-- 'hurdlelaw01.BytesPuts', WHERE WHAT IT READS IS OF BULK AT MOST 1048576: true; the input reads as it did. -/
def bytesPutsUptoRow : OpenClaim := { program := "ytnflpmaeekgmjaa", sum := "cf95b3e3d9706aff3cd4e8af11e7f9fb303fcfd167802a0a1e78e27c71ffc3de", func := "hurdle/hurdlelaw01.BytesPuts", spec := "bytesPuts", apart := false, narrowed := true }
def BytesPutsUptoSaid : Prop := bytesPutsUptoRow.holds Try.pinned (OpenSpec.upto bytesPutsSpec)

/-- 'hurdlelaw01.BytesTwice', WHERE WHAT IT READS IS OF BULK AT MOST 1048576: true; the input reads as it did. -/
def bytesTwiceUptoRow : OpenClaim := { program := "ytnflpmaeekgmjaa", sum := "cf95b3e3d9706aff3cd4e8af11e7f9fb303fcfd167802a0a1e78e27c71ffc3de", func := "hurdle/hurdlelaw01.BytesTwice", spec := "bytesTwice", apart := false, narrowed := true }
def BytesTwiceUptoSaid : Prop := bytesTwiceUptoRow.holds Try.pinned (OpenSpec.upto bytesTwiceSpec)

/-- 'hurdlelaw01.BytesLost', WHERE WHAT IT READS IS OF BULK AT MOST 1048576: true; the input reads as it did. -/
def bytesLostUptoRow : OpenClaim := { program := "ytnflpmaeekgmjaa", sum := "cf95b3e3d9706aff3cd4e8af11e7f9fb303fcfd167802a0a1e78e27c71ffc3de", func := "hurdle/hurdlelaw01.BytesLost", spec := "bytesLost", apart := false, narrowed := true }
def BytesLostUptoSaid : Prop := bytesLostUptoRow.holds Try.pinned (OpenSpec.upto bytesLostSpec)

/-- 'hurdlelaw01.BytesRead', WHERE WHAT IT READS IS OF BULK AT MOST 1048576: true; the input reads as it did. -/
def bytesReadUptoRow : OpenClaim := { program := "ytnflpmaeekgmjaa", sum := "cf95b3e3d9706aff3cd4e8af11e7f9fb303fcfd167802a0a1e78e27c71ffc3de", func := "hurdle/hurdlelaw01.BytesRead", spec := "bytesRead", apart := false, narrowed := true }
def BytesReadUptoSaid : Prop := bytesReadUptoRow.holds Try.pinned (OpenSpec.upto bytesReadSpec)

end Rows
end Go.Proofs.Ytnflpmaeekgmjaa
