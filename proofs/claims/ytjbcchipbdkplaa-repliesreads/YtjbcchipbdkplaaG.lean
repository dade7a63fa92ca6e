/-
  The chapter's examples come out as it says, in whatever memory, and nothing that was there is written.
-/
import Derived.Test.YtjbcchipbdkplaaF
namespace Go.Proofs.Ytjbcchipbdkplaa
open Go.RowKit
set_option linter.unusedVariables false

theorem At.grown {α : Type} {w w' : World} {a : Option Addr} {f : α → Value} {l : List α} {b : Nat} (h : At w a f l) (hg : w.grownBy w' (some b)) (hb : ∀ k, blk a k → k ≠ b) : At w' a f l :=
  h.keepBut fun k hk hk2 => hg.block k hk (by have := hb k hk2; simpa using this)
theorem RS.grown {w w' : World} {b b' : Nat} {st : Option (List UInt8)} (h : RS w b st) (hg : w.grownBy w' (some b')) (hb : b ≠ b') : RS w' b st :=
  h.keep (hg.block b h.lt (by simpa using hb))
theorem RS.below {w w' : World} {b : Nat} {st : Option (List UInt8)} (h : RS w b st) (hb : Below w.heap.size w w') : RS w' b st := h.keep (hb.block b h.lt)
theorem enc_small (n : Int) (u : Nat) (h : M.zz n = u) (hu : u < 128) : M.enc n = [UInt8.ofNat u] := by rw [M.enc, h, M.grp_small u hu]
theorem enc_ab : M.encT [97, 98] = [4, 97, 98] := by
  rw [M.encT, show M.enc (([97, 98] : List UInt8).length : Nat) = [4] from enc_small _ 4 (by decide) (by decide)]; rfl
end Go.Proofs.Ytjbcchipbdkplaa
