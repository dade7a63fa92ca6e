/-
  The chapter's examples come out as it says, in whatever memory, and nothing that was there is written.
-/
import Derived.Test.YtgcfpihfoekllaaF
namespace Go.Proofs.Ytgcfpihfoekllaa
open Go.RowKit
set_option linter.unusedVariables false

theorem At.grown {α : Type} {w w' : World} {a : Option Addr} {f : α → Value} {l : List α} {b : Nat} (h : At w a f l) (hg : w.grownBy w' (some b)) (hb : ∀ k, blk a k → k ≠ b) : At w' a f l :=
  h.keepBut fun k hk hk2 => hg.block k hk (by have := hb k hk2; simpa using this)
theorem RS.grown {w w' : World} {b b' : Nat} {st : Option (List UInt8)} (h : RS w b st) (hg : w.grownBy w' (some b')) (hb : b ≠ b') : RS w' b st :=
  h.keep (hg.block b h.lt (by simpa using hb))
theorem RS.below {w w' : World} {b : Nat} {st : Option (List UInt8)} (h : RS w b st) (hb : Below w.heap.size w w') : RS w' b st := h.keep (hb.block b h.lt)
theorem at_one {α : Type} (w : World) (e : TypeId) (f : α → Value) (x : α) : At (w.alloc (.cells #[f x] e)) (some ⟨w.heap.size, 0, none⟩) f [x] := by
  intro j hj
  have hj0 : j = 0 := by simpa using hj
  subst hj0
  exact ⟨w.heap.size, 0, rfl, by rw [cell_of_row _ _ _ _ _ _ (heap_alloc_new w _)]; rfl⟩

theorem enc_small (n : Int) (u : Nat) (h : M.zz n = u) (hu : u < 128) : M.enc n = [UInt8.ofNat u] := by rw [M.enc, h, M.grp_small u hu]
theorem enc_m1 : M.enc (-1) = [1] := enc_small _ 1 (by decide) (by decide)
theorem enc_64 : M.enc 64 = [128, 1] := by
  rw [M.enc, show M.zz 64 = 128 by decide, M.grp_great 128 (by decide), M.grp_small _ (by decide)]; rfl
theorem enc_ab : M.encT [97, 98] = [4, 97, 98] := by
  rw [M.encT, show M.enc (([97, 98] : List UInt8).length : Nat) = [4] from enc_small _ 4 (by decide) (by decide)]; rfl
theorem enc_3 : M.encIs [3] = [2, 6] := by
  rw [M.encIs, show M.enc (([3] : List Int).length : Nat) = [2] from enc_small _ 2 (by decide) (by decide)]
  simp [show M.enc 3 = [6] from enc_small _ 6 (by decide) (by decide)]
theorem laid_ex : M.lay 100 (M.lay 100 (M.lay 100 (M.lay 100 (0, []) (M.enc (-1))) (M.enc 64)) (M.encT [97, 98])) (M.encIs [3]) = (0, [1, 128, 1, 4, 97, 98, 2, 6]) := by
  rw [enc_m1, enc_64, enc_ab, enc_3]; rfl
theorem int_1 : M.int [1, 128, 1, 4, 97, 98, 2, 6] = some (-1, [128, 1, 4, 97, 98, 2, 6]) := by decide
theorem int_2 : M.int [128, 1, 4, 97, 98, 2, 6] = some (64, [4, 97, 98, 2, 6]) := by decide
theorem text_3 : M.text [4, 97, 98, 2, 6] = some ([97, 98], [2, 6]) := by decide
theorem ints_4 : M.ints [2, 6] = some ([3], []) := by decide
theorem int_5 : M.int [128] = none := by decide

end Go.Proofs.Ytgcfpihfoekllaa
