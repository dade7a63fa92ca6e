/-
  The chapter's example.
-/
import Derived.Test.YtajgjkkggppbiaaS
namespace Go.Proofs.Ytajgjkkggppbiaa
open Go.RowKit
set_option linter.unusedVariables false
open M (E)

def p1 : List E := [⟨0, 10, 1, 0⟩]
def p2 : List E := [⟨0, 4, 1, 0⟩, ⟨4, 2, 2, 0⟩, ⟨6, 4, 1, 6⟩]
def p4 : List E := [⟨0, 4, 1, 0⟩, ⟨4, 2, 2, 0⟩, ⟨6, 1, 1, 6⟩, ⟨7, 2, 3, 7⟩, ⟨9, 1, 1, 9⟩]
theorem g1 : M.G p1 := by simp [p1, M.G, M.Ok]
theorem g2 : M.G p2 := by simp [p2, M.G, M.Ok, M.R, M.Fol]
theorem g4 : M.G p4 := by simp [p4, M.G, M.Ok, M.R, M.Fol]
theorem r1 (i : Int) : M.rep p1 i = putF [] ⟨0, 10, 1, 0⟩ i := by
  unfold putF p1
  rw [show prp ⟨0, 10, 1, 0⟩ = true by decide]
  simp only [M.rep, true_and]
theorem r2 (i : Int) : M.rep p2 i = putF p1 ⟨4, 2, 2, 0⟩ i := by
  unfold putF p2 p1
  rw [show prp ⟨4, 2, 2, 0⟩ = true by decide]
  simp only [M.rep, true_and]
  repeat' split
  all_goals first | omega | rfl | (simp; done) | (simp; omega)
theorem r3 (i : Int) : M.rep p2 i = putF p2 ⟨0, 0, 0, 0⟩ i := by
  unfold putF
  rw [show prp ⟨0, 0, 0, 0⟩ = false by decide]
  simp
theorem r4 (i : Int) : M.rep p4 i = movF p2 1 (wlo 7 1073758208) (whi 7 2 1073758208) 3 i := by
  rw [show wlo 7 1073758208 = 7 from rfl, show whi 7 2 1073758208 = 9 from rfl]
  unfold movF p4 p2
  rw [if_neg (by decide)]
  simp only [M.rep]
  repeat' split
  all_goals first | omega | rfl | (rw [Option.map_some]; unfold M.mvF; dsimp only; split <;> first | omega | rfl | (rw [Option.some.injEq, Prod.mk.injEq]; omega))
theorem n4 : movN p2 1 (wlo 7 1073758208) (whi 7 2 1073758208) 3 = 2 := by decide
theorem e4 : endP p4 = 10 := by decide
theorem u4 : usesP 3 p4 = 2 ∧ usesP 1 p4 = 6 := by decide
set_option maxRecDepth 100000 in
set_option maxHeartbeats 4000000 in
theorem awake_any (w : World) : Calls Try.prog 7 #[] w fun e w' => e = .returned (.bool true) ∧ Below w.heap.size w w' := by
  go_enter Try.func7, Try.ntmps7
  go_wp2_with fail
  refine (new_any w).mono ?_
  rintro x w1 h
  obtain ⟨b, rfl, hb, hx, B1⟩ := h
  have X1 := hx w.heap.size
  have hlow : w.heap.size ≤ b := by omega
  clear hx hb
  go_wp2_with fail
  refine (put_any w.heap.size b _ [] ⟨0, 10, 1, 0⟩ w1 X1 B1.size (by decide)).mono ?_
  rintro x w2 ⟨rfl, v2, P2, X2, R2, C2⟩
  obtain rfl : P2 = p1 := M.uniq X2.g g1 (fun i => by rw [R2, r1])
  rw [show (if prp ⟨0, 10, 1, 0⟩ = true then (0 : Int) else 1) = 0 from rfl]
  have B2 : Below w.heap.size w w2 := B1.trans (C2.below hlow X1.low B1.size)
  clear B1 X1 C2 R2
  go_wp2_with fail
  refine (put_any w.heap.size b _ p1 ⟨4, 2, 2, 0⟩ w2 X2 B2.size (by decide)).mono ?_
  rintro x w3 ⟨rfl, v3, P3, X3, R3, C3⟩
  obtain rfl : P3 = p2 := M.uniq X3.g g2 (fun i => by rw [R3, r2])
  rw [show (if prp ⟨4, 2, 2, 0⟩ = true then (0 : Int) else 1) = 0 from rfl]
  have B3 : Below w.heap.size w w3 := B2.trans (C3.below hlow X2.low B2.size)
  clear B2 X2 C3 R3
  go_wp2_with fail
  refine (put_any w.heap.size b _ p2 ⟨0, 0, 0, 0⟩ w3 X3 B3.size (by decide)).mono ?_
  rintro x w4 ⟨rfl, v4, P4, X4, R4, C4⟩
  obtain rfl : P4 = p2 := M.uniq X4.g g2 (fun i => by rw [R4, r3])
  rw [show (if prp ⟨0, 0, 0, 0⟩ = true then (0 : Int) else 1) = 1 from rfl]
  have B4 : Below w.heap.size w w4 := B3.trans (C4.below hlow X3.low B3.size)
  clear B3 X3 C4 R4
  go_wp2_with fail
  refine (all_any w.heap.size b _ p2 w4 X4).mono ?_
  rintro x w5 h
  obtain ⟨v5, rfl, o5, B5'⟩ := h
  have X5 := X4.keep B5'
  have B5 := bel_up B4 B5' (Nat.le_refl _)
  obtain ⟨al, cl, hvl, hatl, hbl, _⟩ := owns_atE o5
  have hlt5 : ∀ k, blk al k → k < w5.heap.size := fun k hk => (o5.lt k (hbl k hk).2).2
  have hap : ∀ k, blk al k → k ≠ b ∧ v4.ownBlock ≠ some k := by
    intro k hk
    have h1 := (hbl k hk).1
    have h2 := X4.lt
    refine ⟨by omega, fun e => ?_⟩
    have := (X4.own.lt k e).2
    omega
  subst hvl
  clear B4 X4 B5' o5 hbl
  have hmv := move_any w.heap.size b _ p2 1 7 2 3 w5 X5 B5.size (by decide) (by decide)
  rw [n4] at hmv
  go_wp2_with fail
  refine hmv.mono ?_
  rintro x w6 ⟨rfl, v6, P6, X6, R6, C6⟩
  obtain rfl : P6 = p4 := M.uniq X6.g g4 (fun i => by rw [R6, r4])
  have B6 : Below w.heap.size w w6 := B5.trans (C6.below hlow X5.low B5.size)
  have hat6 : AtE w6 al p2 := hatl.keepBut (fun k hk hkb => C6.block k hk (hap k hkb).1 (hap k hkb).2)
  obtain ⟨bl, ol, rfl, c0, c1, c2, c3⟩ := hat6 1 (by decide)
  obtain ⟨bl2, ol2, heq, d0, d1, d2, d3⟩ := hat6 2 (by decide)
  cases heq
  simp only [p2, List.getElem_cons_succ, List.getElem_cons_zero] at c0 c1 c2 c3 d0 d1 d2 d3
  rw [show p2.length = 3 from rfl]
  have hend := end_any w.heap.size b v6 p4 w6 X6
  rw [e4] at hend
  have HX6 := Hid_of X6
  have HB6 := Hid_of B6
  clear B5 X5 C6 R6 hmv hat6 hatl hap hlt5 X6 B6
  go_wp2_with fail
  refine hend.mono ?_
  rintro x w7 ⟨rfl, B7⟩
  have X7 := HX6.out.keep B7
  have HB7 := Hid_of (bel_up HB6.out B7 (Nat.le_refl _))
  have hu3 := uses_any w.heap.size b v6 p4 3 w7 X7
  rw [u4.1] at hu3
  clear hend HX6 HB6 B7 c0 c1 c2 c3 d0 d1 d2 d3
  go_wp2_with fail
  refine hu3.mono ?_
  rintro x w8 ⟨rfl, B8⟩
  have X8 := X7.keep B8
  have HB8 := Hid_of (bel_up HB7.out B8 (Nat.le_refl _))
  have hu1 := uses_any w.heap.size b v6 p4 1 w8 X8
  rw [u4.2] at hu1
  clear hu3 X7 HB7 B8
  go_wp2_with fail
  refine hu1.mono ?_
  rintro x w9 ⟨rfl, B9⟩
  have HB9 := Hid_of (bel_up HB8.out B9 (Nat.le_refl _))
  clear hu1 X8 HB8 B9
  go_wp2
  go_ret
  exact ⟨rfl, HB9.out⟩
end Go.Proofs.Ytajgjkkggppbiaa
