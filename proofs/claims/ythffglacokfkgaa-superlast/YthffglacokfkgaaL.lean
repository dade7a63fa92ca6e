/-
  The chapter's example, and two states.
-/
import Derived.Test.YthffglacokfkgaaN
namespace Go.Proofs.Ythffglacokfkgaa
open Go.RowKit
open M (ofL ofL_size ofL_of)
set_option linter.unusedVariables false

theorem cnt8 : cntOf 8 = 8 := by decide
def tA : ByteArray := { data := #[97] }
def tB : ByteArray := { data := #[98] }
theorem packA : pcode tA 1 = 0 ∧ ptext tA 1 = ofL (Sp.pk [97] 1) ∧ (ofL (Sp.pk [97] 1)).size = 256 := by
  refine ⟨by decide, rfl, ?_⟩
  rw [ofL_size, Sp.pk_len _ _ (by decide)]
set_option maxRecDepth 100000 in
set_option maxHeartbeats 200000 in
theorem awake_any (w : World) : Calls Try.prog 9 #[] w fun e w' => e = .returned (.bool true) ∧ Below w.heap.size w w' := by
  have hN := newD 8
  rw [cnt8] at hN
  have e0 := rd_new
  have hl0 : (new 8).length = 8 := new_len 8
  have e1 : rdP (nxt (new 8) [97]) = (1, [97]) := by
    rw [rd_nxt hl0 (new_ok 8) [97] (by decide) (by rw [e0]; decide), e0]
  generalize hP0 : new 8 = P0 at *
  go_enter Try.func9, Try.ntmps9
  go_wp2_with fail
  refine (hN w).mono ?_
  rintro e w1 ⟨b, F1, rfl, S1⟩
  have c1 := S1.sread
  rw [e0] at c1
  have c1 : Calls Try.prog 13 #[.pointer (some ⟨b, 0, none⟩)] w1 fun e w' => e = .returned (.tuple #[.string { data := #[] }, .int .i64 0, .int .i64 7]) ∧ Below w1.heap.size w1 w' := c1
  have HS1 := Hid_of S1
  clear S1 hN
  go_wp2_with fail
  refine c1.mono ?_
  rintro e w2 ⟨rfl, b2⟩
  have S2 := HS1.out.keep b2
  have c2 := S2.swrite tA (by decide) (by rw [e0]; decide)
  have c2 : Calls Try.prog 11 #[.pointer (some ⟨b, 0, none⟩), .string { data := #[97] }] w2 fun e w' => ∃ G, e = .returned (.int .i64 0) ∧ DS w w' b G 8 (nxt P0 [97]) false ∧ Ch w2 F1 w' G := c2
  clear c1 b2 HS1 S2
  go_wp2_with fail
  refine c2.mono ?_
  rintro e w3 ⟨F3, rfl, S3, _⟩
  have S3' : DS w w3 b F3 8 (nxt P0 [97]) false := S3
  have c3 := S3'.swrite tB (by decide) (by rw [e1]; decide)
  have e2 : rdP (nxt (nxt P0 [97]) [98]) = (2, [98]) := by
    rw [rd_nxt S3'.len S3'.ok.1 [98] (by decide) (by rw [e1]; decide), e1]
  have c3 : Calls Try.prog 11 #[.pointer (some ⟨b, 0, none⟩), .string { data := #[98] }] w3 fun e w' => ∃ G, e = .returned (.int .i64 0) ∧ DS w w' b G 8 (nxt (nxt P0 [97]) [98]) false ∧ Ch w3 F3 w' G := c3
  clear c2 S3 S3'
  go_wp2_with fail
  refine c3.mono ?_
  rintro e w4 ⟨F4, rfl, S4, _⟩
  have S4' : DS w w4 b F4 8 (nxt (nxt P0 [97]) [98]) false := S4
  have c4 := S4'.sread
  rw [e2] at c4
  have c4 : Calls Try.prog 13 #[.pointer (some ⟨b, 0, none⟩)] w4 fun e w' => e = .returned (.tuple #[.string { data := #[98] }, .int .i64 2, .int .i64 0]) ∧ Below w4.heap.size w4 w' := c4
  have HB4 := Hid_of S4'.bel
  clear c3 S4 S4'
  go_wp2_with fail
  refine c4.mono ?_
  rintro e w5 ⟨rfl, b5⟩
  have HB5 := Hid_of (bel_up HB4.out b5 (Nat.le_refl _))
  have c5 := pack_any tA 1 w5 (by decide)
  obtain ⟨p1, p2, p3⟩ := packA
  rw [p1, p2] at c5
  have c5 : Calls Try.prog 6 #[.string { data := #[97] }, .int .i64 1] w5 fun e w' => e = .returned (.tuple #[.string (ofL (Sp.pk [97] 1)), .int .i64 0]) ∧ Below w5.heap.size w5 w' := c5
  generalize ofL (Sp.pk [97] 1) = Z at *
  clear c4 b5 HB4 p1 p2
  go_wp2_with fail
  refine c5.mono ?_
  rintro e w6 ⟨rfl, b6⟩
  have HB6 := Hid_of (bel_up HB5.out b6 (Nat.le_refl _))
  clear c5 b6 HB5
  go_wp2_with fail
  refine (sread_nil w6).mono ?_
  rintro e w7 ⟨rfl, rfl⟩
  go_wp2_with fail
  refine (room_any _).mono ?_
  rintro e w8 ⟨rfl, rfl⟩
  go_wp2
  go_ret
  exact ⟨rfl, HB6.out⟩
end Go.Proofs.Ythffglacokfkgaa
