/-
  The chapter's example.
-/
import Derived.Test.YtbbadfebajpeaaaK
namespace Go.Proofs.Ytbbadfebajpeaaa
open Go.RowKit
set_option linter.unusedVariables false
open M (E V)

def s1 : M.S := ⟨⟨2, 0⟩, 0, []⟩
def v3 : V := ⟨3, ⟨2, 0⟩, ⟨#[120]⟩⟩
def s2 : M.S := ⟨⟨2, 0⟩, 0, [v3]⟩
def s3 : M.S := ⟨⟨3, 0⟩, 0, [v3]⟩
def s4 : M.S := ⟨⟨3, 0⟩, 4, []⟩
theorem aw1 : M.prb M.S0 ⟨2, 0⟩ 0 = true ∧ M.prl M.S0 ⟨2, 0⟩ 0 = [] ∧ M.prs M.S0 ⟨2, 0⟩ 0 = s1 := ⟨by decide, rfl, rfl⟩
theorem aw2 : M.acb s1 ⟨0, ⟨1, 0⟩, ⟨#[120]⟩⟩ = false ∧ M.acs s1 ⟨0, ⟨1, 0⟩, ⟨#[120]⟩⟩ = s1 := ⟨by decide, rfl⟩
theorem aw3 : M.acb s1 v3 = true ∧ M.acs s1 v3 = s2 := ⟨by decide, rfl⟩
theorem aw4 : M.prb s2 ⟨3, 0⟩ 0 = true ∧ M.prl s2 ⟨3, 0⟩ 0 = [v3] ∧ M.prs s2 ⟨3, 0⟩ 0 = s3 := ⟨by decide, rfl, rfl⟩
theorem aw5 : M.trn s3 4 = 1 ∧ M.trs s3 4 = s4 := ⟨rfl, rfl⟩
theorem aw6 : M.prb s4 ⟨4, 0⟩ 3 = false ∧ M.prl s4 ⟨4, 0⟩ 3 = [] ∧ M.prs s4 ⟨4, 0⟩ 3 = s4 := ⟨by decide, rfl, rfl⟩
theorem aw7 : M.vts s4.l 0 = [] ∧ s4.base = 4 ∧ s4.p = ⟨3, 0⟩ := ⟨rfl, rfl, rfl⟩
set_option maxRecDepth 100000 in
set_option maxHeartbeats 2000000 in
theorem awake_any (w : World) : Calls Try.prog 8 #[] w fun e w' => e = .returned (.bool true) ∧ Below w.heap.size w w' := by
  have hnw := newA_any w w (Below.refl _ _)
  go_enter Try.func8, Try.ntmps8
  go_wp2_with fail
  refine hnw.mono ?_
  rintro x w1 ⟨b, F1, rfl, S1, _, _⟩
  have hc1 := S1.promise ⟨2, 0⟩ 0
  rw [aw1.1, aw1.2.1, aw1.2.2] at hc1
  clear S1 hnw
  go_wp2_with fail
  refine hc1.mono ?_
  rintro x w2 ⟨ad2, cp2, rfl, _, _, S2, _⟩
  clear hc1
  have hc2 := S2.accept ⟨0, ⟨1, 0⟩, ⟨#[120]⟩⟩
  rw [aw2.1, aw2.2] at hc2
  clear S2
  go_wp2_with fail
  refine hc2.mono ?_
  rintro x w3 ⟨F3, rfl, S3, _⟩
  clear hc2
  have hc3 := S3.accept v3
  rw [aw3.1, aw3.2] at hc3
  replace hc3 : Calls Try.prog 14 #[.pointer (some ⟨b, 0, none⟩), .agg #[.int .i64 3, .int .i64 2, .int .i64 0, .string ⟨#[120]⟩]] w3 _ := hc3
  clear S3
  go_wp2_with fail
  refine hc3.mono ?_
  rintro x w4 ⟨F4, rfl, S4, _⟩
  clear hc3
  have hc4 := S4.promise ⟨3, 0⟩ 0
  rw [aw4.1, aw4.2.1, aw4.2.2] at hc4
  have HM4 := Hid_of S4.mine
  clear S4
  go_wp2_with fail
  refine hc4.mono ?_
  rintro x w5 ⟨ad5, cp5, rfl, X5, hbk5, S5, _⟩
  clear hc4
  have hc5 := S5.trim 4
  rw [aw5.1, aw5.2] at hc5
  have HX5 := Hid_of X5
  have HK5 : Hid (∀ k, blk ad5 k → ¬ F4 k) := fun k hk hF => by have := (hbk5 k hk).1; have := (HM4.out k hF).2; omega
  clear S5 HM4 X5 hbk5
  go_wp2_with fail
  refine hc5.mono ?_
  rintro x w6 ⟨F6, rfl, S6, R6⟩
  clear hc5
  have HX6 := Hid_of (HX5.out.keepBut fun k hk hb => R6.block k hk (HK5.out k hb))
  have HK6 : Hid (∀ k, blk ad5 k → ¬ F6 k) := fun k hk hF => by
    rcases R6.n k hF with h | h
    · exact HK5.out k hk h
    · obtain ⟨bb, off, e, hc⟩ := HX5.out.at' 0 (by simp)
      obtain ⟨off', st', e'⟩ := hk
      rw [e] at e'
      simp only [Option.some.injEq, Addr.mk.injEq] at e'
      have := World.block_lt_of_cell? w5 _ (hc 0 vl.pos)
      simp only at this
      omega
  have hc6 := S6.promise ⟨4, 0⟩ 3
  rw [aw6.1, aw6.2.1, aw6.2.2] at hc6
  clear S6 HX5 HK5 R6
  go_wp2_with fail
  refine hc6.mono ?_
  rintro x w7 ⟨ad7, cp7, rfl, _, _, S7, R7⟩
  clear hc6
  have HX7 := Hid_of (HX6.out.keepBut fun k hk hb => R7.block k hk (HK6.out k hb))
  obtain ⟨g5, o5, rfl, q0, q1, q2, q3⟩ := HX7.out.at'.getV 0 (by simp)
  replace q3 : w7.cell? ⟨g5, o5 + 0 * 4 + 3, none⟩ = some (.string ⟨#[120]⟩) := q3
  simp only [Nat.zero_mul, Nat.add_zero] at q3
  have hb7 := S7.base
  rw [aw7.2.1] at hb7
  have HS7 := Hid_of S7
  clear S7 HX6 HK6 R7 q0 q1 q2 HX7
  go_wp2_with fail
  refine hb7.mono ?_
  rintro x w8 ⟨rfl, rfl⟩
  clear hb7
  have hp8 := HS7.out.promised
  rw [aw7.2.2] at hp8
  go_wp2_with fail
  refine hp8.mono ?_
  rintro x w9 ⟨rfl, hb9⟩
  have S9 := HS7.out.keep hb9
  have hv9 := S9.votes 0
  rw [aw7.1] at hv9
  have HB9 := Hid_of S9.bel
  have hq := eq28 3 0 3 0
  clear hb9 hp8 S9 q3
  go_wp2_with fail
  refine hv9.mono ?_
  rintro x w10 ⟨ad10, cp10, rfl, _, _, hb10⟩
  have HB10 := Hid_of (bel_up HB9.out hb10 (Nat.le_refl _))
  clear hb10 hv9
  go_wp2
  go_ret
  exact ⟨rfl, HB10.out⟩
end Go.Proofs.Ytbbadfebajpeaaa
