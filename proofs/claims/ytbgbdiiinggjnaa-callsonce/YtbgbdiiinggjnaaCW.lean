/-
  The chapter's example; messages compared.
-/
import Derived.Test.YtbgbdiiinggjnaaCK
namespace Go.Proofs.Ytbgbdiiinggjnaa
open Go.RowKit
set_option linter.unusedVariables false
open M (E)
open Cl (K W Ms fup Rel)

/-- Are two messages alike? -/
def meq (k f t i : Int) (s : ByteArray) (k' f' t' i' : Int) (s' : ByteArray) : Bool := (k == k') && ((f == f') && ((t == t') && ((i == i') && (s.toList == s'.toList))))
theorem meq_refl (k f t i : Int) (s : ByteArray) : meq k f t i s k f t i s = true := by simp [meq]
set_option maxHeartbeats 400000 in
theorem equal32 (k f t i : Int) (s : ByteArray) (k' f' t' i' : Int) (s' : ByteArray) (w : World) : (Op.equalIn 10000 32 (.agg #[.int .i64 k, .int .i64 f, .int .i64 t, .int .i64 i, .string s]) (.agg #[.int .i64 k', .int .i64 f', .int .i64 t', .int .i64 i', .string s'])).run Try.prog w = .ok (meq k f t i s k' f' t' i' s') w := by
  have u3 := Try.underlying3
  have u9 := Try.underlying9
  have a3 := Try.isAgg3
  have a9 := Try.isAgg9
  have z3 := Try.sizeOf3
  have z9 := Try.sizeOf9
  have hS : Try.prog.underlying 32 = some (.struct (Try.prog.fieldsOf 32)) := by kernel_rfl
  have hp : Try.prog.stoodInHeld 32 = false := by kernel_rfl
  rw [show (10000 : Nat) = 9999 + 1 from rfl, run_equalIn_agg w 9999 32 _ _ hS hp]
  simp only [Program.fieldsOf, Try.underlying32]
  unfold meq
  cases h1 : k == k' with
  | false => go_simp
  | true =>
  cases h2 : f == f' with
  | false => go_simp
  | true =>
  cases h3 : t == t' with
  | false => go_simp
  | true =>
  cases h4 : i == i' with
  | false => go_simp
  | true =>
    go_simp
    by_cases h : s.toList = s'.toList
    · simp [h]
    · simp [h]
theorem eq32 (k f t i : Int) (s : ByteArray) (w : World) : (binOp .eql 32 (.agg #[.int .i64 k, .int .i64 f, .int .i64 t, .int .i64 i, .string s]) (.agg #[.int .i64 k, .int .i64 f, .int .i64 t, .int .i64 i, .string s])).run Try.prog w = .ok (.bool true) w := by
  rw [run_eql_struct, equal32, meq_refl]
  rfl
theorem ne32 (k f t i : Int) (s : ByteArray) (w : World) : (binOp .neq 32 (.agg #[.int .i64 k, .int .i64 f, .int .i64 t, .int .i64 i, .string s]) (.agg #[.int .i64 k, .int .i64 f, .int .i64 t, .int .i64 i, .string s])).run Try.prog w = .ok (.bool false) w := by
  rw [run_neq_struct, equal32, meq_refl]
  rfl
theorem Cl.dues_one {k : K} (hk : k.st = 1) {now : Int} {ids : List Int} (h : Cl.Dues [k] now ids) : ids = if k.due ≤ now then [k.id] else [] := by
  obtain ⟨Q, hs, hm, rfl⟩ := h
  have ho : Cl.opn [k] = [k] := by unfold Cl.opn Cl.op; simp [hk]
  rw [ho] at hm
  by_cases hd : k.due ≤ now
  · rw [if_pos hd]
    match Q, hs, hm with
    | [], _, hm => exact absurd ((hm ⟨k.id, k.due⟩).2 ⟨k, by simp, rfl, hd⟩) (by simp)
    | [e], _, hm =>
      obtain ⟨k', hk', rfl, _⟩ := (hm e).1 (by simp)
      simp only [List.mem_singleton] at hk'
      subst hk'
      rfl
    | e :: e2 :: r, hs, hm =>
      obtain ⟨k1, hk1, rfl, _⟩ := (hm e).1 (by simp)
      obtain ⟨k2, hk2, rfl, _⟩ := (hm e2).1 (by simp)
      simp only [List.mem_singleton] at hk1 hk2
      subst hk1 hk2
      rw [List.pairwise_cons] at hs
      exact absurd (hs.1 _ List.mem_cons_self) (fun h => M.lt_irr h)
  · rw [if_neg hd]
    match Q, hm with
    | [], _ => rfl
    | e :: r, hm =>
      obtain ⟨k', hk', rfl, hd'⟩ := (hm e).1 (by simp)
      simp only [List.mem_singleton] at hk'
      subst hk'
      exact absurd hd' hd
theorem Cl.dues_none {k : K} (hk : k.st ≠ 1) {now : Int} {ids : List Int} (h : Cl.Dues [k] now ids) : ids = [] := by
  obtain ⟨Q, hs, hm, rfl⟩ := h
  have ho : Cl.opn [k] = [] := by unfold Cl.opn Cl.op; simp [hk]
  rw [ho] at hm
  match Q, hm with
  | [], _ => rfl
  | e :: r, hm =>
    obtain ⟨k', hk', _⟩ := (hm e).1 (by simp)
    simp at hk'
def sa : ByteArray := ⟨#[97]⟩
def sb : ByteArray := ⟨#[98]⟩
def s0 : ByteArray := ⟨#[]⟩
def kA (sent due : Int) : K := ⟨7, 3, 1, sent, due, sa, s0⟩
theorem aw1 : Cl.ccode (Cl.opn []).length 7 3 sa.size 0 = 0 ∧ Cl.callN (Cl.opn []).length 7 3 sa.size 0 = 7 ∧ Cl.callX (Cl.opn []).length 7 3 sa.size 0 = 8 ∧ Cl.callL [] 7 3 0 sa = [kA 0 0] := ⟨rfl, rfl, rfl, rfl⟩
theorem aw2 : Cl.ccode (Cl.opn [kA 0 0]).length 8 64 sa.size 0 = 1 ∧ Cl.callN (Cl.opn [kA 0 0]).length 8 64 sa.size 0 = 0 ∧ Cl.callX (Cl.opn [kA 0 0]).length 8 64 sa.size 0 = 8 ∧ Cl.callL [kA 0 0] 8 64 0 sa = [kA 0 0] := ⟨rfl, rfl, rfl, rfl⟩
def mA : Ms := ⟨1, 2, 3, 7, sa⟩
theorem aw3 : Cl.run 2 0 [7] [kA 0 0] [] = ([kA 1 4], [mA]) := rfl
theorem aw4 : Cl.run 2 3 [] [kA 1 4] [] = ([kA 1 4], []) := rfl
theorem aw5 : Cl.run 2 4 [7] [kA 1 4] [] = ([kA 2 12], [mA]) := rfl
theorem aw6 : Cl.run 2 12 [7] [kA 2 12] [] = ([kA 3 28], [mA]) := rfl
theorem aw7 : Cl.isA 2 [kA 3 28] ⟨2, 4, 2, 7, s0⟩ = false ∧ Cl.ans 2 [kA 3 28] ⟨2, 4, 2, 7, s0⟩ = [kA 3 28] := ⟨rfl, rfl⟩
def kB : K := ⟨7, 3, 2, 3, 28, sa, sb⟩
theorem aw8 : Cl.isA 2 [kA 3 28] ⟨2, 3, 2, 7, sb⟩ = true ∧ Cl.ans 2 [kA 3 28] ⟨2, 3, 2, 7, sb⟩ = [kB] := ⟨rfl, rfl⟩
theorem aw9 : Cl.stS [kB] 7 = 2 ∧ Cl.stR [kB] 7 = sb := ⟨rfl, rfl⟩
theorem aw10 : (Cl.en [kB] 7).isSome = true ∧ Cl.fgt [kB] 7 = [] := ⟨rfl, rfl⟩
theorem aw11 : (Cl.en [] 7).isSome = false ∧ Cl.fgt [] 7 = [] := ⟨rfl, rfl⟩
end Go.Proofs.Ytbgbdiiinggjnaa
