/-
  Calls that are due, one after the other, as plain lists.
-/
import Derived.Test.YtbgbdiiinggjnaaCM
namespace Go.Proofs.Ytbgbdiiinggjnaa.Cl
set_option linter.unusedVariables false
open M (E)

theorem upd_congr {L : List K} {i : Int} {g g' : K → K} (h : ∀ a ∈ L, a.id = i → g a = g' a) : upd L i g = upd L i g' := by
  unfold upd
  apply List.map_congr_left
  intro a ha
  unfold one
  by_cases hi : a.id = i
  · rw [if_pos hi, if_pos hi, h a ha hi]
  · rw [if_neg hi, if_neg hi]
theorem upd_get {L : List K} (hu : Up L) {i : Int} {g g' : K → K} {k : K} (hk : get L i = some k) (h : g k = g' k) : upd L i g = upd L i g' := by
  obtain ⟨h1, h2⟩ := get_some hk
  refine upd_congr fun a ha hi => ?_
  have := hu.inj ha h1 (by rw [hi, h2])
  subst this
  exact h
theorem step_gone {L : List K} (hu : Up L) {i now : Int} {k : K} (hk : get L i = some k) (hs : 8 ≤ k.sent) (me : Int) : upd L i (stepK now) = upd L i goneK ∧ outK me L i = [] := by
  refine ⟨upd_get hu hk ?_, ?_⟩
  · unfold stepK; rw [if_pos hs]
  · unfold outK; rw [hk]; simp [hs]
theorem step_send {L : List K} (hu : Up L) {i now : Int} {k : K} (hk : get L i = some k) (hs : k.sent < 8) (me : Int) : upd L i (stepK now) = upd L i (sendK now) ∧ outK me L i = [msg me k] := by
  have hs' : ¬ 8 ≤ k.sent := by omega
  refine ⟨upd_get hu hk ?_, ?_⟩
  · unfold stepK; rw [if_neg hs']
  · unfold outK; rw [hk]; simp [hs']
theorem run_cons (me now : Int) (i : Int) (r : List Int) (L : List K) (o : List Ms) : run me now (i :: r) L o = run me now r (upd L i (stepK now)) (o ++ outK me L i) := rfl
theorem drop_at {ids : List Int} {j : Nat} (hj : j < ids.length) : ids.drop j = ids[j] :: ids.drop (j + 1) := List.drop_eq_getElem_cons hj
theorem drop_mem {ids : List Int} (hn : ids.Nodup) {j : Nat} (hj : j < ids.length) : ∀ x, x ∈ ids.drop (j + 1) ↔ x ∈ ids.drop j ∧ x ≠ ids[j] := by
  intro x
  rw [drop_at hj]
  have hnd : (ids.drop j).Nodup := hn.sublist (List.drop_sublist _ _)
  rw [drop_at hj, List.nodup_cons] at hnd
  constructor
  · intro h
    exact ⟨List.mem_cons_of_mem _ h, fun e => hnd.1 (by rw [← e]; exact h)⟩
  · rintro ⟨h, hne⟩
    rw [List.mem_cons] at h
    rcases h with h | h
    · exact absurd h hne
    · exact h
theorem dueI_nodup {P : List E} (hg : M.G P) (now : Int) : (M.dueI P now).Nodup := by
  unfold M.dueI List.Nodup
  rw [List.pairwise_map]
  exact List.Pairwise.filter _ hg.u
theorem ids_in {me next : Int} {O : List W} {P : List E} {f : Int → Option (Int × ByteArray)} {n : Nat} {L : List K} {R : List Int} (h : Rel me next O P f n L R) : ∀ x ∈ O, 0 ≤ x.id ∧ x.id ≤ 2147483647 := by
  intro x hx
  rw [h.o] at hx
  obtain ⟨k, hk, rfl⟩ := List.mem_map.1 hx
  have hk := h.l.k k (mem_opn.1 hk).1
  have h1 := hk.i0
  have h2 := hk.i1
  have := h.nx
  exact ⟨h1, by show k.id ≤ _; omega⟩
end Go.Proofs.Ytbgbdiiinggjnaa.Cl
