/- States rise. -/
import Derived.Test.YtgcfpihfoekllaaFF

namespace Go.Proofs.Ytgcfpihfoekllaa

open Go.RowKit

set_option linter.unusedVariables false

open Sm (S)

namespace Sm
/-- A stripe is there still, its state no less. -/
def up (m m' : List S) : Prop := ∀ (j : Nat) (s : S), m[j]? = some s → ∃ s2 : S, m'[j]? = some s2 ∧ s.st ≤ s2.st
theorem up.refl (m : List S) : up m m := fun j s h => ⟨s, h, Int.le_refl _⟩
theorem up_set {m : List S} {i : Nat} (hi : i < m.length) {s : S} (h : m[i].st ≤ s.st) : up m (m.set i s) := fun j t ht => by
  obtain ⟨hj, rfl⟩ := List.getElem?_eq_some_iff.1 ht
  by_cases e : i = j
  · subst e
    exact ⟨s, by simp [hj], h⟩
  · exact ⟨m[j], by rw [List.getElem?_set_ne e]; exact ht, Int.le_refl _⟩
theorem up_dd {m : List S} (g : G m) (k a b c : Int) (l : List Int) : up m (dd m k a b c l) := by
  unfold dd
  split
  · unfold bm
    split
    · intro j s h
      obtain ⟨hj, rfl⟩ := List.getElem?_eq_some_iff.1 h
      exact ⟨m[j], by rw [List.getElem?_append_left hj]; exact h, Int.le_refl _⟩
    · exact up.refl _
  split
  · unfold cm
    rcases cc_cases m a b with ⟨_, e⟩ | ⟨hk, _, _, ⟨_, e⟩ | ⟨_, _, e⟩ | ⟨h1, _, e⟩⟩
    · rw [e]; exact up.refl _
    · rw [e]; exact up.refl _
    · rw [e]; exact up.refl _
    · rw [e, if_pos rfl, stt_eq hk]
      exact up_set hk (by show m[a.toNat].st ≤ 2; omega)
  split
  · unfold fm
    rcases fc_cases m a with ⟨_, e⟩ | ⟨hk, _, _, ⟨_, e⟩ | ⟨h1, e⟩⟩
    · rw [e]; exact up.refl _
    · rw [e]; exact up.refl _
    · rw [e, if_pos rfl, stt_eq hk]
      exact up_set hk (g.get hk).2.1
  split
  · intro j s h
    obtain ⟨hj, rfl⟩ := List.getElem?_eq_some_iff.1 h
    refine ⟨_, List.getElem?_eq_getElem (by rw [dm_len]; exact hj), ?_⟩
    rw [dm_take m a j hj]
    split
    · exact (g.get hj).2.1
    · exact Int.le_refl _
  split
  · unfold mm
    rcases mc_cases m a b c with ⟨_, e⟩ | ⟨h0, h1, h2, ⟨_, _, e⟩ | ⟨hk, _, _, hw, ⟨_, _, e⟩ | ⟨hp, ⟨_, e⟩ | ⟨h3, e⟩⟩⟩⟩
    · rw [e]; exact up.refl _
    · rw [e]; exact up.refl _
    · rw [e]; exact up.refl _
    · rw [e]; exact up.refl _
    · rw [e, if_pos rfl, mv_eq hk]
      exact up_set hk (Int.le_refl _)
  · exact up.refl _
end Sm
open Sm (S)
theorem append_oneE {w0 wr : World} {u : Value} {l : List E} (hown : OwnL stl 34 wr w0.heap.size u l) (hb : Below w0.heap.size w0 wr) (x : E) (hl : l.length ≤ 100000) :
    ∃ a' c' w', Hid (∀ ty, (Builtin.append_ #[27, 27] ty #[u, .slice (some ⟨wr.heap.size, 0, none⟩) 1 1]).run Try.prog (wr.alloc (eO x)) = .ok (.slice a' (l.length + 1) c') w') ∧ OwnL stl 34 w' w0.heap.size (.slice a' (l.length + 1) c') (l ++ [x]) ∧ Below w0.heap.size w0 w' := by
  have hb1 := bel1 wr (eO x)
  obtain ⟨a', c', w', h1, h2, h3⟩ := run_appL_ty tiE (wr.alloc (eO x)) w0.heap.size u l [x] wr.heap.size 0 1 1 (hown.keep hb1) (atL_one (heap_alloc_last wr _)) rfl (bel_up hb hb1 (Nat.le_refl _)).size (by simp; omega)
  exact ⟨a', c', w', h1, h2, (bel_up hb hb1 (Nat.le_refl _)).trans (h3.below (fun k hk => ((hown.keep hb1).lt hk).1) (bel_up hb hb1 (Nat.le_refl _)).size)⟩

end Go.Proofs.Ytgcfpihfoekllaa
