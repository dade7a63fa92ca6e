/- Deeds of both, one behind another. -/
import Derived.Test.YtgcfpihfoekllaaFE

namespace Go.Proofs.Ytgcfpihfoekllaa

open Go.RowKit

set_option linter.unusedVariables false

open Sm (S)

section
variable {w0 w w' w'' : World} {b : Nat} {K K' : Nat → Prop} {v u : Value} {m m' : List S}
/-- Both are new. -/
theorem two_new {w w' : World} (hb : Below w.heap.size w w') (hm : MI w' w.heap.size w.heap.size (.slice none 0 0) [] 0) : Two w w' w.heap.size (fun _ => False) (.slice none 0 0) [] := ⟨⟨hb, _, MM.none hm, fun k hk => hk.elim⟩, DM.nil _ _⟩
/-- One more deed. -/
theorem two_do (h : Two w0 w b K v m) {l : List D} {a : Option Addr} (hl : few l = true) (hat : AtL dl w0 a l) (hok : ∀ d ∈ l, DOk w0 d) (k : Nat) (hk : k < l.length) : Calls Try.prog 11 #[.pointer (some ⟨b, 0, none⟩), v, dV l[k]] w (DoOut w0 w b K (ddD m l[k])) :=
  do_any h l[k] ((hok _ (List.getElem_mem hk)).keep (h.ai.1)) (by have := (few_eq.1 hl).2 _ (List.getElem_mem hk); omega)
theorem dm_at {m : List S} {o : Int} {j : Nat} (hj : j < m.length) : Sm.at' (Sm.dm m o) (j : Int) = some (if Sm.isOw o m[j] then { m[j] with st := 3 } else m[j]) := by
  obtain ⟨q, e⟩ := Sm.at_in (m := Sm.dm m o) (i := (j : Int)) (by omega) (by rw [Sm.dm_len]; omega)
  rw [e]
  simp only [Int.toNat_natCast]
  rw [Sm.dm_take m o j hj]
theorem ids_at {p : S → Bool} {m : List S} {j : Nat} (hj : j < m.length) (hp : p m[j] = true) : ∃ hk : (Sm.ids p m j).length < (Sm.ids p m m.length).length, (Sm.ids p m m.length)[(Sm.ids p m j).length] = (j : Int) := by
  have h1 := Sm.ids_pre p m (a := j + 1) (b := m.length) hj
  rw [Sm.ids_yes hj hp] at h1
  obtain ⟨t, ht⟩ := h1
  refine ⟨by rw [← ht]; simp, ?_⟩
  have : (Sm.ids p m m.length)[(Sm.ids p m j).length]? = some (j : Int) := by
    rw [← ht, List.append_assoc]
    simp
  exact (List.getElem?_eq_some_iff.1 this).2
end

end Go.Proofs.Ytgcfpihfoekllaa
