import Derived.Lib.Hide
import Derived.WalkKit
namespace Go.Proofs.YtgodnpngdbelhaaGreat
open Go.RowKit
set_option linter.unusedVariables false
theorem Lr {n : Nat} : n ≤ n := Nat.le_refl n
theorem Nh {α : Sort _} (e : α) : ∃ x, Hid (e = x) := ⟨e, rfl⟩
theorem Nq {α : Sort _} (e : α) : ∃ x, e = x := ⟨e, rfl⟩
abbrev Bl (w W : World) : Prop := Below w.heap.size w W
theorem Nv (P : World → Prop) : ∃ S : World → Prop, Hid (S = P) ∧ Hid (∀ w, S w → P w) := ⟨P, rfl, fun _ h => h⟩
theorem Pz : (∀ (l : List Value) (i : Nat) (a : Value), l.toArray.setIfInBounds i a = (l.set i a).toArray) ∧ (∀ (a b : Value) (l : List Value), (a :: l).set 0 b = b :: l) ∧ (∀ (a b : Value) (l : List Value) (n : Nat), (a :: l).set (n + 1) b = a :: l.set n b) := ⟨fun _ _ _ => List.setIfInBounds_toArray _ _ _, fun _ _ _ => List.set_cons_zero, fun _ _ _ _ => List.set_cons_succ⟩
end Go.Proofs.YtgodnpngdbelhaaGreat
