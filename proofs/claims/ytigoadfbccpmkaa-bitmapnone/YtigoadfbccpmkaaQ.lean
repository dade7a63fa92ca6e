/-
  Arrays held against each other.
-/
import Derived.Test.YtigoadfbccpmkaaC
import Derived.DeepKeys
namespace Go.Proofs.Ytigoadfbccpmkaa
open Go.RowKit
set_option linter.unusedVariables false

/-- Are the words alike? -/
def eqw (f g : Nat → Bool) : Bool := (List.range 64).all fun k => M.wd f k == M.wd g k
theorem eqw_iff (f g : Nat → Bool) : eqw f g = true ↔ ∀ i, i < 4096 → f i = g i := by
  simp only [eqw, List.all_eq_true, List.mem_range, beq_iff_eq]
  constructor
  · intro h i hi
    have := M.wd_inj f g (i / 64) (h (i / 64) (by omega)) (i % 64) (Nat.mod_lt _ (by decide))
    rwa [show 64 * (i / 64) + i % 64 = i by omega] at this
  · intro h k hk
    exact M.wd_congr _ _ _ fun j hj => h _ (by omega)
theorem part62 (f : Nat → Bool) (k : Nat) (hk : k < 64) (w : World) : (part 62 (WA f) (k * 1)).run Try.prog w = .ok (.int .u64 (M.wd f k)) w := by
  have hg := WA_get f k hk
  rw [Nat.mul_one]
  simp only [part, Sem.run_bind, Try.isAgg62, Result.andThen_ok, Bool.false_eq_true, if_false, hg, Sem.run_pure]
theorem items64 (f g : Nat → Bool) (w : World) : ∀ is : List Nat, (∀ k ∈ is, k < 64) → (Op.eqItems 9999 62 1 (WA f) (WA g) is).run Try.prog w = .ok (is.all fun k => M.wd f k == M.wd g k) w
  | [], _ => by simp [Op.eqItems]
  | k :: is, h => by
    have ih := items64 f g w is (fun j hj => h j (by simp [hj]))
    have he := run_equalIn_int (P := Try.prog) w 9998 62 .u64 .u64 (M.wd f k) (M.wd g k) Try.underlying62
    simp only [Op.eqItems, Sem.run_bind, part62 f k (h k (by simp)) w, part62 g k (h k (by simp)) w, Result.andThen_ok, he, List.all_cons]
    have e : (((M.wd f k : Nat) : Int) == ((M.wd g k : Nat) : Int)) = (M.wd f k == M.wd g k) := by
      rw [Bool.eq_iff_iff]; simp; omega
    rw [e]
    cases (M.wd f k == M.wd g k)
    · simp
    · simpa using ih
theorem equal64 (f g : Nat → Bool) (w : World) : (Op.equalIn 10000 64 (.agg (WA f)) (.agg (WA g))).run Try.prog w = .ok (eqw f g) w := by
  rw [run_equalIn_array w 9999 (WA f) (WA g) Try.underlying64 (show Try.prog.info? 62 = some Try.t62 from rfl)]
  exact items64 f g w (List.range 64) (fun k hk => List.mem_range.1 hk)
theorem store64_new (w : World) (g : Nat → Bool) : (st64 ⟨w.heap.size, 0, none⟩ (WA g)).run Try.prog (w.alloc (.cells (WA M.nof) 64)) = .ok () (w.alloc (.cells (WA g) 64)) := by
  rw [store64_row _ _ g M.nof (heap_alloc_last w _), World.setRow_alloc_new]
theorem MIs.alloc {w : World} {b n : Nat} {f : Nat → Bool} (h : MIs w b n f) (o : Obj) : MIs (w.alloc o) b n f := h.keep (Below.heap_alloc w o b h.lt)
end Go.Proofs.Ytigoadfbccpmkaa
