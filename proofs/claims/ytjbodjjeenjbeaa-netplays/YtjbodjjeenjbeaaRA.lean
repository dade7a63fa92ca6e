/-
  The document's net: its rows in memory; links compared.
-/
import Derived.Test.YtjbodjjeenjbeaaNP
import Derived.Laws.StructEq
namespace Go.Proofs.Ytjbodjjeenjbeaa
open Go.RowKit
set_option linter.unusedVariables false
open Nt (Pk)

/-- The cells of links. -/
def LC : List (Int × Int) → List Value
  | [] => []
  | p :: r => .int .i64 p.1 :: .int .i64 p.2 :: LC r
theorem LC_app : ∀ l q, LC (l ++ q) = LC l ++ LC q
  | [], q => rfl
  | p :: r, q => by rw [List.cons_append, LC, LC_app r q]; rfl
theorem LC_len : ∀ l, (LC l).length = l.length * 2
  | [] => rfl
  | p :: r => by rw [LC]; simp [LC_len r]; omega
theorem LC_get : ∀ (l : List (Int × Int)) (j : Nat) (h : j < l.length), (LC l)[j * 2]? = some (.int .i64 l[j].1) ∧ (LC l)[j * 2 + 1]? = some (.int .i64 l[j].2)
  | [], j, h => by simp at h
  | p :: r, 0, h => by simp [LC]
  | p :: r, j + 1, h => by
    have := LC_get r j (by simpa using h)
    rw [LC, show (j + 1) * 2 = j * 2 + 1 + 1 by omega]
    simpa using this
theorem LC_one : ∀ (l : List (Int × Int)), ∀ v ∈ LC l, v.oneCell' = true
  | [], v, h => by simp [LC] at h
  | p :: r, v, h => by
    simp only [LC, List.mem_cons] at h
    rcases h with rfl | rfl | h
    · rfl
    · rfl
    · exact LC_one r v h
/-- A slice of links in memory. -/
def AtL (w : World) (a : Option Addr) (l : List (Int × Int)) : Prop :=
  ∀ j (h : j < l.length), ∃ b off, a = some ⟨b, off, none⟩ ∧ w.cell? ⟨b, off + j * 2, none⟩ = some (.int .i64 l[j].1) ∧ w.cell? ⟨b, off + j * 2 + 1, none⟩ = some (.int .i64 l[j].2)
theorem AtL.keepBut {w w' : World} {a : Option Addr} {l : List (Int × Int)} (h : AtL w a l) (hb : ∀ k, k < w.heap.size → blk a k → w'.heap[k]? = w.heap[k]?) : AtL w' a l := by
  intro j hj
  obtain ⟨b, off, rfl, h0, h1⟩ := h j hj
  have hk := hb b (World.block_lt_of_cell? w _ h0) ⟨off, none, rfl⟩
  exact ⟨b, off, rfl, (World.cell?_of_block (w := w) (a := ⟨b, off + j * 2, none⟩) hk).trans h0, (World.cell?_of_block (w := w) (a := ⟨b, off + j * 2 + 1, none⟩) hk).trans h1⟩
theorem AtL.keep {w w' : World} {a : Option Addr} {l : List (Int × Int)} (h : AtL w a l) (hb : Below w.heap.size w w') : AtL w' a l := h.keepBut fun k hk _ => hb.block k hk
/-- A row of links of one's own. -/
def OwnL (w : World) (base : Nat) (v : Value) (l : List (Int × Int)) : Prop := w.ownsRow base 85 2 v l.length (LC l)
theorem OwnL.nil (w : World) (base : Nat) : OwnL w base (.slice none 0 0) [] := World.ownsRow_nil _ _ _ _
theorem OwnL.keepBut {w w1 : World} {base : Nat} {v : Value} {l : List (Int × Int)} (h : OwnL w base v l) (hb : ∀ k, k < w.heap.size → v.ownBlock = some k → w1.heap[k]? = w.heap[k]?) : OwnL w1 base v l := owns_keepBut h hb
theorem OwnL.keep {w w1 : World} {base : Nat} {v : Value} {l : List (Int × Int)} (h : OwnL w base v l) (hb : Below w.heap.size w w1) : OwnL w1 base v l := owns_keepBut h fun k hk _ => hb.block k hk
theorem OwnL.low {w : World} {base base' : Nat} {v : Value} {l : List (Int × Int)} (h : OwnL w base v l) (hb : base' ≤ base) : OwnL w base' v l := owns_base h hb
theorem OwnL.lt {w : World} {base : Nat} {v : Value} {l : List (Int × Int)} (h : OwnL w base v l) {b : Nat} (hb : v.ownBlock = some b) : base ≤ b ∧ b < w.heap.size := World.ownsRow.lt h b hb
theorem OwnL.at {w : World} {base : Nat} {v : Value} {l : List (Int × Int)} (h : OwnL w base v l) : ∃ a cap, v = .slice a l.length cap ∧ AtL w a l ∧ ∀ k, blk a k → base ≤ k ∧ v.ownBlock = some k ∧ k < w.heap.size := by
  rcases h.2 with ⟨rfl, h0⟩ | ⟨g, cap, cur, rfl, hb', hh, hc, hm, hs, ht⟩
  · have e : l = [] := List.length_eq_zero_iff.1 h0
    subst e
    exact ⟨_, 0, rfl, (fun j h => by simp at h), (fun k hk => by obtain ⟨_, _, h⟩ := hk; cases h)⟩
  · refine ⟨some ⟨g, 0, none⟩, cap, rfl, fun j hj => ⟨g, 0, rfl, ?_⟩, (fun k hk => by obtain ⟨_, _, h⟩ := hk; simp at h; obtain ⟨rfl, _⟩ := h; exact ⟨hb', rfl, (Array.getElem?_eq_some_iff.1 hh).1⟩)⟩
    have hr := LC_get l j hj
    have key : ∀ (i : Nat) (u : Value), (LC l)[i]? = some u → w.cell? ⟨g, 0 + i, none⟩ = some u := fun i u hu => by
      have := World.ownsRow.cells h (g := g) rfl i u hu
      rwa [show ((⟨g, 0, none⟩ : Addr).add i) = ⟨g, 0 + i, none⟩ by unfold Addr.add; split <;> simp_all] at this
    exact ⟨key _ _ hr.1, key _ _ hr.2⟩
theorem hi85 : Try.prog.info? 85 = some Try.t85 := by kernel_rfl
theorem hz85 : Try.t85.zero = some (.agg #[.int .i64 0, .int .i64 0]) := rfl
theorem hs85 : Try.t85.size = 2 := rfl
theorem hb85 : Try.t85.bytes = 16 := rfl
/-- One more. -/
theorem run_appL (w : World) (ty : TypeId) (base : Nat) (v : Value) (l : List (Int × Int)) (x y : Int) (g : Nat) (hown : OwnL w base v l) (hg : w.heap[g]? = some (.cells #[.int .i64 x, .int .i64 y] 85 (0, 0))) (hb : base ≤ w.heap.size) (hl : l.length ≤ 1000000) :
    ∃ a' c' w', (Builtin.append_ #[28, 28] ty #[v, .slice (some ⟨g, 0, none⟩) 1 1]).run Try.prog w = .ok (.slice a' (l.length + 1) c') w' ∧ OwnL w' base (.slice a' (l.length + 1) c') (l ++ [(x, y)]) ∧ Rw w v w' (.slice a' (l.length + 1) c') := by
  have hat : ∀ j u, (LC [(x, y)])[j]? = some u → w.cell? ((⟨g, 0, none⟩ : Addr).add j) = some u := by
    intro j u hu
    rw [show ((⟨g, 0, none⟩ : Addr).add j) = ⟨g, j, none⟩ by unfold Addr.add; split <;> simp_all, cell_of_row w g j _ _ _ hg, ← hu]
    simp [LC]
  obtain ⟨v', w', hr, h2, h3, _, h5⟩ := run_append_own_at (P := Try.prog) w base 28 ty 85 Try.t85 _ 2 16 Try.underlying28 hi85 hz85 hs85 hb85 rfl (by decide) v l.length (LC l) hown ⟨g, 0, none⟩ 1 1 (LC [(x, y)]) (LC_len [(x, y)]) hat (LC_one [(x, y)]) (by unfold maxLen; omega) (by omega) hb
  have ho : OwnL w' base v' (l ++ [(x, y)]) := by
    unfold OwnL
    rw [LC_app, List.length_append]
    exact h2
  obtain ⟨a', c', rfl, _⟩ := ho.at
  rw [List.length_append] at hr ho h5 h2
  refine ⟨a', c', w', hr, ho, h3, fun k hk => ?_⟩
  rcases h5 with h5 | h5
  · exact .inl (by rw [← h5]; exact hk)
  · have h6 : (Value.slice a' (l.length + 1) c').ownBlock = some w.heap.size := h5
    rw [h6] at hk
    cases hk
    exact .inr (Nat.le_refl _)
set_option maxHeartbeats 400000 in
theorem equal85 (a b c d : Int) (w : World) : (Op.equalIn 10000 85 (.agg #[.int .i64 a, .int .i64 b]) (.agg #[.int .i64 c, .int .i64 d])).run Try.prog w = .ok ((a == c) && (b == d)) w := by
  have he := fun x y => run_equalIn_int (P := Try.prog) w 9998 3 .i64 .i64 x y Try.underlying3
  have a3 := Try.isAgg3
  rw [run_equalIn_array w 9999 _ _ Try.underlying85 (show Try.prog.info? 3 = some Try.t3 from by kernel_rfl)]
  simp only [show List.range 2 = [0, 1] from rfl, Op.eqItems, Sem.run_bind, part, a3, Result.andThen_ok]
  cases h1 : a == c
  · simp [he, h1]
  · cases h2 : b == d <;> simp [he, h1, h2, Try.cells3]
theorem eq85 (a b c d : Int) (w : World) : (binOp .eql 85 (.agg #[.int .i64 a, .int .i64 b]) (.agg #[.int .i64 c, .int .i64 d])).run Try.prog w = .ok (.bool ((a == c) && (b == d))) w := by
  rw [run_eql_struct, equal85]
  rfl
theorem ne85 (a b c d : Int) (w : World) : (binOp .neq 85 (.agg #[.int .i64 a, .int .i64 b]) (.agg #[.int .i64 c, .int .i64 d])).run Try.prog w = .ok (.bool (!((a == c) && (b == d)))) w := by
  rw [run_neq_struct, equal85]
  rfl
end Go.Proofs.Ytjbodjjeenjbeaa
