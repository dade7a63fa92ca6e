/-
  Rows of messages of one's own; messages compared.
-/
import Derived.Test.YtjbodjjeenjbeaaNP
import Derived.Test.YtjbodjjeenjbeaaNQ
namespace Go.Proofs.Ytjbodjjeenjbeaa
open Go.RowKit
set_option linter.unusedVariables false
open Nt (Pk)

/-- A message. -/
structure Ms where
  k : Int
  f : Int
  t : Int
  i : Int
  b : List UInt8
def Ms.ck (m : Ms) : Int := Msg.chk m.k m.f m.t m.i m.b.length
def Ms.ec (m : Ms) : ByteArray := ofL (Msg.ecode m.k m.f m.t m.i m.b)
def Ms.cs (m : Ms) : List Value := [.int .i64 m.k, .int .i64 m.f, .int .i64 m.t, .int .i64 m.i, .string (ofL m.b)]
/-- The cells of messages. -/
def MC : List Ms → List Value
  | [] => []
  | m :: r => m.cs ++ MC r
theorem MC_app : ∀ l q, MC (l ++ q) = MC l ++ MC q
  | [], q => rfl
  | p :: r, q => by rw [List.cons_append, MC, MC_app r q, MC, List.append_assoc]
theorem MC_len : ∀ l, (MC l).length = l.length * 5
  | [] => rfl
  | p :: r => by rw [MC, List.length_append, MC_len r]; simp [Ms.cs]; omega
theorem MC_get : ∀ (l : List Ms) (j : Nat) (h : j < l.length) (o : Nat) (ho : o < 5), (MC l)[j * 5 + o]? = some ((l[j].cs)[o]'ho)
  | [], j, h, o, ho => by simp at h
  | p :: r, 0, h, o, ho => by
    rw [MC, Nat.zero_mul, Nat.zero_add, List.getElem?_append_left (by exact ho), List.getElem?_eq_getElem (by exact ho)]
    rfl
  | p :: r, j + 1, h, o, ho => by
    have := MC_get r j (by simpa using h) o ho
    rw [MC, List.getElem?_append_right (by simp [Ms.cs]; omega), show (j + 1) * 5 + o - p.cs.length = j * 5 + o by simp [Ms.cs]; omega]
    exact this
theorem MC_one : ∀ (l : List Ms), ∀ v ∈ MC l, v.oneCell' = true
  | [], v, h => by simp [MC] at h
  | p :: r, v, h => by
    simp only [MC, List.mem_append, Ms.cs, List.mem_cons, List.not_mem_nil, or_false] at h
    rcases h with (rfl | rfl | rfl | rfl | rfl) | h
    · rfl
    · rfl
    · rfl
    · rfl
    · rfl
    · exact MC_one r v h
/-- A slice of messages in memory. -/
def AtM (w : World) (a : Option Addr) (l : List Ms) : Prop :=
  ∀ j (h : j < l.length), ∃ b off, a = some ⟨b, off, none⟩ ∧ (w.cell? ⟨b, off + j * 5, none⟩ = some (.int .i64 l[j].k) ∧ w.cell? ⟨b, off + j * 5 + 1, none⟩ = some (.int .i64 l[j].f) ∧ w.cell? ⟨b, off + j * 5 + 2, none⟩ = some (.int .i64 l[j].t) ∧ w.cell? ⟨b, off + j * 5 + 3, none⟩ = some (.int .i64 l[j].i) ∧ w.cell? ⟨b, off + j * 5 + 4, none⟩ = some (.string (ofL l[j].b)))
/-- A row of them of one's own. -/
def OwnM (w : World) (base : Nat) (v : Value) (l : List Ms) : Prop := w.ownsRow base 33 5 v l.length (MC l)
theorem OwnM.nil (w : World) (base : Nat) : OwnM w base (.slice none 0 0) [] := World.ownsRow_nil _ _ _ _
theorem OwnM.keepBut {w w1 : World} {base : Nat} {v : Value} {l : List Ms} (h : OwnM w base v l) (hb : ∀ k, k < w.heap.size → v.ownBlock = some k → w1.heap[k]? = w.heap[k]?) : OwnM w1 base v l := owns_keepBut h hb
theorem OwnM.keep {w w1 : World} {base : Nat} {v : Value} {l : List Ms} (h : OwnM w base v l) (hb : Below w.heap.size w w1) : OwnM w1 base v l := owns_keepBut h fun k hk _ => hb.block k hk
theorem OwnM.lt {w : World} {base : Nat} {v : Value} {l : List Ms} (h : OwnM w base v l) {b : Nat} (hb : v.ownBlock = some b) : base ≤ b ∧ b < w.heap.size := World.ownsRow.lt h b hb
theorem OwnM.at {w : World} {base : Nat} {v : Value} {l : List Ms} (h : OwnM w base v l) : ∃ a cap, v = .slice a l.length cap ∧ AtM w a l := by
  rcases h.2 with ⟨rfl, h0⟩ | ⟨g, cap, cur, rfl, hb', hh, hc, hm, hs, ht⟩
  · have e : l = [] := List.length_eq_zero_iff.1 h0
    subst e
    exact ⟨_, 0, rfl, fun j h => by simp at h⟩
  · refine ⟨some ⟨g, 0, none⟩, cap, rfl, fun j hj => ⟨g, 0, rfl, ?_⟩⟩
    have key : ∀ (o : Nat) (ho : o < 5), w.cell? ⟨g, 0 + j * 5 + o, none⟩ = some ((l[j].cs)[o]'ho) := fun o ho => by
      have := World.ownsRow.cells h (g := g) rfl (j * 5 + o) _ (MC_get l j hj o ho)
      rwa [show ((⟨g, 0, none⟩ : Addr).add (j * 5 + o)) = ⟨g, 0 + j * 5 + o, none⟩ by unfold Addr.add; split <;> simp_all] at this
    exact ⟨key 0 (by omega), key 1 (by omega), key 2 (by omega), key 3 (by omega), key 4 (by omega)⟩
theorem hi33 : Try.prog.info? 33 = some Try.t33 := by kernel_rfl
theorem hz33 : Try.t33.zero = some (.agg #[.int .i64 0, .int .i64 0, .int .i64 0, .int .i64 0, .string ⟨#[]⟩]) := rfl
theorem hs33 : Try.t33.size = 5 := rfl
theorem hb33 : Try.t33.bytes = 48 := rfl
/-- One more. -/
theorem run_appM (w : World) (ty : TypeId) (base : Nat) (v : Value) (l : List Ms) (m : Ms) (g : Nat) (hown : OwnM w base v l) (hg : w.heap[g]? = some (.cells #[.int .i64 m.k, .int .i64 m.f, .int .i64 m.t, .int .i64 m.i, .string (ofL m.b)] 33 (0, 0))) (hb : base ≤ w.heap.size) (hl : l.length ≤ 1000000) :
    ∃ a' c' w', (Builtin.append_ #[55, 55] ty #[v, .slice (some ⟨g, 0, none⟩) 1 1]).run Try.prog w = .ok (.slice a' (l.length + 1) c') w' ∧ OwnM w' base (.slice a' (l.length + 1) c') (l ++ [m]) ∧ Rw w v w' (.slice a' (l.length + 1) c') := by
  have hat : ∀ j u, (MC [m])[j]? = some u → w.cell? ((⟨g, 0, none⟩ : Addr).add j) = some u := by
    intro j u hu
    have hj : j < 5 := by
      have := (List.getElem?_eq_some_iff.1 hu).1
      rw [MC_len] at this
      simpa using this
    rw [add_none, Nat.zero_add]
    rw [cell_of_row w g j _ _ _ hg]
    rw [← hu]
    simp [MC, Ms.cs]
  obtain ⟨v', w', hr, h2, h3, _, h5⟩ := run_append_own_at (P := Try.prog) w base 55 ty 33 Try.t33 _ 5 48 Try.underlying55 hi33 hz33 hs33 hb33 rfl (by decide) v l.length (MC l) hown ⟨g, 0, none⟩ 1 1 (MC [m]) (MC_len [m]) hat (MC_one [m]) (by unfold maxLen; omega) (by omega) hb
  have ho : OwnM w' base v' (l ++ [m]) := by
    unfold OwnM
    rw [MC_app, List.length_append]
    exact h2
  obtain ⟨a', c', rfl, _⟩ := ho.at
  rw [List.length_append] at hr ho h5 h2
  refine ⟨a', c', w', hr, ho, h3, fun k hk => ?_⟩
  rcases h5 with h5 | h5
  · exact .inl (by rw [← h5]; exact hk)
  · have h6 : (Value.slice a' (l.length + 1) c').ownBlock = some w.heap.size := h5
    rw [h6] at hk
    cases hk
    exact .inr (Nat.le_refl _)
/-- Are two messages alike? -/
def meq (k f t i : Int) (s : ByteArray) (k' f' t' i' : Int) (s' : ByteArray) : Bool := (k == k') && ((f == f') && ((t == t') && ((i == i') && (s.toList == s'.toList))))
set_option maxHeartbeats 400000 in
theorem eqs33 (k f t i : Int) (s : ByteArray) (k' f' t' i' : Int) (s' : ByteArray) (w : World) : (binOp .eql 33 (.agg #[.int .i64 k, .int .i64 f, .int .i64 t, .int .i64 i, .string s]) (.agg #[.int .i64 k', .int .i64 f', .int .i64 t', .int .i64 i', .string s'])).run Try.prog w = .ok (.bool (meq k f t i s k' f' t' i' s')) w := by
  have u3 := Try.underlying3
  have u9 := Try.underlying9
  have a3 := Try.isAgg3
  have a9 := Try.isAgg9
  have z3 := Try.sizeOf3
  have z9 := Try.sizeOf9
  have hS : Try.prog.underlying 33 = some (.struct (Try.prog.fieldsOf 33)) := by kernel_rfl
  have hp : Try.prog.stoodInHeld 33 = false := by kernel_rfl
  rw [run_eql_struct, show (10000 : Nat) = 9999 + 1 from rfl, run_equalIn_agg w 9999 33 _ _ hS hp]
  simp only [Program.fieldsOf, Try.underlying33]
  unfold meq
  cases h1 : k == k' with
  | false => go_simp
  | true =>
  cases h2 : f == f' with
  | false => go_simp
  | true =>
  cases h3 : t == t' with
  | false => go_simp
  | true =>
  cases h4 : i == i' with
  | false => go_simp
  | true =>
    go_simp
    by_cases h : s.toList = s'.toList
    · simp [h]
    · simp [h]
theorem meq_iff (k f t i : Int) (s : ByteArray) (k' f' t' i' : Int) (s' : ByteArray) : meq k f t i s k' f' t' i' s' = true ↔ k = k' ∧ f = f' ∧ t = t' ∧ i = i' ∧ s = s' := by
  unfold meq
  simp only [Bool.and_eq_true, beq_iff_eq]
  constructor
  · rintro ⟨h1, h2, h3, h4, h5⟩
    refine ⟨h1, h2, h3, h4, ?_⟩
    apply ByteArray.ext
    apply Array.ext'
    rw [ByteArray.toList_eq, ByteArray.toList_eq] at h5
    exact h5
  · rintro ⟨rfl, rfl, rfl, rfl, rfl⟩
    exact ⟨rfl, rfl, rfl, rfl, rfl⟩
end Go.Proofs.Ytjbodjjeenjbeaa
