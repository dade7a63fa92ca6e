/-
  Behind a Put or a Delete that is cut, and a crash: what is there.
-/
import Derived.Test.YticjilpomdahbaaGreatOnceW
namespace Go.Proofs.YticjilpomdahbaaGreat
open Go.RowKit
open M (ofL ofL_size ofL_of)
set_option linter.unusedVariables false

theorem ne24 (x y a b : Int) (w : World) : (binOp .neq 24 (.agg #[.int .i64 x, .int .i64 y]) (.agg #[.int .i64 a, .int .i64 b])).run Tryz.prog w = .ok (.bool (!(decide (x = a) && decide (y = b)))) w := by
  have u3 := Tryz.underlying3
  have a3 := Tryz.isAgg3
  have z3 := Tryz.sizeOf3
  have hS : Tryz.prog.underlying 24 = some (.struct (Tryz.prog.fieldsOf 24)) := by kernel_rfl
  have hp : Tryz.prog.stoodInHeld 24 = false := by kernel_rfl
  rw [run_neq_struct, show (10000 : Nat) = 9999 + 1 from rfl, run_equalIn_agg w 9999 24 _ _ hS hp]
  simp only [Program.fieldsOf, Tryz.underlying24]
  go_simp
  by_cases h1 : x = a <;> by_cases h2 : y = b <;> simp [h1, h2]
theorem mem_pll (L : List Fr.Sl) (x : Int × Int) : x ∈ pll L ↔ ∃ (i a c : Nat) (t : ByteArray), L[i]? = some (some ((a, c), t)) ∧ x = ((a : Int), (c : Int)) := by
  unfold pll
  rw [List.mem_map]
  constructor
  · rintro ⟨⟨a, c⟩, hm, rfl⟩
    obtain ⟨i, s, hi⟩ := (Fr.mem_pls L _).1 hm
    exact ⟨i, a, c, s, hi, rfl⟩
  · rintro ⟨i, a, c, t, hi, rfl⟩
    exact ⟨(a, c), (Fr.mem_pls L _).2 ⟨i, t, hi⟩, rfl⟩
/-- The body of a place. -/
def bod (L : List Fr.Sl) (x : Int × Int) : ByteArray := match L.find? (Fr.isAt x.1 x.2) with
  | some (some (_, t)) => t
  | _ => M.E
theorem bod_eq {P : List M.Pl} {L : List Fr.Sl} (h : Fr.Good P L) {i a c : Nat} {t : ByteArray} (hi : L[i]? = some (some ((a, c), t))) : bod L ((a : Int), (c : Int)) = t := by
  unfold bod
  cases hf : L.find? (Fr.isAt (a : Int) (c : Int)) with
  | none =>
    have := List.find?_eq_none.1 hf _ (List.mem_of_getElem? hi)
    rw [isAt_self] at this
    simp at this
  | some y =>
    have h1 := List.find?_some hf
    have h2 := List.mem_of_find?_eq_some hf
    obtain ⟨a', c', t', rfl, e1, e2⟩ := isAt_iff h1
    have e1 : a = a' := by omega
    have e2 : c = c' := by omega
    subst e1 e2
    obtain ⟨j, hj⟩ := List.getElem?_of_mem h2
    have := h.once i j _ _ _ hi hj
    subst this
    rw [hi] at hj
    cases hj
    rfl
/-- What has become of the slots. -/
def CutR (k p q : Int) (t : ByteArray) (L M : List Fr.Sl) : Prop := M = L ∨ (k ≠ 1 ∧ ∃ (i a c : Nat), p = a ∧ q = c ∧ L[i]? = some none ∧ Ab L p q ∧ M = L.set i (some ((a, c), t))) ∨ (k = 1 ∧ ∃ (i a c : Nat) (t' : ByteArray), p = a ∧ q = c ∧ L[i]? = some (some ((a, c), t')) ∧ M = L.set i none)
theorem PutC.cut {L : List Fr.Sl} {p q : Int} {t : ByteArray} {P' : List M.Pl} (h : PutC L p q t P') (k : Int) (hk : k ≠ 1) (keep : Nat) : ∃ L', Fr.Good (M.crash P' keep 0) L' ∧ CutR k p q t L L' := by
  rcases h keep with hg | ⟨i, a, c, h1, h2, h3, h4, hg⟩
  · exact ⟨L, hg, .inl rfl⟩
  · exact ⟨_, hg, .inr (.inl ⟨hk, i, a, c, h1, h2, h3, h4, rfl⟩)⟩
theorem DelC.cut {L : List Fr.Sl} {p q : Int} {P' : List M.Pl} (h : DelC L p q P') (t : ByteArray) (keep : Nat) : ∃ L', Fr.Good (M.crash P' keep 0) L' ∧ CutR 1 p q t L L' := by
  rcases h keep with hg | ⟨i, a, c, t', h1, h2, h3, hg⟩
  · exact ⟨L, hg, .inl rfl⟩
  · exact ⟨_, hg, .inr (.inr ⟨rfl, i, a, c, t', h1, h2, h3, rfl⟩)⟩
/-- All that was there is, but for the one that was to be deleted. -/
theorem look3 {P P' : List M.Pl} {L L' : List Fr.Sl} (hg : Fr.Good P L) (hg' : Fr.Good P' L') {k p q : Int} {t : ByteArray} (hc : CutR k p q t L L') {x : Int × Int} (hx : x ∈ pll L) :
    (Ab L' x.1 x.2 ∧ k = 1 ∧ x = (p, q)) ∨ ∃ (i a c : Nat), x = ((a : Int), (c : Int)) ∧ L'[i]? = some (some ((a, c), bod L x)) := by
  obtain ⟨i, a, c, s, hi, rfl⟩ := (mem_pll L x).1 hx
  have hb := bod_eq hg hi
  rcases hc with rfl | ⟨_, j, a', c', e1, e2, hj, _, rfl⟩ | ⟨hk, j, a', c', t', e1, e2, hj, rfl⟩
  · exact .inr ⟨i, a, c, rfl, by rw [hb]; exact hi⟩
  · refine .inr ⟨i, a, c, rfl, ?_⟩
    rw [hb, List.getElem?_set_ne (fun e => ?_)]
    · exact hi
    · subst e
      rw [hi] at hj
      cases hj
  · by_cases e : j = i
    · subst e
      rw [hi] at hj
      cases hj
      exact .inl ⟨ab_gone hg hi, hk, by rw [e1, e2]⟩
    · refine .inr ⟨i, a, c, rfl, ?_⟩
      rw [hb, List.getElem?_set_ne e]
      exact hi
/-- What is there was there, or is the one that was to be put. -/
theorem look4 {P' : List M.Pl} {L L' : List Fr.Sl} (hg' : Fr.Good P' L') {k p q : Int} {t : ByteArray} (hc : CutR k p q t L L') {y : Int × Int} (hy : y ∈ pll L') :
    ∃ (i a c : Nat) (s : ByteArray), y = ((a : Int), (c : Int)) ∧ L'[i]? = some (some ((a, c), s)) ∧ (y ∈ pll L ∨ (k ≠ 1 ∧ y = (p, q) ∧ s = t)) := by
  obtain ⟨i, a, c, s, hi, rfl⟩ := (mem_pll L' y).1 hy
  refine ⟨i, a, c, s, rfl, hi, ?_⟩
  rcases hc with rfl | ⟨hk, j, a', c', e1, e2, hj, _, rfl⟩ | ⟨hk, j, a', c', t', e1, e2, hj, rfl⟩
  · exact .inl hy
  · rw [List.getElem?_set] at hi
    split at hi
    · rename_i e
      split at hi
      · cases hi
        exact .inr ⟨hk, by rw [e1, e2], rfl⟩
      · cases hi
    · exact .inl ((mem_pll L _).2 ⟨i, a, c, s, hi, rfl⟩)
  · rw [List.getElem?_set] at hi
    split at hi
    · split at hi <;> cases hi
    · exact .inl ((mem_pll L _).2 ⟨i, a, c, s, hi, rfl⟩)
/-- Is y among the first k? -/
def tb (l : List (Int × Int)) (y : Int × Int) (k : Nat) : Bool := decide (y ∈ l.take k)
theorem tb_zero (l : List (Int × Int)) (y : Int × Int) : tb l y 0 = false := by simp [tb]
theorem tb_all (l : List (Int × Int)) (y : Int × Int) : tb l y l.length = decide (y ∈ l) := by simp [tb]
theorem tb_step (l : List (Int × Int)) (y : Int × Int) (k : Nat) (h : k < l.length) : tb l y (k + 1) = (tb l y k || (decide (l[k].1 = y.1) && decide (l[k].2 = y.2))) := by
  unfold tb
  have e : l.take (k + 1) = l.take k ++ [l[k]] := by rw [List.take_add_one, List.getElem?_eq_getElem h]; rfl
  rw [e]
  rw [← Bool.decide_and, ← Bool.decide_or]
  apply decide_eq_decide.2
  rw [List.mem_append, List.mem_singleton, Prod.ext_iff]
  constructor
  · rintro (h | ⟨h1, h2⟩)
    · exact .inl h
    · exact .inr ⟨h1.symm, h2.symm⟩
  · rintro (h | ⟨h1, h2⟩)
    · exact .inl h
    · exact .inr ⟨h1.symm, h2.symm⟩
/-- A text appended to a row of one's own. -/
theorem run_app_str (w : World) (base : Nat) (v : Value) (l : List ByteArray) (x : ByteArray) (B c : Nat) (ty : TypeId) (h : w.ownsRow base 9 1 v l.length (SC l)) (hs : w.heap[B]? = some (.cells #[.string x] 9 (0, 0))) (hl : l.length ≤ 100000) (hb : base ≤ w.heap.size) :
    ∃ g cap w', (Builtin.append_ #[40, 40] ty #[v, .slice (some ⟨B, 0, none⟩) 1 c]).run Tryz.prog w = .ok (.slice (some ⟨g, 0, none⟩) (l.length + 1) cap) w' ∧ w'.ownsRow base 9 1 (.slice (some ⟨g, 0, none⟩) (l.length + 1) cap) (l ++ [x]).length (SC (l ++ [x])) ∧ Rw w v w' (.slice (some ⟨g, 0, none⟩) (l.length + 1) cap) := by
  obtain ⟨g, cap, w', hr, h2, h3, h4, h5⟩ := run_append_lies (P := Tryz.prog) w 40 ty base 9 Tryz.t9 _ 1 16 Tryz.underlying40 hi9 hz9 hs9 hb9 rfl (by decide) v l.length (SC l) h ⟨B, 0, none⟩ 1 c [.string x] rfl (cell_one w B _ 9 hs) (by simp; rfl) (by decide) (by unfold maxLen; omega) (by omega) hb _ rfl
  refine ⟨g, cap, w', hr, ?_, rw_lies h3 h4 rfl⟩
  rw [List.length_append, show SC (l ++ [x]) = SC l ++ [.string x] by simp [SC]]
  exact h2
/-- Places in memory that are not X's. -/
structure AtX (w : World) (X : Nat → Prop) (a : Option Addr) (l : List (Int × Int)) : Prop where
  v : AtP w a l
  o : ∀ k, blk a k → ¬ X k ∧ k < w.heap.size
theorem AtX.step {w w' : World} {X Y : Nat → Prop} {a : Option Addr} {l : List (Int × Int)} (h : AtX w X a l) (hc : Ch w X w' Y) : AtX w' Y a l :=
  ⟨h.v.keepBut (fun k hk hb => hc.block k hk (h.o k hb).1), fun k hb => ⟨not_G hc (h.o k hb).2 (h.o k hb).1, Nat.lt_of_lt_of_le (h.o k hb).2 hc.size⟩⟩
theorem AtX.keep {w w' : World} {X : Nat → Prop} {a : Option Addr} {l : List (Int × Int)} (h : AtX w X a l) (hb : Below w.heap.size w w') : AtX w' X a l := h.step (Ch.ofBelow hb)
theorem AtX.sub {w : World} {X Y : Nat → Prop} {a : Option Addr} {l : List (Int × Int)} (h : AtX w X a l) (hs : ∀ k, k < w.heap.size → Y k → X k) : AtX w Y a l := ⟨h.v, fun k hb => ⟨fun hY => (h.o k hb).1 (hs k (h.o k hb).2 hY), (h.o k hb).2⟩⟩
end Go.Proofs.YticjilpomdahbaaGreat
