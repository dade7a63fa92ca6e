/-
  The document's calls, whole; both nets side by side.
-/
import Derived.Test.YtjbodjjeenjbeaaRC
import Derived.Test.YtjbodjjeenjbeaaRG
import Derived.Test.YtjbodjjeenjbeaaRH
import Derived.Test.YtjbodjjeenjbeaaRI
import Derived.Test.YtjbodjjeenjbeaaNR
namespace Go.Proofs.Ytjbodjjeenjbeaa
open Go.RowKit
set_option linter.unusedVariables false
open Nt (Pk)

section
variable {w : World} {N : Int} {a : Option Addr} {cap : Nat} {R : List Pk} {ka : Option Addr} {kc : Nat} {K : List (Int × Int)}
theorem rsend_any (h : RN w a cap R ka kc K) (k f t i : Int) (bd : List UInt8) (hb : bd.length ≤ maxLen) :
    Calls Try.prog 11 #[.agg #[.int .i64 N, .slice a R.length cap, .slice ka K.length kc], .agg #[.int .i64 k, .int .i64 f, .int .i64 t, .int .i64 i, .string (ofL bd)]] w (ROut w N a cap R ka kc K (Nt.add (Nt.may N R k f t i bd) R ⟨f, t, ofL (Msg.ecode k f t i bd)⟩) K (Nt.may N R k f t i bd)) := by
  by_cases h1 : Msg.chk k f t i bd.length = 0
  · cases h2 : Nt.node N f with
    | false =>
      have hm : Nt.may N R k f t i bd = false := by unfold Nt.may; rw [h2]; rfl
      rw [hm]
      exact rsend_f h k f t i bd hb h1 h2
    | true =>
    cases h3 : Nt.node N t with
    | false =>
      have hm : Nt.may N R k f t i bd = false := by unfold Nt.may; rw [h2, h3]; rfl
      rw [hm]
      exact rsend_t h k f t i bd hb h1 h2 h3
    | true =>
    by_cases h4 : R.length < 1024
    · have hm : Nt.may N R k f t i bd = true := by unfold Nt.may; rw [h2, h3, decide_eq_true h1, decide_eq_true h4]; rfl
      rw [hm]
      exact rsend_y h k f t i bd hb h1 h2 h3 h4
    · have hm : Nt.may N R k f t i bd = false := by unfold Nt.may; rw [h2, h3, decide_eq_true h1, decide_eq_false h4]; rfl
      rw [hm]
      exact rsend_n h k f t i bd hb h1 h2 h3 h4
  · have hm : Nt.may N R k f t i bd = false := by
      unfold Nt.may
      rw [decide_eq_false h1]
      cases Nt.node N f <;> cases Nt.node N t <;> rfl
    rw [hm]
    exact rsend_ck h k f t i bd hb h1
theorem rdouble_any (h : RN w a cap R ka kc K) (i : Int) :
    Calls Try.prog 17 #[.agg #[.int .i64 N, .slice a R.length cap, .slice ka K.length kc], .int .i64 i] w (ROut w N a cap R ka kc K (Nt.dbl R i) K (Nt.is R && Nt.room R)) := by
  cases e1 : Nt.is R with
  | false =>
    have hd : Nt.dbl R i = R := by unfold Nt.dbl; rw [e1]; rfl
    rw [hd]
    exact rdouble_no h i (.inl (by rw [Nt.is_nil e1]; rfl))
  | true =>
  have hR := Nt.is_lt e1
  have hj := Nt.wr_lt i hR
  cases e2 : Nt.room R with
  | false =>
    have hd : Nt.dbl R i = R := by unfold Nt.dbl; rw [e1, e2]; rfl
    rw [hd]
    exact rdouble_no h i (.inr (of_decide_eq_false e2))
  | true =>
    obtain ⟨b, off, rfl, _⟩ := h.r.at' 0 hR
    have hd : Nt.dbl R i = R ++ [R[Nt.wr i R.length]] := by unfold Nt.dbl; rw [e1, e2, List.getElem?_eq_getElem hj]; rfl
    rw [hd]
    exact rdouble_yes h i hR (of_decide_eq_true e2) _ rfl hj
theorem rspoil_any (h : RN w a cap R ka kc K) (i at' by' : Int) :
    Calls Try.prog 19 #[.agg #[.int .i64 N, .slice a R.length cap, .slice ka K.length kc], .int .i64 i, .int .i64 at', .int .i64 by'] w (ROut w N a cap R ka kc K (Nt.spo R i at' by') K (Nt.is R)) := by
  cases e1 : Nt.is R with
  | false =>
    have hnil := Nt.is_nil e1
    subst hnil
    exact rspoil_no h i at' by'
  | true =>
    have hR := Nt.is_lt e1
    have hj := Nt.wr_lt i hR
    rw [spo_at at' by' hj]
    exact rspoil_yes h i at' by' hR _ rfl hj
theorem rcutn_any (h : RN w a cap R ka kc K) (x y : Int) (on : Bool) :
    Calls Try.prog 21 #[.agg #[.int .i64 N, .slice a R.length cap, .slice ka K.length kc], .int .i64 x, .int .i64 y, .bool on] w (ROut w N a cap R ka kc K R (bif Nt.node N x && Nt.node N y then Nt.cutK K (min x y) (max x y) on else K) (Nt.node N x && Nt.node N y)) := by
  cases e1 : Nt.node N x with
  | false => exact rcutn_x h x y on e1
  | true =>
  cases e2 : Nt.node N y with
  | false => exact rcutn_y h x y on e1 e2
  | true => exact rcutn_yes h x y on e1 e2
end
theorem KRes.slice {w w' : World} {a : Option Addr} {cap : Nat} {K K' : List (Int × Int)} {v : Value} (h : KRes w w' a cap K v K') : ∃ a' c', v = .slice a' K'.length c' := by
  rcases h with ⟨rfl, rfl⟩ | h
  · exact ⟨a, cap, rfl⟩
  · obtain ⟨a', c', hv, _⟩ := h.at
    exact ⟨a', c', hv⟩
theorem row9p {w : World} {k : Nat} {v0 v1 v2 v3 v4 v5 v6 v7 v8 : Value} {t : TypeId} (h : w.heap[k]? = some (.cells #[v0, v1, v2, v3, v4, v5, v6, v7, v8] t (0, 0))) :
    (w.cell? ⟨k, 0, none⟩ = some v0 ∧ w.cell? ⟨k, 1, none⟩ = some v1 ∧ w.cell? ⟨k, 2, none⟩ = some v2 ∧ w.cell? ⟨k, 3, none⟩ = some v3) ∧ (w.cell? ⟨k, 4, none⟩ = some v4 ∧ w.cell? ⟨k, 5, none⟩ = some v5 ∧ w.cell? ⟨k, 6, none⟩ = some v6 ∧ w.cell? ⟨k, 7, none⟩ = some v7 ∧ w.cell? ⟨k, 8, none⟩ = some v8) :=
  ⟨⟨by rw [cell_of_row w k 0 _ _ _ h]; rfl, by rw [cell_of_row w k 1 _ _ _ h]; rfl, by rw [cell_of_row w k 2 _ _ _ h]; rfl, by rw [cell_of_row w k 3 _ _ _ h]; rfl⟩, by rw [cell_of_row w k 4 _ _ _ h]; rfl, by rw [cell_of_row w k 5 _ _ _ h]; rfl, by rw [cell_of_row w k 6 _ _ _ h]; rfl, by rw [cell_of_row w k 7 _ _ _ h]; rfl, by rw [cell_of_row w k 8 _ _ _ h]; rfl⟩
/-- The document's rows, beside what is the program's net's own and some boxes. -/
structure RO (w : World) (X : Nat → Prop) (a : Option Addr) (cap : Nat) (R : List Pk) (ka : Option Addr) (kc : Nat) (K : List (Int × Int)) : Prop where
  r : RN w a cap R ka kc K
  o : ∀ k, (blk a k ∨ blk ka k) → ¬ X k ∧ k < w.heap.size
section
variable {w w' : World} {X Y : Nat → Prop} {a a' : Option Addr} {cap cap' : Nat} {R R' : List Pk} {ka ka' : Option Addr} {kc kc' : Nat} {K K' : List (Int × Int)}
theorem RO.keepBut (h : RO w X a cap R ka kc K) (hb : ∀ k, k < w.heap.size → ¬ X k → w'.heap[k]? = w.heap[k]?) (hs : w.heap.size ≤ w'.heap.size) : RO w' X a cap R ka kc K :=
  ⟨h.r.keepBut (fun k hk e => hb k hk (h.o k e).1), fun k e => ⟨(h.o k e).1, Nat.lt_of_lt_of_le (h.o k e).2 hs⟩⟩
theorem RO.keep (h : RO w X a cap R ka kc K) (hb : Below w.heap.size w w') : RO w' X a cap R ka kc K := h.keepBut (fun k hk _ => hb.block k hk) hb.size
/-- What a call of the document's made. -/
theorem RO.call (h : RO w X a cap R ka kc K) (hX : ∀ k, X k → k < w.heap.size) (hx : XRes w w' a cap R (.slice a' R'.length cap') R') (hk : KRes w w' ka kc K (.slice ka' K'.length kc') K') (hb : Below w.heap.size w w') (hok : Nt.Ok R') (hn : K'.length ≤ 100000) : RO w' X a' cap' R' ka' kc' K' := by
  have h1 : XP w' a' cap' R' ∧ ∀ k, blk a' k → ¬ X k ∧ k < w'.heap.size := by
    rcases hx with ⟨hv, rfl⟩ | ho
    · simp only [Value.slice.injEq, true_and] at hv
      obtain ⟨rfl, rfl⟩ := hv
      exact ⟨h.r.r.keep hb, fun k e => ⟨(h.o k (.inl e)).1, Nat.lt_of_lt_of_le (h.o k (.inl e)).2 hb.size⟩⟩
    · obtain ⟨a2, c2, hv, hx2, hbl⟩ := ho.at
      simp only [Value.slice.injEq, true_and] at hv
      obtain ⟨rfl, rfl⟩ := hv
      exact ⟨hx2, fun k e => ⟨fun hXk => by have := hX k hXk; have := (hbl k e).1; omega, (hbl k e).2.2⟩⟩
  have h2 : AtL w' ka' K' ∧ ∀ k, blk ka' k → ¬ X k ∧ k < w'.heap.size := by
    rcases hk with ⟨hv, rfl⟩ | ho
    · simp only [Value.slice.injEq, true_and] at hv
      obtain ⟨rfl, rfl⟩ := hv
      exact ⟨h.r.k.keep hb, fun k e => ⟨(h.o k (.inr e)).1, Nat.lt_of_lt_of_le (h.o k (.inr e)).2 hb.size⟩⟩
    · obtain ⟨a2, c2, hv, hx2, hbl⟩ := ho.at
      simp only [Value.slice.injEq, true_and] at hv
      obtain ⟨rfl, rfl⟩ := hv
      exact ⟨hx2, fun k e => ⟨fun hXk => by have := hX k hXk; have := (hbl k e).1; omega, (hbl k e).2.2⟩⟩
  exact ⟨⟨h1.1, h2.1, hok, hn⟩, fun k e => by rcases e with e | e; exact h1.2 k e; exact h2.2 k e⟩
end
/-- What is laid in a round: the net's own, the document's net's box, the deed's, three more. -/
def Fx (F : Nat → Prop) (kb q : Nat) (k : Nat) : Prop := F k ∨ k = kb ∨ (q ≤ k ∧ k < q + 4)
/-- Both nets, with the round's boxes. -/
structure PX (w0 w : World) (N : Int) (b : Nat) (F : Nat → Prop) (z : Nat) (L : List Pk) (C : Int → Int → Bool) (kb : Nat) (x1 x2 : Value) (q : Nat) (ds : Array Value) (y1 y2 : Value) (m g : Array Value) : Prop where
  s : NS w0 w b F z N L C
  x : Bx w F kb (.cells #[.int .i64 N, x1, x2] 30)
  d : Bx w F q (.cells ds 35)
  y : Bx w F (q + 1) (.cells #[.int .i64 N, y1, y2] 30)
  m : Bx w F (q + 2) (.cells m 33)
  g : Bx w F (q + 3) (.cells g 33)
  lo : w0.heap.size ≤ kb ∧ kb < q
section
variable {w0 w w' : World} {N : Int} {b : Nat} {F G : Nat → Prop} {z z' : Nat} {L L' : List Pk} {C C' : Int → Int → Bool} {kb : Nat} {x1 x2 : Value} {q : Nat} {ds : Array Value} {y1 y2 : Value} {m g : Array Value}
theorem PX.keep (h : PX w0 w N b F z L C kb x1 x2 q ds y1 y2 m g) (hb : Below w.heap.size w w') : PX w0 w' N b F z L C kb x1 x2 q ds y1 y2 m g :=
  ⟨h.s.keep hb, h.x.keep hb, h.d.keep hb, h.y.keep hb, h.m.keep hb, h.g.keep hb, h.lo⟩
theorem PX.step (h : PX w0 w N b F z L C kb x1 x2 q ds y1 y2 m g) (hS : NS w0 w' b G z' N L' C') (hC : Ch w F w' G) : PX w0 w' N b G z' L' C' kb x1 x2 q ds y1 y2 m g :=
  ⟨hS, h.x.step hC, h.d.step hC, h.y.step hC, h.m.step hC, h.g.step hC, h.lo⟩
theorem PX.fx (h : PX w0 w N b F z L C kb x1 x2 q ds y1 y2 m g) : ∀ k, Fx F kb q k → k < w.heap.size := by
  rintro k (e | rfl | e)
  · exact (h.s.own k e).2
  · exact h.x.lt
  · have := h.g.lt
    omega
theorem Bx.oth {o : Obj} {p : Nat} (h : Bx w F p o) (hb : w'.heap[p]? = w.heap[p]?) : Bx w' F p o := ⟨hb.trans h.r, h.o⟩
theorem NS.oth (h : NS w0 w b F z N L C) {p : Nat} (hp : ¬ F p) (hB : Below w0.heap.size w0 w') (hb : ∀ k, k ≠ p → w'.heap[k]? = w.heap[k]?) : NS w0 w' b F z N L C :=
  h.keepBut (fun k hk hF => hb k (fun e => hp (by rw [← e]; exact hF))) hB
theorem PX.setY (h : PX w0 w N b F z L C kb x1 x2 q ds y1 y2 m g) (v1 v2 : Value) : PX w0 (put3 w (q + 1) (.int .i64 N) v1 v2) N b F z L C kb x1 x2 q ds v1 v2 m g := by
  have hl := h.lo
  have ho : ∀ k, k ≠ q + 1 → (put3 w (q + 1) (.int .i64 N) v1 v2).heap[k]? = w.heap[k]? := fun k hk => put3_oth hk _ _ _
  exact ⟨h.s.oth h.y.o (put3_bel h.s.bel (by omega) _ _ _) ho, h.x.oth (ho _ (by omega)), h.d.oth (ho _ (by omega)), ⟨put3_row h.y.r _ _ _, h.y.o⟩, h.m.oth (ho _ (by omega)), h.g.oth (ho _ (by omega)), hl⟩
theorem PX.setX (h : PX w0 w N b F z L C kb x1 x2 q ds y1 y2 m g) (v1 v2 : Value) : PX w0 (put3 w kb (.int .i64 N) v1 v2) N b F z L C kb v1 v2 q ds y1 y2 m g := by
  have hl := h.lo
  have ho : ∀ k, k ≠ kb → (put3 w kb (.int .i64 N) v1 v2).heap[k]? = w.heap[k]? := fun k hk => put3_oth hk _ _ _
  exact ⟨h.s.oth h.x.o (put3_bel h.s.bel (by omega) _ _ _) ho, ⟨put3_row h.x.r _ _ _, h.x.o⟩, h.d.oth (ho _ (by omega)), h.y.oth (ho _ (by omega)), h.m.oth (ho _ (by omega)), h.g.oth (ho _ (by omega)), hl⟩
theorem PX.setM {c0 c1 c2 c3 c4 : Value} (h : PX w0 w N b F z L C kb x1 x2 q ds y1 y2 #[c0, c1, c2, c3, c4] g) (v0 v1 v2 v3 v4 : Value) : PX w0 (put5 w (q + 2) v0 v1 v2 v3 v4) N b F z L C kb x1 x2 q ds y1 y2 #[v0, v1, v2, v3, v4] g := by
  have hl := h.lo
  have ho : ∀ k, k ≠ q + 2 → (put5 w (q + 2) v0 v1 v2 v3 v4).heap[k]? = w.heap[k]? := fun k hk => put5_oth hk _ _ _ _ _
  exact ⟨h.s.oth h.m.o (put5_bel h.s.bel (by omega) _ _ _ _ _) ho, h.x.oth (ho _ (by omega)), h.d.oth (ho _ (by omega)), h.y.oth (ho _ (by omega)), ⟨put5_row h.m.r _ _ _ _ _, h.m.o⟩, h.g.oth (ho _ (by omega)), hl⟩
theorem PX.setG {c0 c1 c2 c3 c4 : Value} (h : PX w0 w N b F z L C kb x1 x2 q ds y1 y2 m #[c0, c1, c2, c3, c4]) (v0 v1 v2 v3 v4 : Value) : PX w0 (put5 w (q + 3) v0 v1 v2 v3 v4) N b F z L C kb x1 x2 q ds y1 y2 m #[v0, v1, v2, v3, v4] := by
  have hl := h.lo
  have ho : ∀ k, k ≠ q + 3 → (put5 w (q + 3) v0 v1 v2 v3 v4).heap[k]? = w.heap[k]? := fun k hk => put5_oth hk _ _ _ _ _
  exact ⟨h.s.oth h.g.o (put5_bel h.s.bel (by omega) _ _ _ _ _) ho, h.x.oth (ho _ (by omega)), h.d.oth (ho _ (by omega)), h.y.oth (ho _ (by omega)), h.m.oth (ho _ (by omega)), ⟨put5_row h.g.r _ _ _ _ _, h.g.o⟩, hl⟩
end
/-- Both nets, at a round's beginning. -/
structure PY (w0 w : World) (N : Int) (b : Nat) (F : Nat → Prop) (z : Nat) (L : List Pk) (C : Int → Int → Bool) (kb : Nat) (a : Option Addr) (cap : Nat) (R : List Pk) (ka : Option Addr) (kc : Nat) (K : List (Int × Int)) : Prop where
  s : NS w0 w b F z N L C
  x : Bx w F kb (.cells #[.int .i64 N, .slice a R.length cap, .slice ka K.length kc] 30)
  ro : RO w (fun k => F k ∨ k = kb) a cap R ka kc K
  lk : L = R.map Nt.lk
  ck : ∀ x y, C x y = Nt.rcut K x y
  kn : K.length ≤ z
  lo : w0.heap.size ≤ kb
end Go.Proofs.Ytjbodjjeenjbeaa
