/-
  A node in memory: its block, and its three parts, apart from each other; notes in memory.
-/
import Derived.Test.YtgodnpngdbelhaaG17
import Derived.Test.YtgodnpngdbelhaaG09
import Derived.Test.YtgodnpngdbelhaaG13
import Derived.Test.YtgodnpngdbelhaaG01
namespace Go.Proofs.Ytgodnpngdbelhaa
open Go.RowKit Go.Maps
set_option linter.unusedVariables false
open M (E V)
open Rm (NT R)

theorem row5 {w : World} {k : Nat} {v0 v1 v2 v3 v4 : Value} {t : TypeId} (h : w.heap[k]? = some (.cells #[v0, v1, v2, v3, v4] t (0, 0))) :
    (w.cell? ⟨k, 0, none⟩ = some v0 ∧ w.cell? ⟨k, 1, none⟩ = some v1 ∧ w.cell? ⟨k, 2, none⟩ = some v2 ∧ w.cell? ⟨k, 3, none⟩ = some v3 ∧ w.cell? ⟨k, 4, none⟩ = some v4) ∧ ∀ j, w.frozen? ⟨k, j, none⟩ = false :=
  ⟨⟨by rw [cell_of_row w k 0 _ _ _ h]; rfl, by rw [cell_of_row w k 1 _ _ _ h]; rfl, by rw [cell_of_row w k 2 _ _ _ h]; rfl, by rw [cell_of_row w k 3 _ _ _ h]; rfl, by rw [cell_of_row w k 4 _ _ _ h]; rfl⟩, fun j => frozen_of_row w k j _ _ h⟩
theorem row7 {w : World} {k : Nat} {v0 v1 v2 v3 v4 v5 v6 : Value} {t : TypeId} (h : w.heap[k]? = some (.cells #[v0, v1, v2, v3, v4, v5, v6] t (0, 0))) :
    (w.cell? ⟨k, 0, none⟩ = some v0 ∧ w.cell? ⟨k, 1, none⟩ = some v1 ∧ w.cell? ⟨k, 2, none⟩ = some v2 ∧ w.cell? ⟨k, 3, none⟩ = some v3 ∧ w.cell? ⟨k, 4, none⟩ = some v4 ∧ w.cell? ⟨k, 5, none⟩ = some v5 ∧ w.cell? ⟨k, 6, none⟩ = some v6) ∧ ∀ j, w.frozen? ⟨k, j, none⟩ = false :=
  ⟨⟨by rw [cell_of_row w k 0 _ _ _ h]; rfl, by rw [cell_of_row w k 1 _ _ _ h]; rfl, by rw [cell_of_row w k 2 _ _ _ h]; rfl, by rw [cell_of_row w k 3 _ _ _ h]; rfl, by rw [cell_of_row w k 4 _ _ _ h]; rfl, by rw [cell_of_row w k 5 _ _ _ h]; rfl, by rw [cell_of_row w k 6 _ _ _ h]; rfl⟩, fun j => frozen_of_row w k j _ _ h⟩
theorem ls_step {w0 w w' : World} {F G G' : Nat → Prop} {b : Nat} {s : Nl.M.S} (h : Nl.LS w0 w F b s) (hF : Fr w G w' G') (hap : ∀ k, F k → ¬ G k) (hG : ∀ k, G k → w0.heap.size ≤ k) : Nl.LS w0 w' F b s ∧ ∀ k, F k → ¬ G' k := by
  have hm := h.mine
  obtain ⟨m, f, e, hX⟩ := h.li
  refine ⟨⟨⟨m, f, e, hX.keepBut (fun k hk hk2 => hF.block k hk (hap k (by rw [e]; exact hk2)))⟩, h.bel.trans (hF.below hG h.bel.size), h.ok⟩, fun k hk hg => ?_⟩
  rcases hF.n k hg with h' | h'
  · exact hap k hk h'
  · have := (hm k hk).2; omega
/-- A ballot, a vote by value. -/
abbrev bV (x : E) : Value := .agg #[.int .i64 x.i, .int .i64 x.t]
abbrev vV (x : V) : Value := .agg #[.int .i64 x.s, .int .i64 x.b.i, .int .i64 x.b.t, .string x.v]
abbrev ptr (b : Nat) : Value := .pointer (some ⟨b, 0, none⟩)
/-- The cells of a node. -/
abbrev rrow (r : R) (ba bp bl : Nat) : Obj := .cells #[.int .i64 r.n, .int .i64 r.me, ptr ba, ptr bp, ptr bl] 77 (0, 0)
/-- What is a node's own. -/
def uni (b : Nat) (Fa Fp Fl : Nat → Prop) (k : Nat) : Prop := k = b ∨ Fa k ∨ Fp k ∨ Fl k
/-- A node at block b, new since w0. -/
structure RP (w0 w : World) (b ba bp bl : Nat) (Fa Fp Fl : Nat → Prop) (r : R) : Prop where
  row : w.heap[b]? = some (rrow r ba bp bl)
  ac : Na.AS w0 w Fa ba r.a
  ps : Np.PS w0 w Fp bp r.p
  ls : Nl.LS w0 w Fl bl r.l
  ap : ∀ k, Fa k → ¬ Fp k
  al : ∀ k, Fa k → ¬ Fl k
  pl : ∀ k, Fp k → ¬ Fl k
  nb : ¬ Fa b ∧ ¬ Fp b ∧ ¬ Fl b
  lo : w0.heap.size ≤ b
  nm : Np.M.nde r.n r.me = true
section
variable {w0 w w' w1 : World} {b ba bp bl : Nat} {Fa Fp Fl Ga Gp Gl : Nat → Prop} {r : R}
theorem RP.lt (h : RP w0 w b ba bp bl Fa Fp Fl r) : b < w.heap.size := (Array.getElem?_eq_some_iff.1 h.row).1
theorem RP.bel (h : RP w0 w b ba bp bl Fa Fp Fl r) : Below w0.heap.size w0 w := h.ac.bel
theorem RP.mine (h : RP w0 w b ba bp bl Fa Fp Fl r) : ∀ k, uni b Fa Fp Fl k → w0.heap.size ≤ k ∧ k < w.heap.size := by
  rintro k (rfl | hk | hk | hk)
  · exact ⟨h.lo, h.lt⟩
  · exact h.ac.mine k hk
  · exact h.ps.mine k hk
  · exact h.ls.mine k hk
theorem RP.keep (h : RP w0 w b ba bp bl Fa Fp Fl r) (hb : Below w.heap.size w w') : RP w0 w' b ba bp bl Fa Fp Fl r :=
  ⟨bel_row h.row hb, h.ac.keep hb, h.ps.keep hb, h.ls.keep hb, h.ap, h.al, h.pl, h.nb, h.lo, h.nm⟩
theorem not_n {F G : Nat → Prop} (hf : Fr w F w' G) {k : Nat} (h : ¬ F k) (hk : k < w.heap.size) : ¬ G k := fun hg => by
  rcases hf.n k hg with h' | h'
  · exact h h'
  · omega
theorem RP.setA (h : RP w0 w b ba bp bl Fa Fp Fl r) {a' : Na.M.S} (ha : Na.AS w0 w' Ga ba a') (hf : Fr w Fa w' Ga) : RP w0 w' b ba bp bl Ga Fp Fl { r with a := a' } ∧ Fr w (uni b Fa Fp Fl) w' (uni b Ga Fp Fl) := by
  have hm : ∀ k, Fa k → w0.heap.size ≤ k := fun k hk => (h.ac.mine k hk).1
  obtain ⟨p1, p2⟩ := h.ps.step hf (fun k hk hk2 => h.ap k hk2 hk) hm
  obtain ⟨l1, l2⟩ := ls_step h.ls hf (fun k hk hk2 => h.al k hk2 hk) hm
  refine ⟨⟨(hf.block b h.lt h.nb.1).trans h.row, ha, p1, l1, fun k hk hk2 => p2 k hk2 hk, fun k hk hk2 => l2 k hk2 hk, h.pl, ⟨not_n hf h.nb.1 h.lt, h.nb.2⟩, h.lo, h.nm⟩, hf.os, hf.tape, hf.output, hf.size, fun k hk hn => hf.block k hk (fun e => hn (.inr (.inl e))), ?_⟩
  rintro k (e | e | e)
  · exact .inl (.inl e)
  · exact (hf.n k e).imp (fun e => .inr (.inl e)) id
  · exact .inl (.inr (.inr e))
theorem RP.setP (h : RP w0 w b ba bp bl Fa Fp Fl r) {p' : Np.M.S} (hp : Np.PS w0 w' Gp bp p') (hf : Fr w Fp w' Gp) : RP w0 w' b ba bp bl Fa Gp Fl { r with p := p' } ∧ Fr w (uni b Fa Fp Fl) w' (uni b Fa Gp Fl) := by
  have hm : ∀ k, Fp k → w0.heap.size ≤ k := fun k hk => (h.ps.mine k hk).1
  obtain ⟨p1, p2⟩ := h.ac.step hf h.ap hm
  obtain ⟨l1, l2⟩ := ls_step h.ls hf (fun k hk hk2 => h.pl k hk2 hk) hm
  refine ⟨⟨(hf.block b h.lt h.nb.2.1).trans h.row, p1, hp, l1, p2, h.al, fun k hk hk2 => l2 k hk2 hk, ⟨h.nb.1, not_n hf h.nb.2.1 h.lt, h.nb.2.2⟩, h.lo, h.nm⟩, hf.os, hf.tape, hf.output, hf.size, fun k hk hn => hf.block k hk (fun e => hn (.inr (.inr (.inl e)))), ?_⟩
  rintro k (e | e | e | e)
  · exact .inl (.inl e)
  · exact .inl (.inr (.inl e))
  · exact (hf.n k e).imp (fun e => .inr (.inr (.inl e))) id
  · exact .inl (.inr (.inr (.inr e)))
theorem RP.setL (h : RP w0 w b ba bp bl Fa Fp Fl r) {l' : Nl.M.S} (hl : Nl.LS w0 w' Gl bl l') (hf : Fr w Fl w' Gl) : RP w0 w' b ba bp bl Fa Fp Gl { r with l := l' } ∧ Fr w (uni b Fa Fp Fl) w' (uni b Fa Fp Gl) := by
  have hm : ∀ k, Fl k → w0.heap.size ≤ k := fun k hk => (h.ls.mine k hk).1
  obtain ⟨p1, p2⟩ := h.ac.step hf h.al hm
  obtain ⟨l1, l2⟩ := h.ps.step hf h.pl hm
  refine ⟨⟨(hf.block b h.lt h.nb.2.2).trans h.row, p1, l1, hl, h.ap, p2, l2, ⟨h.nb.1, h.nb.2.1, not_n hf h.nb.2.2 h.lt⟩, h.lo, h.nm⟩, hf.os, hf.tape, hf.output, hf.size, fun k hk hn => hf.block k hk (fun e => hn (.inr (.inr (.inr e)))), ?_⟩
  rintro k (e | e | e | e)
  · exact .inl (.inl e)
  · exact .inl (.inr (.inl e))
  · exact .inl (.inr (.inr (.inl e)))
  · exact (hf.n k e).imp (fun e => .inr (.inr (.inr e))) id
theorem fr_one (w : World) (b o : Nat) (v : Value) : Fr w (· = b) (w.setCell ⟨b, o, none⟩ v) (· = b) :=
  ⟨rfl, rfl, rfl, by simp, fun k _ hk => heap_setCell_other w ⟨b, o, none⟩ k _ hk, fun k h => .inl h⟩
theorem fr_uni (w : World) (b o : Nat) (v : Value) (Fa Fp Fl : Nat → Prop) : Fr w (uni b Fa Fp Fl) (w.setCell ⟨b, o, none⟩ v) (uni b Fa Fp Fl) :=
  ⟨rfl, rfl, rfl, by simp, fun k _ hk => heap_setCell_other w ⟨b, o, none⟩ k _ (fun e => hk (.inl e)), fun k h => .inl h⟩
/-- A block beside it is written. -/
theorem RP.aside (h : RP w0 w b ba bp bl Fa Fp Fl r) {g : Nat} (hg : ¬ uni b Fa Fp Fl g) (hlo : w0.heap.size ≤ g) (o : Nat) (v : Value) : RP w0 (w.setCell ⟨g, o, none⟩ v) b ba bp bl Fa Fp Fl r := by
  have hfo := fr_one w g o v
  have hl : ∀ k, k = g → w0.heap.size ≤ k := fun k e => by omega
  exact ⟨(heap_setCell_other w ⟨g, o, none⟩ b _ (fun e => hg (.inl e.symm))).trans h.row, (h.ac.step hfo (fun k hk e => hg (.inr (.inl (e ▸ hk)))) hl).1, (h.ps.step hfo (fun k hk e => hg (.inr (.inr (.inl (e ▸ hk))))) hl).1, (ls_step h.ls hfo (fun k hk e => hg (.inr (.inr (.inr (e ▸ hk))))) hl).1, h.ap, h.al, h.pl, h.nb, h.lo, h.nm⟩
theorem RP.n17 (h : RP w0 w b ba bp bl Fa Fp Fl r) : 1 ≤ r.n ∧ r.n ≤ 7 := by
  have := h.nm
  unfold Np.M.nde at this
  simp only [Bool.and_eq_true, decide_eq_true_eq] at this
  exact this.1.1
/-- A new proposer. -/
theorem RP.newP (h : RP w0 w b ba bp bl Fa Fp Fl r) {q : Nat} {p' : Np.M.S} (hp : Np.PS w0 w1 Gp q p') (hb : Below w.heap.size w w1) (hn : ∀ k, Gp k → w.heap.size ≤ k) :
    RP w0 (w1.setCell ⟨b, 3, none⟩ (ptr q)) b ba q bl Fa Gp Fl { r with p := p' } ∧ Fr w (uni b Fa Fp Fl) (w1.setCell ⟨b, 3, none⟩ (ptr q)) (uni b Fa Gp Fl) := by
  have h1 := h.keep hb
  have hlt := h.lt
  have hfo := fr_one w1 b 3 (ptr q)
  have hlo : ∀ k, k = b → w0.heap.size ≤ k := fun k e => by have := h.lo; omega
  have hg : ∀ k, Gp k → ¬ k = b := fun k hk e => by have := hn k hk; omega
  refine ⟨⟨?_, (h1.ac.step hfo (fun k hk e => h.nb.1 (e ▸ hk)) hlo).1, (hp.step hfo hg hlo).1, (ls_step h1.ls hfo (fun k hk e => h.nb.2.2 (e ▸ hk)) hlo).1, fun k hk hk2 => ?_, h.al, fun k hk hk2 => ?_, ⟨h.nb.1, fun e => hg b e rfl, h.nb.2.2⟩, h.lo, h.nm⟩, ?_⟩
  · rw [heap_setCell_same w1 b 3 _ _ _ h1.row]; rfl
  · have := (h.ac.mine k hk).2; have := hn k hk2; omega
  · have := (h.ls.mine k hk2).2; have := hn k hk; omega
  · have f1 : Fr w (uni b Fa Fp Fl) w1 (uni b Fa Gp Fl) := ⟨hb.os, hb.tape, hb.output, hb.size, fun k hk _ => hb.block k hk, by
      rintro k (e | e | e | e)
      · exact .inl (.inl e)
      · exact .inl (.inr (.inl e))
      · exact .inr (hn k e)
      · exact .inl (.inr (.inr (.inr e)))⟩
    exact f1.trans (fr_uni w1 b 3 _ _ _ _)
/-- A new learner. -/
theorem RP.newL (h : RP w0 w b ba bp bl Fa Fp Fl r) {q : Nat} {l' : Nl.M.S} (hp : Nl.LS w0 w1 Gl q l') (hb : Below w.heap.size w w1) (hn : ∀ k, Gl k → w.heap.size ≤ k) :
    RP w0 (w1.setCell ⟨b, 4, none⟩ (ptr q)) b ba bp q Fa Fp Gl { r with l := l' } ∧ Fr w (uni b Fa Fp Fl) (w1.setCell ⟨b, 4, none⟩ (ptr q)) (uni b Fa Fp Gl) := by
  have h1 := h.keep hb
  have hlt := h.lt
  have hfo := fr_one w1 b 4 (ptr q)
  have hlo : ∀ k, k = b → w0.heap.size ≤ k := fun k e => by have := h.lo; omega
  have hg : ∀ k, Gl k → ¬ k = b := fun k hk e => by have := hn k hk; omega
  refine ⟨⟨?_, (h1.ac.step hfo (fun k hk e => h.nb.1 (e ▸ hk)) hlo).1, (h1.ps.step hfo (fun k hk e => h.nb.2.1 (e ▸ hk)) hlo).1, (ls_step hp hfo hg hlo).1, h.ap, fun k hk hk2 => ?_, fun k hk hk2 => ?_, ⟨h.nb.1, h.nb.2.1, fun e => hg b e rfl⟩, h.lo, h.nm⟩, ?_⟩
  · rw [heap_setCell_same w1 b 4 _ _ _ h1.row]; rfl
  · have := (h.ac.mine k hk).2; have := hn k hk2; omega
  · have := (h.ps.mine k hk).2; have := hn k hk2; omega
  · have f1 : Fr w (uni b Fa Fp Fl) w1 (uni b Fa Fp Gl) := ⟨hb.os, hb.tape, hb.output, hb.size, fun k hk _ => hb.block k hk, by
      rintro k (e | e | e | e)
      · exact .inl (.inl e)
      · exact .inl (.inr (.inl e))
      · exact .inl (.inr (.inr (.inl e)))
      · exact .inr (hn k e)⟩
    exact f1.trans (fr_uni w1 b 4 _ _ _ _)
end
/-- A node, its parts left open; F: its own. -/
def RS (w0 w : World) (F : Nat → Prop) (b : Nat) (r : R) : Prop := ∃ ba bp bl Fa Fp Fl, F = uni b Fa Fp Fl ∧ RP w0 w b ba bp bl Fa Fp Fl r
theorem RP.rs {w0 w : World} {b ba bp bl : Nat} {Fa Fp Fl : Nat → Prop} {r : R} (h : RP w0 w b ba bp bl Fa Fp Fl r) : RS w0 w (uni b Fa Fp Fl) b r := ⟨_, _, _, _, _, _, rfl, h⟩
/-- A note as it lies in memory. -/
structure RN where
  x : NT
  ad : Option Addr
  c : Nat
def nl : Ly RN := ⟨7, fun y => [.int .i64 y.x.k, .int .i64 y.x.f, .int .i64 y.x.t, .int .i64 y.x.s, .int .i64 y.x.b.i, .int .i64 y.x.b.t, .slice y.ad y.x.v.length y.c], fun _ => rfl, fun x v h => by simp at h; rcases h with rfl | rfl | rfl | rfl | rfl | rfl | rfl <;> rfl, by decide⟩
theorem tiN : Ti nl 44 63 := ⟨Try.underlying44, Try.t63, .agg #[.int .i64 0, .int .i64 0, .int .i64 0, .int .i64 0, .int .i64 0, .int .i64 0, .slice none 0 0], by kernel_rfl, rfl, rfl, by decide, rfl⟩
/-- A note by value. -/
abbrev nV (y : RN) : Value := .agg #[.int .i64 y.x.k, .int .i64 y.x.f, .int .i64 y.x.t, .int .i64 y.x.s, .int .i64 y.x.b.i, .int .i64 y.x.b.t, .slice y.ad y.x.v.length y.c]
/-- Its votes lie in blocks with a property. -/
structure XN (w : World) (P : Nat → Prop) (y : RN) : Prop where
  xl : XL vl w y.ad y.c y.x.v
  blk : ∀ k, blk y.ad k → k < w.heap.size ∧ P k
/-- Notes in a row, and their votes, in blocks with a property. -/
structure XS (w : World) (P : Nat → Prop) (ad : Option Addr) (c : Nat) (ys : List RN) : Prop where
  xl : XL nl w ad c ys
  blk : ∀ k, blk ad k → k < w.heap.size ∧ P k
  all : ∀ y ∈ ys, XN w P y
theorem XN.keepBut {w w' : World} {P : Nat → Prop} {y : RN} (h : XN w P y) (hs : w.heap.size ≤ w'.heap.size) (hb : ∀ k, k < w.heap.size → P k → w'.heap[k]? = w.heap[k]?) : XN w' P y :=
  ⟨h.xl.keepBut fun k hk hk2 => hb k hk (h.blk k hk2).2, fun k hk => ⟨Nat.lt_of_lt_of_le (h.blk k hk).1 hs, (h.blk k hk).2⟩⟩
theorem XN.keep {w w' : World} {P : Nat → Prop} {y : RN} (h : XN w P y) (hb : Below w.heap.size w w') : XN w' P y := h.keepBut hb.size fun k hk _ => hb.block k hk
theorem XN.imp {w : World} {P Q : Nat → Prop} {y : RN} (h : XN w P y) (hi : ∀ k, k < w.heap.size → P k → Q k) : XN w Q y := ⟨h.xl, fun k hk => ⟨(h.blk k hk).1, hi k (h.blk k hk).1 (h.blk k hk).2⟩⟩
theorem XS.keepBut {w w' : World} {P : Nat → Prop} {ad : Option Addr} {c : Nat} {ys : List RN} (h : XS w P ad c ys) (hs : w.heap.size ≤ w'.heap.size) (hb : ∀ k, k < w.heap.size → P k → w'.heap[k]? = w.heap[k]?) : XS w' P ad c ys :=
  ⟨h.xl.keepBut fun k hk hk2 => hb k hk (h.blk k hk2).2, fun k hk => ⟨Nat.lt_of_lt_of_le (h.blk k hk).1 hs, (h.blk k hk).2⟩, fun y hy => (h.all y hy).keepBut hs hb⟩
theorem XS.keep {w w' : World} {P : Nat → Prop} {ad : Option Addr} {c : Nat} {ys : List RN} (h : XS w P ad c ys) (hb : Below w.heap.size w w') : XS w' P ad c ys := h.keepBut hb.size fun k hk _ => hb.block k hk
theorem XS.imp {w : World} {P Q : Nat → Prop} {ad : Option Addr} {c : Nat} {ys : List RN} (h : XS w P ad c ys) (hi : ∀ k, k < w.heap.size → P k → Q k) : XS w Q ad c ys :=
  ⟨h.xl, fun k hk => ⟨(h.blk k hk).1, hi k (h.blk k hk).1 (h.blk k hk).2⟩, fun y hy => (h.all y hy).imp hi⟩
theorem XS.emp (w : World) (P : Nat → Prop) : XS w P none 0 [] := ⟨XL.emp _, fun k hk => (by obtain ⟨o, s, e⟩ := hk; cases e), fun y hy => (by cases hy)⟩
/-- A row of notes of one's own, and their votes elsewhere. -/
structure OW (w : World) (base : Nat) (v : Value) (ys : List RN) : Prop where
  own : OwnL nl 63 w base v ys
  all : ∀ y ∈ ys, XN w (fun q => base ≤ q ∧ v.ownBlock ≠ some q) y
theorem OW.nil (w : World) (base : Nat) : OW w base (.slice none 0 0) [] := ⟨OwnL.nil _ _ _, fun y hy => (by cases hy)⟩
theorem OW.keep {w w' : World} {base : Nat} {v : Value} {ys : List RN} (h : OW w base v ys) (hb : Below w.heap.size w w') : OW w' base v ys := ⟨h.own.keep hb, fun y hy => (h.all y hy).keep hb⟩
theorem OW.keepBut {w w' : World} {base : Nat} {v : Value} {ys : List RN} (h : OW w base v ys) (hs : w.heap.size ≤ w'.heap.size) (hb : ∀ k, k < w.heap.size → base ≤ k → w'.heap[k]? = w.heap[k]?) : OW w' base v ys :=
  ⟨h.own.keepBut fun k hk hk2 => hb k hk (h.own.lt hk2).1, fun y hy => (h.all y hy).keepBut hs fun k hk hp => hb k hk hp.1⟩
theorem OW.low {w : World} {base base' : Nat} {v : Value} {ys : List RN} (h : OW w base v ys) (hb : base' ≤ base) : OW w base' v ys := ⟨h.own.low hb, fun y hy => (h.all y hy).imp fun k _ hk => ⟨Nat.le_trans hb hk.1, hk.2⟩⟩
theorem OW.at {w : World} {base : Nat} {v : Value} {ys : List RN} (h : OW w base v ys) : ∃ ad c, v = .slice ad ys.length c ∧ XS w (fun q => base ≤ q) ad c ys := by
  obtain ⟨ad, c, rfl, hx, hbk⟩ := h.own.at
  exact ⟨ad, c, rfl, hx, fun k hk => ⟨(hbk k hk).2.2, (hbk k hk).1⟩, fun y hy => (h.all y hy).imp fun k _ hk => hk.1⟩
theorem OW.rw {w w' : World} {base : Nat} {v v' : Value} {ys l : List RN} (h : OW w base v ys) (ho : OwnL nl 63 w' base v' l) (hr : Rw w v w' v') (hl : ∀ y ∈ l, y ∈ ys ∨ XN w (fun q => base ≤ q ∧ v.ownBlock ≠ some q) y) : OW w' base v' l := by
  refine ⟨ho, fun y hy => ?_⟩
  have hy1 : XN w (fun q => base ≤ q ∧ v.ownBlock ≠ some q) y := by
    rcases hl y hy with h1 | h1
    · exact h.all y h1
    · exact h1
  have hy2 := hy1.keepBut hr.g.size (fun k hk hp => hr.g.block k hk (fun e => hp.2 e.symm))
  refine ⟨hy2.xl, fun k hk => ⟨(hy2.blk k hk).1, (hy2.blk k hk).2.1, fun e => ?_⟩⟩
  rcases hr.n k e with h' | h'
  · exact (hy2.blk k hk).2.2 h'
  · have := (hy1.blk k hk).1; omega
/-- One more note, appended. -/
theorem OW.app1 {w : World} {base : Nat} {v : Value} {ys : List RN} (h : OW w base v ys) (y : RN) (hy : XN w (fun q => base ≤ q ∧ v.ownBlock ≠ some q) y) (hb : base ≤ w.heap.size) (hl : ys.length + 1 ≤ 1000000) :
    ∃ a' c' w', (∀ ty, (Builtin.append_ #[44, 44] ty #[v, .slice (some ⟨w.heap.size, 0, none⟩) 1 1]).run Try.prog (w.alloc (.cells (nl.cs y).toArray 63)) = .ok (.slice a' (ys.length + 1) c') w') ∧ OW w' base (.slice a' (ys.length + 1) c') (ys ++ [y]) ∧ Rw w v w' (.slice a' (ys.length + 1) c') := by
  obtain ⟨a', c', w4, hrun, ho4, hr4⟩ := run_appL_ty tiN (w.alloc (.cells (nl.cs y).toArray 63)) base v ys [y] w.heap.size 0 1 1 (h.own.keep (bel1 w _)) (atL_one (Y := nl) (t := 63) (heap_alloc_last w _)) rfl (by simp; omega) (by simp; omega)
  exact ⟨a', c', w4, hrun, (h.keep (bel1 w _)).rw ho4 hr4 (fun z hz => by
    rcases List.mem_append.1 hz with hz | hz
    · exact .inl hz
    · obtain rfl := List.mem_singleton.1 hz
      exact .inr (hy.keep (bel1 w _))), (Rw.ofBelow _ (bel1 w _)).trans hr4⟩
theorem append_none {inf : TypeInfo} (hi : Try.prog.info? 63 = some inf) (ad a1 : Option Addr) (n c1 c : Nat) (w : World) (ty : TypeId) (hle : n ≤ c1) : (Builtin.append_ #[44, 44] ty #[.slice a1 n c1, .slice ad 0 c]).run Try.prog w = .ok (.slice a1 n c1) w := by
  cases ad with
  | none => cases a1 <;> simp [Builtin.append_, run_underlying Try.underlying44, sizeOf, typeInfo, hi, Builtin.lenOf, Builtin.firstCells, hle, storeCells]
  | some ad =>
    have hl := run_loadCells_list (P := Try.prog) w ad [] (by simp)
    simp at hl
    cases a1 <;> simp [Builtin.append_, run_underlying Try.underlying44, sizeOf, typeInfo, hi, Builtin.lenOf, Builtin.firstCells, hl, hle, storeCells]
/-- More notes, appended. -/
theorem OW.appL {w : World} {base : Nat} {v : Value} {ys zs : List RN} {ad : Option Addr} {c : Nat} (h : OW w base v ys) (hz : XS w (fun q => base ≤ q ∧ v.ownBlock ≠ some q) ad c zs) (hb : base ≤ w.heap.size) (hl : ys.length + zs.length ≤ 1000000) :
    ∃ a' c' w', (∀ ty, (Builtin.append_ #[44, 44] ty #[v, .slice ad zs.length c]).run Try.prog w = .ok (.slice a' (ys.length + zs.length) c') w') ∧ OW w' base (.slice a' (ys.length + zs.length) c') (ys ++ zs) ∧ Rw w v w' (.slice a' (ys.length + zs.length) c') := by
  obtain ⟨inf, z, hi, hz0, hsz, hby, hzs⟩ := tiN.i
  have hbytes : (ys.length + zs.length) * inf.bytes ≤ 140737488355328 := Nat.le_trans (Nat.mul_le_mul hl hby) (by omega)
  cases zs with
  | nil =>
    obtain ⟨a1, c1, rfl, hx1⟩ := h.at
    have hle := hx1.xl.le
    refine ⟨a1, c1, w, fun ty => ?_, ?_, ?_⟩
    · exact append_none hi ad a1 ys.length c1 c w ty hle
    · simpa using h
    · exact Rw.refl _ _
  | cons y0 zs =>
    obtain ⟨b, off, rfl, _⟩ := hz.xl.at' 0 (by simp)
    obtain ⟨a', c', w4, hrun, ho4, hr4⟩ := run_appL_ty tiN w base v ys (y0 :: zs) b off c _ h.own hz.xl.at' rfl hb hl
    exact ⟨a', c', w4, hrun, h.rw ho4 hr4 (fun z hm => by
      rcases List.mem_append.1 hm with hm | hm
      · exact .inl hm
      · exact .inr (hz.all z hm)), hr4⟩
/-- What a call hands back: notes in new memory that is not the node's. -/
def NO (w : World) (G : Nat → Prop) (u : Value) (w' : World) (l : List NT) : Prop := ∃ ys, OW w' w.heap.size u ys ∧ ys.map RN.x = l ∧ (∀ k, u.ownBlock = some k → ¬ G k) ∧ ∀ y ∈ ys, ∀ k, blk y.ad k → ¬ G k
theorem NO.nil (w : World) (G : Nat → Prop) (w' : World) : NO w G (.slice none 0 0) w' [] := ⟨[], OW.nil _ _, rfl, fun k hk => (by cases hk), fun y hy => (by cases hy)⟩
theorem NO.of {w w' : World} {G : Nat → Prop} {u : Value} {l : List NT} {ys : List RN} {base : Nat} (h : OW w' base u ys) (hb : w.heap.size ≤ base) (hG : ∀ k, G k → k < base) (hm : ys.map RN.x = l) : NO w G u w' l :=
  ⟨ys, h.low hb, hm, fun k hk e => by have := (h.own.lt hk).1; have := hG k e; omega, fun y hy k hk e => by have := ((h.all y hy).blk k hk).2.1; have := hG k e; omega⟩
theorem NO.at {w w' : World} {G : Nat → Prop} {u : Value} {l : List NT} (h : NO w G u w' l) : ∃ ad c ys, u = .slice ad l.length c ∧ ys.map RN.x = l ∧ XS w' (fun k => w.heap.size ≤ k ∧ ¬ G k) ad c ys := by
  obtain ⟨ys, h1, h2, h3, h4⟩ := h
  obtain ⟨ad, c, rfl, hx, hbk⟩ := h1.own.at
  have hlen : ys.length = l.length := by rw [← h2, List.length_map]
  rw [hlen]
  exact ⟨ad, c, ys, rfl, h2, hx, fun k hk => ⟨(hbk k hk).2.2, (hbk k hk).1, h3 k (by obtain ⟨o, z, rfl⟩ := hk; rfl)⟩, fun y hy => ⟨(h1.all y hy).xl, fun k hk => ⟨((h1.all y hy).blk k hk).1, ((h1.all y hy).blk k hk).2.1, h4 y hy k hk⟩⟩⟩
/-- One note, in a new row. -/
theorem NO.one {w w' : World} {G : Nat → Prop} {gv : Nat} {y : RN} (hrv : w'.heap[gv]? = some (.cells (nl.cs y).toArray 63 (0, 0))) (hg : w.heap.size ≤ gv) (hG : ¬ G gv) (hy : XN w' (fun k => w.heap.size ≤ k ∧ ¬ G k ∧ k ≠ gv) y) : NO w G (.slice (some ⟨gv, 0, none⟩) 1 1) w' [y.x] := by
  refine ⟨[y], ⟨?_, fun z hz => ?_⟩, rfl, fun k hk e => ?_, fun z hz k hk => ?_⟩
  · refine ⟨by rw [nl.clen], .inr ⟨gv, 1, _, rfl, hg, hrv, Nat.le_refl _, (show 1 ≤ maxLen by decide), ?_, ?_⟩⟩
    · simp [nl.len]
    · simp only [Ly.cells, List.append_nil, List.length_cons, List.length_nil, Nat.zero_add, Nat.one_mul]
      rw [List.take_of_length_le (by simp [nl.len])]
  · obtain rfl := List.mem_singleton.1 hz
    exact hy.imp fun k _ hk => ⟨hk.1, fun e => hk.2.2 (by simp [Value.ownBlock] at e; exact e.symm)⟩
  · simp [Value.ownBlock] at hk
    subst hk
    exact hG e
  · obtain rfl := List.mem_singleton.1 hz
    exact (hy.blk k hk).2.2.1
theorem XN.emp {y : RN} (w : World) (P : Nat → Prop) (h1 : y.x.v = []) (h2 : y.ad = none) (h3 : y.c = 0) : XN w P y := by
  obtain ⟨x, ad, c⟩ := y
  simp only at h1 h2 h3
  subst h2 h3
  exact ⟨by rw [h1]; exact XL.emp _, fun k hk => by obtain ⟨o, z, e⟩ := hk; cases e⟩
/-- What a method hands back: notes; the node has changed. -/
def OutN (w0 w : World) (F : Nat → Prop) (b : Nat) (r' : R) (l : List NT) (e : Ending) (w' : World) : Prop := ∃ u G, e = .returned u ∧ NO w G u w' l ∧ RS w0 w' G b r' ∧ Fr w F w' G
theorem NO.keep {w : World} {G : Nat → Prop} {u : Value} {w' w2 : World} {l : List NT} (h : NO w G u w' l) (hb : Below w'.heap.size w' w2) : NO w G u w2 l := by
  obtain ⟨ys, h1, h2⟩ := h
  exact ⟨ys, h1.keep hb, h2⟩
end Go.Proofs.Ytgodnpngdbelhaa
namespace Go.Proofs.Ytgodnpngdbelhaa
open Go.RowKit Go.Maps
set_option linter.unusedVariables false
open M (E V)
open Rm (NT R)

section
variable {w : World} {b ba bp bl : Nat} {r : R}
theorem isNode_any (h : w.heap[b]? = some (rrow r ba bp bl)) (x : Int) : Calls Try.prog 53 #[ptr b, .int .i64 x] w fun e w' => e = .returned (.bool (Rm.isN r x)) ∧ w' = w := by
  obtain ⟨⟨c0, c1, c2, c3, c4⟩, _⟩ := row5 h
  clear h
  unfold Rm.isN
  by_cases h0 : 0 ≤ x
  · have d0 : decide (0 ≤ x) = true := decide_eq_true h0
    rw [d0, Bool.true_and]
    go_enter Try.func53, Try.ntmps53
    go_wp2
    go_ret
    exact ⟨rfl, rfl⟩
  · have d0 : decide (0 ≤ x) = false := decide_eq_false h0
    rw [d0, Bool.false_and]
    go_enter Try.func53, Try.ntmps53
    go_wp2
    go_ret
    exact ⟨rfl, rfl⟩
/-- What it hands back. -/
def TeOut (w : World) (l : List NT) (e : Ending) (w' : World) : Prop := ∃ u ys, e = .returned u ∧ OW w' w.heap.size u ys ∧ ys.map RN.x = l ∧ Below w.heap.size w w'
set_option maxRecDepth 100000 in
set_option maxHeartbeats 1000000 in
theorem toEach_any (h : w.heap[b]? = some (rrow r ba bp bl)) (h0 : 1 ≤ r.n) (h7 : r.n ≤ 7) (kk : Int) (x : V) (hx : x.v.size ≤ 140737488351232) : Calls Try.prog 52 #[ptr b, .int .i64 kk, vV x] w (TeOut w (Rm.toE r kk x)) := by
  obtain ⟨s, ⟨i, t⟩, v⟩ := x
  obtain ⟨W1, HW1⟩ : ∃ W1, Hid (w.alloc (.cells #[.int .i64 s, .int .i64 i, .int .i64 t, .string v] 84) = W1) := ⟨_, Hid_of rfl⟩
  have hb1 : Below w.heap.size w W1 := by rw [← HW1.out]; exact bel1 w _
  have hr1 : W1.heap[w.heap.size]? = some (.cells #[.int .i64 s, .int .i64 i, .int .i64 t, .string v] 84 (0, 0)) := by rw [← HW1.out]; exact heap_alloc_last w _
  obtain ⟨n, hn⟩ : ∃ n : Nat, r.n = n := ⟨r.n.toNat, by omega⟩
  have HN : Hid (r.n.toNat = n) := Hid_of (by omega)
  have HL : Hid (Rm.toE r kk ⟨s, ⟨i, t⟩, v⟩ = Rm.toF r kk 0 Rm.e0 [⟨s, ⟨i, t⟩, v⟩] n) := Hid_of (by unfold Rm.toE; rw [HN.out])
  have hro := bel_row h hb1
  obtain ⟨⟨c0, c1, c2, c3, c4⟩, _⟩ := row5 hro
  rw [hn] at c0
  have HR := Hid_of hro
  have HX := Hid_of hr1
  have HB1 := Hid_of hb1
  have hn7 : n ≤ 7 := by omega
  have HV := Hid_of hx
  clear h hb1 hr1 hro h0 h7 hx
  simp only [vV]
  go_enter Try.func52, Try.ntmps52
  go_upto_region 1 with fail
  rw [HW1.out]
  clear HW1
  go_wp2_with fail
  go_loopw [7, 14] (fun u q wr => ∃ (j : Nat) (ys : List RN), j ≤ n ∧ q = .int .i64 j ∧ OW wr W1.heap.size u ys ∧ ys.map RN.x = Rm.toF r kk 0 Rm.e0 [⟨s, ⟨i, t⟩, v⟩] j ∧ Below W1.heap.size W1 wr) (fun u q _ => n - (intOf q).toNat)
  case atStart => exact ⟨0, [], Nat.zero_le _, rfl, OW.nil _ _, rfl, Below.refl _ _⟩
  case round =>
    obtain ⟨j, ys, hj, rfl, ho, hm, hbl⟩ := hrel
    have hlen : ys.length = j := by have := congrArg List.length hm; simpa [Rm.toF_len] using this
    by_cases hlt : j < n
    · have hjn : (j : Int) < (n : Int) := by omega
      obtain ⟨⟨p0, p1, p2, p3⟩, _⟩ := row4 (bel_row HX.out hbl)
      have hk1 : IntKind.i64.wrap ((j : Int) + 1) = ((j + 1 : Nat) : Int) := by rw [IntKind.wrap_i64]; omega
      have cv := fun w => sclone_any v w HV.out
      obtain ⟨W2, HW2⟩ : ∃ W2, Hid (wr.alloc (.cells #[.int .i64 s, .int .i64 i, .int .i64 t, .string v] 84) = W2) := ⟨_, Hid_of rfl⟩
      have hb2 : Below wr.heap.size wr W2 := by rw [← HW2.out]; exact bel1 wr _
      have hr2 : W2.heap[wr.heap.size]? = some (.cells #[.int .i64 s, .int .i64 i, .int .i64 t, .string v] 84 (0, 0)) := by rw [← HW2.out]; exact heap_alloc_last wr _
      obtain ⟨⟨x0, x1, x2, x3⟩, xf⟩ := row4 (bel_row (bel_row HX.out hbl) hb2)
      obtain ⟨g, hg⟩ : ∃ g, wr.heap.size = g := ⟨_, rfl⟩
      obtain ⟨a1, c1', hv1, -⟩ := ho.at
      rw [hlen] at hv1
      subst hv1
      have HO := Hid_of ho
      have HM := Hid_of hm
      have HBL := Hid_of hbl
      have HB2 := Hid_of hb2
      have HR2 := Hid_of hr2
      have HLEN := Hid_of hlen
      clear ho hm hbl hb2 hr2 c0 c1 c2 c3 c4 hlen
      go_upto_region 6 with fail
      rw [HW2.out]
      go_wp2_with fail
      refine (cv _).mono ?_
      rintro e w3 ⟨rfl, hb3⟩
      obtain ⟨⟨y0, y1, y2, y3⟩, yf⟩ := row4 (bel_row HR2.out hb3)
      have yf3 := yf 3
      rw [hg] at y0 y1 y2 y3 yf3
      clear cv x0 x1 x2 x3 xf yf
      go_upto_region 7 with fail
      have hB3 : Below wr.heap.size wr (w3.setCell ⟨g, 3, none⟩ (.string v)) := (bel_up HB2.out hb3 (Nat.le_refl _)).setCell (by show wr.heap.size ≤ g; omega) _
      have hg3 : (w3.setCell ⟨g, 3, none⟩ (.string v)).heap[g]? = some (.cells #[.int .i64 s, .int .i64 i, .int .i64 t, .string v] 84 (0, 0)) := by
        have := heap_setCell_same w3 g 3 _ _ (.string v) (by rw [← hg]; exact bel_row HR2.out hb3)
        rw [this]; rfl
      clear y0 y1 y2 y3 yf3 hb3
      generalize w3.setCell ⟨g, 3, none⟩ (.string v) = W3 at *
      have hb3' := bel_row (bel_row HR.out HBL.out) hB3
      obtain ⟨SQ, HSQ⟩ : ∃ SQ : World → Prop, Hid (SQ = fun wq => wq.heap[b]? = some (rrow r ba bp bl) ∧ wq.heap[g]? = some (.cells #[.int .i64 s, .int .i64 i, .int .i64 t, .string v] 84 (0, 0))) := ⟨_, Hid_of rfl⟩
      have HS : Hid (∀ wq, SQ wq → (wq.cell? ⟨b, 0, none⟩ = some (.int .i64 r.n) ∧ wq.cell? ⟨b, 1, none⟩ = some (.int .i64 r.me) ∧ wq.cell? ⟨b, 2, none⟩ = some (ptr ba) ∧ wq.cell? ⟨b, 3, none⟩ = some (ptr bp) ∧ wq.cell? ⟨b, 4, none⟩ = some (ptr bl)) ∧ (wq.cell? ⟨g, 0, none⟩ = some (.int .i64 s) ∧ wq.cell? ⟨g, 1, none⟩ = some (.int .i64 i) ∧ wq.cell? ⟨g, 2, none⟩ = some (.int .i64 t) ∧ wq.cell? ⟨g, 3, none⟩ = some (.string v))) := fun wq hq => by
        rw [HSQ.out] at hq
        exact ⟨(row5 hq.1).1, (row4 hq.2).1⟩
      have SK : Hid (∀ w', Below W3.heap.size W3 w' → SQ w') := fun w' hw' => by
        rw [HSQ.out]
        exact ⟨bel_row hb3' hw', bel_row hg3 hw'⟩
      have HSI : Hid (SQ W3.drew) := SK.out _ (Below.drew (Below.refl _ _))
      have hbw1 : b < W1.heap.size := (Array.getElem?_eq_some_iff.1 HR.out).1
      have hgr : wr.heap.size ≤ g := by omega
      have hgv0 : ∀ q, (Value.slice a1 j c1').ownBlock = some q → W1.heap.size ≤ q ∧ q < wr.heap.size := fun q hq => HO.out.own.lt hq
      have HAP : Hid (∀ wv gv, Below W3.heap.size W3 wv → W3.heap.size ≤ gv → wv.heap[gv]? = some (.cells #[.int .i64 s, .int .i64 i, .int .i64 t, .string v] 84 (0, 0)) → ∃ a' c' w', (∀ ty, (Builtin.append_ #[44, 44] ty #[.slice a1 j c1', .slice (some ⟨wv.heap.size, 0, none⟩) 1 1]).run Try.prog (wv.alloc (.cells (nl.cs ⟨⟨kk, r.me, (j : Int), 0, ⟨0, 0⟩, [⟨s, ⟨i, t⟩, v⟩]⟩, some ⟨gv, 0, none⟩, 1⟩).toArray 63)) = .ok (.slice a' (j + 1) c') w') ∧ OW w' W1.heap.size (.slice a' (j + 1) c') (ys ++ [⟨⟨kk, r.me, (j : Int), 0, ⟨0, 0⟩, [⟨s, ⟨i, t⟩, v⟩]⟩, some ⟨gv, 0, none⟩, 1⟩]) ∧ Rw wv (.slice a1 j c1') w' (.slice a' (j + 1) c')) := fun wv gv hwv hgv hrv => by
        have hbw : Below wr.heap.size wr wv := bel_up hB3 hwv (Nat.le_refl _)
        have hs3 := hB3.size
        have hs4 := HBL.out.size
        have := (HO.out.keep hbw).app1 ⟨⟨kk, r.me, (j : Int), 0, ⟨0, 0⟩, [⟨s, ⟨i, t⟩, v⟩]⟩, some ⟨gv, 0, none⟩, 1⟩ ⟨⟨atL_one (t := 84) hrv, Nat.le_refl _, (show 1 ≤ maxLen by decide), fun e => by cases e⟩, fun q hq => by
          obtain ⟨o, z, e⟩ := hq
          simp only [Option.some.injEq, Addr.mk.injEq] at e
          obtain ⟨rfl, -, -⟩ := e
          exact ⟨(Array.getElem?_eq_some_iff.1 hrv).1, by omega, fun e => by have := (hgv0 _ e).2; omega⟩⟩ (by have := hbw.size; omega) (by rw [HLEN.out]; omega)
        rw [HLEN.out] at this
        exact this
      have SK4 : Hid (∀ w4 wv a' c', Below W3.heap.size W3 wv → Rw wv (.slice a1 j c1') w4 (.slice a' (j + 1) c') → SQ w4 ∧ Below W1.heap.size W1 w4) := fun w4 wv a' c' hwv hr => by
        have hbw : Below wr.heap.size wr wv := bel_up hB3 hwv (Nat.le_refl _)
        have hs3 := hB3.size
        have hs4 := HBL.out.size
        have h1 := bel_row hb3' hwv
        have h2 := bel_row hg3 hwv
        refine ⟨?_, (HBL.out.trans (hbw.mono hs4)).trans ((hr.below (fun k hk => (hgv0 k hk).1) (Nat.le_trans hs4 hbw.size)))⟩
        rw [HSQ.out]
        exact ⟨(hr.g.block b (Array.getElem?_eq_some_iff.1 h1).1 (fun e => by have := (hgv0 _ e.symm).1; omega)).trans h1, (hr.g.block g (Array.getElem?_eq_some_iff.1 h2).1 (fun e => by have := (hgv0 _ e.symm).2; omega)).trans h2⟩
      clear hb3' hg3 HSQ
      refine wp_region_held_drew (S := fun wq => SQ wq) (by kernel_rfl) HSI.out (fun hHeld => ?_)
      obtain ⟨wdx, hwdx⟩ : ∃ wd, W3.drew = wd := ⟨_, rfl⟩
      have hBwd : Below W3.heap.size W3 wdx := by rw [← hwdx]; exact Below.drew (Below.refl _ _)
      rw [hwdx] at hHeld ⊢
      clear hwdx
      refine Tm 0 ?p0x ?v0x hHeld ?r0x
      refine Tm 1 ?p1x ?v1x hHeld ?r1x
      refine Tm 2 ?p2x ?v2x hHeld ?r2x
      refine Tm 3 ?p3x ?v3x hHeld ?r3x
      refine Tm 4 ?p4x ?v4x hHeld ?r4x
      refine Tk 5 ?p5x ?v5x ?y5x hHeld ?r5x
      case y5x => intro wq hq; obtain ⟨⟨b0, b1, b2, b3, b4⟩, ⟨d0, d1, d2, d3⟩⟩ := HS.out wq hq; go_simp; try with_reducible rfl
      refine Tm 6 ?p6x ?v6x hHeld ?r6x
      refine Tk 7 ?p7x ?v7x ?y7x hHeld ?r7x
      case y7x => intro wq hq; obtain ⟨⟨b0, b1, b2, b3, b4⟩, ⟨d0, d1, d2, d3⟩⟩ := HS.out wq hq; go_simp; try with_reducible rfl
      simp only [Act.put, Pa, Pb, Pc]
      refine Rd 8 ?p8x ?s8x
      intro K hK
      go_simp
      obtain ⟨wv, hwv⟩ : ∃ wv, wdx.alloc (.cells #[.int .i64 s, .int .i64 i, .int .i64 t, .string v] 84) = wv := ⟨_, rfl⟩
      have hbv : Below wdx.heap.size wdx wv := by rw [← hwv]; exact bel1 _ _
      have hrv : wv.heap[wdx.heap.size]? = some (.cells #[.int .i64 s, .int .i64 i, .int .i64 t, .string v] 84 (0, 0)) := by rw [← hwv]; exact heap_alloc_last _ _
      have hrg := Nat.lt_of_lt_of_le (Array.getElem?_eq_some_iff.1 hrv).1 (Nat.le_refl _)
      obtain ⟨gv, hgv⟩ : ∃ gv, wdx.heap.size = gv := ⟨_, rfl⟩
      rw [hwv]
      rw [hgv] at hrv hrg ⊢
      have hgv' : W3.heap.size ≤ gv := by rw [← hgv]; exact hBwd.size
      have hbv2 : Below W3.heap.size W3 wv := bel_up hBwd hbv (Nat.le_refl _)
      have S8 := SK.out wv hbv2
      clear hwv hgv hbv
      refine hK.out _ _ S8 (fun hHeld => ?_)
      clear hK K
      refine Tm 9 ?p9x_8 ?v9x_8 hHeld ?r9x_8
      simp only [Act.put, Pa, Pb, Pc]
      refine Rd 10 ?p10x_8 ?s10x_8
      intro K hK
      go_simp
      obtain ⟨a', c', w4, hrun, ho4, hr4⟩ := HAP.out wv gv hbv2 hgv' hrv
      have S10 := SK.out (wv.alloc (.cells (nl.cs ⟨⟨kk, r.me, (j : Int), 0, ⟨0, 0⟩, [⟨s, ⟨i, t⟩, v⟩]⟩, some ⟨gv, 0, none⟩, 1⟩).toArray 63)) (bel_up hbv2 (bel1 _ _) (Nat.le_refl _))
      have HO4 := Hid_of ho4
      have HR4 := Hid_of hr4
      clear ho4 hr4
      refine hK.out _ _ S10 (fun hHeld => ?_)
      clear hK K
      refine Rd 11 ?p11x_8_10 ?s11x_8_10
      intro K hK
      refine step_append_known rfl (.tmp 22) (.tmp 32) 44 rfl _ _ rfl rfl _ _ (hrun _) ?_
      refine hK.out _ _ (SK4.out _ _ _ _ hbv2 HR4.out).1 (fun hHeld => ?_)
      clear hK K
      refine Tm 12 ?p12x_8_10_11 ?v12x_8_10_11 hHeld ?r12x_8_10_11
      simp only [Act.put, Pa, Pb, Pc]
      refine wpAnyH_done (by kernel_rfl) ?_ _
      go_wp2_with fail
      go_roundw
      case rel => exact ⟨j + 1, _, by omega, by go_num, HO4.out, by rw [List.map_append, HM.out, Rm.toF_succ]; rfl, (SK4.out _ _ _ _ hbv2 HR4.out).2⟩
      case measure => simp [intOf]; omega

    · obtain rfl : j = n := by omega
      have HQ : Hid (TeOut w (Rm.toE r kk ⟨s, ⟨i, t⟩, v⟩) (.returned u7) wr) := ⟨_, ys, rfl, ho.low HB1.out.size, by rw [HL.out]; exact hm, bel_up HB1.out hbl (Nat.le_refl _)⟩
      clear ho hbl hm c0 c1 c2 c3 c4
      go_wp2
      go_ret
      exact HQ.out
end
end Go.Proofs.Ytgodnpngdbelhaa
