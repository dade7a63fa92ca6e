/-
  The program's acceptor beside the document's.
-/
import Derived.Test.YtbbadfebajpeaaaDC
namespace Go.Proofs.Ytbbadfebajpeaaa
open Go.RowKit
set_option linter.unusedVariables false
open M (E V)

/-- The program's acceptor (at b), and the document's (in block B) beside. -/
structure PS (w0 w : World) (F : Nat → Prop) (b : Nat) (a : M.S) (B : Nat) (d : M.S) (ad : Option Addr) (c : Nat) : Prop where
  pa : AS w0 w F b a
  xb : XB w (fun q => F q ∨ q = B) ad c d.l
  bx : BX w F B (.cells #[.int .i64 d.p.i, .int .i64 d.p.t, .int .i64 d.base, .slice ad d.l.length c] 31 (0, 0))
  lo : w0.heap.size ≤ B
  ln : d.l.length ≤ 1024
theorem fr_both {w w' : World} {F G : Nat → Prop} {B : Nat} (h : Fr w F w' G) : Fr w (fun q => F q ∨ q = B) w' (fun q => G q ∨ q = B) :=
  ⟨h.os, h.tape, h.output, h.size, fun k hk hn => h.block k hk (fun e => hn (.inl e)), fun k hk => by
    rcases hk with hk | hk
    · rcases h.n k hk with h' | h'
      · exact .inl (.inl h')
      · exact .inr h'
    · exact .inl (.inr hk)⟩
section
variable {w0 w w' : World} {F G : Nat → Prop} {b B c : Nat} {a a' d : M.S} {ad : Option Addr}
theorem PS.keep (h : PS w0 w F b a B d ad c) (hb : Below w.heap.size w w') : PS w0 w' F b a B d ad c := ⟨h.pa.keep hb, h.xb.up hb, h.bx.up hb, h.lo, h.ln⟩
theorem PS.prog (h : PS w0 w F b a B d ad c) (hF : Fr w F w' G) (hA : AS w0 w' G b a') : PS w0 w' G b a' B d ad c := ⟨hA, h.xb.step (fr_both hF), h.bx.step hF, h.lo, h.ln⟩
/-- A row that is new lies apart. -/
theorem PS.newx (h : PS w0 w F b a B d ad c) {a2 : Option Addr} {c2 : Nat} {l : List V} (hx : XL vl w' a2 c2 l) (hk : ∀ j, blk a2 j → w.heap.size ≤ j ∧ j < w'.heap.size) : XB w' (fun q => F q ∨ q = B) a2 c2 l :=
  ⟨hx, fun j hj => (hk j hj).2, fun j hj hq => by
    have h1 := (hk j hj).1
    have h2 := (Array.getElem?_eq_some_iff.1 h.bx.row).1
    rcases hq with hq | hq
    · have := (h.pa.mine j hq).2; omega
    · omega⟩
theorem fr_B (w : World) (B : Nat) (x y z u : Value) : Fr w (fun j => j = B) (put4 w B x y z u) (fun j => j = B) := by
  have hg : (fun j => j = B) B := rfl
  exact fr_set (F := fun j => j = B) (fr_set (F := fun j => j = B) (fr_set (F := fun j => j = B) (fr_set (F := fun j => j = B) (Fr.refl w fun j => j = B) hg 0 x) hg 1 y) hg 2 z) hg 3 u
/-- The document's acceptor is another one. -/
theorem PS.doc (h : PS w0 w F b a B d ad c) {d' : M.S} {a2 : Option Addr} {c2 : Nat} (hx : XB w (fun q => F q ∨ q = B) a2 c2 d'.l) (hl : d'.l.length ≤ 1024) :
    PS w0 (put4 w B (.int .i64 d'.p.i) (.int .i64 d'.p.t) (.int .i64 d'.base) (.slice a2 d'.l.length c2)) F b a B d' a2 c2 := by
  have hF := fr_B w B (.int .i64 d'.p.i) (.int .i64 d'.p.t) (.int .i64 d'.base) (.slice a2 d'.l.length c2)
  refine ⟨(h.pa.step hF (fun k hk e => h.bx.ap (by rw [← e]; exact hk)) (fun k e => by rw [e]; exact h.lo)).1, ?_, ⟨put4_row h.bx.row _ _ _ _, h.bx.ap⟩, h.lo, hl⟩
  exact ⟨hx.xl.keepBut fun k hk hb => hF.block k hk (fun e => hx.ap k hb (.inr e)), fun k hk => Nat.lt_of_lt_of_le (hx.lt k hk) hF.size, hx.ap⟩
theorem XB.at4 {w : World} {F : Nat → Prop} {B : Nat} {a2 : Option Addr} {c2 : Nat} {l : List V} (hx : XB w (fun q => F q ∨ q = B) a2 c2 l) (x y z u : Value) : XB (put4 w B x y z u) (fun q => F q ∨ q = B) a2 c2 l :=
  ⟨hx.xl.keepBut fun k hk hb => (fr_B w B x y z u).block k hk (fun e => hx.ap k hb (.inr e)), fun k hk => Nat.lt_of_lt_of_le (hx.lt k hk) (fr_B w B x y z u).size, hx.ap⟩
/-- The document's vote. -/
theorem PS.raccept (h : PS w0 w F b a B d ad c) (ok : M.Ok d) (v : V) : Calls Try.prog 13 #[aV d ad c, vV v] w fun e w' => ∃ a2 c2, e = .returned (.tuple #[aV (M.acs d v) a2 c2, .bool (M.acb d v)]) ∧ XB w' (fun q => F q ∨ q = B) a2 c2 (M.acs d v).l ∧ Below w.heap.size w w' := by
  cases hb : M.acb d v with
  | false =>
    refine (raccept_no d ad c v w hb).mono ?_
    rintro e w' ⟨rfl, hbl⟩
    rw [M.acs_no hb]
    exact ⟨ad, c, rfl, h.xb.up hbl, hbl⟩
  | true =>
    refine (raccept_yes d ad c v w h.xb.xl h.ln ok.up hb).mono ?_
    rintro e w' ⟨u, rfl, a2, c2, rfl, hx, hk, hbl⟩
    exact ⟨a2, c2, rfl, h.newx hx hk, hbl⟩
theorem PS.rtrim (h : PS w0 w F b a B d ad c) (u : Int) : Calls Try.prog 15 #[aV d ad c, .int .i64 u] w fun e w' => ∃ a2 c2, e = .returned (.tuple #[aV (M.trs d u) a2 c2, .int .i64 (M.trn d u : Nat)]) ∧ XB w' (fun q => F q ∨ q = B) a2 c2 (M.trs d u).l ∧ Below w.heap.size w w' := by
  refine (rtrim_any d ad c u w h.xb.xl h.ln).mono ?_
  rintro e w' ⟨v, rfl, a2, c2, rfl, hx, hk, hbl⟩
  exact ⟨a2, c2, rfl, h.newx hx hk, hbl⟩
theorem prs_l (d : M.S) (x : E) (k : Int) : (M.prs d x k).l = d.l := by
  unfold M.prs
  split <;> rfl
theorem PS.rpromise (h : PS w0 w F b a B d ad c) (x : E) (k : Int) : Calls Try.prog 10 #[aV d ad c, bV x, .int .i64 k] w fun e w' => ∃ a2 c2, e = .returned (.tuple #[aV (M.prs d x k) ad c, .slice a2 (M.prl d x k).length c2, .bool (M.prb d x k)]) ∧ XB w' (fun q => F q ∨ q = B) ad c (M.prs d x k).l ∧ XB w' (fun q => F q ∨ q = B) a2 c2 (M.prl d x k) ∧ Below w.heap.size w w' := by
  refine (rpromise_any d ad c x k w h.xb.xl h.ln).mono ?_
  rintro e w' ⟨a2, c2, rfl, hx, hk, hbl⟩
  exact ⟨a2, c2, rfl, by rw [prs_l]; exact h.xb.up hbl, h.newx hx hk, hbl⟩
end
end Go.Proofs.Ytbbadfebajpeaaa
