/-
  The program's acceptor on a device, and the document's acceptor beside.
-/
import Derived.Test.YtlnedgjikkhplaaGreatGL39
import Derived.Test.YtlnedgjikkhplaaGreatGL41
import Derived.Test.YtlnedgjikkhplaaGreatGL38
namespace Go.Proofs.YtlnedgjikkhplaaGreat.Du
open Go.RowKit
set_option linter.unusedVariables false
set_option linter.unusedSimpArgs false
open Na (Fr AS XL vl bV vV Hid_of bel1 bel2 bel_up bel_row row2 row4 blk OwnL AtL)
open Na.M (E V S S0)

/-- The document's acceptor (in block B, its row elsewhere), beside what is one's own. -/
structure Dc (w : World) (F : Nat → Prop) (B : Nat) (d : S) (ad : Option Addr) (c : Nat) : Prop where
  xb : Na.XB w (fun q => F q ∨ q = B) ad c d.l
  bx : Na.BX w F B (.cells #[.int .i64 d.p.i, .int .i64 d.p.t, .int .i64 d.base, .slice ad d.l.length c] 39 (0, 0))
  ln : d.l.length ≤ 1024
section
variable {w0 w w' : World} {F G FA FD FA' FD' : Nat → Prop} {b ab db n B c : Nat} {d : S} {ad : Option Addr} {P P' : List Ns.M.Pl} {x x' : X} {rs : List R}
theorem Dc.step (h : Dc w F B d ad c) (hF : Fr w F w' G) : Dc w' G B d ad c := ⟨h.xb.step (Na.fr_both hF), h.bx.step hF, h.ln⟩
theorem Dc.up (h : Dc w F B d ad c) (hb : Below w.heap.size w w') : Dc w' F B d ad c := h.step (Fr.ofBelow hb)
theorem Dc.new (h : Dc w F B d ad c) (hb : Below w.heap.size w w') (hG : ∀ k, G k → F k ∨ w.heap.size ≤ k) : Dc w' G B d ad c :=
  h.step ⟨hb.os, hb.tape, hb.output, hb.size, fun k hk _ => hb.block k hk, hG⟩
theorem Dc.lt (h : Dc w F B d ad c) : B < w.heap.size := (Array.getElem?_eq_some_iff.1 h.bx.row).1
theorem Dc.newx (h : Dc w F B d ad c) (hF : ∀ k, F k → k < w.heap.size) {a2 : Option Addr} {c2 : Nat} {l : List V} (hx : XL vl w' a2 c2 l) (hk : ∀ j, blk a2 j → w.heap.size ≤ j ∧ j < w'.heap.size) : Na.XB w' (fun q => F q ∨ q = B) a2 c2 l :=
  ⟨hx, fun j hj => (hk j hj).2, fun j hj hq => by
    have h1 := (hk j hj).1
    have h2 := h.lt
    rcases hq with hq | hq
    · have := hF j hq; omega
    · omega⟩
/-- It is another one. -/
theorem Dc.set (h : Dc w F B d ad c) {d' : S} {a2 : Option Addr} {c2 : Nat} (hx : Na.XB w (fun q => F q ∨ q = B) a2 c2 d'.l) (hl : d'.l.length ≤ 1024) :
    Dc (Na.put4 w B (.int .i64 d'.p.i) (.int .i64 d'.p.t) (.int .i64 d'.base) (.slice a2 d'.l.length c2)) F B d' a2 c2 := by
  have hF := Na.fr_B w B (.int .i64 d'.p.i) (.int .i64 d'.p.t) (.int .i64 d'.base) (.slice a2 d'.l.length c2)
  refine ⟨?_, ⟨Na.put4_row h.bx.row _ _ _ _, h.bx.ap⟩, hl⟩
  exact ⟨hx.xl.keepBut fun k hk hb => hF.block k hk (fun e => hx.ap k hb (.inr e)), fun k hk => Nat.lt_of_lt_of_le (hx.lt k hk) hF.size, hx.ap⟩
theorem DU.oth (h : DU w0 w FA FD b ab db n P x) (hF : Fr w (· = B) w' (· = B)) (hB : ¬ fpd b FA FD B) (lo : w0.heap.size ≤ B) : DU w0 w' FA FD b ab db n P x := by
  have hst := h.a.step hF (fun k hk e => hB (e ▸ .inr (.inl hk))) (fun k e => e ▸ lo)
  exact ⟨(hF.block b h.lt (fun e => hB (.inl e.symm))).trans h.row, hst.1, h.d.keepBut (fun k hk hk2 => hF.block k hk (fun e => hB (e ▸ .inr (.inr hk2)))) hst.1.bel, h.ap, h.na, h.nd, h.lo⟩
theorem Dc.raccept (h : Dc w F B d ad c) (hF : ∀ k, F k → k < w.heap.size) (ok : Na.M.Ok d) (v : V) : Calls Tryz.prog 25 #[Na.aV d ad c, vV v] w fun e w' => ∃ a2 c2, e = .returned (.tuple #[Na.aV (Na.M.acs d v) a2 c2, .bool (Na.M.acb d v)]) ∧ Na.XB w' (fun q => F q ∨ q = B) a2 c2 (Na.M.acs d v).l ∧ Below w.heap.size w w' := by
  cases hb : Na.M.acb d v with
  | false =>
    refine (Na.raccept_no d ad c v w hb).mono ?_
    rintro e w' ⟨rfl, hbl⟩
    rw [Na.M.acs_no hb]
    exact ⟨ad, c, rfl, h.xb.up hbl, hbl⟩
  | true =>
    refine (Na.raccept_yes d ad c v w h.xb.xl h.ln ok.up hb).mono ?_
    rintro e w' ⟨u, rfl, a2, c2, rfl, hx, hk, hbl⟩
    exact ⟨a2, c2, rfl, h.newx hF hx hk, hbl⟩
theorem Dc.rtrim (h : Dc w F B d ad c) (hF : ∀ k, F k → k < w.heap.size) (u : Int) : Calls Tryz.prog 27 #[Na.aV d ad c, .int .i64 u] w fun e w' => ∃ a2 c2, e = .returned (.tuple #[Na.aV (Na.M.trs d u) a2 c2, .int .i64 (Na.M.trn d u : Nat)]) ∧ Na.XB w' (fun q => F q ∨ q = B) a2 c2 (Na.M.trs d u).l ∧ Below w.heap.size w w' := by
  refine (Na.rtrim_any d ad c u w h.xb.xl h.ln).mono ?_
  rintro e w' ⟨v, rfl, a2, c2, rfl, hx, hk, hbl⟩
  exact ⟨a2, c2, rfl, h.newx hF hx hk, hbl⟩
theorem Dc.rpromise (h : Dc w F B d ad c) (hF : ∀ k, F k → k < w.heap.size) (x : E) (k : Int) : Calls Tryz.prog 23 #[Na.aV d ad c, bV x, .int .i64 k] w fun e w' => ∃ a2 c2, e = .returned (.tuple #[Na.aV (Na.M.prs d x k) ad c, .slice a2 (Na.M.prl d x k).length c2, .bool (Na.M.prb d x k)]) ∧ Na.XB w' (fun q => F q ∨ q = B) ad c (Na.M.prs d x k).l ∧ Na.XB w' (fun q => F q ∨ q = B) a2 c2 (Na.M.prl d x k) ∧ Below w.heap.size w w' := by
  refine (Na.rpromise_any d ad c x k w h.xb.xl h.ln).mono ?_
  rintro e w' ⟨a2, c2, rfl, hx, hk, hbl⟩
  exact ⟨a2, c2, rfl, by rw [Na.prs_l]; exact h.xb.up hbl, h.newx hF hx hk, hbl⟩
/-- The program's, and the document's acceptor beside. -/
structure LS (w0 w : World) (FA FD : Nat → Prop) (b ab db n : Nat) (P : List Ns.M.Pl) (x : X) (rs : List R) (B : Nat) (ad : Option Addr) (c : Nat) : Prop where
  du : DU w0 w FA FD b ab db n P x
  gd : Gd n P x rs
  dc : Dc w (fpd b FA FD) B x.a ad c
  lo : w0.heap.size ≤ B
def LI (w0 : World) (db n B : Nat) (b : Nat) (x : X) (w : World) : Prop := ∃ FA FD ab P rs ad c, LS w0 w FA FD b ab db n P x rs B ad c
theorem LS.keep {ad : Option Addr} (h : LS w0 w FA FD b ab db n P x rs B ad c) (hb : Below w.heap.size w w') : LS w0 w' FA FD b ab db n P x rs B ad c := ⟨h.du.keep hb, h.gd, h.dc.up hb, h.lo⟩
theorem LS.set {ad : Option Addr} (hd : DU w0 w FA FD b ab db n P x) (hg : Gd n P x rs) (h : Dc w (fpd b FA FD) B d ad c) (lo : w0.heap.size ≤ B) {a2 : Option Addr} {c2 : Nat} {d' : S} (hx : Na.XB w (fun q => fpd b FA FD q ∨ q = B) a2 c2 d'.l) (e : x.a = d') :
    LS w0 (Na.put4 w B (.int .i64 d'.p.i) (.int .i64 d'.p.t) (.int .i64 d'.base) (.slice a2 d'.l.length c2)) FA FD b ab db n P x rs B a2 c2 := by
  subst e
  refine ⟨hd.oth (Na.fr_B _ _ _ _ _ _) h.bx.ap lo, hg, h.set hx ?_, lo⟩
  exact hg.aok.1.len
/-- Behind a crash and Open. -/
theorem LS.again {ad : Option Addr} {w2 : World} {ab' b' : Nat} (h : LS w0 w FA FD b ab db n P x rs B ad c) (hF : Fr w FD w' FD') (hg : Gd n P' { x with cut := false } rs) (hd : DU w0 w2 FA' FD' b' ab' db n P' { x with cut := false }) (hb : Below w'.heap.size w' w2) (hb' : w'.heap.size ≤ b') (hA : ∀ k, FA' k → w'.heap.size ≤ k) : LS w0 w2 FA' FD' b' ab' db n P' { x with cut := false } rs B ad c := by
  have h1 : Dc w' FD' B x.a ad c := h.dc.step ⟨hF.os, hF.tape, hF.output, hF.size, fun k hk hn => hF.block k hk (fun e => hn (.inr (.inr e))), fun k hk => by
    rcases hF.n k hk with h' | h'
    · exact .inl (.inr (.inr h'))
    · exact .inr h'⟩
  refine ⟨hd, hg, h1.new hb fun k hk => ?_, h.lo⟩
  rcases hk with rfl | hk | hk
  · exact .inr hb'
  · exact .inr (hA k hk)
  · exact .inl hk
end
/-! what the changes make of the acceptor -/
theorem ppx_no {n : Nat} {x : X} {y : E} {k : Int} (h : ppb n x y k = false) : ppx n x y k = x := by
  unfold ppx
  rw [h, if_neg (by simp)]
theorem ppx_yes {n : Nat} {x : X} {y : E} {k : Int} (h : ppb n x y k = true) : (ppx n x y k).a = Na.M.prs x.a y k ∧ (ppx n x y k).ep = x.ep ∧ (ppx n x y k).cut = x.cut := by
  have hp : Na.M.prb x.a y k = true := by
    unfold ppb at h
    simp at h
    exact h.2.1
  unfold ppx
  rw [h]
  cases he : eqE y x.a.p with
  | false =>
    rw [if_pos ⟨rfl, rfl⟩]
    exact ⟨redo_pr hp, rfl, rfl⟩
  | true =>
    rw [if_neg (by simp)]
    exact ⟨(prs_same hp he).symm, rfl, rfl⟩
theorem aax_no {n : Nat} {x : X} {v : V} (h : aab n x v = false) : aax n x v = x := by
  unfold aax
  rw [h, if_neg (by simp)]
theorem aax_yes {n : Nat} {x : X} {v : V} (ok : Na.M.Ok x.a) (h : aab n x v = true) : (aax n x v).a = Na.M.acs x.a v ∧ (aax n x v).ep = x.ep ∧ (aax n x v).cut = x.cut := by
  have hp : Na.M.acb x.a v = true := by
    unfold aab at h
    simp at h
    exact h.2.1
  unfold aax
  rw [h]
  cases he : hs x.a.l v with
  | false =>
    rw [if_pos ⟨rfl, rfl⟩]
    exact ⟨rfl, rfl, rfl⟩
  | true =>
    rw [if_neg (by simp)]
    exact ⟨(acs_same ok hp he).symm, rfl, rfl⟩
theorem ttx_no {n : Nat} {x : X} {u : Int} (h : ttc n x u ≠ 0) : ttx n x u = x := by
  unfold ttc at h
  unfold ttx
  cases hc : x.cut with
  | true => rw [if_neg (by simp)]
  | false =>
    rw [hc, if_neg (by simp)] at h
    cases hb : ttb x u with
    | true => rw [if_neg (by simp)]
    | false =>
      cases hr : rm n x (.tr (Na.M.trs x.a u).base) with
      | true => rw [hb, hr, if_neg (by simp)] at h; exact absurd rfl h
      | false => rw [if_neg (by simp)]
theorem ttx_yes {n : Nat} {x : X} {u : Int} (ok : Na.M.Ok x.a) (h : ttc n x u = 0) : (ttx n x u).a = Na.M.trs x.a u ∧ (ttx n x u).ep = x.ep ∧ (ttx n x u).cut = x.cut := by
  unfold ttc at h
  unfold ttx
  cases hc : x.cut with
  | true => rw [hc, if_pos rfl] at h; cases h
  | false =>
    rw [hc, if_neg (by simp)] at h
    cases hb : ttb x u with
    | true =>
      rw [if_neg (by simp)]
      unfold ttb at hb
      exact ⟨(trs_base ok u (of_decide_eq_true hb)).symm, rfl, hc⟩
    | false =>
      cases hr : rm n x (.tr (Na.M.trs x.a u).base) with
      | false => rw [hb, hr, if_pos ⟨rfl, rfl⟩] at h; cases h
      | true =>
        rw [if_pos ⟨rfl, rfl, rfl⟩]
        exact ⟨trs_twice ok u, rfl, hc⟩
theorem ccx_any (n : Nat) (x : X) (steps : Int) : (ccx n x steps).a = x.a ∧ (ccx n x steps).ep ≤ x.ep + 1 := by
  unfold ccx
  split
  · exact ⟨rfl, Nat.le_succ _⟩
  · split
    · exact ⟨rfl, Nat.le_succ _⟩
    · exact ⟨rfl, Nat.le_refl _⟩
theorem eqs36 (i t : Int) (w : World) : (binOp .eql 36 (.agg #[.int .i64 i, .int .i64 t]) (.agg #[.int .i64 i, .int .i64 t])).run Tryz.prog w = .ok (.bool true) w := by
  have u3 := Tryz.underlying3
  have a3 := Tryz.isAgg3
  have z3 := Tryz.sizeOf3
  have hS2 : Tryz.prog.underlying 36 = some (.struct (Tryz.prog.fieldsOf 36)) := by kernel_rfl
  have hp2 : Tryz.prog.stoodInHeld 36 = false := by kernel_rfl
  rw [run_eql_struct, show (10000 : Nat) = 9999 + 1 from rfl, run_equalIn_agg w 9999 36 _ _ hS2 hp2]
  simp only [Program.fieldsOf, Tryz.underlying36]
  go_simp
theorem getE {w : World} {g off : Nat} {l : List D} (h : AtL dl w (some ⟨g, off, none⟩) l) (j : Nat) (hj : j < l.length) (d : D) (e : l[j] = d) : w.cell? ⟨g, off + j * 7, none⟩ = some (.int .i64 d.k) ∧ w.cell? ⟨g, off + j * 7 + 1, none⟩ = some (.int .i64 d.v.s) ∧ w.cell? ⟨g, off + j * 7 + 2, none⟩ = some (.int .i64 d.v.b.i) ∧ w.cell? ⟨g, off + j * 7 + 3, none⟩ = some (.int .i64 d.v.b.t) ∧ w.cell? ⟨g, off + j * 7 + 4, none⟩ = some (.string d.v.v) ∧ w.cell? ⟨g, off + j * 7 + 5, none⟩ = some (.int .i64 d.st) ∧ w.cell? ⟨g, off + j * 7 + 6, none⟩ = some (.int .u64 (d.kp : Int)) := by
  subst e
  obtain ⟨b, o, e, h⟩ := getD h j hj
  cases e
  exact h
end Go.Proofs.YtlnedgjikkhplaaGreat.Du
