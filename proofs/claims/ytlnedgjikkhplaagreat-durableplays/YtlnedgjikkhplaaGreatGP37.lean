import Derived.Test.YtlnedgjikkhplaaGreatGP36
set_option maxRecDepth 100000
set_option maxHeartbeats 8000000
set_option linter.unusedVariables false
set_option linter.unusedSimpArgs false
namespace Go.Proofs.YtlnedgjikkhplaaGreat.Du
open Go.RowKit
open Na (Fr AS XL vl bV vV Hf bel1 bel2 Bu Br row2 row4 blk OwnL AtL)
open Na.M (E V S S0)
open Ns (Hd XD)
open Ns.M (DD RR ofL)
theorem AdO.yes {w w' : World} {H : Hx} {D : DD} {n : Nat} {P : List Ns.M.Pl} {x : X} {r : R} {e : Ending} (h : AdO w H D n P x r e w') (hr : rm n x r = true) : ∃ H' D', e = .returned (.tuple #[.agg (dvv H' D' (addY x r)), .int .i64 0]) ∧ XX w' H' D' n (addP n P x r) (addY x r) ∧ New w H H' ∧ Below w.heap.size w w' := by
 rcases h with ⟨_, h⟩ | ⟨h, _⟩
 ·exact h
 ·rw [hr] at h; cases h
theorem AdO.no {w w' : World} {H : Hx} {D : DD} {n : Nat} {P : List Ns.M.Pl} {x : X} {r : R} {e : Ending} (h : AdO w H D n P x r e w') (hr : rm n x r = false) : e = .returned (.tuple #[.agg (dvv H D x), .int .i64 5]) ∧ Below w.heap.size w w' := by
 rcases h with ⟨h, _⟩ | ⟨_, h⟩
 ·rw [hr] at h; cases h
 ·exact h
def AdQ (n : Nat) (P : List Ns.M.Pl) (x : X) (r : R) (P2 : List Ns.M.Pl) (x2 : X) (e2 : Int) : Prop := (rm n x r = true ∧ P2 = addP n P x r ∧ x2 = addY x r ∧ e2 = 0) ∨ (rm n x r = false ∧ P2 = P ∧ x2 = x ∧ e2 = 5)
theorem dadd_q {n : Nat} {P : List Ns.M.Pl} {x : X} {rs : List R} (hg : Gd n P x rs) (r : R) (hr : Wf r) : ∃ P2 x2 e2, AdQ n P x r P2 x2 e2 ∧ ∀ (w : World) (H : Hx) (D : DD), XX w H D n P x → Calls Tryz.prog 98 #[.agg (dvv H D x), .string (ofL (kb r))] w fun e w' => ∃ H' D', e = .returned (.tuple #[.agg (dvv H' D' x2), .int .i64 e2]) ∧ XX w' H' D' n P2 x2 ∧ New w H H' ∧ Below w.heap.size w w' := by
 cases hrm : rm n x r with
 | true =>
  refine ⟨_, _, _, .inl ⟨hrm, rfl, rfl, rfl⟩, fun w H D hx => ?_⟩
  exact (dadd_any hx hg r hr).mono fun e w' h => h.yes hrm
 | false =>
  refine ⟨_, _, _, .inr ⟨hrm, rfl, rfl, rfl⟩, fun w H D hx => ?_⟩
  refine (dadd_any hx hg r hr).mono fun e w' h => ?_
  obtain ⟨e1, hb⟩ := h.no hrm
  exact ⟨H, D, e1, hx.keep hb, New.refl _ _, hb⟩
structure RN (w : World) (H : Hx) (d : S) (a2 : Option Addr) (c2 : Nat) (w' : World) : Prop where
 xl : XL vl w' a2 c2 d.l
 lt : ∀ j, Na.blk a2 j → j < w'.heap.size
 nw : ∀ j, Na.blk a2 j → Na.blk H.ad j ∨ w.heap.size ≤ j
 bel : Below w.heap.size w w'
section
variable {w w' : World} {H : Hx} {D : DD} {n : Nat} {P : List Ns.M.Pl} {x : X} {rs : List R}
theorem RN.keep {d : S} {a2 : Option Addr} {c2 : Nat} {w2 : World} (h : RN w H d a2 c2 w') (hb : Below w'.heap.size w' w2) : RN w H d a2 c2 w2 :=
 ⟨h.xl.keepBut fun k hk _ => hb.block k hk, fun j hj => Nat.lt_of_lt_of_le (h.lt j hj) hb.size, h.nw, Bu h.bel hb Lr⟩
theorem XX.promise (h : XX w H D n P x) (hl : x.a.l.length ≤ 1024) (y : E) (k : Int) : Calls Tryz.prog 23 #[Na.aV x.a H.ad H.c, bV y, .int .i64 k] w fun e w' => ∃ a' c', e = .returned (.tuple #[Na.aV (Na.M.prs x.a y k) H.ad H.c, .slice a' (Na.M.prl x.a y k).length c', .bool (Na.M.prb x.a y k)]) ∧ RN w H (Na.M.prs x.a y k) H.ad H.c w' ∧ XL vl w' a' c' (Na.M.prl x.a y k) ∧ (∀ j, Na.blk a' j → w.heap.size ≤ j ∧ j < w'.heap.size) := by
 refine (Na.rpromise_any x.a H.ad H.c y k w h.xl hl).mono ?_; rintro e w' ⟨a2, c2, rfl, hx, hk, hbl⟩
 have hx2 := h.xl.keepBut fun k hk _ => hbl.block k hk
 exact ⟨a2, c2, rfl, ⟨by rw [Na.prs_l]; exact hx2, fun j hj => Nat.lt_of_lt_of_le (h.lt j hj) hbl.size, fun j hj => .inl hj, hbl⟩, hx, hk⟩
theorem XX.accept (h : XX w H D n P x) (ok : Na.M.Ok x.a) (v : V) : Calls Tryz.prog 25 #[Na.aV x.a H.ad H.c, vV v] w fun e w' => ∃ a2 c2, e = .returned (.tuple #[Na.aV (Na.M.acs x.a v) a2 c2, .bool (Na.M.acb x.a v)]) ∧ RN w H (Na.M.acs x.a v) a2 c2 w' := by
 cases hb : Na.M.acb x.a v with
 | false =>
  refine (Na.raccept_no x.a H.ad H.c v w hb).mono ?_; rintro e w' ⟨rfl, hbl⟩
  rw [Na.M.acs_no hb]
  exact ⟨H.ad, H.c, rfl, h.xl.keepBut fun k hk _ => hbl.block k hk, fun j hj => Nat.lt_of_lt_of_le (h.lt j hj) hbl.size, fun j hj => .inl hj, hbl⟩
 | true =>
  refine (Na.raccept_yes x.a H.ad H.c v w h.xl ok.len ok.up hb).mono ?_; rintro e w' ⟨u, rfl, a2, c2, rfl, hx, hk, hbl⟩
  exact ⟨a2, c2, rfl, hx, fun j hj => (hk j hj).2, fun j hj => .inr (hk j hj).1, hbl⟩
theorem XX.trim (h : XX w H D n P x) (ok : Na.M.Ok x.a) (u : Int) : Calls Tryz.prog 27 #[Na.aV x.a H.ad H.c, .int .i64 u] w fun e w' => ∃ a2 c2, e = .returned (.tuple #[Na.aV (Na.M.trs x.a u) a2 c2, .int .i64 (Na.M.trn x.a u : Nat)]) ∧ RN w H (Na.M.trs x.a u) a2 c2 w' := by
 refine (Na.rtrim_any x.a H.ad H.c u w h.xl ok.len).mono ?_; rintro e w' ⟨v, rfl, a2, c2, rfl, hx, hk, hbl⟩
 exact ⟨a2, c2, rfl, hx, fun j hj => (hk j hj).2, fun j hj => .inr (hk j hj).1, hbl⟩
end
theorem dvv_a (H : Hx) (D : DD) (x : X) (a : S) (ad : Option Addr) (c : Nat) : ((((dvv H D x).setIfInBounds 8 (.int .i64 a.p.i)).setIfInBounds 9 (.int .i64 a.p.t)).setIfInBounds 10 (.int .i64 a.base)).setIfInBounds 11 (.slice ad a.l.length c) = dvv ⟨H.h, ad, c⟩ D { x with a := a } := rfl
def st8 (w : World) (B : Nat) (v0 v1 v2 v3 : Value) : World := (((w.setCell ⟨B, 8, none⟩ v0).setCell ⟨B, 9, none⟩ v1).setCell ⟨B, 10, none⟩ v2).setCell ⟨B, 11, none⟩ v3
theorem put8 {w : World} {B : Nat} {H : Hx} {D : DD} {x : X} (a : S) (ad : Option Addr) (c : Nat) (h : w.heap[B]? = some (.cells (dvv H D x) 41 (0, 0))) :
  (st8 w B (.int .i64 a.p.i) (.int .i64 a.p.t) (.int .i64 a.base) (.slice ad a.l.length c)).heap[B]? = some (.cells (dvv ⟨H.h, ad, c⟩ D { x with a := a }) 41 (0, 0)) ∧ (∀ k, k ≠ B → (st8 w B (.int .i64 a.p.i) (.int .i64 a.p.t) (.int .i64 a.base) (.slice ad a.l.length c)).heap[k]? = w.heap[k]?) ∧ (st8 w B (.int .i64 a.p.i) (.int .i64 a.p.t) (.int .i64 a.base) (.slice ad a.l.length c)).heap.size = w.heap.size := by
 refine ⟨?_, fun k hk => ?_, by simp [st8]⟩
 ·rw [← dvv_a H D x a ad c]
  exact heap_setCell_same _ _ 11 _ _ _ (heap_setCell_same _ _ 10 _ _ _ (heap_setCell_same _ _ 9 _ _ _ (heap_setCell_same _ _ 8 _ _ _ h)))
 ·unfold st8
  rw [heap_setCell_other _ ⟨B, 11, none⟩ k _ hk, heap_setCell_other _ ⟨B, 10, none⟩ k _ hk, heap_setCell_other _ ⟨B, 9, none⟩ k _ hk, heap_setCell_other _ ⟨B, 8, none⟩ k _ hk]
theorem below8 {w0 w : World} {B B' : Nat} {v0 v1 v2 v3 : Value} (h : Below B' w0 w) (hB : B' ≤ B) : Below B' w0 (st8 w B v0 v1 v2 v3) := (((h.setCell hB _).setCell hB _).setCell hB _).setCell hB _
theorem add_pr {x : X} {y : E} {k : Int} (h : Na.M.prb x.a y k = true) : { addY x (.pr y) with a := Na.M.prs x.a y k } = addX x (.pr y) := by
 unfold addY addX; rw [redo_pr h]
theorem add_vo (x : X) (v : V) : { addY x (.vo v) with a := Na.M.acs x.a v } = addX x (.vo v) := rfl
theorem sec_tr2 {e k : Nat} {u : Int} (he : e ≤ 2147483647) (hk : k ≤ 2147483647) (hu : I64 u) {a : S} (ok : Na.M.Ok a) : sec e k (.tr u) = sec e k (.tr (Na.M.trs a u).base) := by
 rw [sec_tr he hk hu, sec_tr he hk (trs_wf ok u)]
theorem add_tr {n : Nat} {x : X} {u : Int} (he : x.ep ≤ 2147483647) (hk : x.n ≤ 2147483647) (hu : I64 u) (ok : Na.M.Ok x.a) : { addY x (.tr u) with a := Na.M.trs x.a u } = addX x (.tr (Na.M.trs x.a u).base) ∧ rm n x (.tr u) = rm n x (.tr (Na.M.trs x.a u).base) := by
 unfold addY addX rm; rw [sec_tr2 he hk hu ok, trs_twice ok u]
 exact ⟨rfl, rfl⟩
theorem mem_hs {l : List V} (hu : Na.M.Up l) {v : V} (hv : v ∈ l) : hs l v = true := by
 have h1 : v ∈ Na.M.vts l v.s := Na.M.mem_vts.2 ⟨hv, Int.le_refl _⟩
 have h2 : ∀ y ∈ Na.M.vts l v.s, v.s ≤ y.s := fun y hy => (Na.M.mem_vts.1 hy).2
 have h3 : Na.M.Up (Na.M.vts l v.s) := Na.M.up_vts hu _
 unfold hs
 cases hL : Na.M.vts l v.s with
 | nil => rw [hL] at h1; simp at h1
 | cons y r =>
  rw [hL] at h1 h2 h3
  have e : y = v := by
   rcases List.mem_cons.1 h1 with e | h4
   ·exact e.symm
   ·have := (List.pairwise_cons.1 h3).1 v h4
    have := h2 y (by simp)
    omega
  subst e
  exact Na.veq_refl _ _ _ _
theorem acs_iff {a : S} (ok : Na.M.Ok a) {v : V} (h : Na.M.acb a v = true) : Na.M.acs a v = a ↔ hs a.l v = true := by
 refine ⟨fun e => mem_hs ok.up ?_, fun e => acs_same ok h e⟩
 rw [Na.M.acs_yes h] at e
 have : Na.M.put a.l v = a.l := congrArg S.l e
 rw [← this]
 exact Na.M.put_mem (.inl rfl)
theorem prs_iff {a : S} {y : E} {k : Int} (h : Na.M.prb a y k = true) : Na.M.prs a y k = a ↔ eqE y a.p = true := by
 refine ⟨fun e => ?_, fun e => prs_same h e⟩
 rw [Na.M.prs_yes h] at e
 have : y = a.p := by rw [← e]
 rw [← this]
 simp [eqE]
theorem trs_iff {a : S} (ok : Na.M.Ok a) (u : Int) : Na.M.trs a u = a ↔ (Na.M.trs a u).base = a.base := ⟨fun e => by rw [e], fun e => trs_base ok u e⟩
def DPo (w : World) (H : Hx) (n : Nat) (x : X) (y : E) (k : Int) (e : Ending) (w' : World) : Prop :=
 ∃ H' D' P' rs' la lc, e = .returned (.tuple #[.agg (dvv H' D' (ppx n x y k)), .slice la (ppl n x y k).length lc, .bool (ppb n x y k), .int .i64 (ppc n x y k)]) ∧ XX w' H' D' n P' (ppx n x y k) ∧ Gd n P' (ppx n x y k) rs' ∧ New w H H' ∧ XL vl w' la lc (ppl n x y k) ∧ (∀ j, Na.blk la j → w.heap.size ≤ j ∧ j < w'.heap.size) ∧ Below w.heap.size w w'
def DAo (w : World) (H : Hx) (n : Nat) (x : X) (v : V) (e : Ending) (w' : World) : Prop :=
 ∃ H' D' P' rs', e = .returned (.tuple #[.agg (dvv H' D' (aax n x v)), .bool (aab n x v), .int .i64 (aac n x v)]) ∧ XX w' H' D' n P' (aax n x v) ∧ Gd n P' (aax n x v) rs' ∧ New w H H' ∧ Below w.heap.size w w'
def DTo (w : World) (H : Hx) (n : Nat) (x : X) (u : Int) (e : Ending) (w' : World) : Prop :=
 ∃ H' D' P' rs', e = .returned (.tuple #[.agg (dvv H' D' (ttx n x u)), .int .i64 (ttc n x u)]) ∧ XX w' H' D' n P' (ttx n x u) ∧ Gd n P' (ttx n x u) rs' ∧ New w H H' ∧ Below w.heap.size w w'
end Go.Proofs.YtlnedgjikkhplaaGreat.Du
namespace Go.Proofs.YtlnedgjikkhplaaGreat.Nc
open Go.RowKit
def RV (st : Option (List UInt8)) : Value := .agg #[.string (ofL (lft st)), .bool st.isNone]
theorem text_nil (l : List UInt8) (h : l ≠ []) : (ofL l).toList.isEmpty = false := by
 cases l with
 | nil => exact absurd rfl h
 | cons c r =>
  rw [ByteArray.toList_eq]
  simp [ofL]
theorem f140_res : Tryz.f140.results = #[.cell 2 162] := rfl
theorem Tryz.size162 : (Tryz.prog.info? 162).map (·.size) = some 2 := by kernel_rfl
theorem Tryz.und162 : ∃ fs, Tryz.prog.underlying 162 = some (.struct fs) := ⟨_, Tryz.underlying162⟩
theorem bad_any (s : ByteArray) (q : Bool) (w : World) :
  Calls Tryz.prog 140 #[.agg #[.string s, .bool q]] w fun x w' => x = .returned (.agg #[.string { data := #[] }, .bool true]) ∧ w' = (w.alloc (.cells #[.string s, .bool q] 162)).alloc (.cells #[.string { data := #[] }, .bool true] 162) := by
 go_enter Tryz.func140, Tryz.ntmps140
 go_wp2
 refine bodyPost_ret (v := .agg #[.string { data := #[] }, .bool true]) ?_ rfl ⟨rfl, rfl⟩
 obtain ⟨fs, hf⟩ := Tryz.und162
 exact results_cell_row f140_res _ _ (w.heap.size + 1) 162 _ (0, 0) _ rfl (heap_alloc2_new w _ _) hf rfl Tryz.size162
theorem takeByte_any (l : List UInt8) (q : Bool) (w : World) (hl : l.length ≤ 140737488351232) :
  Calls Tryz.prog 141 #[.agg #[.string (ofL l), .bool q]] w fun x w' => x = .returned (.tuple #[RV (nx (M.byte l)), .int .i64 (vl 0 (M.byte l))]) ∧ Below w.heap.size w w' := by
 cases l with
 | nil =>
  have h0 : ofL [] = { data := #[] } := rfl
  go_enter Tryz.func141, Tryz.ntmps141
  go_wp2_with fail
  refine (bad_any _ _ _).mono ?_; rintro x w1 ⟨rfl, rfl⟩
  go_wp2
  refine bodyPost_ret (v := .tuple #[RV none, .int .i64 0]) ?_ rfl ⟨rfl, ?_⟩
  ·rw [results_cell_tmp rfl]
   go_simp
   rfl
  ·(repeat' (first | exact Below.refl _ _ | refine Below.drew ?_ | refine Below.alloc ?_ (by simp <;> omega) _))
 | cons c r =>
  have h0 := text_nil (c :: r) (by simp)
  have hz : 1 ≤ (ofL (c :: r)).size := by rw [ofL_size]; simp
  have hz0 : 0 < (ofL (c :: r)).size := by omega
  have hc : (ofL (c :: r))[0].toNat < 256 := c.toNat_lt
  have HX : Hid ((ofL (c :: r)).extract 1 (ofL (c :: r)).size = ofL r) := ofL_drop (c :: r) 1 _ (by rw [ofL_size]; exact Nat.le_refl _)
  go_enter Tryz.func141, Tryz.ntmps141
  go_wp2_with fail
  go_region
  all_goals go_wp2
  all_goals refine bodyPost_ret (v := .tuple #[RV (some r), .int .i64 c.toNat]) ?_ rfl ⟨rfl, ?_⟩
  all_goals first
   | (rw [results_cell_tmp rfl]; go_simp; rw [HX.out]; exact ⟨rfl, rfl⟩)
   | (repeat' (first | exact Below.refl _ _ | refine Below.drew ?_ | refine Below.alloc ?_ (by simp <;> omega) _))
theorem and127 (x : Nat) (h : x < 256) : bits .and .u64 (x : Int) 127 = (x : Int) % 128 := by
 have h2 : bits .and .u64 (x : Int) 127 = ((x &&& 127 : Nat) : Int) := u64_and_nat x 127 (by omega) (by decide)
 rw [h2, Nat.and_two_pow_sub_one_eq_mod x 7]
 rfl
theorem sg_odd (u : Nat) (h : u % 2 = 1) : -((u : Int) / 2) - 1 = M.sg u := by rw [M.sg, if_pos h]; omega
theorem sg_even (u : Nat) (h : u % 2 ≠ 1) : ((u : Int) / 2) = M.sg u := by rw [M.sg, if_neg h]; omega
theorem takeInt_any (l : List UInt8) (q : Bool) (w : World) (hl : l.length ≤ 140737488351232) :
  Calls Tryz.prog 95 #[.agg #[.string (ofL l), .bool q]] w fun x w' => x = .returned (.tuple #[RV (nx (M.int l)), .int .i64 (vl 0 (M.int l))]) ∧ Below w.heap.size w w' := by
 have HI : Hid (M.int l = (M.rd 10 0 0 l).map fun x => (M.sg x.1, x.2)) := rfl
 have hsz := ofL_size l
 go_enter Tryz.func95, Tryz.ntmps95
 go_wp2
 go_loop [4, 5] (fun u i => ∃ (k x : Nat), k ≤ 10 ∧ k ≤ l.length ∧ i = .int .i64 k ∧ u = .int .u64 x ∧ x < 18446744073709551616 ∧ Hid (M.rd (10 - k) k x (l.drop k) = M.rd 10 0 0 l)) (fun _ i => 10 - (intOf i).toNat)
 case atStart => exact ⟨0, 0, by omega, by omega, rfl, rfl, by omega, rfl⟩
 case round =>
  obtain ⟨k, x, hk, hkl, rfl, rfl, hx, hrd⟩ := hrel
  by_cases hlt : k < l.length
  ·by_cases hlt2 : k < 10
   ·have hk2 : k < (ofL l).size := by omega
    obtain ⟨c, hc⟩ := Nq ((ofL l)[k])
    have hdr : l.drop k = c :: l.drop (k + 1) := by rw [← hc]; exact M.drop_cons l k hlt
    rw [hdr] at hrd
    have hc2 : c.toNat < 256 := c.toNat_lt
    have ha := acc_bits x k c.toNat hx
    have h127 := and127 c.toNat hc2
    clear hdr
    by_cases hbad : (k = 9 ∧ 1 < c.toNat) ∨ (0 < k ∧ c.toNat = 0)
    ·have HN : Hid (M.int l = none) := by
      show _ = _
      rw [HI.out, ← hrd.out, show 10 - k = (9 - k) + 1 by omega]
      simp only [M.rd]
      by_cases h128 : 128 ≤ c.toNat
      ·rw [if_pos h128, show 9 - k = 0 by omega]; rfl
      ·rw [if_neg h128, if_pos (by omega)]; rfl
     have d2 : ((k : Int) == 9) = true ∧ decide ((1 : Int) < (c.toNat : Int)) = true ∨ ((k : Int) == 9) = true ∧ decide ((1 : Int) < (c.toNat : Int)) = false ∧ 0 < k ∧ ((c.toNat : Int) == 0) = true ∨ ((k : Int) == 9) = false ∧ 0 < k ∧ ((c.toNat : Int) == 0) = true := by simp; omega
     clear hbad
     rcases d2 with ⟨d1, d2⟩ | ⟨d1, d2, d3, d4⟩ | ⟨d1, d3, d4⟩
     all_goals
      go_wp2_with fail
      refine (bad_any _ _ _).mono ?_; rintro y w1 ⟨rfl, rfl⟩
      go_wp2
      refine bodyPost_ret (v := .tuple #[RV none, .int .i64 0]) ?_ rfl ⟨by rw [HN.out]; rfl, ?_⟩
      ·rw [results_cell_tmp rfl]
       go_simp
       rfl
      ·(repeat' (first | exact Below.refl _ _ | refine Below.drew ?_ | refine Below.alloc ?_ (by simp <;> omega) _))
    ·have d1 : ((k : Int) == 9) = false ∧ (0 < k) = False ∨ ((k : Int) == 9) = false ∧ 0 < k ∧ ((c.toNat : Int) == 0) = false ∨ ((k : Int) == 9) = true ∧ decide ((1 : Int) < (c.toNat : Int)) = false ∧ 0 < k ∧ ((c.toNat : Int) == 0) = false := by simp; omega
     by_cases h128 : 128 ≤ c.toNat
     ·have hd : (c.toNat < 128) = False := by simp; omega
      have hk9 : k < 9 := by omega
      clear hbad
      rcases d1 with ⟨d1, d2⟩ | ⟨d1, d3, d4⟩ | ⟨d1, d2, d3, d4⟩
      all_goals
       go_wp2
       go_round
       case rel =>
        refine ⟨k + 1, M.acc x k c.toNat, by omega, by omega, by go_num, rfl, M.acc_lt _ _ _ hx, ?_⟩
        show _ = _
        rw [← hrd.out, show 10 - k = (10 - (k + 1)) + 1 by omega]
        simp only [M.rd]
        rw [if_pos h128]
       case measure => simp [intOf]; omega
     ·have hd : c.toNat < 128 := by omega
      have HN : Hid (M.int l = some (M.sg (M.acc x k c.toNat), l.drop (k + 1))) := by
       show _ = _
       rw [HI.out, ← hrd.out, show 10 - k = (9 - k) + 1 by omega]
       simp only [M.rd]
       rw [if_neg h128, if_neg (by omega)]
       rfl
      obtain ⟨z, hz⟩ : ∃ z : Nat, z = k + 1 := ⟨_, rfl⟩
      have hz' : ((k : Int) + 1) = (z : Int) := by omega
      have hzl : z ≤ (ofL l).size := by omega
      have HX : Hid ((ofL l).extract z l.length = ofL (l.drop (k + 1))) := by rw [hz]; exact ofL_drop l (k + 1) _ Lr
      have hal := M.acc_lt x k c.toNat hx
      obtain ⟨u, hu⟩ := Nq (M.acc x k c.toNat)
      rw [hu] at ha hal HN; clear hbad hz hu
      have h1 := Lib.u64_and1 (u : Int) (by omega) (by omega)
      by_cases hodd : u % 2 = 1
      ·have hp : ((u : Int) % 2) = 1 := by omega
       rw [hp] at h1
       have HS : Hid (_ = _) := sg_odd u hodd
       clear hodd hp
       rcases d1 with ⟨d1, d2⟩ | ⟨d1, d3, d4⟩ | ⟨d1, d2, d3, d4⟩
       all_goals
        go_wp2
        refine bodyPost_ret (v := .tuple #[RV (some (l.drop (k + 1))), .int .i64 (M.sg u)]) ?_ rfl ⟨by rw [HN.out]; rfl, ?_⟩
        ·rw [results_cell_tmp rfl]
         go_simp; rw [HX.out]
         exact ⟨rfl, HS.out⟩
        ·(repeat' (first | exact Below.refl _ _ | refine Below.drew ?_ | refine Below.alloc ?_ (by simp <;> omega) _))
      ·have hp : ((u : Int) % 2) = 0 := by omega
       rw [hp] at h1
       have HS : Hid (_ = _) := sg_even u hodd
       clear hodd hp
       rcases d1 with ⟨d1, d2⟩ | ⟨d1, d3, d4⟩ | ⟨d1, d2, d3, d4⟩
       all_goals
        go_wp2
        refine bodyPost_ret (v := .tuple #[RV (some (l.drop (k + 1))), .int .i64 (M.sg u)]) ?_ rfl ⟨by rw [HN.out]; rfl, ?_⟩
        ·rw [results_cell_tmp rfl]
         go_simp; rw [HX.out]
         exact ⟨rfl, HS.out⟩
        ·(repeat' (first | exact Below.refl _ _ | refine Below.drew ?_ | refine Below.alloc ?_ (by simp <;> omega) _))
   ·have hd2 : decide ((k : Int) < 10) = false := by simp; omega
    have HN : Hid (M.int l = none) := by
     show _ = _
     rw [HI.out, ← hrd.out, show 10 - k = 0 by omega]; rfl
    go_wp2_with fail
    refine (bad_any _ _ _).mono ?_; rintro y w1 ⟨rfl, rfl⟩
    go_wp2
    refine bodyPost_ret (v := .tuple #[RV none, .int .i64 0]) ?_ rfl ⟨by rw [HN.out]; rfl, ?_⟩
    ·rw [results_cell_tmp rfl]
     go_simp
     rfl
    ·(repeat' (first | exact Below.refl _ _ | refine Below.drew ?_ | refine Below.alloc ?_ (by simp <;> omega) _))
  ·have HN : Hid (M.int l = none) := by
    show _ = _
    rw [HI.out, ← hrd.out, List.drop_of_length_le (by omega)]
    cases 10 - k <;> rfl
   go_wp2_with fail
   refine (bad_any _ _ _).mono ?_; rintro y w1 ⟨rfl, rfl⟩
   go_wp2
   refine bodyPost_ret (v := .tuple #[RV none, .int .i64 0]) ?_ rfl ⟨by rw [HN.out]; rfl, ?_⟩
   ·rw [results_cell_tmp rfl]
    go_simp
    rfl
   ·(repeat' (first | exact Below.refl _ _ | refine Below.drew ?_ | refine Below.alloc ?_ (by simp <;> omega) _))
theorem row2 {w : World} {k : Nat} {v0 v1 : Value} {t : TypeId} (h : w.heap[k]? = some (.cells #[v0, v1] t (0, 0))) :
  w.cell? ⟨k, 0, none⟩ = some v0 ∧ w.cell? ⟨k, 1, none⟩ = some v1 ∧ w.frozen? ⟨k, 0, none⟩ = false ∧ w.frozen? ⟨k, 1, none⟩ = false :=
 ⟨by rw [cell_of_row w k 0 _ _ _ h]; rfl, by rw [cell_of_row w k 1 _ _ _ h]; rfl, frozen_of_row w k 0 _ _ h, frozen_of_row w k 1 _ _ h⟩
theorem two_rows {w w1 : World} {A B : Obj} (hb : Below ((w.alloc A).alloc B).heap.size ((w.alloc A).alloc B) w1) : w1.heap[w.heap.size]? = some A ∧ w1.heap[w.heap.size + 1]? = some B ∧ w.heap.size + 1 < w1.heap.size ∧ Below w.heap.size w w1 := by
 have hz := hb.size
 simp at hz
 refine ⟨?_, ?_, by omega, ?_⟩
 ·rw [hb.block _ (by simp; omega)]; exact heap_alloc2_old w A B
 ·rw [hb.block _ (by simp)]; exact heap_alloc2_new w A B
 ·exact (((Below.refl w.heap.size w).alloc Lr A).alloc (by simp) B).trans (hb.mono (by simp; omega))
theorem cell_up {w : World} {a : Addr} {v : Value} (h : w.cell? a = some v) (o : Obj) : (w.alloc o).cell? a = some v :=
 (World.cell?_of_block (w := w) (Below.heap_alloc w o a.block (World.block_lt_of_cell? w a h))).trans h
theorem frozen_up {w : World} {a : Addr} {b : Bool} (h : w.frozen? a = b) (hl : a.block < w.heap.size) (o : Obj) : (w.alloc o).frozen? a = b :=
 (World.frozen?_of_block (w := w) (Below.heap_alloc w o a.block hl)).trans h
theorem takeText_any (l : List UInt8) (q : Bool) (w : World) (hl : l.length ≤ 140737488351232) :
  Calls Tryz.prog 93 #[.agg #[.string (ofL l), .bool q]] w fun x w' => x = .returned (.tuple #[RV (nx (M.text l)), .string (ofL (vl [] (M.text l)))]) ∧ Below w.heap.size w w' := by
 have HT : Hid (M.text l = match M.count l with | none => none | some (n, r) => some (r.take n, r.drop n)) := rfl
 have HCN : Hid (M.int l = none → M.count l = none) := M.count_none l
 cases hi : M.int l with
 | none =>
  rw [HCN.out hi] at HT
  go_enter Tryz.func93, Tryz.ntmps93
  go_wp2_with fail
  refine (takeInt_any l q _ hl).mono ?_; rintro x w1 ⟨rfl, hb1⟩
  rw [hi]
  simp only [RV, vl, nx, Option.map_none, lft, Option.getD_none, Option.isNone_none]
  obtain ⟨g0, g1, hlt, B1⟩ := two_rows hb1
  obtain ⟨c00, c01, f00, f01⟩ := row2 g0
  obtain ⟨c10, c11, f10, f11⟩ := row2 g1
  clear hb1 g0 g1
  have u00 := fun o => cell_up c00 o
  have u01 := fun o => cell_up c01 o
  have u10 := fun o1 o2 o3 => cell_up (cell_up (cell_up c10 o1) o2) o3
  have u11 := fun o1 o2 o3 => cell_up (cell_up (cell_up c11 o1) o2) o3
  have v10 := fun o1 o2 o3 => frozen_up (frozen_up (frozen_up f10 hlt o1) (by simp; omega) o2) (by simp; omega) o3
  have v11 := fun o1 o2 o3 => frozen_up (frozen_up (frozen_up f11 hlt o1) (by simp; omega) o2) (by simp; omega) o3
  go_wp2_with fail
  refine (bad_any _ _ _).mono ?_; rintro x w2 ⟨rfl, rfl⟩
  go_wp2
  refine bodyPost_ret (v := .tuple #[RV none, .string (ofL [])]) ?_ rfl ⟨by rw [HT.out]; rfl, ?_⟩
  ·rw [results_cell_tmp rfl]
   go_simp
   exact ⟨rfl, rfl⟩
  ·(repeat' (first | exact B1 | refine Below.drew ?_ | refine Below.setCell ?_ (by first | omega | (simp; omega) | simp) _ | refine Below.alloc ?_ (by first | omega | (simp; omega) | simp) _))
 | some p =>
  obtain ⟨n, r⟩ := p
  have hbd := M.int_bd _ _ _ hi
  have hrl := M.int_len _ _ _ hi
  have hsz := ofL_size r
  by_cases h1 : n < 0
  ·rw [M.count_low _ _ _ hi (.inl h1)] at HT
   have d1 : decide (n < 0) = true := by simpa using h1
   go_enter Tryz.func93, Tryz.ntmps93
   go_wp2_with fail
   refine (takeInt_any l q _ hl).mono ?_; rintro x w1 ⟨rfl, hb1⟩
   rw [hi]
   simp only [RV, vl, nx, Option.map_some, lft, Option.getD_some, Option.isNone_some]
   obtain ⟨g0, g1, hlt, B1⟩ := two_rows hb1
   obtain ⟨c00, c01, f00, f01⟩ := row2 g0
   obtain ⟨c10, c11, f10, f11⟩ := row2 g1
   clear hb1 g0 g1
   have u00 := fun o => cell_up c00 o
   have u01 := fun o => cell_up c01 o
   have u10 := fun o1 o2 o3 => cell_up (cell_up (cell_up c10 o1) o2) o3
   have u11 := fun o1 o2 o3 => cell_up (cell_up (cell_up c11 o1) o2) o3
   have v10 := fun o1 o2 o3 => frozen_up (frozen_up (frozen_up f10 hlt o1) (by simp; omega) o2) (by simp; omega) o3
   have v11 := fun o1 o2 o3 => frozen_up (frozen_up (frozen_up f11 hlt o1) (by simp; omega) o2) (by simp; omega) o3
   go_wp2_with fail
   refine (bad_any _ _ _).mono ?_; rintro x w2 ⟨rfl, rfl⟩
   go_wp2
   refine bodyPost_ret (v := .tuple #[RV none, .string (ofL [])]) ?_ rfl ⟨by rw [HT.out]; rfl, ?_⟩
   ·rw [results_cell_tmp rfl]
    go_simp
    exact ⟨rfl, rfl⟩
   ·(repeat' (first | exact B1 | refine Below.drew ?_ | refine Below.setCell ?_ (by first | omega | (simp; omega) | simp) _ | refine Below.alloc ?_ (by first | omega | (simp; omega) | simp) _))
  ·obtain ⟨m, rfl⟩ := Int.eq_ofNat_of_zero_le (show 0 ≤ n by omega)
   have d1 : decide ((m : Int) < 0) = false := by simp
   by_cases h2 : r.length < m
   ·rw [M.count_low _ _ _ hi (.inr (by omega))] at HT
    go_enter Tryz.func93, Tryz.ntmps93
    go_wp2_with fail
    refine (takeInt_any l q _ hl).mono ?_; rintro x w1 ⟨rfl, hb1⟩
    rw [hi]
    simp only [RV, vl, nx, Option.map_some, lft, Option.getD_some, Option.isNone_some]
    obtain ⟨g0, g1, hlt, B1⟩ := two_rows hb1
    obtain ⟨c00, c01, f00, f01⟩ := row2 g0
    obtain ⟨c10, c11, f10, f11⟩ := row2 g1
    clear hb1 g0 g1
    have u00 := fun o => cell_up c00 o
    have u01 := fun o => cell_up c01 o
    have u10 := fun o1 o2 o3 => cell_up (cell_up (cell_up c10 o1) o2) o3
    have u11 := fun o1 o2 o3 => cell_up (cell_up (cell_up c11 o1) o2) o3
    have v10 := fun o1 o2 o3 => frozen_up (frozen_up (frozen_up f10 hlt o1) (by simp; omega) o2) (by simp; omega) o3
    have v11 := fun o1 o2 o3 => frozen_up (frozen_up (frozen_up f11 hlt o1) (by simp; omega) o2) (by simp; omega) o3
    go_wp2_with fail
    refine (bad_any _ _ _).mono ?_; rintro x w2 ⟨rfl, rfl⟩
    go_wp2
    refine bodyPost_ret (v := .tuple #[RV none, .string (ofL [])]) ?_ rfl ⟨by rw [HT.out]; rfl, ?_⟩
    ·rw [results_cell_tmp rfl]
     go_simp
     exact ⟨rfl, rfl⟩
    ·(repeat' (first | exact B1 | refine Below.drew ?_ | refine Below.setCell ?_ (by first | omega | (simp; omega) | simp) _ | refine Below.alloc ?_ (by first | omega | (simp; omega) | simp) _))
   ·rw [M.count_fits _ _ _ hi (by omega)] at HT
    have hm : m ≤ r.length := by omega
    have HX : Hid ((ofL r).extract m r.length = ofL (r.drop m)) := ofL_drop r m _ Lr
    have HY : Hid ((ofL r).extract 0 m = ofL (r.take m)) := ofL_take r m
    go_enter Tryz.func93, Tryz.ntmps93
    go_wp2_with fail
    refine (takeInt_any l q _ hl).mono ?_; rintro x w1 ⟨rfl, hb1⟩
    rw [hi]
    simp only [RV, vl, nx, Option.map_some, lft, Option.getD_some, Option.isNone_some]
    obtain ⟨g0, g1, hlt, B1⟩ := two_rows hb1
    obtain ⟨c00, c01, f00, f01⟩ := row2 g0
    obtain ⟨c10, c11, f10, f11⟩ := row2 g1
    clear hb1 g0 g1
    have u10 := fun o => cell_up c10 o
    have u11 := fun o => cell_up c11 o
    have v10 := fun o => frozen_up f10 hlt o
    have v11 := fun o => frozen_up f11 hlt o
    go_wp2_with fail
    go_region
    all_goals go_wp2
    all_goals refine bodyPost_ret (v := .tuple #[RV (some (r.drop m)), .string (ofL (r.take m))]) ?_ rfl ⟨by rw [HT.out]; rfl, ?_⟩
    all_goals first
     | (rw [results_cell_tmp rfl]; go_simp; rw [HX.out, HY.out]; exact ⟨rfl, rfl⟩)
     | (repeat' (first | exact B1 | refine Below.drew ?_ | refine Below.setCell ?_ (by first | omega | (simp; omega) | simp) _ | refine Below.alloc ?_ (by first | omega | (simp; omega) | simp) _))
theorem end_any (st : Option (List UInt8)) (w : World) :
  Calls Tryz.prog 142 #[RV st] w fun x w' => x = .returned (.int .i64 (rdone st)) ∧ Below w.heap.size w w' := by
 match st with
 | none =>
  go_enter Tryz.func142, Tryz.ntmps142
  simp only [RV, lft, Option.getD_none, Option.isNone_none]
  go_wp2
  go_ret
  exact ⟨rfl, (Below.refl _ _).alloc Lr _⟩
 | some [] =>
  have h0 : (ofL []).toList.isEmpty = true := by rw [ByteArray.toList_eq]; rfl
  go_enter Tryz.func142, Tryz.ntmps142
  simp only [RV, lft, Option.getD_some, Option.isNone_some]
  go_wp2
  go_ret
  exact ⟨rfl, (Below.refl _ _).alloc Lr _⟩
 | some (c :: r) =>
  have h0 := text_nil (c :: r) (by simp)
  go_enter Tryz.func142, Tryz.ntmps142
  simp only [RV, lft, Option.getD_some, Option.isNone_some]
  go_wp2
  go_ret
  exact ⟨rfl, (Below.refl _ _).alloc Lr _⟩
end Go.Proofs.YtlnedgjikkhplaaGreat.Nc
