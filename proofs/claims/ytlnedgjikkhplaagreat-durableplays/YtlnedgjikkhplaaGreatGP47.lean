import Derived.Test.YtlnedgjikkhplaaGreatGP43
import Derived.Test.YtlnedgjikkhplaaGreatGP44
import Derived.Test.YtlnedgjikkhplaaGreatGP45
import Derived.Test.YtlnedgjikkhplaaGreatGP46
set_option maxRecDepth 100000
set_option maxHeartbeats 8000000
set_option linter.unusedVariables false
set_option linter.unusedSimpArgs false
namespace Go.Proofs.YtlnedgjikkhplaaGreat.Du
open Go.RowKit
open Na (Fr AS XL vl bV vV Hf bel1 bel2 Bu Br row2 row4 blk OwnL AtL)
open Na.M (E V S S0)
open Ns (Hd XD)
open Ns.M (DD RR ofL)
structure PP (w0 w : World) (FA FD : Nat → Prop) (b ab db n : Nat) (P : List Ns.M.Pl) (x : X) (rs : List R) (H : Hx) (Dv : DD) (Q : List Ns.M.Pl) (qs : List R) : Prop where
 du : DU w0 w FA FD b ab db n P x
 gd : Gd n P x rs
 xx : XX w H Dv n Q x
 gq : Gd n Q x qs
 ap : ∀ k, H.blk k → ¬ fpd b FA FD k
section
variable {w0 w w' W W' : World} {FA FD FA' FD' : Nat → Prop} {b ab db n : Nat} {P P' Q Q' : List Ns.M.Pl} {x x' : X} {rs rs' qs qs' : List R} {H H' : Hx} {Dv Dv' : DD}
theorem PP.keep (h : PP w0 w FA FD b ab db n P x rs H Dv Q qs) (hb : Below w.heap.size w w') : PP w0 w' FA FD b ab db n P x rs H Dv Q qs := ⟨h.du.keep hb, h.gd, h.xx.keep hb, h.gq, h.ap⟩
theorem PP.mine (h : PP w0 w FA FD b ab db n P x rs H Dv Q qs) : ∀ k, fpd b FA FD k → k < w.heap.size := fun k hk => (h.du.mine k hk).2
theorem PP.step (h : PP w0 w FA FD b ab db n P x rs H Dv Q qs) (hW : Below w.heap.size w W) (hn : New w H H') (hx : XX W H' Dv' n Q' x') (hg : Gd n Q' x' qs') (hd : DU w0 W' FA' FD' b ab db n P' x') (hgp : Gd n P' x' rs') (hF : Fr W (fpd b FA FD) W' (fpd b FA' FD')) :
  PP w0 W' FA' FD' b ab db n P' x' rs' H' Dv' Q' qs' ∧ Fr w (fpd b FA FD) W' (fpd b FA' FD') := by
 have hnf : ∀ k, H'.blk k → ¬ fpd b FA FD k := fun k hk e => by
  rcases hn k hk with h1 | h1
  ·exact h.ap k h1 e
  ·have := h.mine k e; omega
 refine ⟨⟨hd, hgp, hx.step hF hnf, hg, fun k hk e => ?_⟩, (Fr.ofBelow hW).trans hF⟩
 rcases hF.n k e with h1 | h1
 ·exact hnf k hk h1
 ·have := hx.blt k hk; omega
theorem fr_row (W : World) (B : Nat) (cs : Array Value) : Fr W (· = B) (W.setRow B cs) (· = B) :=
 ⟨by simp [World.setRow], by simp [World.setRow], by simp [World.setRow], by simp [World.setRow], fun k _ hk => setRow_other _ _ _ _ hk, fun k hk => .inl hk⟩
theorem fr_up {F G : Nat → Prop} (h : Fr w F W G) (B : Nat) (cs : Array Value) (hB : w.heap.size ≤ B) : Fr w F (W.setRow B cs) G :=
 ⟨by simp [World.setRow, h.os], by simp [World.setRow, h.tape], by simp [World.setRow, h.output], by have := h.size; simp [World.setRow]; omega, fun k hk hF => (setRow_other _ _ _ _ (by omega)).trans (h.block k hk hF), h.n⟩
theorem PP.row (h : PP w0 w FA FD b ab db n P x rs H Dv Q qs) (B : Nat) (cs : Array Value) (h1 : ¬ fpd b FA FD B) (h2 : ¬ H.blk B) (lo : w0.heap.size ≤ B) : PP w0 (w.setRow B cs) FA FD b ab db n P x rs H Dv Q qs :=
 ⟨h.du.oth (fr_row w B cs) h1 lo, h.gd, h.xx.keepBut (fun k _ hk => setRow_other _ _ _ _ (fun e => h2 (e ▸ hk))) (by simp [World.setRow]), h.gq, h.ap⟩
end
def dox (n : Nat) (x : X) (d : Du.D) : X := if d.k = 0 then ppx n x d.v.b d.v.s else if d.k = 1 then aax n x d.v else if d.k = 2 then ttx n x d.v.s else if d.k = 3 then ccx n x d.st else x
def DoL (w0 w : World) (FA FD : Nat → Prop) (b ab db n : Nat) (H : Hx) (x2 : X) (e : Ending) (w' : World) : Prop :=
 ∃ FA' FD' P' rs' H' Dv' Q' qs', e = .returned (.tuple #[.agg (dvv H' Dv' x2), .bool true]) ∧ PP w0 w' FA' FD' b ab db n P' x2 rs' H' Dv' Q' qs' ∧ Fr w (fpd b FA FD) w' (fpd b FA' FD') ∧ New w H H'
structure DB3 (w : World) (H : Hx) (Dv : DD) (x : X) (d : Du.D) (W : World) : Prop where
 r4 : W.heap[w.heap.size]? = some (.cells (dvv H Dv x) 41 (0, 0))
 r5 : W.heap[w.heap.size + 1]? = some (.cells #[.int .i64 d.k, .int .i64 d.v.s, .int .i64 d.v.b.i, .int .i64 d.v.b.t, .string d.v.v, .int .i64 d.st, .int .u64 (d.kp : Int)] 53 (0, 0))
 r6 : W.heap[w.heap.size + 2]? = some (.cells Z13 41 (0, 0))
 r8 : W.heap[w.heap.size + 3]? = some (.cells #[.int .i64 d.v.s, .int .i64 d.v.b.i, .int .i64 d.v.b.t, .string d.v.v] 48 (0, 0))
section
variable {w W W' : World} {H : Hx} {Dv : DD} {x : X} {d : Du.D} {F G : Nat → Prop}
theorem DB3.keep (h : DB3 w H Dv x d W) (hb : Below W.heap.size W W') : DB3 w H Dv x d W' := ⟨Br h.r4 hb, Br h.r5 hb, Br h.r6 hb, Br h.r8 hb⟩
theorem DB3.sz (h : DB3 w H Dv x d W) : w.heap.size + 4 ≤ W.heap.size := (Array.getElem?_eq_some_iff.1 h.r8).1
theorem DB3.go (h : DB3 w H Dv x d W) (hF : Fr W F W' G) (hm : ∀ k, F k → k < w.heap.size) : DB3 w H Dv x d W' := by
 have hs := h.sz
 exact ⟨(hF.block _ (by omega) (fun e => by have := hm _ e; omega)).trans h.r4, (hF.block _ (by omega) (fun e => by have := hm _ e; omega)).trans h.r5, (hF.block _ (by omega) (fun e => by have := hm _ e; omega)).trans h.r6, (hF.block _ (by omega) (fun e => by have := hm _ e; omega)).trans h.r8⟩
end
theorem f13_res : Tryz.f13.results = #[.cell 6 41, .tmp 7] := rfl
theorem box41 (w : World) (H : Hx) (Dv : DD) (x : X) : ∃ W, (st41 ⟨w.heap.size, 0, none⟩ (dvv H Dv x)).run Tryz.prog (w.alloc (.cells Z13 41)) = .ok () W ∧ Below w.heap.size w W ∧ W.heap[w.heap.size]? = some (.cells (dvv H Dv x) 41 (0, 0)) :=
 ⟨_, store41_row rfl _ _ _ (heap_alloc_last w _), below_setRow (bel1 w _) Lr _, setRow_heap _ _ _ (dvv H Dv x) _ _ (heap_alloc_last w _)⟩
def FI (w0 w : World) (FA FD : Nat → Prop) (b ab db n : Nat) (H : Hx) (Dv : DD) (x : X) (d : Du.D) (H' : Hx) (Dv' : DD) (x2 y : X) (b9 : Nat) (v : World) : Prop :=
 v.heap[b9]? = some (.cells (dvv H' Dv' x2) 41 (0, 0)) ∧ DB3 w H Dv x d v ∧ ∀ U, Below v.heap.size v U → (st41 ⟨w.heap.size + 2, 0, none⟩ (dvv H' Dv' x2)).run Tryz.prog U = .ok () (U.setRow (w.heap.size + 2) (dvv H' Dv' x2)) ∧ (U.setRow (w.heap.size + 2) (dvv H' Dv' x2)).heap[w.heap.size + 2]? = some (.cells (dvv H' Dv' x2) 41 (0, 0)) ∧ DoL w0 w FA FD b ab db n H y (.returned (.tuple #[.agg (dvv H' Dv' x2), .bool true])) (U.setRow (w.heap.size + 2) (dvv H' Dv' x2))
theorem do_fin {w0 w W : World} {FA FD : Nat → Prop} {b ab db n : Nat} {P Q Q' : List Ns.M.Pl} {x : X} {rs qs qs' : List R} {H H' : Hx} {Dv Dv' : DD} {d : Du.D} {x2 : X} {W4 v : World} {b9 : Nat} (h : PP w0 w FA FD b ab db n P x rs H Dv Q qs) (hB : DB3 w H Dv x d W4) (hW4 : Below w.heap.size w W4) (hn : New w H H') (hx4 : XX W4 H' Dv' n Q' x2) (hgq : Gd n Q' x2 qs') (hN6 : ¬ H'.blk (w.heap.size + 2)) (hr9 : W4.heap[b9]? = some (.cells (dvv H' Dv' x2) 41 (0, 0))) (h9 : w.heap.size ≤ b9) (hW : Below W4.heap.size W4 W) (hc : Chg w0 W FA FD b ab db n x2 v) (hdx : dox n x d = x2) : FI w0 w FA FD b ab db n H Dv x d H' Dv' x2 (dox n x d) b9 v := by
 obtain ⟨FA5, FD5, P5, rs5, du5, gd5, fr5⟩ := hc
 obtain ⟨hpp, hfr⟩ := h.step (Bu hW4 hW Lr) hn (hx4.keep hW) hgq du5 gd5 fr5
 have hb9 := (Array.getElem?_eq_some_iff.1 hr9).1
 have hs4 := hB.sz
 have hsW := hW.size
 have hd5 := (hB.keep hW).go fr5 h.mine
 refine ⟨(fr5.block b9 (by omega) (fun e => by have := h.mine b9 e; omega)).trans (Br hr9 hW), hd5, fun U hU => ⟨store41_row rfl _ _ _ (Br hd5.r6 hU), setRow_heap _ _ _ (dvv H' Dv' x2) _ _ (Br hd5.r6 hU), ?_⟩⟩
 rw [hdx]
 refine ⟨FA5, FD5, _, _, H', Dv', _, _, rfl, (hpp.keep hU).row _ _ (fun e => ?_) hN6 (by have := h.du.bel.size; omega), fr_up (hfr.trans (Fr.ofBelow hU)) _ _ (by omega), hn⟩
 rcases fr5.n _ e with h1 | h1
 ·have := h.mine _ h1; omega
 ·omega
section
variable {w0 w w' W W' : World} {FA FD FA' FD' : Nat → Prop} {b ab db n : Nat} {P P' Q Q' : List Ns.M.Pl} {x x' : X} {rs rs' qs qs' : List R} {H H' : Hx} {Dv Dv' : DD}
theorem do_walk (h : PP w0 w FA FD b ab db n P x rs H Dv Q qs) (d : Du.D) (hd : d.ok) (hn : n ≤ 1024) (he : x.ep < 2147483647) : Calls Tryz.prog 13 #[ptr b, .agg (dvv H Dv x), .agg #[.int .i64 d.k, .int .i64 d.v.s, .int .i64 d.v.b.i, .int .i64 d.v.b.t, .string d.v.v, .int .i64 d.st, .int .u64 (d.kp : Int)]] w (DoL w0 w FA FD b ab db n H (dox n x d)) := by
 obtain ⟨W1, HW1⟩ := Nh (((w.alloc (.cells (dvv H Dv x) 41)).alloc (.cells #[.int .i64 d.k, .int .i64 d.v.s, .int .i64 d.v.b.i, .int .i64 d.v.b.t, .string d.v.v, .int .i64 d.st, .int .u64 (d.kp : Int)] 53)).alloc (.cells Z13 41))
 obtain ⟨W2, hW2⟩ := Nq (W1.alloc (.cells #[.int .i64 d.v.s, .int .i64 d.v.b.i, .int .i64 d.v.b.t, .string d.v.v] 48))
 have hs1 : W1.heap.size = w.heap.size + 3 := by rw [← HW1.out]; simp
 have hb1 : Below w.heap.size w W1 := by rw [← HW1.out]; exact Bu (bel2 w _ _) (bel1 _ _) Lr
 have hb2 : Below W1.heap.size W1 W2 := by rw [← hW2]; exact bel1 W1 _
 have hdb : DB3 w H Dv x d W2 := by
  have q1 := heap_alloc2_old w (.cells (dvv H Dv x) 41) (.cells #[.int .i64 d.k, .int .i64 d.v.s, .int .i64 d.v.b.i, .int .i64 d.v.b.t, .string d.v.v, .int .i64 d.st, .int .u64 (d.kp : Int)] 53)
  have q2 := heap_alloc2_new w (.cells (dvv H Dv x) 41) (.cells #[.int .i64 d.k, .int .i64 d.v.s, .int .i64 d.v.b.i, .int .i64 d.v.b.t, .string d.v.v, .int .i64 d.st, .int .u64 (d.kp : Int)] 53)
  have q3 := bel1 ((w.alloc (.cells (dvv H Dv x) 41)).alloc (.cells #[.int .i64 d.k, .int .i64 d.v.s, .int .i64 d.v.b.i, .int .i64 d.v.b.t, .string d.v.v, .int .i64 d.st, .int .u64 (d.kp : Int)] 53)) (.cells Z13 41)
  have q4 := heap_alloc_last ((w.alloc (.cells (dvv H Dv x) 41)).alloc (.cells #[.int .i64 d.k, .int .i64 d.v.s, .int .i64 d.v.b.i, .int .i64 d.v.b.t, .string d.v.v, .int .i64 d.st, .int .u64 (d.kp : Int)] 53)) (.cells Z13 41)
  have q5 : ((w.alloc (.cells (dvv H Dv x) 41)).alloc (.cells #[.int .i64 d.k, .int .i64 d.v.s, .int .i64 d.v.b.i, .int .i64 d.v.b.t, .string d.v.v, .int .i64 d.st, .int .u64 (d.kp : Int)] 53)).heap.size = w.heap.size + 2 := by simp
  rw [q5] at q4
  have q6 := Br q1 q3
  have q7 := Br q2 q3
  rw [HW1.out] at q4 q6 q7
  refine ⟨Br q6 hb2, Br q7 hb2, Br q4 hb2, ?_⟩
  rw [← hs1, ← hW2]
  exact heap_alloc_last W1 _
 have HPP := Hf h
 have HB2 := Hf (Bu hb1 hb2 Lr)
 have HDB := Hf hdb
 have HDK := Hf hd
 have HNS := Hf hn
 have HEP := Hf he
 have HW2 := Hf hW2
 obtain ⟨⟨j0, j1, j2, j3, j4, j5, j6⟩, _⟩ := row7 hdb.r5
 obtain ⟨⟨v0, v1, v2, v3⟩, _⟩ := row4 hdb.r8
 have hld := load41_row hdb.r4
 have HR5 : Hid (W1.heap[w.heap.size + 1]? = some (.cells #[.int .i64 d.k, .int .i64 d.v.s, .int .i64 d.v.b.i, .int .i64 d.v.b.t, .string d.v.v, .int .i64 d.st, .int .u64 (d.kp : Int)] 53 (0, 0))) := Hf (by
  have := hdb.r5
  rw [hb2.block _ (by omega)] at this
  exact this)
 obtain ⟨⟨i0, i1, i2, i3, i4, i5, i6⟩, _⟩ := row7 HR5.out
 clear h hd hn he hb1 hb2 hdb hW2 HR5
 by_cases hk0 : d.k = 0
 ·have HDX : Hid (dox n x d = ppx n x d.v.b d.v.s) := Hf (by unfold dox; rw [if_pos hk0])
  rw [hk0] at j0 i0; clear hk0
  go_enter Tryz.func13, Tryz.ntmps13
  go_upto_region 1 with fail
  rw [HW1.out]; clear HW1
  go_upto_region 2 with fail
  rw [HW2.out]; clear HW2
  have hc := dpr_any (HPP.out.xx.keep HB2.out) HPP.out.gq d.v.b d.v.s
  go_wp2_with fail
  refine hc.mono ?_; rintro e w3 ⟨H', D', Q', qs', la, lc, rfl, hx3, hgq, hnw, hxl, hbk, hb3⟩
  obtain ⟨x2, hx2⟩ := Nq (ppx n x d.v.b d.v.s)
  rw [hx2] at hx3 hgq ⊢; rw [hx2] at HDX
  obtain ⟨W4, hst, hb4, hr9⟩ := box41 w3 H' D' x2
  obtain ⟨b9, hb9⟩ := Nq (w3.heap.size)
  rw [hb9] at hst hr9
  have hs3 := hb3.size
  have HB24 := Hf (Bu hb3 hb4 Lr)
  have HBw4 := Hf (Bu HB2.out HB24.out Lr)
  have HNW : Hid (New w H H') := Hf fun k hk => (hnw k hk).imp id (fun h => Nat.le_trans HB2.out.size h)
  have HN6 : Hid (¬ H'.blk (w.heap.size + 2)) := Hf fun e => by
   have hs := HDB.out.sz
   rcases hnw _ e with h1 | h1
   ·have := HPP.out.xx.blt _ h1; omega
   ·omega
  have HX4 := Hf (hx3.keep hb4)
  have HGQ := Hf hgq
  have HD4 := Hf (HDB.out.keep HB24.out)
  have HR9 := Hf hr9
  have HLE : Hid (w.heap.size ≤ b9) := Hf (by have := HB2.out.size; omega)
  have HBE := Hf hb9
  have HX2 := Hf hx2
  have HB9L : Hid (W2.heap.size ≤ b9) := Hf (by omega)
  obtain ⟨L, hL⟩ := Nq (ppl n x d.v.b d.v.s)
  rw [hL] at hxl ⊢
  have HL := Hf hL
  have HXL := Hf (hxl.keep hb4)
  have HBK : Hid (∀ k, Na.blk la k → w.heap.size ≤ k ∧ k < W4.heap.size) := Hf fun k hk => ⟨by have := (hbk k hk).1; have := HB2.out.size; omega, Nat.lt_of_lt_of_le (hbk k hk).2 hb4.size⟩
  have HLL : Hid (L.length ≤ 1000000) := Hf (by
   rw [← hL]
   have h1 := HPP.out.gd.aok.1.len
   unfold ppl
   split
   ·have := Na.M.vts_le x.a.l d.v.s; omega
   ·simp)
  clear hxl hbk hL; clear hc hb3 hx3 hgq hnw hx2 hs3 j0 j1 j2 j3 j4 j5 j6 v0 v1 v2 v3 hld
  go_upto_region 5 with fail
  try rw [HBE.out]
  clear hst hb4 hr9 hb9 HBE
  obtain ⟨⟨j0, j1, j2, j3, j4, j5, j6⟩, _⟩ := row7 HD4.out.r5
  obtain ⟨⟨v0, v1, v2, v3⟩, _⟩ := row4 HD4.out.r8
  have hld := load41_row HD4.out.r4
  have hc := (HPP.out.keep HBw4.out).du.promise HPP.out.gd d.v.b d.v.s
  go_wp2_with fail
  refine hc.mono ?_; rintro e v5 ⟨ad, c, rfl, hxp, hbp, hch⟩
  rw [HX2.out] at hch
  have hfi := do_fin HPP.out HD4.out HBw4.out HNW.out HX4.out HGQ.out HN6.out HR9.out HLE.out (Below.refl _ _) hch HDX.out
  rw [HL.out] at hxp ⊢
  have hla : AtL vl v5 la L := by
   obtain ⟨_, _, _, _, _, _, hF⟩ := hch
   exact HXL.out.at'.keepBut (fun k hk hb => hF.block k hk (fun e => by have := (HBK.out k hb).1; have := HPP.out.mine k e; omega))
  have HSM : Hid (∀ W, Below v5.heap.size v5 W → Calls Tryz.prog 20 #[.slice la L.length lc, .slice ad L.length c] W fun e w' => e = .returned (.bool true) ∧ Below W.heap.size W w') := Hf fun W hW => Na.same_any la lc ad c L W HLL.out (hla.keep hW) (hxp.at'.keep hW)
  have HFI := Hf hfi
  clear hc hch hfi j0 j1 j2 j3 j4 j5 j6 v0 v1 v2 v3 hld
  have HB96 : Hid (b9 ≠ w.heap.size + 2) := Hf (by have := HD4.out.sz; have := HDB.out.sz; have := HB9L.out; omega)
  have HS : Hid (∀ wq : World, wq.heap[b9]? = some (.cells (dvv H' D' x2) 41 (0, 0)) → (ld41 ⟨b9, 0, none⟩).run Tryz.prog wq = .ok (dvv H' D' x2) wq) := Hf fun wq h => load41_row h
  have hbb : (ppb n x d.v.b d.v.s == ppb n x d.v.b d.v.s) = true := by simp
  go_wp2_with fail
  refine wp_region_held_drew (S := fun wq => wq.heap[b9]? = some (.cells (dvv H' D' x2) 41 (0, 0))) (by kernel_rfl) HFI.out.1 fun Hl => ?_
  obtain ⟨wdx, hwdx⟩ := Nq (v5.drew)
  have hBwd : Below v5.heap.size v5 wdx := by rw [← hwdx]; exact Below.drew (Below.refl _ _)
  rw [hwdx] at Hl ⊢; clear hwdx
  refine Tk 0 ?pA ?vA ?yA Hl ?rA
  case yA => intro q h; obtain zl := HS.out q h; go_simp; try with_reducible rfl
  simp only [Act.put, Pa, Pb, Pc]
  refine Tm 1 ?pB ?vB Hl ?rB
  simp only [Act.put, Pa, Pb, Pc]
  refine Tm 2 ?pC ?vC Hl ?rC
  simp only [Act.put, Pa, Pb, Pc]
  refine Rd 3 ?pD ?sD
  intro K hK; go_simp
  refine (HSM.out _ hBwd).mono ?_; rintro e v3 ⟨rfl, hb3⟩
  have B3 := Br Hl hb3
  obtain ⟨hst6, hrow, hfin⟩ := HFI.out.2.2 v3 (Bu hBwd hb3 Lr)
  have HFIN := Hf hfin
  have HROW := Hf hrow
  clear hrow hfin
  refine hK.out _ _ B3 fun Hl => ?_; clear hK K
  refine Tm 4 ?pE ?vE Hl ?rE
  simp only [Act.put, Pa, Pb, Pc]
  refine Tm 5 ?pF ?vF Hl ?rF
  simp only [Act.put, Pa, Pb, Pc]
  refine Tm 6 ?pG ?vG Hl ?rG
  simp only [Act.put, Pa, Pb, Pc]
  refine Tm 7 ?pH ?vH Hl ?rH
  simp only [Act.put, Pa, Pb, Pc]
  refine Tm 8 ?pI ?vI Hl ?rI
  simp only [Act.put, Pa, Pb, Pc]
  refine Tm 9 ?pJ ?vJ Hl ?rJ
  simp only [Act.put, Pa, Pb, Pc]
  refine Tm 10 ?pK ?vK Hl ?rK
  simp only [Act.put, Pa, Pb, Pc]
  refine Tm 11 ?pL ?vL Hl ?rL
  simp only [Act.put, Pa, Pb, Pc]
  refine Tm 12 ?pM ?vM Hl ?rM
  simp only [Act.put, Pa, Pb, Pc]
  refine Tm 13 ?pN ?vN Hl ?rN
  simp only [Act.put, Pa, Pb, Pc]
  refine Rd 14 ?pO ?sO
  intro K hK; go_simp
  obtain ⟨ws, hws⟩ := Nq (v3.setRow (w.heap.size + 2) (dvv H' D' x2))
  have hSs : ws.heap[b9]? = some (.cells (dvv H' D' x2) 41 (0, 0)) := by rw [← hws]; exact (setRow_other _ _ _ _ HB96.out).trans Hl
  rw [hws] at HFIN HROW ⊢; clear hws
  refine hK.out _ _ hSs fun Hl => ?_; clear hK K
  refine Tm 15 ?pP ?vP Hl ?rP
  simp only [Act.put, Pa, Pb, Pc]
  refine wpAnyH_done (by kernel_rfl) ?_ _
  clear HS; go_wp2
  refine bodyPost_ret (v := .tuple #[.agg (dvv H' D' (x2)), .bool true]) ?_ rfl HFIN.out
  exact res41_2 f13_res _ _ (w.heap.size + 2) _ _ _ rfl HROW.out
 ·by_cases hk1 : d.k = 1
  ·have HDX : Hid (dox n x d = aax n x d.v) := Hf (by unfold dox; rw [if_neg hk0, if_pos hk1])
   rw [hk1] at j0 i0; clear hk0 hk1
   go_enter Tryz.func13, Tryz.ntmps13
   go_upto_region 1 with fail
   rw [HW1.out]; clear HW1
   go_upto_region 2 with fail
   rw [HW2.out]; clear HW2
   have hc := dac_any (HPP.out.xx.keep HB2.out) HPP.out.gq d.v
   go_wp2_with fail
   refine hc.mono ?_; rintro e w3 ⟨H', D', Q', qs', rfl, hx3, hgq, hnw, hb3⟩
   obtain ⟨x2, hx2⟩ := Nq (aax n x d.v)
   rw [hx2] at hx3 hgq ⊢; rw [hx2] at HDX
   obtain ⟨W4, hst, hb4, hr9⟩ := box41 w3 H' D' x2
   obtain ⟨b9, hb9⟩ := Nq (w3.heap.size)
   rw [hb9] at hst hr9
   have hs3 := hb3.size
   have HB24 := Hf (Bu hb3 hb4 Lr)
   have HBw4 := Hf (Bu HB2.out HB24.out Lr)
   have HNW : Hid (New w H H') := Hf fun k hk => (hnw k hk).imp id (fun h => Nat.le_trans HB2.out.size h)
   have HN6 : Hid (¬ H'.blk (w.heap.size + 2)) := Hf fun e => by
    have hs := HDB.out.sz
    rcases hnw _ e with h1 | h1
    ·have := HPP.out.xx.blt _ h1; omega
    ·omega
   have HX4 := Hf (hx3.keep hb4)
   have HGQ := Hf hgq
   have HD4 := Hf (HDB.out.keep HB24.out)
   have HR9 := Hf hr9
   have HLE : Hid (w.heap.size ≤ b9) := Hf (by have := HB2.out.size; omega)
   have HBE := Hf hb9
   have HX2 := Hf hx2
   clear hc hb3 hx3 hgq hnw hx2 hs3 j0 j1 j2 j3 j4 j5 j6 v0 v1 v2 v3 hld
   go_upto_region 9 with fail
   try rw [HBE.out]
   clear hst hb4 hr9 hb9 HBE
   obtain ⟨⟨j0, j1, j2, j3, j4, j5, j6⟩, _⟩ := row7 HD4.out.r5
   obtain ⟨⟨v0, v1, v2, v3⟩, _⟩ := row4 HD4.out.r8
   have hld := load41_row HD4.out.r4
   have hc := (HPP.out.keep HBw4.out).du.accept HPP.out.gd d.v
   go_wp2_with fail
   refine hc.mono ?_; rintro e v5 ⟨rfl, hch⟩
   rw [HX2.out] at hch
   have hfi := do_fin HPP.out HD4.out HBw4.out HNW.out HX4.out HGQ.out HN6.out HR9.out HLE.out (Below.refl _ _) hch HDX.out
   have HFI := Hf hfi
   clear hc hch hfi j0 j1 j2 j3 j4 j5 j6 v0 v1 v2 v3 hld
   obtain ⟨hst6, hrow, hfin⟩ := HFI.out.2.2 v5 (Below.refl _ _)
   have HFIN := Hf hfin
   have HROW := Hf hrow
   have hld9 := load41_row HFI.out.1
   have hbb : (aab n x d.v == aab n x d.v) = true := by simp
   clear hrow hfin; go_wp2
   refine bodyPost_ret (v := .tuple #[.agg (dvv H' D' (x2)), .bool true]) ?_ rfl HFIN.out
   exact res41_2 f13_res _ _ (w.heap.size + 2) _ _ _ rfl HROW.out
  ·by_cases hk2 : d.k = 2
   ·have HDX : Hid (dox n x d = ttx n x d.v.s) := Hf (by unfold dox; rw [if_neg hk0, if_neg hk1, if_pos hk2])
    rw [hk2] at j0 i0; clear hk0 hk1 hk2
    go_enter Tryz.func13, Tryz.ntmps13
    go_upto_region 1 with fail
    rw [HW1.out]; clear HW1
    go_upto_region 2 with fail
    rw [HW2.out]; clear HW2
    have hc := dtr_any (HPP.out.xx.keep HB2.out) HPP.out.gq d.v.s HDK.out.2.1
    go_wp2_with fail
    refine hc.mono ?_; rintro e w3 ⟨H', D', Q', qs', rfl, hx3, hgq, hnw, hb3⟩
    obtain ⟨x2, hx2⟩ := Nq (ttx n x d.v.s)
    rw [hx2] at hx3 hgq ⊢; rw [hx2] at HDX
    obtain ⟨W4, hst, hb4, hr9⟩ := box41 w3 H' D' x2
    obtain ⟨b9, hb9⟩ := Nq (w3.heap.size)
    rw [hb9] at hst hr9
    have hs3 := hb3.size
    have HB24 := Hf (Bu hb3 hb4 Lr)
    have HBw4 := Hf (Bu HB2.out HB24.out Lr)
    have HNW : Hid (New w H H') := Hf fun k hk => (hnw k hk).imp id (fun h => Nat.le_trans HB2.out.size h)
    have HN6 : Hid (¬ H'.blk (w.heap.size + 2)) := Hf fun e => by
     have hs := HDB.out.sz
     rcases hnw _ e with h1 | h1
     ·have := HPP.out.xx.blt _ h1; omega
     ·omega
    have HX4 := Hf (hx3.keep hb4)
    have HGQ := Hf hgq
    have HD4 := Hf (HDB.out.keep HB24.out)
    have HR9 := Hf hr9
    have HLE : Hid (w.heap.size ≤ b9) := Hf (by have := HB2.out.size; omega)
    have HBE := Hf hb9
    have HX2 := Hf hx2
    have HB9L : Hid (W2.heap.size ≤ b9) := Hf (by omega)
    have HPC : Hid (∀ W, Below W4.heap.size W4 W → Calls Tryz.prog 26 #[ptr b, .int .i64 d.v.s] W fun e w' => e = .returned (.int .i64 (ttc n x d.v.s)) ∧ Chg w0 W FA FD b ab db n (ttx n x d.v.s) w') := Hf fun W hW => ((HPP.out.keep HBw4.out).keep hW).du.trim HPP.out.gd d.v.s
    have HRX := Hf HD4.out.r8
    clear hc hb3 hx3 hgq hnw hx2 hs3 j0 j1 j2 j3 j4 j5 j6 v0 v1 v2 v3 hld
    have HB96 : Hid (b9 ≠ w.heap.size + 2) := Hf (by have := HD4.out.sz; have := HDB.out.sz; have := HB9L.out; omega)
    have HB9X : Hid (w.heap.size + 3 ≠ w.heap.size + 2) := Hf (by omega)
    have HS : Hid (∀ wq : World, (wq.heap[b9]? = some (.cells (dvv H' D' x2) 41 (0, 0)) ∧ wq.heap[w.heap.size + 3]? = some (.cells #[.int .i64 d.v.s, .int .i64 d.v.b.i, .int .i64 d.v.b.t, .string d.v.v] 48 (0, 0))) → (ld41 ⟨b9, 0, none⟩).run Tryz.prog wq = .ok (dvv H' D' x2) wq ∧ wq.cell? ⟨w.heap.size + 3, 0, none⟩ = some (.int .i64 d.v.s)) := Hf fun wq h => ⟨load41_row h.1, (row4 h.2).1.1⟩
    go_upto_region 13 with fail
    try rw [HBE.out]
    clear hst hb4 hr9 hb9 HBE
    refine wp_region_held_drew (S := fun wq => wq.heap[b9]? = some (.cells (dvv H' D' x2) 41 (0, 0)) ∧ wq.heap[w.heap.size + 3]? = some (.cells #[.int .i64 d.v.s, .int .i64 d.v.b.i, .int .i64 d.v.b.t, .string d.v.v] 48 (0, 0))) (by kernel_rfl) (And.intro HR9.out HRX.out) fun Hl => ?_
    obtain ⟨wdy, hwdy⟩ := Nq (W4.drew)
    have hBwd : Below W4.heap.size W4 wdy := by rw [← hwdy]; exact Below.drew (Below.refl _ _)
    rw [hwdy] at Hl ⊢; clear hwdy
    refine Tk 0 ?pQ ?vQ ?yQ Hl ?rQ
    case yQ => intro q h; obtain ⟨zl, z0⟩ := HS.out q h; go_simp; try with_reducible rfl
    refine Tm 1 ?pR ?vR Hl ?rR
    refine Tm 2 ?pS ?vS Hl ?rS
    refine Tk 3 ?pT ?vT ?yT Hl ?rT
    case yT => intro q h; obtain ⟨zl, z0⟩ := HS.out q h; go_simp; try with_reducible rfl
    refine Tm 5 ?pU ?vU Hl ?rU
    simp only [Act.put, Pa, Pb, Pc]
    refine Rd 4 ?pV ?sV
    intro K hK; go_simp
    refine (HPC.out _ hBwd).mono ?_; rintro e v4 ⟨rfl, hch⟩
    rw [HX2.out] at hch
    have hfi := do_fin HPP.out HD4.out HBw4.out HNW.out HX4.out HGQ.out HN6.out HR9.out HLE.out hBwd hch HDX.out
    have B4 := And.intro hfi.1 hfi.2.1.r8
    obtain ⟨hst6, hrow, hfin⟩ := hfi.2.2 v4 (Below.refl _ _)
    have HFIN := Hf hfin
    have HROW := Hf hrow
    clear hrow hfin hch hfi
    refine hK.out _ _ B4 fun Hl => ?_; clear hK K
    refine Tm 6 ?pW ?vW Hl ?rW
    simp only [Act.put, Pa, Pb, Pc]
    refine Rd 7 ?pX ?sX
    intro K hK; go_simp
    obtain ⟨ws, hws⟩ := Nq (v4.setRow (w.heap.size + 2) (dvv H' D' x2))
    have hSs := And.intro ((setRow_other _ _ _ (dvv H' D' x2) HB96.out).trans Hl.1) ((setRow_other _ _ _ (dvv H' D' x2) HB9X.out).trans Hl.2)
    rw [hws] at hSs; rw [hws] at HFIN HROW ⊢; clear hws
    refine hK.out _ _ hSs fun Hl => ?_; clear hK K
    refine Tm 8 ?pY ?vY Hl ?rY
    simp only [Act.put, Pa, Pb, Pc]
    refine wpAnyH_done (by kernel_rfl) ?_ _
    clear HS; go_wp2
    refine bodyPost_ret (v := .tuple #[.agg (dvv H' D' (x2)), .bool true]) ?_ rfl HFIN.out
    exact res41_2 f13_res _ _ (w.heap.size + 2) _ _ _ rfl HROW.out
   ·by_cases hk3 : d.k = 3
    ·have HDX : Hid (dox n x d = ccx n x d.st) := Hf (by unfold dox; rw [if_neg hk0, if_neg hk1, if_neg hk2, if_pos hk3])
     rw [hk3] at j0 i0; clear hk0 hk1 hk2 hk3
     go_enter Tryz.func13, Tryz.ntmps13
     go_upto_region 1 with fail
     rw [HW1.out]; clear HW1
     go_upto_region 2 with fail
     rw [HW2.out]; clear HW2
     have hc := dcp_any (HPP.out.xx.keep HB2.out) HPP.out.gq HNS.out HEP.out d.st
     go_wp2_with fail
     refine hc.mono ?_; rintro e w3 ⟨H', D', Q', qs', rfl, hx3, hgq, hnw, hb3⟩
     obtain ⟨x2, hx2⟩ := Nq (ccx n x d.st)
     rw [hx2] at hx3 hgq ⊢; rw [hx2] at HDX
     obtain ⟨W4, hst, hb4, hr9⟩ := box41 w3 H' D' x2
     obtain ⟨b9, hb9⟩ := Nq (w3.heap.size)
     rw [hb9] at hst hr9
     have hs3 := hb3.size
     have HB24 := Hf (Bu hb3 hb4 Lr)
     have HBw4 := Hf (Bu HB2.out HB24.out Lr)
     have HNW : Hid (New w H H') := Hf fun k hk => (hnw k hk).imp id (fun h => Nat.le_trans HB2.out.size h)
     have HN6 : Hid (¬ H'.blk (w.heap.size + 2)) := Hf fun e => by
      have hs := HDB.out.sz
      rcases hnw _ e with h1 | h1
      ·have := HPP.out.xx.blt _ h1; omega
      ·omega
     have HX4 := Hf (hx3.keep hb4)
     have HGQ := Hf hgq
     have HD4 := Hf (HDB.out.keep HB24.out)
     have HR9 := Hf hr9
     have HLE : Hid (w.heap.size ≤ b9) := Hf (by have := HB2.out.size; omega)
     have HBE := Hf hb9
     have HX2 := Hf hx2
     have HB9L : Hid (W2.heap.size ≤ b9) := Hf (by omega)
     have HPC : Hid (∀ W, Below W4.heap.size W4 W → Calls Tryz.prog 28 #[ptr b, .int .i64 d.st] W fun e w' => e = .returned (.int .i64 (ccc n x d.st)) ∧ Chg w0 W FA FD b ab db n (ccx n x d.st) w') := Hf fun W hW => ((HPP.out.keep HBw4.out).keep hW).du.compact HPP.out.gd HEP.out d.st
     have HRX := Hf HD4.out.r5
     clear hc hb3 hx3 hgq hnw hx2 hs3 j0 j1 j2 j3 j4 j5 j6 v0 v1 v2 v3 hld
     have HB96 : Hid (b9 ≠ w.heap.size + 2) := Hf (by have := HD4.out.sz; have := HDB.out.sz; have := HB9L.out; omega)
     have HB9X : Hid (w.heap.size + 1 ≠ w.heap.size + 2) := Hf (by omega)
     have HS : Hid (∀ wq : World, (wq.heap[b9]? = some (.cells (dvv H' D' x2) 41 (0, 0)) ∧ wq.heap[w.heap.size + 1]? = some (.cells #[.int .i64 d.k, .int .i64 d.v.s, .int .i64 d.v.b.i, .int .i64 d.v.b.t, .string d.v.v, .int .i64 d.st, .int .u64 (d.kp : Int)] 53 (0, 0))) → (ld41 ⟨b9, 0, none⟩).run Tryz.prog wq = .ok (dvv H' D' x2) wq ∧ wq.cell? ⟨w.heap.size + 1, 5, none⟩ = some (.int .i64 d.st)) := Hf fun wq h => ⟨load41_row h.1, (row7 h.2).1.2.2.2.2.2.1⟩
     go_upto_region 16 with fail
     try rw [HBE.out]
     clear hst hb4 hr9 hb9 HBE
     refine wp_region_held_drew (S := fun wq => wq.heap[b9]? = some (.cells (dvv H' D' x2) 41 (0, 0)) ∧ wq.heap[w.heap.size + 1]? = some (.cells #[.int .i64 d.k, .int .i64 d.v.s, .int .i64 d.v.b.i, .int .i64 d.v.b.t, .string d.v.v, .int .i64 d.st, .int .u64 (d.kp : Int)] 53 (0, 0))) (by kernel_rfl) (And.intro HR9.out HRX.out) fun Hl => ?_
     obtain ⟨wdz, hwdz⟩ := Nq (W4.drew)
     have hBwd : Below W4.heap.size W4 wdz := by rw [← hwdz]; exact Below.drew (Below.refl _ _)
     rw [hwdz] at Hl ⊢; clear hwdz
     refine Tk 0 ?pZ ?vZ ?yZ Hl ?rZ
     case yZ => intro q h; obtain ⟨zl, z0⟩ := HS.out q h; go_simp; try with_reducible rfl
     refine Tm 1 ?pa ?va Hl ?ra
     refine Tm 2 ?pb ?vb Hl ?rb
     refine Tk 3 ?pc ?vc ?yc Hl ?rc
     case yc => intro q h; obtain ⟨zl, z0⟩ := HS.out q h; go_simp; try with_reducible rfl
     refine Tm 5 ?pd ?vd Hl ?rd
     simp only [Act.put, Pa, Pb, Pc]
     refine Rd 4 ?pe ?se
     intro K hK; go_simp
     refine (HPC.out _ hBwd).mono ?_; rintro e v4 ⟨rfl, hch⟩
     rw [HX2.out] at hch
     have hfi := do_fin HPP.out HD4.out HBw4.out HNW.out HX4.out HGQ.out HN6.out HR9.out HLE.out hBwd hch HDX.out
     have B4 := And.intro hfi.1 hfi.2.1.r5
     obtain ⟨hst6, hrow, hfin⟩ := hfi.2.2 v4 (Below.refl _ _)
     have HFIN := Hf hfin
     have HROW := Hf hrow
     clear hrow hfin hch hfi
     refine hK.out _ _ B4 fun Hl => ?_; clear hK K
     refine Tm 6 ?pf ?vf Hl ?rf
     simp only [Act.put, Pa, Pb, Pc]
     refine Rd 7 ?pg ?sg
     intro K hK; go_simp
     obtain ⟨ws, hws⟩ := Nq (v4.setRow (w.heap.size + 2) (dvv H' D' x2))
     have hSs := And.intro ((setRow_other _ _ _ (dvv H' D' x2) HB96.out).trans Hl.1) ((setRow_other _ _ _ (dvv H' D' x2) HB9X.out).trans Hl.2)
     rw [hws] at hSs; rw [hws] at HFIN HROW ⊢; clear hws
     refine hK.out _ _ hSs fun Hl => ?_; clear hK K
     refine Tm 8 ?ph ?vh Hl ?rh
     simp only [Act.put, Pa, Pb, Pc]
     refine wpAnyH_done (by kernel_rfl) ?_ _
     clear HS; go_wp2
     refine bodyPost_ret (v := .tuple #[.agg (dvv H' D' (x2)), .bool true]) ?_ rfl HFIN.out
     exact res41_2 f13_res _ _ (w.heap.size + 2) _ _ _ rfl HROW.out
    ·have HDX : Hid (dox n x d = x) := Hf (by unfold dox; rw [if_neg hk0, if_neg hk1, if_neg hk2, if_neg hk3])
     have e0 : (d.k == 0) = false := by simpa using hk0
     have e1 : (d.k == 1) = false := by simpa using hk1
     have e2 : (d.k == 2) = false := by simpa using hk2
     have e3 : (d.k == 3) = false := by simpa using hk3
     clear hk0 hk1 hk2 hk3
     go_enter Tryz.func13, Tryz.ntmps13
     go_upto_region 1 with fail
     rw [HW1.out]; clear HW1
     go_upto_region 2 with fail
     rw [HW2.out]; clear HW2
     have HQ : Hid (DoL w0 w FA FD b ab db n H (dox n x d) (.returned (.tuple #[.agg (dvv H Dv x), .bool true])) (W2.setRow (w.heap.size + 2) (dvv H Dv x)) ∧ (W2.setRow (w.heap.size + 2) (dvv H Dv x)).heap[w.heap.size + 2]? = some (.cells (dvv H Dv x) 41 (0, 0))) := Hf (by
      refine ⟨?_, setRow_heap _ _ _ (dvv H Dv x) _ _ HDB.out.r6⟩
      rw [HDX.out]
      exact ⟨FA, FD, _, _, H, Dv, _, _, rfl, (HPP.out.keep HB2.out).row _ _ (fun e => by have := HPP.out.mine _ e; omega) (fun e => by have := HPP.out.xx.blt _ e; omega) (by have := HPP.out.du.bel.size; omega), fr_up (Fr.ofBelow HB2.out) _ _ (by omega), New.refl _ _⟩)
     have hst6 := store41_row rfl H Dv x HDB.out.r6
     have HFIN := Hf HQ.out.1
     have HROW := Hf HQ.out.2
     go_wp2
     refine bodyPost_ret (v := .tuple #[.agg (dvv H Dv x), .bool true]) ?_ rfl HFIN.out
     exact res41_2 f13_res _ _ (w.heap.size + 2) _ _ _ rfl HROW.out
end
theorem dox_ep (n : Nat) (x : X) (d : Du.D) : (dox n x d).ep ≤ x.ep + 1 := by
 have h1 : (ppx n x d.v.b d.v.s).ep = x.ep := by unfold ppx; split <;> rfl
 have h2 : (aax n x d.v).ep = x.ep := by unfold aax; split <;> rfl
 have h3 : (ttx n x d.v.s).ep = x.ep := by unfold ttx; split <;> rfl
 have h4 := (ccx_any n x d.st).2
 unfold dox
 split
 ·omega
 ·split
  ·omega
  ·split
   ·omega
   ·split
    ·omega
    ·omega
def HZ : Hx := ⟨⟨none, 0, none, 0, none, 0⟩, none, 0⟩
def DZ : DD := ⟨[], [], [], false⟩
theorem dopen_small (h : Hd) (D : DD) (w : World) (hn : D.now.length < 10) : Calls Tryz.prog 11 #[.agg (h.vals D)] w fun e w' => e = .returned (.tuple #[.agg (dvv HZ DZ X0), .int .i64 1]) ∧ Below w.heap.size w w' := by
 unfold Ns.Hd.vals
 obtain ⟨W1, HW1⟩ := Nh ((w.alloc (.cells #[.slice h.aN D.now.length h.cN, .slice h.aS D.sure.length h.cS, .slice h.aL D.loo.length h.cL, .bool D.lost] 34)).alloc (.cells Z13 41))
 have hb1 : Below w.heap.size w W1 := by rw [← HW1.out]; exact bel2 w _ _
 have hr1 : W1.heap[w.heap.size]? = some (.cells #[.slice h.aN D.now.length h.cN, .slice h.aS D.sure.length h.cS, .slice h.aL D.loo.length h.cL, .bool D.lost] 34 (0, 0)) := by rw [← HW1.out]; exact heap_alloc2_old w _ _
 have hr2 : W1.heap[w.heap.size + 1]? = some (.cells Z13 41 (0, 0)) := by rw [← HW1.out]; exact heap_alloc2_new w _ _
 have hd10 : decide ((D.now.length : Int) < 10) = true := decide_eq_true (by omega)
 have hd10b : decide (D.now.length < 10) = true := decide_eq_true hn
 obtain ⟨⟨x0, x1, x2, x3⟩, _⟩ := row4 hr1
 have hst : (st41 ⟨w.heap.size + 1, 0, none⟩ Z13).run Tryz.prog W1 = .ok () (W1.setRow (w.heap.size + 1) (dvv HZ DZ X0)) := store41_row rfl HZ DZ X0 hr2
 have hrow := setRow_heap _ _ _ (dvv HZ DZ X0) _ _ hr2
 have HB := Hf (below_setRow hb1 (show w.heap.size ≤ w.heap.size + 1 by omega) (dvv HZ DZ X0))
 have HROW := Hf hrow
 clear hb1 hr1 hr2 hrow hn
 go_enter Tryz.func11, Tryz.ntmps11
 go_upto_region 1 with fail
 rw [HW1.out]; clear HW1; go_wp2
 refine bodyPost_ret (v := .tuple #[.agg (dvv HZ DZ X0), .int .i64 1]) ?_ rfl ⟨rfl, HB.out⟩
 exact res41_2 f11_res _ _ (w.heap.size + 1) _ _ _ rfl HROW.out
structure RL (w0 w : World) (b db n B : Nat) (x : X) (FA FD : Nat → Prop) (ab : Nat) (P : List Ns.M.Pl) (rs : List R) (H : Hx) (Dv : DD) (Q : List Ns.M.Pl) (qs : List R) : Prop where
 pp : PP w0 w FA FD b ab db n P x rs H Dv Q qs
 rb : w.heap[B]? = some (.cells (dvv H Dv x) 41 (0, 0))
 n1 : ¬ fpd b FA FD B
 n2 : ¬ H.blk B
 lo : w0.heap.size ≤ B
def RI (w0 : World) (db n B : Nat) (b : Nat) (x : X) (w : World) : Prop := ∃ FA FD ab P rs H Dv Q qs, RL w0 w b db n B x FA FD ab P rs H Dv Q qs
section
variable {w0 w W v : World} {b db n B ab : Nat} {x x' : X} {FA FD FA' FD' : Nat → Prop} {P P' Q Q' : List Ns.M.Pl} {rs rs' qs qs' : List R} {H H' : Hx} {Dv Dv' : DD}
theorem RL.blt (h : RL w0 w b db n B x FA FD ab P rs H Dv Q qs) : B < w.heap.size := (Array.getElem?_eq_some_iff.1 h.rb).1
theorem RL.keep (h : RL w0 w b db n B x FA FD ab P rs H Dv Q qs) (hb : Below w.heap.size w W) : RL w0 W b db n B x FA FD ab P rs H Dv Q qs := ⟨h.pp.keep hb, Br h.rb hb, h.n1, h.n2, h.lo⟩
theorem RL.did (h : RL w0 w b db n B x FA FD ab P rs H Dv Q qs) (hW : Below w.heap.size w W) (pp : PP w0 v FA' FD' b ab db n P' x' rs' H' Dv' Q' qs') (fr : Fr W (fpd b FA FD) v (fpd b FA' FD')) (nw : New W H H') :
  v.heap[B]? = some (.cells (dvv H Dv x) 41 (0, 0)) ∧ ¬ fpd b FA' FD' B ∧ ¬ H'.blk B ∧ ∀ k, w.heap.size ≤ k → k < W.heap.size → ¬ fpd b FA' FD' k ∧ ¬ H'.blk k ∧ v.heap[k]? = W.heap[k]? := by
 have hB := h.blt
 have hs := hW.size
 refine ⟨(fr.block B (by omega) h.n1).trans (Br h.rb hW), fun e => ?_, fun e => ?_, fun k h1 h2 => ⟨fun e => ?_, fun e => ?_, fr.block k h2 (fun e => by have := h.pp.mine k e; omega)⟩⟩
 ·rcases fr.n B e with h1 | h1
  ·exact h.n1 h1
  ·omega
 ·rcases nw B e with h1 | h1
  ·exact h.n2 h1
  ·omega
 ·rcases fr.n k e with h3 | h3
  ·have := h.pp.mine k h3; omega
  ·omega
 ·rcases nw k e with h3 | h3
  ·have := h.pp.xx.blt k h3; omega
  ·omega
theorem RL.set (pp : PP w0 w FA FD b ab db n P x rs H Dv Q qs) {cs : Array Value} (hr : w.heap[B]? = some (.cells cs 41 (0, 0))) (n1 : ¬ fpd b FA FD B) (n2 : ¬ H.blk B) (lo : w0.heap.size ≤ B) : RL w0 (w.setRow B (dvv H Dv x)) b db n B x FA FD ab P rs H Dv Q qs :=
 ⟨pp.row B _ n1 n2 lo, setRow_heap _ _ _ (dvv H Dv x) _ _ hr, n1, n2, lo⟩
end
def SD (B : Nat) (H : Hx) (Dv : DD) (x : X) (g o : Nat) (d : Du.D) (w : World) : Prop := w.heap[B]? = some (.cells (dvv H Dv x) 41 (0, 0)) ∧ w.cell? ⟨g, o, none⟩ = some (.int .i64 d.k) ∧ w.cell? ⟨g, o + 1, none⟩ = some (.int .i64 d.v.s) ∧ w.cell? ⟨g, o + 2, none⟩ = some (.int .i64 d.v.b.i) ∧ w.cell? ⟨g, o + 3, none⟩ = some (.int .i64 d.v.b.t) ∧ w.cell? ⟨g, o + 4, none⟩ = some (.string d.v.v) ∧ w.cell? ⟨g, o + 5, none⟩ = some (.int .i64 d.st) ∧ w.cell? ⟨g, o + 6, none⟩ = some (.int .u64 (d.kp : Int))
theorem SD.of {B g o : Nat} {H : Hx} {Dv : DD} {x : X} {d : Du.D} {w w' : World} (h : SD B H Dv x g o d w) (hB : w'.heap[B]? = w.heap[B]?) (hg : w'.heap[g]? = w.heap[g]?) : SD B H Dv x g o d w' := by
 obtain ⟨h0, h1, h2, h3, h4, h5, h6, h7⟩ := h
 have k : ∀ (o : Nat) (v : Value), w.cell? ⟨g, o, none⟩ = some v → w'.cell? ⟨g, o, none⟩ = some v := fun o v e => (World.cell?_of_block (w := w) (a := ⟨g, o, none⟩) hg).trans e
 exact ⟨hB.trans h0, k _ _ h1, k _ _ h2, k _ _ h3, k _ _ h4, k _ _ h5, k _ _ h6, k _ _ h7⟩
theorem SD.lt {B g o : Nat} {H : Hx} {Dv : DD} {x : X} {d : Du.D} {w : World} (h : SD B H Dv x g o d w) : B < w.heap.size ∧ g < w.heap.size := ⟨(Array.getElem?_eq_some_iff.1 h.1).1, World.block_lt_of_cell? w _ h.2.1⟩
theorem SD.keep {B g o : Nat} {H : Hx} {Dv : DD} {x : X} {d : Du.D} {w w' : World} (h : SD B H Dv x g o d w) (hb : Below w.heap.size w w') : SD B H Dv x g o d w' := h.of (hb.block _ h.lt.1) (hb.block _ h.lt.2)
end Go.Proofs.YtlnedgjikkhplaaGreat.Du
