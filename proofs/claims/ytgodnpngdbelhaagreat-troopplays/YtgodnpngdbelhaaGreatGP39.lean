import Derived.Test.YtgodnpngdbelhaaGreatGP38
set_option maxRecDepth 100000
set_option maxHeartbeats 8000000
set_option linter.unusedVariables false
set_option linter.unusedSimpArgs false
open Go.Proofs.Tryz
namespace Go.Proofs.YtgodnpngdbelhaaGreat.Dn
open Go.RowKit Go.Maps
open Go.Proofs.YtgodnpngdbelhaaGreat.M (E V)
open Go.Proofs.YtgodnpngdbelhaaGreat.Rm (NT R)
open Go.Proofs.YtgodnpngdbelhaaGreat.Tm (T)
open Go.Proofs.YtgodnpngdbelhaaGreat.Np (dvv ld32 st32 Z17)
open Dl (X)
theorem take_any {w : World} {x : DR} {d : DA} {m : Nat} {r : R} (h : DM w x d) (hR : Rl m r x) (hF : Fit r) (hm : m ≤ 300) (y : RN) (hat : AtL vl w y.ad y.x.v) (htx : y.x.k = 2 ∨ y.x.k = 4 ∨ y.x.k = 6 → ∀ v ∈ y.x.v, v.v.size ≤ maxLen) (hvl : y.x.v.length ≤ 1024) : Calls prog 51 #[.agg (rvv x d), nV y] w (LdO w d (m + 1) (Rm.tkS r y.x) (Rm.tkN r y.x)) := by
 by_cases ht : y.x.t = r.me
 ·by_cases hf0 : y.x.f < 0
  ·exact take_nob h hR hF hm y ht hf0
  ·by_cases hfn : r.n ≤ y.x.f
   ·exact take_noc h hR hF hm y ht hfn (by omega)
   ·have hb : Rm.tkb r y.x = true := by
     unfold Rm.tkb Rm.isN; rw [decide_eq_true ht, decide_eq_true (show 0 ≤ y.x.f by omega), decide_eq_true (show y.x.f < r.n by omega)]; rfl
    by_cases k1 : y.x.k = 1
    ·exact take_1 h hR hF hm y hb k1
    by_cases k2 : y.x.k = 2
    ·exact take_2 h hR hF hm y hb k2 hat (htx (.inl k2)) hvl
    by_cases k3 : y.x.k = 3
    ·by_cases h1 : y.x.v.length = 1
     ·exact take_3 h hR hF hm y hb k3 h1 hat
     ·exact take_idle3 h hR hF hm y hb k3 h1
    by_cases k4 : y.x.k = 4
    ·by_cases h1 : y.x.v.length = 1
     ·exact take_4 h hR hF hm y hb k4 h1 hat (htx (.inr (.inl k4)))
     ·exact take_idle4 h hR hF hm y hb k4 h1
    by_cases k5 : y.x.k = 5
    ·exact take_5 h hR hF hm y hb k5
    by_cases k6 : y.x.k = 6
    ·exact take_6 h hR hF hm y hb k6 hat (htx (.inr (.inr k6))) hvl
    exact take_idlex h hR hF hm y hb k1 k2 k3 k4 k5 k6
 ·exact take_noa h hR hF hm y ht
def rl : Ly (DR × DA) := ⟨27, fun z => (rvv z.1 z.2).toList, fun _ => rfl, fun z v h => rvv_one z.1 z.2 v h, by decide⟩
structure Ti3 {α : Type} (Y : Ly α) (T t : TypeId) : Prop where
 u : prog.underlying T = some (.slice t)
 i : ∃ inf z, prog.info? t = some inf ∧ inf.zero = some z ∧ inf.size = Y.n ∧ inf.bytes ≤ 300 ∧ z.cells.size = Y.n
theorem ti3R : Ti3 rl 27 54 := ⟨underlying27, Tryz.t54, .agg Z27, by kernel_rfl, rfl, rfl, by decide, rfl⟩
section
variable {α : Type} {Y : Ly α}
theorem run_appL3 {T t : TypeId} (hT : Ti3 Y T t) (w : World) (base : Nat) (v : Value) (l s : List α) (b off c n : Nat) (hown : OwnL Y t w base v l) (hs : AtL Y w (some ⟨b, off, none⟩) s) (hn : n = s.length) (hb : base ≤ w.heap.size) (hl : l.length + s.length ≤ 1000) :
  ∃ a' c' w', (∀ ty, (Builtin.append_ #[T, T] ty #[v, .slice (some ⟨b, off, none⟩) n c]).run prog w = .ok (.slice a' (l.length + s.length) c') w') ∧ OwnL Y t w' base (.slice a' (l.length + s.length) c') (l ++ s) ∧ Rw w v w' (.slice a' (l.length + s.length) c') := by
 subst hn; obtain ⟨inf, z, hi, hz, hsz, hby, hzs⟩ := hT.i; have hbytes : (l.length + s.length) * inf.bytes ≤ 140737488355328 := Nat.le_trans (Nat.mul_le_mul hl hby) (by omega); obtain ⟨v', w', hr, h2, h3, _, h5⟩ := run_append_own_at (P := prog) w base T 0 t inf z Y.n inf.bytes hT.u hi hz hsz rfl hzs Y.pos v l.length (Y.cells l) hown ⟨b, off, none⟩ s.length c (Y.cells s) (Y.clen s) hs.cells (Y.ones s) (by unfold maxLen; omega) hbytes hb; have ho : OwnL Y t w' base v' (l ++ s) := by
  unfold OwnL; rw [Y.app, List.length_append]; exact h2
 obtain ⟨a', c', rfl, _, _⟩ := ho.at; rw [List.length_append] at hr ho h5 h2; refine ⟨a', c', w', fun ty => (append_ty _ _ _ ty 0).trans hr, ho, h3, fun k hk => ?_⟩; rcases h5 with h5 | h5
 ·exact .inl (by rw [← h5]; exact hk)
 ·rw [h5] at hk; cases hk; exact .inr Lr
theorem run_copyL3 {T t : TypeId} (hT : Ti3 Y T t) (w : World) (b off c : Nat) (s : List α) (hs : AtL Y w (some ⟨b, off, none⟩) s) (hl : s.length ≤ 1000) :
  ∃ a' c' w', (∀ ty, (Builtin.append_ #[T, T] ty #[.slice none 0 0, .slice (some ⟨b, off, none⟩) s.length c]).run prog w = .ok (.slice a' s.length c') w') ∧ OwnL Y t w' w.heap.size (.slice a' s.length c') s ∧ Bl w w' := by
 obtain ⟨a', c', w', h1, h2, h3⟩ := run_appL3 hT w w.heap.size (.slice none 0 0) [] s b off c _ (OwnL.nil _ _ _) hs rfl Lr (by simpa using hl); simp only [List.length_nil, Nat.zero_add, List.nil_append] at h1 h2 h3; exact ⟨a', c', w', h1, h2, h3.below (fun k hk => by simp [Value.ownBlock] at hk) Lr⟩
end
theorem load_el {w : World} {a : Option Addr} {zs : List (DR × DA)} (h : AtL rl w a zs) (j : Nat) (hj : j < zs.length) : ∃ b off, a = some ⟨b, off, none⟩ ∧ (ldR ⟨b, off + j * 27, none⟩).run prog w = .ok (rvv zs[j].1 zs[j].2) w ∧ w.cell? ⟨b, off + j * 27 + 13, none⟩ = some (.bool zs[j].1.p.ld) := by
 obtain ⟨b, off, e, h0⟩ := h j hj; refine ⟨b, off, e, ?_, h0 13 (by decide)⟩; have := run_loadCells_list (P := prog) w ⟨b, off + j * 27, none⟩ (rvv zs[j].1 zs[j].2).toList (fun q v hv => by
  have hadd : (⟨b, off + j * 27, none⟩ : Addr).add q = ⟨b, off + j * 27 + q, none⟩ := by unfold Addr.add; split <;> simp_all
  have hq : q < 27 := (List.getElem?_eq_some_iff.1 hv).1; have h1 := h0 q hq; rw [hadd]; refine h1.trans ?_; rw [← hv]; exact (List.getElem?_eq_getElem _).symm)
 simpa [loadCells, rvv_size, ldR] using this
theorem set_el {w : World} {base : Nat} {a : Option Addr} {c : Nat} {zs : List (DR × DA)} (h : OwnL rl 54 w base (.slice a zs.length c) zs) (i : Nat) (hi : i < zs.length) (x : DR) (d : DA) : ∃ g w', a = some ⟨g, 0, none⟩ ∧ base ≤ g ∧ g < w.heap.size ∧ (stR ⟨g, i * 27, none⟩ (rvv x d)).run prog w = .ok () w' ∧ OwnL rl 54 w' base (.slice a zs.length c) (zs.set i (x, d)) ∧ Fr w (· = g) w' (· = g) := by
 have hlt := fun b hb => h.lt (b := b) hb; unfold OwnL at h; rcases h.2 with ⟨e, h0⟩ | ⟨g, cap, cur, hv, hb', hh, hc, hm, hs, ht⟩
 ·omega
 ·simp only [Value.slice.injEq, true_and] at hv; obtain ⟨e1, e2⟩ := hv; subst e1 e2; have hn : rl.n = 27 := rfl; rw [hn] at hs ht; have hcs : zs.length * 27 ≤ cur.size := by have := Nat.mul_le_mul_right 27 hc; omega
  have hi27 : i * 27 + 27 ≤ zs.length * 27 := by have := Nat.mul_le_mul_right 27 (show i + 1 ≤ zs.length from hi); omega
  obtain ⟨w', h1, h2, h3⟩ := storeCells_at g 54 (i * 27) (rvv x d).toList 0 cur w hh (by rw [Array.length_toList, rvv_size]; omega) (rvv_one x d); refine ⟨g, w', rfl, hb', (hlt g rfl).2, h1, ⟨by rw [rl.clen], .inr ⟨g, c, _, by simp, hb', h2, by simpa using hc, hm, ?_, ?_⟩⟩, h3⟩
  ·rw [hn, List.size_toArray, List.length_append, List.length_append, List.length_take, List.length_drop, Array.length_toList, Array.length_toList, rvv_size]; omega
  ·have hL : (zs.set i (x, d)).length = zs.length := List.length_set; rw [hL]; have hset : zs.set i (x, d) = zs.take i ++ [(x, d)] ++ zs.drop (i + 1) := by rw [List.set_eq_take_append_cons_drop, if_pos hi]; simp
   have hc1 : rl.cells (zs.set i (x, d)) = rl.cells (zs.take i) ++ (rvv x d).toList ++ rl.cells (zs.drop (i + 1)) := by
    rw [hset, rl.app, rl.app]; congr 2
   have l2 : (rvv x d).toList.length = 27 := by rw [Array.length_toList, rvv_size]
   have l1 : (List.take (i * 27) cur.toList).length = i * 27 := by rw [List.length_take, Array.length_toList]; omega
   have e5 : i * 27 + 27 = (i + 1) * 27 := by omega
   rw [hc1, ← rl.take, ← rl.drop, hn, ← ht, l2, Nat.add_zero, e5]; show List.take (zs.length * 27) (List.take (i * 27) cur.toList ++ (rvv x d).toList ++ List.drop ((i + 1) * 27) cur.toList) = _; rw [List.take_append, List.take_of_length_le (l := List.take (i * 27) cur.toList ++ (rvv x d).toList) (by rw [List.length_append, l1, l2]; omega), List.length_append, l1, l2, List.take_take, Nat.min_eq_left (by omega : i * 27 ≤ zs.length * 27), List.drop_take, e5]
def tblk (la wa : Option Addr) (zs : List (DR × DA)) (ys : List RN) (q : Nat) : Prop := blk la q ∨ blk wa q ∨ (∃ z ∈ zs, dblk z.2 q) ∨ ∃ y ∈ ys, blk y.ad q
structure TT (w : World) (m : Nat) (t : T) (la : Option Addr) (lc : Nat) (wa : Option Addr) (wc : Nat) (zs : List (DR × DA)) (ys : List RN) : Prop where
 n : zs.length = t.n
 lx : XL rl w la lc zs
 nd : ∀ i (h : i < zs.length), DM w zs[i].1 zs[i].2 ∧ Rl m (t.rs i) zs[i].1
 wx : XL nl w wa wc ys
 my : ys.map RN.x = t.way
 vx : ∀ y ∈ ys, XL vl w y.ad y.c y.x.v
abbrev tV (la : Option Addr) (n lc : Nat) (wa : Option Addr) (wn wc : Nat) : Value := .agg #[.slice la n lc, .slice wa wn wc]
structure TD (w : World) (m : Nat) (t : T) (la : Option Addr) (lc : Nat) (wa : Option Addr) (wc : Nat) (zs : List (DR × DA)) (ys : List RN) (F : Nat → Prop) : Prop where
 tt : TT w m t la lc wa wc zs ys
 lt : ∀ q, tblk la wa zs ys q → q < w.heap.size
 F : ∀ q, tblk la wa zs ys q → F q
section
variable {w w' : World} {m : Nat} {t : T} {la wa : Option Addr} {lc wc : Nat} {zs : List (DR × DA)} {ys : List RN} {F G : Nat → Prop}
theorem dm_keepBut {x : DR} {d : DA} (h : DM w x d) (hs : w.heap.size ≤ w'.heap.size) (hb : ∀ k, k < w.heap.size → dblk d k → w'.heap[k]? = w.heap[k]?) : DM w' x d :=
 ⟨h.a.keepBut fun k hk hk2 => hb k hk (.inl hk2), fun q hq => Nat.lt_of_lt_of_le (h.al q hq) hs, h.p.keepBut (fun k hk hk2 => hb k hk (.inr (.inl hk2))) hs, ⟨h.l.t.keepBut fun k hk hk2 => hb k hk (.inr (.inr (.inl hk2))), h.l.v.keepBut fun k hk hk2 => hb k hk (.inr (.inr (.inr hk2))), fun q hq => Nat.lt_of_lt_of_le (h.l.lt q hq) hs⟩⟩
theorem TD.keepBut (h : TD w m t la lc wa wc zs ys F) (hs : w.heap.size ≤ w'.heap.size) (hb : ∀ k, k < w.heap.size → F k → w'.heap[k]? = w.heap[k]?) : TD w' m t la lc wa wc zs ys F :=
 ⟨⟨h.tt.n, h.tt.lx.keepBut fun k hk hk2 => hb k hk (h.F k (.inl hk2)), fun i hi => ⟨dm_keepBut (h.tt.nd i hi).1 hs fun k hk hk2 => hb k hk (h.F k (.inr (.inr (.inl ⟨_, List.getElem_mem hi, hk2⟩)))), (h.tt.nd i hi).2⟩, h.tt.wx.keepBut fun k hk hk2 => hb k hk (h.F k (.inr (.inl hk2))), h.tt.my, fun y hy => (h.tt.vx y hy).keepBut fun k hk hk2 => hb k hk (h.F k (.inr (.inr (.inr ⟨y, hy, hk2⟩))))⟩, fun q hq => Nat.lt_of_lt_of_le (h.lt q hq) hs, h.F⟩
theorem TD.keep (h : TD w m t la lc wa wc zs ys F) (hb : Bl w w') : TD w' m t la lc wa wc zs ys F := h.keepBut hb.size fun k hk _ => hb.block k hk
theorem TD.imp (h : TD w m t la lc wa wc zs ys F) (hi : ∀ q, q < w.heap.size → F q → G q) : TD w m t la lc wa wc zs ys G := ⟨h.tt, h.lt, fun q hq => hi q (h.lt q hq) (h.F q hq)⟩
theorem TD.up {k : Nat} (h : TD w m t la lc wa wc zs ys F) (hk : m ≤ k) : TD w k t la lc wa wc zs ys F := ⟨⟨h.tt.n, h.tt.lx, fun i hi => ⟨(h.tt.nd i hi).1, (h.tt.nd i hi).2.up hk⟩, h.tt.wx, h.tt.my, h.tt.vx⟩, h.lt, h.F⟩
theorem TD.yl (h : TD w m t la lc wa wc zs ys F) : ys.length = t.way.length := by rw [← h.tt.my, List.length_map]
end
theorem node_any (la : Option Addr) (n lc : Nat) (wa : Option Addr) (wn wc : Nat) (i : Int) (w : World) : Calls prog 11 #[tV la n lc wa wn wc, .int .i64 i] w fun e w' => e = .returned (.bool (decide (0 ≤ i) && decide (i < n))) ∧ Bl w w' := by
 obtain ⟨W1, hW1, hb1, hz0, hs1⟩ := alloc1 w (.cells #[.slice la n lc, .slice wa wn wc] 30); have HW1 := Hf hW1; obtain ⟨gz, hgz⟩ := Nq (w.heap.size); have HB1 := Hf hb1; have HGZ := Hf hgz; rw [hgz] at hz0; obtain ⟨c0, _⟩ := row2 hz0; clear hW1 hb1 hgz hs1 hz0; by_cases h0 : 0 ≤ i
 ·have d0 : decide (0 ≤ i) = true := decide_eq_true h0; rw [d0, Bool.true_and]; clear h0; go_enter func11, ntmps11; go_upto_region 1 with fail
  rw [HW1.out, HGZ.out]; clear HW1; go_wp2; go_ret; exact ⟨rfl, HB1.out⟩
 ·have d0 : decide (0 ≤ i) = false := decide_eq_false h0; rw [d0, Bool.false_and]; clear h0; go_enter func11, ntmps11; go_upto_region 1 with fail
  rw [HW1.out, HGZ.out]; clear HW1; go_wp2; go_ret; exact ⟨rfl, HB1.out⟩
theorem Tryz.size30 : (prog.info? 30).map (·.size) = some 2 := by kernel_rfl
@[simp] theorem szR_ok {β : Type} (w : World) (f : Nat → β) : ((szR w).andThen fun s w' => Result.ok (f s) w') = Result.ok (f 27) w := by
 rw [szR_eq]; rfl
theorem Md.rw {lo hi : Nat} {w w1 w2 : World} {v v' : Value} (h : Md lo hi w w1) (hr : Rw w1 v w2 v') (ho : ∀ k, v.ownBlock = some k → w.heap.size ≤ k) : Md lo hi w w2 :=
 ⟨Nat.le_trans h.size hr.g.size, fun k hk hn => (hr.g.block k (Nat.lt_of_lt_of_le hk h.size) (fun e => by have := ho k e.symm; omega)).trans (h.block k hk hn)⟩
theorem f52_res : Tryz.f52.results = #[.cell 8 30] := rfl
def SyO (w : World) (m : Nat) (t : T) (F : Nat → Prop) (e : Ending) (w' : World) : Prop := ∃ la lc wa wc zs ys, e = .returned (tV la zs.length lc wa ys.length wc) ∧ TD w' m t la lc wa wc zs ys (fun q => F q ∨ w.heap.size ≤ q) ∧ Bl w w'
theorem say_any {w : World} {m : Nat} {t : T} {la wa : Option Addr} {lc wc : Nat} {zs : List (DR × DA)} {ys : List RN} {F : Nat → Prop} (h : TD w m t la lc wa wc zs ys F) (i : Nat) (hi : i < zs.length) (h7 : zs.length ≤ 7) (hway : t.way.length ≤ 1024) {x : DR} {d : DA} {r : R} (hd : DM w x d) (hr : Rl m r x) (hdF : ∀ q, dblk d q → F q) {ad : Option Addr} {c : Nat} {ls : List RN} (hl : XL nl w ad c ls) (hlv : ∀ y ∈ ls, XL vl w y.ad y.c y.x.v ∧ ∀ q, blk y.ad q → q < w.heap.size ∧ F q) (hll : ls.length ≤ 100000) :
  Calls prog 52 #[tV la zs.length lc wa ys.length wc, .int .i64 (i : Int), .agg (rvv x d), .slice ad ls.length c] w (SyO w m (Tm.say t i r (ls.map RN.x)) F) := by
 obtain ⟨W1, gz, HW1, HB1, HGZ, Ht1, Hb1, Hr1, HS1⟩ := Np.aH3 w (.cells #[.slice la zs.length lc, .slice wa ys.length wc] 30) (.cells (rvv x d) 54) (.cells #[.slice none 0 0, .slice none 0 0] 30); have HT := Hf h; have HD := Hf hd; have HR := Hf hr; have HDF := Hf hdF; have HLX := Hf hl; have HLV := Hf hlv; have HYL := Hf h.yl; have hs1 := HS1.out; obtain ⟨b0, o0, hla, -⟩ := h.tt.lx.at' 0 (by omega); have hat := h.tt.lx.at'.keep HB1.out; rw [hla] at hat; obtain ⟨a2, c2, w2, hrun2, ho2, hb2⟩ := run_copyL3 ti3R W1 b0 o0 lc zs hat (by omega); have hw2 := hb2.size; clear hd hr hdF hl hlv h; obtain ⟨⟨t2c0, t2c1⟩, t2f⟩ := row2 Ht1.out; rw [hla] at t2c0; have HLA := Hf hla; clear hla hat; have HB3 := Hf (Bu HB1.out hb2 Lr); have Ht3 := Hf (Br Ht1.out hb2); have Hb3 := Hf (Br Hb1.out hb2); have Hr3 := Hf (Br Hr1.out hb2); obtain ⟨e0, ef⟩ := row2 Ht3.out; have ef0 := ef 0; obtain ⟨W3, HW3⟩ := Nh (w2.setCell ⟨gz, 0, none⟩ (.slice a2 zs.length c2)); have hf3 := Ae HW3; have hrow3 : W3.heap[gz]? = some (.cells #[.slice a2 zs.length c2, .slice wa ys.length wc] 30 (0, 0)) := by rw [← HW3.out, heap_setCell_same w2 gz 0 _ _ _ Ht3.out]; rfl
 have ho3 : OwnL rl 54 W3 W1.heap.size (.slice a2 zs.length c2) zs := ho2.keepBut fun k hk hk2 => hf3.block k hk (by have := (ho2.lt hk2).1; omega); have HB4 := Hf (fr_bel HB3.out hf3 (by have := HGZ.out; omega) HB3.out.size); have Ht4 := Hf hrow3; have Hb4 := Hf (fr_row hf3 Hb3.out (by omega)); have Hr4 := Hf (fr_row hf3 Hr3.out (by omega)); obtain ⟨g2, w4, ha2, hg2, hg2', hst4, ho4, hf4⟩ := set_el ho3 i hi x d; subst ha2; have hii : (i : Int) < (zs.length : Int) := by omega
 have lR3 := loadR Hb4.out; clear ef; go_enter func52, ntmps52; go_upto_region 1 with fail
 rw [HW1.out, HGZ.out]; clear HW1; go_upto_region 2 with (at_builtin; refine wpList_append_known rfl _ _ 27 rfl (.slice none 0 0) (.slice (some ⟨b0, o0, none⟩) zs.length lc) rfl rfl _ _ (hrun2 _) ?_)
 rw [HW3.out]; clear HW3 hrun2 e0 ef0 t2c0 t2c1 t2f; obtain ⟨t5c0, t5f⟩ := row2 Ht4.out; have hne : ∀ k, k < gz + 3 → k ≠ g2 := fun k hk => by omega
 have HB6 := Hf (fr_bel HB4.out hf4 (by have := HGZ.out; omega) HB4.out.size); have Ht6 := Hf (fr_row hf4 Ht4.out (hne _ (by omega))); have Hb6 := Hf (fr_row hf4 Hb4.out (hne _ (by omega))); have Hr6 := Hf (fr_row hf4 Hr4.out (hne _ (by omega))); go_upto_region 3 with fail
 clear hst4 lR3; clear t5c0 t5f ; obtain ⟨t7c0, t7f⟩ := row2 Ht6.out; obtain ⟨a5, c5, w5, hrun5, ho5, hb5⟩ := run_copyL tiN w4 0 wa wc ys (HT.out.tt.wx.keep HB6.out) (by have := HYL.out; omega); have hrun5' : ∀ ty, (Builtin.append_ #[28, 28] ty #[.slice none 0 0, .slice wa ys.length wc]).run prog w4 = .ok (.slice a5 ys.length c5) w5 := fun ty => (append_ty (T := 28) _ _ _ ty 0).trans hrun5; have hs4 : gz + 3 ≤ w4.heap.size := by have h1 := hf4.size; have h2 := hf3.size; omega
 have hg4 : g2 < w4.heap.size := Nat.lt_of_lt_of_le hg2' hf4.size; have HMw := Hf (Md.refl gz (gz + 3) w4); have HB8 := Hf (Bu HB6.out hb5 Lr); have Ht8 := Hf (Br Ht6.out hb5); have Hb8 := Hf (Br Hb6.out hb5); have Hr8 := Hf (Br Hr6.out hb5); have HMw8 := Hf (Md.up HMw.out hb5); obtain ⟨e0, ef⟩ := row2 Ht8.out; have ef1 := ef 1; obtain ⟨W6, HW6⟩ := Nh (w5.setCell ⟨gz, 1, none⟩ (.slice a5 ys.length c5)); have hf6 := Ae HW6; have hrow6 : W6.heap[gz]? = some (.cells #[.slice (some ⟨g2, 0, none⟩) zs.length c2, .slice a5 ys.length c5] 30 (0, 0)) := by rw [← HW6.out, heap_setCell_same w5 gz 1 _ _ _ Ht8.out]; rfl
 have ho6 : OwnL nl 72 W6 w4.heap.size (.slice a5 ys.length c5) ys := ho5.keepBut fun k hk hk2 => hf6.block k hk (by have := (ho5.lt hk2).1; omega); have HB9 := Hf (fr_bel HB8.out hf6 (by have := HGZ.out; omega) HB8.out.size); have Ht9 := Hf hrow6; have Hb9 := Hf (fr_row hf6 Hb8.out (by omega)); have Hr9 := Hf (fr_row hf6 Hr8.out (by omega)); have HMw9 := Hf (Md.fr HMw8.out hf6 (by omega) (by omega)); have hgz := HGZ.out; have how6 : OW W6 0 (.slice a5 ys.length c5) ys := ⟨ho6.low (Nat.zero_le _), fun y hy => ⟨(HT.out.tt.vx y hy).keep HB9.out, fun q hq => by
  have h1 := HT.out.lt q (.inr (.inr (.inr ⟨y, hy, hq⟩))); have h2 := HB9.out.size; exact ⟨by omega, Nat.zero_le _, fun e => by have := (ho6.lt e).1; omega⟩⟩⟩
 have HOW6 := Hf how6; have HOB6 : Hid (∀ k, (Value.slice a5 ys.length c5).ownBlock = some k → w4.heap.size ≤ k) := fun k hk => (ho6.lt hk).1; clear hf3 hrow3 ho3 ho2 hb2 hf6 hrow6 ho6 ho5 hb5 how6 ef hrun5 hne; go_upto_region 4 with (at_builtin; refine wpList_append_known rfl _ _ 28 rfl (.slice none 0 0) (.slice wa ys.length wc) rfl rfl _ _ (hrun5' _) ?_)
 rw [HW6.out]; clear HW6 hrun5' e0 ef1; clear t7c0 t7f ; go_wp2_with fail; go_loopw [9] (fun iv wr => ∃ (j : Nat) (u : Value) (qs : List RN), j ≤ ls.length ∧ t.way.length + j ≤ 1024 ∧ iv = .int .i64 j ∧ wr.heap[gz]? = some (.cells #[.slice (some ⟨g2, 0, none⟩) zs.length c2, u] 30 (0, 0)) ∧ wr.heap[gz + 2]? = some (.cells #[.slice none 0 0, .slice none 0 0] 30 (0, 0)) ∧ OW wr 0 u qs ∧ qs.map RN.x = t.way ++ (ls.take j).map RN.x ∧ (∀ y ∈ qs, y ∈ ys ∨ y ∈ ls) ∧ (∀ k, u.ownBlock = some k → w4.heap.size ≤ k) ∧ Md gz (gz + 3) w4 wr ∧ Bl w wr) (fun iv _ => ls.length - (intOf iv).toNat)
 case atStart => exact ⟨0, _, ys, Nat.zero_le _, hway, rfl, Ht9.out, Hr9.out, HOW6.out, by rw [HT.out.tt.my]; simp, fun y hy => .inl hy, HOB6.out, HMw9.out, HB9.out⟩
 case round =>
  obtain ⟨j, u, qs, hj, hj2, rfl, hrow, hrr, how, hmp, hmem, hob, hmd, hbl⟩ := hrel; have hql : qs.length = t.way.length + j := by rw [← List.length_map (f := RN.x), hmp, List.length_append, List.length_map, List.length_take]; omega
  obtain ⟨a1, c1, rfl, hxs⟩ := how.at; obtain ⟨⟨n0, n1⟩, _⟩ := row2 hrow; rw [hql] at how hob hrow n1; have HROW := Hf hrow; have HRR := Hf hrr; have HOW := Hf how; have HOB := Hf hob; have HMD := Hf hmd; have HBL := Hf hbl; have HMP := Hf hmp; have HME := Hf hmem; have HXS := Hf hxs; clear hrow hrr how hob hmd hbl hmp hmem hxs; by_cases hlt : j < ls.length
  ·have d1 : decide ((j : Int) < (ls.length : Int)) = true := decide_eq_true (by omega); by_cases h10 : t.way.length + j < 1024
   ·have d2 : decide (((t.way.length + j : Nat) : Int) < 1024) = true := decide_eq_true (by omega); have hji : (j : Int) < (ls.length : Int) := by omega
    have hji2 : ((t.way.length + j : Nat) : Int) < 1024 := by omega
    obtain ⟨b1, o1, ha, -⟩ := (HLX.out.keep HBL.out).at'.getN j hlt; have hcell := fun wq (hq : Bl w wq) => (HLX.out.keep hq).at'.getN j hlt; obtain ⟨y, HY⟩ := Nh (ls[j]); have hyv := HLV.out y (by rw [← HY.out]; exact List.getElem_mem hlt); have HS : Hid (∀ wq, Bl w wq → wq.cell? ⟨b1, o1 + j * 7, none⟩ = some (.int .i64 y.x.k) ∧ wq.cell? ⟨b1, o1 + j * 7 + 1, none⟩ = some (.int .i64 y.x.f) ∧ wq.cell? ⟨b1, o1 + j * 7 + 2, none⟩ = some (.int .i64 y.x.t) ∧ wq.cell? ⟨b1, o1 + j * 7 + 3, none⟩ = some (.int .i64 y.x.s) ∧ wq.cell? ⟨b1, o1 + j * 7 + 4, none⟩ = some (.int .i64 y.x.b.i) ∧ wq.cell? ⟨b1, o1 + j * 7 + 5, none⟩ = some (.int .i64 y.x.b.t) ∧ wq.cell? ⟨b1, o1 + j * 7 + 6, none⟩ = some (.slice y.ad y.x.v.length y.c)) := fun wq hq => by
     obtain ⟨b2, o2, ha2, g⟩ := hcell wq hq; rw [ha] at ha2; cases ha2; rw [HY.out] at g; exact g
    have HYM : Hid (y ∈ ls) := Hf (by rw [← HY.out]; exact List.getElem_mem hlt); have HTK : Hid ((ls.take (j + 1)).map RN.x = (ls.take j).map RN.x ++ [y.x]) := Hf (by rw [List.take_succ_eq_append_getElem hlt, List.map_append, HY.out]; rfl); have HYX := Hf hyv; have HAD := Hf ha; clear hcell hyv; subst ha; go_wp2_with fail; refine Wm (fun wq => Bl w wq) (HBL.out.trans ((Below.drew (Below.refl _ _)).mono HBL.out.size)) fun wdx hBwd Hl => ?_; have hBq := hBwd; refine Tm 0 Hl ?_; refine Tm 2 Hl ?_; refine Tm 3 Hl ?_; refine Tm 4 Hl ?_; refine Tj 5 Hl ?_; simp only [Act.put, Pz]; refine Rn [1, 6] (Rc ?pF ?sF (Rc ?pG ?sG AllReadyH.nil))
    case sF =>
     intro K hK; have hrow1 : (wdx).heap[gz]? = some (.cells #[.slice (some ⟨g2, 0, none⟩) zs.length c2, .slice a1 (t.way.length + j) c1] 30 (0, 0)) := Br HROW.out hBq; obtain ⟨m0, _⟩ := row2 hrow1; go_simp; clear m0 hrow1; refine hK.out _ _ Hl fun Hl => ?_; refine Rd 6 ?pH ?sH; intro K hK; go_simp; obtain ⟨a6, c6, w6, hrun, ho6, hr6⟩ := (HOW.out.keep (show Below wr.heap.size wr (wdx) from hBq)).app1 y ⟨((HYX.out.1).keep HBL.out).keep hBq, fun q hq => by
      have h1 := (HYX.out.2 q hq).1; have h2 := HBL.out.size; have h3 := hBq.size; exact ⟨by omega, Nat.zero_le _, fun e => by have := HOB.out q e; have h4 := HB9.out.size; have h5 := HMD.out.size; omega⟩⟩ (Nat.zero_le _) (by rw [hql]; omega)
     obtain ⟨wn, hwn⟩ := Nq ((wdx).alloc (.cells #[.int .i64 y.x.k, .int .i64 y.x.f, .int .i64 y.x.t, .int .i64 y.x.s, .int .i64 y.x.b.i, .int .i64 y.x.b.t, .slice y.ad y.x.v.length y.c] 72)); have e8 : nl.cs y = [.int .i64 y.x.k, .int .i64 y.x.f, .int .i64 y.x.t, .int .i64 y.x.s, .int .i64 y.x.b.i, .int .i64 y.x.b.t, .slice y.ad y.x.v.length y.c] := rfl; rw [e8, hwn, hql] at hrun; rw [hql] at ho6 hr6; have hbn0 : Below (wdx).heap.size (wdx) wn := by rw [← hwn]; exact bel1 _ _
     have hbq6 := Bu hBq hbn0 Lr; have hSn := Bu Hl hbn0 Lr; have hr6r := (Rw.ofBelow (.slice a1 (t.way.length + j) c1) (show Below wr.heap.size wr (wdx) from hBq)).trans hr6; rw [hwn]; clear hwn e8 hbn0; refine hK.out _ _ hSn fun Hl => ?_; refine Rd 7 ?pI ?sI; intro K hK; have hrow6 : w6.heap[gz]? = some (.cells #[.slice (some ⟨g2, 0, none⟩) zs.length c2, .slice a1 (t.way.length + j) c1] 30 (0, 0)) := (hr6r.g.block gz (Array.getElem?_eq_some_iff.1 HROW.out).1 (fun e => by have := HOB.out gz e.symm; omega)).trans HROW.out; have hS6 : Bl w w6 := HBL.out.trans (hr6r.below (B := w.heap.size) (fun k hk => by have := HOB.out k hk; omega) HBL.out.size); refine step_append_known rfl (.tmp 36) (.tmp 41) 28 rfl _ _ rfl rfl _ _ (hrun _) ?_; refine hK.out _ _ hS6 fun Hl => ?_; refine Tm 8 Hl ?_; simp only [Act.put, Pz]; refine Rd 9 ?pK ?sK; intro K hK; obtain ⟨m0, mf⟩ := row2 hrow6; have mf1 := mf 1; obtain ⟨W9, HW9⟩ := Nh (w6.setCell ⟨gz, 1, none⟩ (.slice a6 (t.way.length + j + 1) c6)); have hf9 := Ae HW9; have hrow9 : W9.heap[gz]? = some (.cells #[.slice (some ⟨g2, 0, none⟩) zs.length c2, .slice a6 (t.way.length + j + 1) c6] 30 (0, 0)) := by rw [← HW9.out, heap_setCell_same w6 gz 1 _ _ _ hrow6]; rfl
     have hS9 : Bl w W9 := fr_bel hS6 hf9 (by omega) hS6.size; clear mf; go_simp; rw [HW9.out]; clear m0 mf1 HW9; refine hK.out _ _ hS9 fun Hl => ?_; refine Wd ?_; have HROW9 := Hf hrow9; have HRR9 := Hf (fr_row hf9 ((hr6r.g.block (gz + 2) (Array.getElem?_eq_some_iff.1 HRR.out).1 (fun e => by have := HOB.out (gz + 2) e.symm; omega)).trans HRR.out) (show gz + 2 ≠ gz by omega)); have HOW9 : Hid (OW W9 0 (.slice a6 (t.way.length + j + 1) c6) (qs ++ [y])) := Hf ⟨ho6.own.keepBut fun k hk hk2 => hf9.block k hk (fun e => by
      rcases hr6r.n k hk2 with h1 | h1
      ·have := HOB.out k h1; omega
      ·have := HMD.out.size; omega), fun z hz => ⟨((ho6.all z hz).xl).keepBut fun k hk hk2 => hf9.block k hk (fun e => by
       rcases (List.mem_append.1 hz) with h1 | h1
       ·rcases HME.out z h1 with h2 | h2
        ·have := HT.out.lt k (.inr (.inr (.inr ⟨z, h2, hk2⟩))); omega
        ·have := ((HLV.out z h2).2 k hk2).1; omega
       ·obtain rfl := List.mem_singleton.1 h1; have := (HYX.out.2 k hk2).1; omega), fun q hq => ⟨Nat.lt_of_lt_of_le ((ho6.all z hz).blk q hq).1 hf9.size, ((ho6.all z hz).blk q hq).2⟩⟩⟩
     have HMP9 : Hid ((qs ++ [y]).map RN.x = t.way ++ (ls.take (j + 1)).map RN.x) := Hf (by rw [List.map_append, HMP.out, HTK.out, List.append_assoc]; rfl); have HME9 : Hid (∀ z ∈ qs ++ [y], z ∈ ys ∨ z ∈ ls) := fun z hz => (List.mem_append.1 hz).elim (HME.out z) (fun h => .inr (by obtain rfl := List.mem_singleton.1 h; exact HYM.out)); have HOB9 : Hid (∀ k, (Value.slice a6 (t.way.length + j + 1) c6).ownBlock = some k → w4.heap.size ≤ k) := fun k hk => (hr6r.n k hk).elim (HOB.out k) (fun h => Nat.le_trans HMD.out.size h); have HMD9 := Hf ((HMD.out.rw hr6r HOB.out).fr hf9 Lr (by omega)); have HB9 := Hf hS9; clear hrow9 hf9 hr6 hr6r ho6 hS9 hS6 hrow6 n0 n1; go_wp2; go_roundw
     case rel => exact ⟨j + 1, _, qs ++ [y], by omega, by omega, by go_num, HROW9.out, HRR9.out, HOW9.out, HMP9.out, HME9.out, HOB9.out, HMD9.out, HB9.out⟩
     case measure => simp [intOf]; omega
    case sG =>
     intro K hK; go_simp; obtain ⟨a6, c6, w6, hrun, ho6, hr6⟩ := (HOW.out.keep (show Below wr.heap.size wr (wdx) from hBq)).app1 y ⟨((HYX.out.1).keep HBL.out).keep hBq, fun q hq => by
      have h1 := (HYX.out.2 q hq).1; have h2 := HBL.out.size; have h3 := hBq.size; exact ⟨by omega, Nat.zero_le _, fun e => by have := HOB.out q e; have h4 := HB9.out.size; have h5 := HMD.out.size; omega⟩⟩ (Nat.zero_le _) (by rw [hql]; omega)
     obtain ⟨wn, hwn⟩ := Nq ((wdx).alloc (.cells #[.int .i64 y.x.k, .int .i64 y.x.f, .int .i64 y.x.t, .int .i64 y.x.s, .int .i64 y.x.b.i, .int .i64 y.x.b.t, .slice y.ad y.x.v.length y.c] 72)); have e8 : nl.cs y = [.int .i64 y.x.k, .int .i64 y.x.f, .int .i64 y.x.t, .int .i64 y.x.s, .int .i64 y.x.b.i, .int .i64 y.x.b.t, .slice y.ad y.x.v.length y.c] := rfl; rw [e8, hwn, hql] at hrun; rw [hql] at ho6 hr6; have hbn0 : Below (wdx).heap.size (wdx) wn := by rw [← hwn]; exact bel1 _ _
     have hbq6 := Bu hBq hbn0 Lr; have hSn := Bu Hl hbn0 Lr; have hr6r := (Rw.ofBelow (.slice a1 (t.way.length + j) c1) (show Below wr.heap.size wr (wdx) from hBq)).trans hr6; rw [hwn]; clear hwn e8 hbn0; refine hK.out _ _ hSn fun Hl => ?_; refine Rd 1 ?pL ?sL; intro K hK; have hrow1 : (wn).heap[gz]? = some (.cells #[.slice (some ⟨g2, 0, none⟩) zs.length c2, .slice a1 (t.way.length + j) c1] 30 (0, 0)) := Br HROW.out hbq6; obtain ⟨m0, _⟩ := row2 hrow1; go_simp; clear m0 hrow1; refine hK.out _ _ Hl fun Hl => ?_; refine Rd 7 ?pM ?sM; intro K hK; have hrow6 : w6.heap[gz]? = some (.cells #[.slice (some ⟨g2, 0, none⟩) zs.length c2, .slice a1 (t.way.length + j) c1] 30 (0, 0)) := (hr6r.g.block gz (Array.getElem?_eq_some_iff.1 HROW.out).1 (fun e => by have := HOB.out gz e.symm; omega)).trans HROW.out; have hS6 : Bl w w6 := HBL.out.trans (hr6r.below (B := w.heap.size) (fun k hk => by have := HOB.out k hk; omega) HBL.out.size); refine step_append_known rfl (.tmp 36) (.tmp 41) 28 rfl _ _ rfl rfl _ _ (hrun _) ?_; refine hK.out _ _ hS6 fun Hl => ?_; refine Tm 8 Hl ?_; simp only [Act.put, Pz]; refine Rd 9 ?pO ?sO; intro K hK; obtain ⟨m0, mf⟩ := row2 hrow6; have mf1 := mf 1; obtain ⟨W9, HW9⟩ := Nh (w6.setCell ⟨gz, 1, none⟩ (.slice a6 (t.way.length + j + 1) c6)); have hf9 := Ae HW9; have hrow9 : W9.heap[gz]? = some (.cells #[.slice (some ⟨g2, 0, none⟩) zs.length c2, .slice a6 (t.way.length + j + 1) c6] 30 (0, 0)) := by rw [← HW9.out, heap_setCell_same w6 gz 1 _ _ _ hrow6]; rfl
     have hS9 : Bl w W9 := fr_bel hS6 hf9 (by omega) hS6.size; clear mf; go_simp; rw [HW9.out]; clear m0 mf1 HW9; refine hK.out _ _ hS9 fun Hl => ?_; refine Wd ?_; have HROW9 := Hf hrow9; have HRR9 := Hf (fr_row hf9 ((hr6r.g.block (gz + 2) (Array.getElem?_eq_some_iff.1 HRR.out).1 (fun e => by have := HOB.out (gz + 2) e.symm; omega)).trans HRR.out) (show gz + 2 ≠ gz by omega)); have HOW9 : Hid (OW W9 0 (.slice a6 (t.way.length + j + 1) c6) (qs ++ [y])) := Hf ⟨ho6.own.keepBut fun k hk hk2 => hf9.block k hk (fun e => by
      rcases hr6r.n k hk2 with h1 | h1
      ·have := HOB.out k h1; omega
      ·have := HMD.out.size; omega), fun z hz => ⟨((ho6.all z hz).xl).keepBut fun k hk hk2 => hf9.block k hk (fun e => by
       rcases (List.mem_append.1 hz) with h1 | h1
       ·rcases HME.out z h1 with h2 | h2
        ·have := HT.out.lt k (.inr (.inr (.inr ⟨z, h2, hk2⟩))); omega
        ·have := ((HLV.out z h2).2 k hk2).1; omega
       ·obtain rfl := List.mem_singleton.1 h1; have := (HYX.out.2 k hk2).1; omega), fun q hq => ⟨Nat.lt_of_lt_of_le ((ho6.all z hz).blk q hq).1 hf9.size, ((ho6.all z hz).blk q hq).2⟩⟩⟩
     have HMP9 : Hid ((qs ++ [y]).map RN.x = t.way ++ (ls.take (j + 1)).map RN.x) := Hf (by rw [List.map_append, HMP.out, HTK.out, List.append_assoc]; rfl); have HME9 : Hid (∀ z ∈ qs ++ [y], z ∈ ys ∨ z ∈ ls) := fun z hz => (List.mem_append.1 hz).elim (HME.out z) (fun h => .inr (by obtain rfl := List.mem_singleton.1 h; exact HYM.out)); have HOB9 : Hid (∀ k, (Value.slice a6 (t.way.length + j + 1) c6).ownBlock = some k → w4.heap.size ≤ k) := fun k hk => (hr6r.n k hk).elim (HOB.out k) (fun h => Nat.le_trans HMD.out.size h); have HMD9 := Hf ((HMD.out.rw hr6r HOB.out).fr hf9 Lr (by omega)); have HB9 := Hf hS9; clear hrow9 hf9 hr6 hr6r ho6 hS9 hS6 hrow6 n0 n1; go_wp2; go_roundw
     case rel => exact ⟨j + 1, _, qs ++ [y], by omega, by omega, by go_num, HROW9.out, HRR9.out, HOW9.out, HMP9.out, HME9.out, HOB9.out, HMD9.out, HB9.out⟩
     case measure => simp [intOf]; omega
   ·have d2 : decide (((t.way.length + j : Nat) : Int) < 1024) = false := decide_eq_false (by omega); have HMPF : Hid (qs.map RN.x = t.way ++ (ls.map RN.x).take (1024 - t.way.length)) := Hf (by rw [HMP.out, show j = 1024 - t.way.length by omega, List.map_take]); obtain ⟨r0, rf⟩ := row2 HRR.out; have rf0 := rf 0; have rf1 := rf 1; obtain ⟨W9, HW9⟩ := Nh ((wr.setCell ⟨gz + 2, 0, none⟩ (.slice (some ⟨g2, 0, none⟩) zs.length c2)).setCell ⟨gz + 2, 1, none⟩ (.slice a1 (t.way.length + j) c1)); have hf9 : Fr wr (· = gz + 2) W9 (· = gz + 2) := by rw [← HW9.out]; exact (fr_one _ _ _ _).trans (fr_one _ _ _ _)
    have hrow9 : W9.heap[gz + 2]? = some (.cells #[.slice (some ⟨g2, 0, none⟩) zs.length c2, .slice a1 (t.way.length + j) c1] 30 (0, 0)) := by
     rw [← HW9.out]; exact heap_setCell_same _ _ 1 _ _ _ (heap_setCell_same _ _ 0 _ _ _ HRR.out)
    have hmd9 := HMD.out.fr hf9 (by omega) (by omega); have hb9 := fr_bel HBL.out hf9 (by omega) HBL.out.size; have hxl : XL nl W9 a1 c1 qs := HXS.out.xl.keepBut fun k hk hk2 => hf9.block k hk (fun e => by
     obtain ⟨a9, c9, e9, hx9, hbk9⟩ := HOW.out.own.at; have h1 : (Value.slice a1 (t.way.length + j) c1).ownBlock = some k := by obtain ⟨of, sp, e5⟩ := hk2; rw [e5]; rfl
     have := HOB.out k h1
     omega)
    have HOUT : Hid (SyO w m (Tm.say t i r (ls.map RN.x)) F (.returned (tV (some ⟨g2, 0, none⟩) zs.length c2 a1 (t.way.length + j) c1)) W9) := by
     obtain ⟨a8, c8, e8, hx8, hbk8⟩ := ho4.at; have hL : (zs.set i (x, d)).length = zs.length := List.length_set; rw [hL] at e8; simp only [Value.slice.injEq, true_and] at e8; obtain ⟨g1, g3⟩ := e8; subst g1 g3; have hbk : ∀ q, blk (some ⟨g2, 0, none⟩) q → q = g2 := fun q hq => blk_add hq; refine ⟨some ⟨g2, 0, none⟩, c2, a1, c1, zs.set i (x, d), qs, by rw [hL, hql], ⟨⟨by rw [hL]; exact HT.out.tt.n, hx8.keepBut fun k hk hk2 => hmd9.block k hk (by have := hbk k hk2; omega), fun k hk => ?_, hxl, by rw [HMPF.out]; rfl, fun y hy => ?_⟩, fun q hq => ?_, fun q hq => ?_⟩, hb9⟩
     ·have hk2 : k < zs.length := by rw [hL] at hk; exact hk
      show DM W9 ((zs.set i (x, d))[k]).1 _ ∧ Rl m (Tm.upR t.rs i r k) _; unfold Tm.upR; by_cases he : k = i
      ·subst he; rw [List.getElem_set_self, if_pos rfl]; exact ⟨HD.out.keep hb9, HR.out⟩
      ·rw [List.getElem_set_ne (fun e => he e.symm), if_neg he]; exact ⟨(HT.out.tt.nd k hk2).1.keep hb9, (HT.out.tt.nd k hk2).2⟩
     ·rcases HME.out y hy with h1 | h1
      ·exact (HT.out.tt.vx y h1).keep hb9
      ·exact (HLV.out y h1).1.keep hb9
     ·have hsz := hb9.size; have hsm := hmd9.size; rcases hq with h1 | h1 | ⟨z, hz, h1⟩ | ⟨z, hz, h1⟩
      ·have := hbk q h1; omega
      ·exact Nat.lt_of_lt_of_le (HXS.out.blk q h1).1 hf9.size
      ·rcases List.mem_or_eq_of_mem_set hz with h2 | h2
       ·have := HT.out.lt q (.inr (.inr (.inl ⟨z, h2, h1⟩))); omega
       ·subst h2; have := HD.out.lt q h1; omega
      ·rcases HME.out z hz with h2 | h2
       ·have := HT.out.lt q (.inr (.inr (.inr ⟨z, h2, h1⟩))); omega
       ·have := ((HLV.out z h2).2 q h1).1; omega
     ·rcases hq with h1 | h1 | ⟨z, hz, h1⟩ | ⟨z, hz, h1⟩
      ·have := hbk q h1; exact .inr (by omega)
      ·have h2 : (Value.slice a1 (t.way.length + j) c1).ownBlock = some q := by obtain ⟨of, sp, e5⟩ := h1; rw [e5]; rfl
       have := HOB.out q h2; exact .inr (by omega)
      ·rcases List.mem_or_eq_of_mem_set hz with h2 | h2
       ·exact .inl (HT.out.F q (.inr (.inr (.inl ⟨z, h2, h1⟩))))
       ·subst h2; exact .inl (HDF.out q h1)
      ·rcases HME.out z hz with h2 | h2
       ·exact .inl (HT.out.F q (.inr (.inr (.inr ⟨z, h2, h1⟩))))
       ·exact .inl ((HLV.out z h2).2 q h1).2
    have HROW9 := Hf hrow9; clear hf9 hrow9 hmd9 hb9 hxl rf; go_wp2_with (rw [HW9.out]); refine bodyPost_ret ?_ rfl HOUT.out; exact results_cell_row f52_res _ _ (gz + 2) 30 _ (0, 0) _ rfl HROW9.out underlying30 rfl Tryz.size30
  ·have d1 : decide ((j : Int) < (ls.length : Int)) = false := decide_eq_false (by omega); have HMPF : Hid (qs.map RN.x = t.way ++ (ls.map RN.x).take (1024 - t.way.length)) := Hf (by rw [HMP.out, show j = ls.length by omega, List.take_length, List.take_of_length_le (by rw [List.length_map]; omega)]); obtain ⟨r0, rf⟩ := row2 HRR.out; have rf0 := rf 0; have rf1 := rf 1; obtain ⟨W9, HW9⟩ := Nh ((wr.setCell ⟨gz + 2, 0, none⟩ (.slice (some ⟨g2, 0, none⟩) zs.length c2)).setCell ⟨gz + 2, 1, none⟩ (.slice a1 (t.way.length + j) c1)); have hf9 : Fr wr (· = gz + 2) W9 (· = gz + 2) := by rw [← HW9.out]; exact (fr_one _ _ _ _).trans (fr_one _ _ _ _)
   have hrow9 : W9.heap[gz + 2]? = some (.cells #[.slice (some ⟨g2, 0, none⟩) zs.length c2, .slice a1 (t.way.length + j) c1] 30 (0, 0)) := by
    rw [← HW9.out]; exact heap_setCell_same _ _ 1 _ _ _ (heap_setCell_same _ _ 0 _ _ _ HRR.out)
   have hmd9 := HMD.out.fr hf9 (by omega) (by omega); have hb9 := fr_bel HBL.out hf9 (by omega) HBL.out.size; have hxl : XL nl W9 a1 c1 qs := HXS.out.xl.keepBut fun k hk hk2 => hf9.block k hk (fun e => by
    obtain ⟨a9, c9, e9, hx9, hbk9⟩ := HOW.out.own.at; have h1 : (Value.slice a1 (t.way.length + j) c1).ownBlock = some k := by obtain ⟨of, sp, e5⟩ := hk2; rw [e5]; rfl
    have := HOB.out k h1
    omega)
   have HOUT : Hid (SyO w m (Tm.say t i r (ls.map RN.x)) F (.returned (tV (some ⟨g2, 0, none⟩) zs.length c2 a1 (t.way.length + j) c1)) W9) := by
    obtain ⟨a8, c8, e8, hx8, hbk8⟩ := ho4.at; have hL : (zs.set i (x, d)).length = zs.length := List.length_set; rw [hL] at e8; simp only [Value.slice.injEq, true_and] at e8; obtain ⟨g1, g3⟩ := e8; subst g1 g3; have hbk : ∀ q, blk (some ⟨g2, 0, none⟩) q → q = g2 := fun q hq => blk_add hq; refine ⟨some ⟨g2, 0, none⟩, c2, a1, c1, zs.set i (x, d), qs, by rw [hL, hql], ⟨⟨by rw [hL]; exact HT.out.tt.n, hx8.keepBut fun k hk hk2 => hmd9.block k hk (by have := hbk k hk2; omega), fun k hk => ?_, hxl, by rw [HMPF.out]; rfl, fun y hy => ?_⟩, fun q hq => ?_, fun q hq => ?_⟩, hb9⟩
    ·have hk2 : k < zs.length := by rw [hL] at hk; exact hk
     show DM W9 ((zs.set i (x, d))[k]).1 _ ∧ Rl m (Tm.upR t.rs i r k) _; unfold Tm.upR; by_cases he : k = i
     ·subst he; rw [List.getElem_set_self, if_pos rfl]; exact ⟨HD.out.keep hb9, HR.out⟩
     ·rw [List.getElem_set_ne (fun e => he e.symm), if_neg he]; exact ⟨(HT.out.tt.nd k hk2).1.keep hb9, (HT.out.tt.nd k hk2).2⟩
    ·rcases HME.out y hy with h1 | h1
     ·exact (HT.out.tt.vx y h1).keep hb9
     ·exact (HLV.out y h1).1.keep hb9
    ·have hsz := hb9.size; have hsm := hmd9.size; rcases hq with h1 | h1 | ⟨z, hz, h1⟩ | ⟨z, hz, h1⟩
     ·have := hbk q h1; omega
     ·exact Nat.lt_of_lt_of_le (HXS.out.blk q h1).1 hf9.size
     ·rcases List.mem_or_eq_of_mem_set hz with h2 | h2
      ·have := HT.out.lt q (.inr (.inr (.inl ⟨z, h2, h1⟩))); omega
      ·subst h2; have := HD.out.lt q h1; omega
     ·rcases HME.out z hz with h2 | h2
      ·have := HT.out.lt q (.inr (.inr (.inr ⟨z, h2, h1⟩))); omega
      ·have := ((HLV.out z h2).2 q h1).1; omega
    ·rcases hq with h1 | h1 | ⟨z, hz, h1⟩ | ⟨z, hz, h1⟩
     ·have := hbk q h1; exact .inr (by omega)
     ·have h2 : (Value.slice a1 (t.way.length + j) c1).ownBlock = some q := by obtain ⟨of, sp, e5⟩ := h1; rw [e5]; rfl
      have := HOB.out q h2; exact .inr (by omega)
     ·rcases List.mem_or_eq_of_mem_set hz with h2 | h2
      ·exact .inl (HT.out.F q (.inr (.inr (.inl ⟨z, h2, h1⟩))))
      ·subst h2; exact .inl (HDF.out q h1)
     ·rcases HME.out z hz with h2 | h2
      ·exact .inl (HT.out.F q (.inr (.inr (.inr ⟨z, h2, h1⟩))))
      ·exact .inl ((HLV.out z h2).2 q h1).2
   have HROW9 := Hf hrow9; clear hf9 hrow9 hmd9 hb9 hxl rf; go_wp2_with (rw [HW9.out]); refine bodyPost_ret ?_ rfl HOUT.out; exact results_cell_row f52_res _ _ (gz + 2) 30 _ (0, 0) _ rfl HROW9.out underlying30 rfl Tryz.size30
end Go.Proofs.YtgodnpngdbelhaaGreat.Dn
