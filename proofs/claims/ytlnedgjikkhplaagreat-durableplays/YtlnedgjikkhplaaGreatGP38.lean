import Derived.Test.YtlnedgjikkhplaaGreatGP37
set_option maxRecDepth 100000
set_option maxHeartbeats 8000000
set_option linter.unusedVariables false
set_option linter.unusedSimpArgs false
namespace Go.Proofs.YtlnedgjikkhplaaGreat.Du
open Go.RowKit
open Na (Fr AS XL vl bV vV Hf bel1 bel2 Bu Br row2 row4 blk OwnL AtL)
open Na.M (E V S S0)
open Ns.M (ofL)
open Nc.M (enc encT)
theorem take_int {l l' : List UInt8} {x : Int} (h : Nc.M.int l = some (x, l')) (hl : l.length ≤ 1000000) (w : World) : Calls Tryz.prog 95 #[.agg #[.string (ofL l), .bool false]] w fun e w' => e = .returned (.tuple #[.agg #[.string (ofL l'), .bool false], .int .i64 x]) ∧ Below w.heap.size w w' := by
 have hc := Nc.takeInt_any l false w (by omega)
 rw [h] at hc
 exact hc
theorem take_byte {b : UInt8} {l : List UInt8} (hl : l.length ≤ 1000000) (w : World) : Calls Tryz.prog 141 #[.agg #[.string (ofL (b :: l)), .bool false]] w fun e w' => e = .returned (.tuple #[.agg #[.string (ofL l), .bool false], .int .i64 (b.toNat : Int)]) ∧ Below w.heap.size w w' := Nc.takeByte_any (b :: l) false w (by rw [List.length_cons]; omega)
theorem take_text {l l' x : List UInt8} (h : Nc.M.text l = some (x, l')) (hl : l.length ≤ 1000000) (w : World) : Calls Tryz.prog 93 #[.agg #[.string (ofL l), .bool false]] w fun e w' => e = .returned (.tuple #[.agg #[.string (ofL l'), .bool false], .string (ofL x)]) ∧ Below w.heap.size w w' := by
 have hc := Nc.takeText_any l false w (by omega)
 rw [h] at hc
 exact hc
theorem end_ok (w : World) : Calls Tryz.prog 142 #[.agg #[.string (ofL []), .bool false]] w fun e w' => e = .returned (.int .i64 0) ∧ Below w.heap.size w w' := Nc.end_any (some []) w
def st2 (w : World) (B : Nat) (v0 v1 : Value) : World := (w.setCell ⟨B, 0, none⟩ v0).setCell ⟨B, 1, none⟩ v1
theorem put2' {w : World} {B : Nat} {t : TypeId} {u0 u1 : Value} (v0 v1 : Value) (h : w.heap[B]? = some (.cells #[u0, u1] t (0, 0))) : (st2 w B v0 v1).heap[B]? = some (.cells #[v0, v1] t (0, 0)) ∧ (∀ k, k ≠ B → (st2 w B v0 v1).heap[k]? = w.heap[k]?) ∧ (st2 w B v0 v1).heap.size = w.heap.size := by
 refine ⟨heap_setCell_same _ B 1 _ _ _ (heap_setCell_same w B 0 _ _ _ h), fun k hk => ?_, by simp [st2]⟩
 unfold st2; rw [heap_setCell_other _ ⟨B, 1, none⟩ k _ hk, heap_setCell_other _ ⟨B, 0, none⟩ k _ hk]
theorem below2' {w0 w : World} {B B' : Nat} {v0 v1 : Value} (h : Below B' w0 w) (hB : B' ≤ B) : Below B' w0 (st2 w B v0 v1) := (h.setCell hB _).setCell hB _
structure DB (w : World) (a : S) (ad : Option Addr) (c : Nat) (l : List UInt8) (W : World) : Prop where
 ra : W.heap[w.heap.size]? = some (.cells #[.int .i64 a.p.i, .int .i64 a.p.t, .int .i64 a.base, .slice ad a.l.length c] 39 (0, 0))
 rr : W.heap[w.heap.size + 1]? = some (.cells #[.int .i64 0, .int .i64 0, .int .i64 0, .slice none 0 0] 39 (0, 0))
 rb : W.heap[w.heap.size + 2]? = some (.cells #[.string (ofL l), .bool false] 162 (0, 0))
 bel : Below w.heap.size w W
theorem DB.keep {w W W' : World} {a : S} {ad : Option Addr} {c : Nat} {l : List UInt8} (h : DB w a ad c l W) (hb : Below W.heap.size W W') : DB w a ad c l W' := ⟨Br h.ra hb, Br h.rr hb, Br h.rb hb, Bu h.bel hb Lr⟩
theorem DB.next {w W : World} {a : S} {ad : Option Addr} {c : Nat} {l : List UInt8} (h : DB w a ad c l W) (l' : List UInt8) : DB w a ad c l' (st2 W (w.heap.size + 2) (.string (ofL l')) (.bool false)) := by
 obtain ⟨h1, h2, _⟩ := put2' (.string (ofL l')) (.bool false) h.rb
 exact ⟨(h2 _ (by omega)).trans h.ra, (h2 _ (by omega)).trans h.rr, h1, below2' h.bel (by omega)⟩
def DoO (w : World) (ad : Option Addr) (d : S) (e : Ending) (w' : World) : Prop := ∃ a2 c2, e = .returned (.tuple #[Na.aV d a2 c2, .bool true]) ∧ XL vl w' a2 c2 d.l ∧ (∀ j, Na.blk a2 j → (Na.blk ad j ∨ w.heap.size ≤ j) ∧ j < w'.heap.size) ∧ Below w.heap.size w w'
theorem f96_res : Tryz.f96.results = #[.cell 4 39, .tmp 5] := rfl
theorem racc_any (a : S) (ad : Option Addr) (c : Nat) (v : V) (w : World) (hx : XL vl w ad c a.l) (ok : Na.M.Ok a) (hlt : ∀ j, Na.blk ad j → j < w.heap.size) : Calls Tryz.prog 25 #[Na.aV a ad c, vV v] w fun e w' => ∃ a2 c2, e = .returned (.tuple #[Na.aV (Na.M.acs a v) a2 c2, .bool (Na.M.acb a v)]) ∧ XL vl w' a2 c2 (Na.M.acs a v).l ∧ (∀ j, Na.blk a2 j → (Na.blk ad j ∨ w.heap.size ≤ j) ∧ j < w'.heap.size) ∧ Below w.heap.size w w' := by
 cases hb : Na.M.acb a v with
 | false =>
  refine (Na.raccept_no a ad c v w hb).mono ?_; rintro e w' ⟨rfl, hbl⟩
  rw [Na.M.acs_no hb]
  exact ⟨ad, c, rfl, hx.keep hbl, fun j hj => ⟨.inl hj, Nat.lt_of_lt_of_le (hlt j hj) hbl.size⟩, hbl⟩
 | true =>
  refine (Na.raccept_yes a ad c v w hx ok.len ok.up hb).mono ?_; rintro e w' ⟨u, rfl, a2, c2, rfl, hx, hk, hbl⟩
  exact ⟨a2, c2, rfl, hx, fun j hj => ⟨.inr (hk j hj).1, (hk j hj).2⟩, hbl⟩
section
variable {w : World} {a : S} {ad : Option Addr} {c : Nat}
theorem ddo_tr (hx : XL vl w ad c a.l) (hlt : ∀ j, Na.blk ad j → j < w.heap.size) (ok : Na.M.Ok a) (u : Int) (hu : I64 u) : Calls Tryz.prog 96 #[Na.aV a ad c, .string (ofL (kb (.tr u)))] w (DoO w ad (redo a (.tr u))) := by
 have HX := Hf hx
 have HOK := Hf ok
 have HXL0 := Hf hlt
 have hle := enc_le hu
 have hi : Nc.M.int (enc u) = some (u, []) := by have := Nc.M.int_enc u [] hu; rwa [List.append_nil] at this
 rw [show kb (.tr u) = 3 :: enc u from rfl]
 show Calls Tryz.prog 96 _ w (DoO w ad (Na.M.trs a u))
 clear hx ok hlt
 obtain ⟨W1, HW1⟩ := Nh (((w.alloc (.cells #[.int .i64 a.p.i, .int .i64 a.p.t, .int .i64 a.base, .slice ad a.l.length c] 39)).alloc (.cells #[.int .i64 0, .int .i64 0, .int .i64 0, .slice none 0 0] 39)).alloc (.cells #[.string (ofL (3 :: enc u)), .bool false] 162))
 have HDB : Hid (DB w a ad c (3 :: enc u) W1) := Hf (by
  rw [← HW1.out]
  have h1 := heap_alloc2_old w (.cells #[.int .i64 a.p.i, .int .i64 a.p.t, .int .i64 a.base, .slice ad a.l.length c] 39) (.cells #[.int .i64 0, .int .i64 0, .int .i64 0, .slice none 0 0] 39)
  have h2 := heap_alloc2_new w (.cells #[.int .i64 a.p.i, .int .i64 a.p.t, .int .i64 a.base, .slice ad a.l.length c] 39) (.cells #[.int .i64 0, .int .i64 0, .int .i64 0, .slice none 0 0] 39)
  have hb2 := bel2 w (.cells #[.int .i64 a.p.i, .int .i64 a.p.t, .int .i64 a.base, .slice ad a.l.length c] 39) (.cells #[.int .i64 0, .int .i64 0, .int .i64 0, .slice none 0 0] 39)
  have h3 := heap_alloc_last ((w.alloc (.cells #[.int .i64 a.p.i, .int .i64 a.p.t, .int .i64 a.base, .slice ad a.l.length c] 39)).alloc (.cells #[.int .i64 0, .int .i64 0, .int .i64 0, .slice none 0 0] 39)) (.cells #[.string (ofL (3 :: enc u)), .bool false] 162)
  have hb3 := bel1 ((w.alloc (.cells #[.int .i64 a.p.i, .int .i64 a.p.t, .int .i64 a.base, .slice ad a.l.length c] 39)).alloc (.cells #[.int .i64 0, .int .i64 0, .int .i64 0, .slice none 0 0] 39)) (.cells #[.string (ofL (3 :: enc u)), .bool false] 162)
  have hs : ((w.alloc (.cells #[.int .i64 a.p.i, .int .i64 a.p.t, .int .i64 a.base, .slice ad a.l.length c] 39)).alloc (.cells #[.int .i64 0, .int .i64 0, .int .i64 0, .slice none 0 0] 39)).heap.size = w.heap.size + 2 := by simp
  rw [hs] at h3
  exact ⟨Br h1 hb3, Br h2 hb3, h3, Bu hb2 hb3 Lr⟩)
 go_enter Tryz.func96, Tryz.ntmps96
 go_upto_region 2 with fail
 rw [HW1.out]; clear HW1
 obtain ⟨⟨b0, b1⟩, _⟩ := row2 HDB.out.rb
 have hc := take_byte (b := 3) (l := enc u) (by omega) W1
 go_wp2_with fail
 refine hc.mono ?_; rintro e v1 ⟨rfl, hb⟩
 have HDv := Hf (HDB.out.keep hb)
 clear hc hb b0 b1 HDB
 obtain ⟨⟨b0, b1⟩, bf⟩ := row2 HDv.out.rb
 have bf0 := bf 0
 have bf1 := bf 1
 obtain ⟨Y1, hY⟩ := Nq (st2 v1 (w.heap.size + 2) (.string (ofL (enc u))) (.bool false))
 have HDB : Hid (DB w a ad c (enc u) Y1) := Hf (by rw [← hY]; exact HDv.out.next (enc u))
 unfold st2 at hY
 have HY := Hf hY
 clear hY bf
 go_upto_region 3 with fail
 rw [HY.out]; clear HY b0 b1 bf0 bf1 HDv
 obtain ⟨⟨b0, b1⟩, _⟩ := row2 HDB.out.rb
 have hc := take_int hi (by omega) Y1
 go_wp2_with fail
 refine hc.mono ?_; rintro e v2 ⟨rfl, hb⟩
 have HDv := Hf (HDB.out.keep hb)
 clear hc hb b0 b1 HDB
 obtain ⟨⟨b0, b1⟩, bf⟩ := row2 HDv.out.rb
 have bf0 := bf 0
 have bf1 := bf 1
 obtain ⟨Y2, hY⟩ := Nq (st2 v2 (w.heap.size + 2) (.string (ofL [])) (.bool false))
 have HDB : Hid (DB w a ad c [] Y2) := Hf (by rw [← hY]; exact HDv.out.next [])
 unfold st2 at hY
 have HY := Hf hY
 clear hY bf
 go_upto_region 4 with fail
 rw [HY.out]; clear HY b0 b1 bf0 bf1 HDv
 obtain ⟨⟨q0, q1, q2, q3⟩, _⟩ := row4 HDB.out.ra
 have hc := Na.rtrim_any a ad c u Y2 (HX.out.keep HDB.out.bel) HOK.out.len
 go_wp2_with fail
 refine hc.mono ?_; rintro e w2 ⟨v, rfl, a2, c2, rfl, hx2, hk2, hb2⟩
 obtain ⟨d2, hd2⟩ := Nq (Na.M.trs a u)
 rw [hd2] at hx2 ⊢
 have HDD := Hf hd2
 clear hd2 hc q0 q1 q2 q3
 obtain ⟨W3, HW3⟩ := Nh (w2.alloc (.cells #[.int .i64 d2.p.i, .int .i64 d2.p.t, .int .i64 d2.base, .slice a2 d2.l.length c2] 39))
 have hb3 : Below w2.heap.size w2 W3 := by rw [← HW3.out]; exact bel1 _ _
 have hr9 : W3.heap[w2.heap.size]? = some (.cells #[.int .i64 d2.p.i, .int .i64 d2.p.t, .int .i64 d2.base, .slice a2 d2.l.length c2] 39 (0, 0)) := by rw [← HW3.out]; exact heap_alloc_last _ _
 have hsz := (Array.getElem?_eq_some_iff.1 HDB.out.rb).1
 have hbl := hb2
 have HXL : Hid (XL vl w2 a2 c2 d2.l) := Hf hx2
 have HLT : Hid (∀ j, Na.blk a2 j → j < w2.heap.size) := Hf (fun j hj => (hk2 j hj).2)
 have HNW : Hid (∀ j, Na.blk a2 j → Na.blk ad j ∨ w.heap.size ≤ j) := Hf (fun j hj => .inr (by have := (hk2 j hj).1; omega))
 have HAP : Hid (∀ j, Na.blk a2 j → j ≠ w.heap.size + 1) := Hf (fun j hj => by have := (hk2 j hj).1; omega)
 have HB23 := Hf hb3
 have HD3 := Hf ((HDB.out.keep hbl).keep hb3)
 obtain ⟨b9, hb9⟩ := Nq (w2.heap.size)
 have hlt3 := (Array.getElem?_eq_some_iff.1 HDB.out.rb).1
 have hlt4 := hbl.size
 rw [hb9] at hr9
 have HR9 := Hf hr9
 have HB9 : Hid (b9 ≠ w.heap.size + 1 ∧ w.heap.size ≤ b9) := Hf (by omega)
 have HBE := Hf hb9
 have HRB3 := Hf HD3.out.rb
 have HRR := Hf HD3.out.rr
 have HBW3 := Hf HD3.out.bel
 have HS : Hid (∀ wq : World, (wq.heap[b9]? = some (.cells #[.int .i64 d2.p.i, .int .i64 d2.p.t, .int .i64 d2.base, .slice a2 d2.l.length c2] 39 (0, 0)) ∧ wq.heap[w.heap.size + 2]? = some (.cells #[.string (ofL []), .bool false] 162 (0, 0))) → (wq.cell? ⟨b9, 0, none⟩ = some (.int .i64 d2.p.i) ∧ wq.cell? ⟨b9, 1, none⟩ = some (.int .i64 d2.p.t) ∧ wq.cell? ⟨b9, 2, none⟩ = some (.int .i64 d2.base) ∧ wq.cell? ⟨b9, 3, none⟩ = some (.slice a2 d2.l.length c2)) ∧ (wq.cell? ⟨w.heap.size + 2, 0, none⟩ = some (.string (ofL [])) ∧ wq.cell? ⟨w.heap.size + 2, 1, none⟩ = some (.bool false))) := fun wq h => ⟨(row4 h.1).1, (row2 h.2).1⟩
 clear hb3 hr9 hb9 hbl hlt3 hlt4
 go_upto_region 6 with fail
 rw [HW3.out]
 try rw [HBE.out]
 clear HW3 HBE HDB
 refine wp_region_held_drew (S := fun wq => wq.heap[b9]? = some (.cells #[.int .i64 d2.p.i, .int .i64 d2.p.t, .int .i64 d2.base, .slice a2 d2.l.length c2] 39 (0, 0)) ∧ wq.heap[w.heap.size + 2]? = some (.cells #[.string (ofL []), .bool false] 162 (0, 0))) (by kernel_rfl) (And.intro HR9.out HRB3.out) fun Hl => ?_
 obtain ⟨wdx, hwdx⟩ := Nq (W3.drew)
 have hBwd : Below W3.heap.size W3 wdx := by rw [← hwdx]; exact Below.drew (Below.refl _ _)
 rw [hwdx] at Hl ⊢; clear hwdx
 refine Tk 0 ?pA ?vA ?yA Hl ?rA
 case yA => intro q h; obtain ⟨⟨y0, y1, y2, y3⟩, ⟨x0, x1⟩⟩ := HS.out q h; go_simp; try with_reducible rfl
 refine Tk 1 ?pB ?vB ?yB Hl ?rB
 case yB => intro q h; obtain ⟨⟨y0, y1, y2, y3⟩, ⟨x0, x1⟩⟩ := HS.out q h; go_simp; try with_reducible rfl
 simp only [Act.put, Pa, Pb, Pc]
 refine Rd 2 ?pC ?sC
 intro K hK; go_simp
 refine (end_ok _).mono ?_; rintro e v2 ⟨rfl, hb2⟩
 have B2 := And.intro (Br Hl.1 hb2) (Br Hl.2 hb2)
 have hBv := Bu HBW3.out (Bu hBwd hb2 Lr) Lr
 have hRv := Br (Br HRR.out hBwd) hb2
 obtain ⟨⟨k0, k1, k2, k3⟩, kf⟩ := row4 hRv
 have kf0 := kf 0
 have kf1 := kf 1
 have kf2 := kf 2
 have kf3 := kf 3
 refine hK.out _ _ B2 fun Hl => ?_; clear hK K
 refine Tm 3 ?pD ?vD Hl ?rD
 simp only [Act.put, Pa, Pb, Pc]
 refine Rd 4 ?pE ?sE
 intro K hK; go_simp
 obtain ⟨W7, hW7⟩ := Nq (Na.put4 v2 (w.heap.size + 1) (.int .i64 d2.p.i) (.int .i64 d2.p.t) (.int .i64 d2.base) (.slice a2 d2.l.length c2))
 have hR7 := Na.put4_row hRv (.int .i64 d2.p.i) (.int .i64 d2.p.t) (.int .i64 d2.base) (.slice a2 d2.l.length c2)
 have hB7 := Na.put4_bel hBv (show w.heap.size ≤ w.heap.size + 1 by omega) (.int .i64 d2.p.i) (.int .i64 d2.p.t) (.int .i64 d2.base) (.slice a2 d2.l.length c2)
 have hO7 : ∀ k, k ≠ w.heap.size + 1 → W7.heap[k]? = v2.heap[k]? := fun k hk => by rw [← hW7]; exact Na.put4_oth hk _ _ _ _
 have hS7 : W7.heap.size = v2.heap.size := by rw [← hW7]; simp [Na.put4]
 rw [hW7] at hR7 hB7
 have hSS := And.intro ((hO7 b9 HB9.out.1).trans Hl.1) ((hO7 (w.heap.size + 2) (by omega)).trans Hl.2)
 have HFIN : Hid (DoO w ad (Na.M.trs a u) (.returned (.tuple #[Na.aV d2 a2 c2, .bool true])) W7) := Hf (by rw [HDD.out]; exact ⟨a2, c2, rfl, HXL.out.keepBut (fun k hk hb => (hO7 k (HAP.out k hb)).trans ((Bu HB23.out (Bu hBwd hb2 Lr) Lr).block k hk)), fun j hj => ⟨HNW.out j hj, by rw [hS7]; exact Nat.lt_of_lt_of_le (HLT.out j hj) (Bu HB23.out (Bu hBwd hb2 Lr) Lr).size⟩, hB7⟩)
 have HR7 := Hf hR7
 unfold Na.put4 at hW7; rw [hW7]; clear hW7
 refine hK.out _ _ hSS fun Hl => ?_; clear hK K
 refine Tm 5 ?pF ?vF Hl ?rF
 simp only [Act.put, Pa, Pb, Pc]
 refine wpAnyH_done (by kernel_rfl) ?_ _
 clear HS; go_wp2
 refine bodyPost_ret (v := .tuple #[Na.aV d2 a2 c2, .bool true]) ?_ rfl HFIN.out
 exact Na.res31 f96_res _ _ (w.heap.size + 1) _ _ _ _ rfl HR7.out
theorem ddo_pr (hx : XL vl w ad c a.l) (hlt : ∀ j, Na.blk ad j → j < w.heap.size) (ok : Na.M.Ok a) (y : E) (h1 : I64 y.i) (h2 : I64 y.t) : Calls Tryz.prog 96 #[Na.aV a ad c, .string (ofL (kb (.pr y)))] w (DoO w ad (redo a (.pr y))) := by
 have HX := Hf hx
 have HOK := Hf ok
 have HXL0 := Hf hlt
 have hle := enc_le h1
 have hle2 := enc_le h2
 have hi := Nc.M.int_enc y.i (enc y.t) h1
 have hi2 : Nc.M.int (enc y.t) = some (y.t, []) := by have := Nc.M.int_enc y.t [] h2; rwa [List.append_nil] at this
 rw [show kb (.pr y) = 1 :: (enc y.i ++ enc y.t) from rfl]
 show Calls Tryz.prog 96 _ w (DoO w ad (Na.M.prs a y a.base))
 have HL2 : Hid ((Na.M.prs a y a.base).l = a.l) := Hf (Na.prs_l a y a.base)
 have hlen : (enc y.i ++ enc y.t).length ≤ 20 := by rw [List.length_append]; omega
 clear hx ok hlt
 obtain ⟨W1, HW1⟩ := Nh (((w.alloc (.cells #[.int .i64 a.p.i, .int .i64 a.p.t, .int .i64 a.base, .slice ad a.l.length c] 39)).alloc (.cells #[.int .i64 0, .int .i64 0, .int .i64 0, .slice none 0 0] 39)).alloc (.cells #[.string (ofL (1 :: (enc y.i ++ enc y.t))), .bool false] 162))
 have HDB : Hid (DB w a ad c (1 :: (enc y.i ++ enc y.t)) W1) := Hf (by
  rw [← HW1.out]
  have h1 := heap_alloc2_old w (.cells #[.int .i64 a.p.i, .int .i64 a.p.t, .int .i64 a.base, .slice ad a.l.length c] 39) (.cells #[.int .i64 0, .int .i64 0, .int .i64 0, .slice none 0 0] 39)
  have h2 := heap_alloc2_new w (.cells #[.int .i64 a.p.i, .int .i64 a.p.t, .int .i64 a.base, .slice ad a.l.length c] 39) (.cells #[.int .i64 0, .int .i64 0, .int .i64 0, .slice none 0 0] 39)
  have hb2 := bel2 w (.cells #[.int .i64 a.p.i, .int .i64 a.p.t, .int .i64 a.base, .slice ad a.l.length c] 39) (.cells #[.int .i64 0, .int .i64 0, .int .i64 0, .slice none 0 0] 39)
  have h3 := heap_alloc_last ((w.alloc (.cells #[.int .i64 a.p.i, .int .i64 a.p.t, .int .i64 a.base, .slice ad a.l.length c] 39)).alloc (.cells #[.int .i64 0, .int .i64 0, .int .i64 0, .slice none 0 0] 39)) (.cells #[.string (ofL (1 :: (enc y.i ++ enc y.t))), .bool false] 162)
  have hb3 := bel1 ((w.alloc (.cells #[.int .i64 a.p.i, .int .i64 a.p.t, .int .i64 a.base, .slice ad a.l.length c] 39)).alloc (.cells #[.int .i64 0, .int .i64 0, .int .i64 0, .slice none 0 0] 39)) (.cells #[.string (ofL (1 :: (enc y.i ++ enc y.t))), .bool false] 162)
  have hs : ((w.alloc (.cells #[.int .i64 a.p.i, .int .i64 a.p.t, .int .i64 a.base, .slice ad a.l.length c] 39)).alloc (.cells #[.int .i64 0, .int .i64 0, .int .i64 0, .slice none 0 0] 39)).heap.size = w.heap.size + 2 := by simp
  rw [hs] at h3
  exact ⟨Br h1 hb3, Br h2 hb3, h3, Bu hb2 hb3 Lr⟩)
 go_enter Tryz.func96, Tryz.ntmps96
 go_upto_region 2 with fail
 rw [HW1.out]; clear HW1
 obtain ⟨⟨b0, b1⟩, _⟩ := row2 HDB.out.rb
 have hc := take_byte (b := 1) (l := enc y.i ++ enc y.t) (by omega) W1
 go_wp2_with fail
 refine hc.mono ?_; rintro e v1 ⟨rfl, hb⟩
 have HDv := Hf (HDB.out.keep hb)
 clear hc hb b0 b1 HDB
 obtain ⟨⟨b0, b1⟩, bf⟩ := row2 HDv.out.rb
 have bf0 := bf 0
 have bf1 := bf 1
 obtain ⟨Y1, hY⟩ := Nq (st2 v1 (w.heap.size + 2) (.string (ofL (enc y.i ++ enc y.t))) (.bool false))
 have HDB : Hid (DB w a ad c (enc y.i ++ enc y.t) Y1) := Hf (by rw [← hY]; exact HDv.out.next (enc y.i ++ enc y.t))
 unfold st2 at hY
 have HY := Hf hY
 clear hY bf
 go_upto_region 3 with fail
 rw [HY.out]; clear HY b0 b1 bf0 bf1 HDv
 obtain ⟨⟨b0, b1⟩, _⟩ := row2 HDB.out.rb
 have hc := take_int hi (by omega) Y1
 go_wp2_with fail
 refine hc.mono ?_; rintro e v2 ⟨rfl, hb⟩
 have HDv := Hf (HDB.out.keep hb)
 clear hc hb b0 b1 HDB
 obtain ⟨⟨b0, b1⟩, bf⟩ := row2 HDv.out.rb
 have bf0 := bf 0
 have bf1 := bf 1
 obtain ⟨Y2, hY⟩ := Nq (st2 v2 (w.heap.size + 2) (.string (ofL (enc y.t))) (.bool false))
 have HDB : Hid (DB w a ad c (enc y.t) Y2) := Hf (by rw [← hY]; exact HDv.out.next (enc y.t))
 unfold st2 at hY
 have HY := Hf hY
 clear hY bf
 go_upto_region 4 with fail
 rw [HY.out]; clear HY b0 b1 bf0 bf1 HDv
 go_upto_region 7 with fail
 obtain ⟨⟨b0, b1⟩, _⟩ := row2 HDB.out.rb
 have hc := take_int hi2 (by omega) Y2
 go_wp2_with fail
 refine hc.mono ?_; rintro e v3 ⟨rfl, hb⟩
 have HDv := Hf (HDB.out.keep hb)
 clear hc hb b0 b1 HDB
 obtain ⟨⟨b0, b1⟩, bf⟩ := row2 HDv.out.rb
 have bf0 := bf 0
 have bf1 := bf 1
 obtain ⟨Y3, hY⟩ := Nq (st2 v3 (w.heap.size + 2) (.string (ofL [])) (.bool false))
 have HDB : Hid (DB w a ad c [] Y3) := Hf (by rw [← hY]; exact HDv.out.next [])
 unfold st2 at hY
 have HY := Hf hY
 clear hY bf
 go_upto_region 8 with fail
 rw [HY.out]; clear HY b0 b1 bf0 bf1 HDv
 obtain ⟨⟨q0, q1, q2, q3⟩, _⟩ := row4 HDB.out.ra
 have hc := Na.rpromise_any a ad c y a.base Y3 (HX.out.keep HDB.out.bel) HOK.out.len
 go_wp2_with fail
 refine hc.mono ?_; rintro e w2 ⟨la, lc, rfl, hx2, hk2, hb2⟩
 obtain ⟨d2, hd2⟩ := Nq (Na.M.prs a y a.base)
 rw [hd2] at HL2 ⊢
 have HDD := Hf hd2
 clear hd2 hc q0 q1 q2 q3
 obtain ⟨W3, HW3⟩ := Nh (w2.alloc (.cells #[.int .i64 d2.p.i, .int .i64 d2.p.t, .int .i64 d2.base, .slice ad d2.l.length c] 39))
 have hb3 : Below w2.heap.size w2 W3 := by rw [← HW3.out]; exact bel1 _ _
 have hr9 : W3.heap[w2.heap.size]? = some (.cells #[.int .i64 d2.p.i, .int .i64 d2.p.t, .int .i64 d2.base, .slice ad d2.l.length c] 39 (0, 0)) := by rw [← HW3.out]; exact heap_alloc_last _ _
 have hsz := (Array.getElem?_eq_some_iff.1 HDB.out.rb).1
 have hbl := hb2
 have HXL : Hid (XL vl w2 ad c d2.l) := Hf (by rw [HL2.out]; exact (HX.out.keep HDB.out.bel).keep hbl)
 have HLT : Hid (∀ j, Na.blk ad j → j < w2.heap.size) := Hf (fun j hj => Nat.lt_of_lt_of_le (HXL0.out j hj) (Nat.le_trans HDB.out.bel.size hbl.size))
 have HNW : Hid (∀ j, Na.blk ad j → Na.blk ad j ∨ w.heap.size ≤ j) := Hf (fun j hj => .inl hj)
 have HAP : Hid (∀ j, Na.blk ad j → j ≠ w.heap.size + 1) := Hf (fun j hj => by have := HXL0.out j hj; omega)
 have HB23 := Hf hb3
 have HD3 := Hf ((HDB.out.keep hbl).keep hb3)
 obtain ⟨b9, hb9⟩ := Nq (w2.heap.size)
 have hlt3 := (Array.getElem?_eq_some_iff.1 HDB.out.rb).1
 have hlt4 := hbl.size
 rw [hb9] at hr9
 have HR9 := Hf hr9
 have HB9 : Hid (b9 ≠ w.heap.size + 1 ∧ w.heap.size ≤ b9) := Hf (by omega)
 have HBE := Hf hb9
 have HRB3 := Hf HD3.out.rb
 have HRR := Hf HD3.out.rr
 have HBW3 := Hf HD3.out.bel
 have HS : Hid (∀ wq : World, (wq.heap[b9]? = some (.cells #[.int .i64 d2.p.i, .int .i64 d2.p.t, .int .i64 d2.base, .slice ad d2.l.length c] 39 (0, 0)) ∧ wq.heap[w.heap.size + 2]? = some (.cells #[.string (ofL []), .bool false] 162 (0, 0))) → (wq.cell? ⟨b9, 0, none⟩ = some (.int .i64 d2.p.i) ∧ wq.cell? ⟨b9, 1, none⟩ = some (.int .i64 d2.p.t) ∧ wq.cell? ⟨b9, 2, none⟩ = some (.int .i64 d2.base) ∧ wq.cell? ⟨b9, 3, none⟩ = some (.slice ad d2.l.length c)) ∧ (wq.cell? ⟨w.heap.size + 2, 0, none⟩ = some (.string (ofL [])) ∧ wq.cell? ⟨w.heap.size + 2, 1, none⟩ = some (.bool false))) := fun wq h => ⟨(row4 h.1).1, (row2 h.2).1⟩
 clear hb3 hr9 hb9 hbl hlt3 hlt4
 go_upto_region 10 with fail
 rw [HW3.out]
 try rw [HBE.out]
 clear HW3 HBE HDB
 refine wp_region_held_drew (S := fun wq => wq.heap[b9]? = some (.cells #[.int .i64 d2.p.i, .int .i64 d2.p.t, .int .i64 d2.base, .slice ad d2.l.length c] 39 (0, 0)) ∧ wq.heap[w.heap.size + 2]? = some (.cells #[.string (ofL []), .bool false] 162 (0, 0))) (by kernel_rfl) (And.intro HR9.out HRB3.out) fun Hl => ?_
 obtain ⟨wdx, hwdx⟩ := Nq (W3.drew)
 have hBwd : Below W3.heap.size W3 wdx := by rw [← hwdx]; exact Below.drew (Below.refl _ _)
 rw [hwdx] at Hl ⊢; clear hwdx
 refine Tk 0 ?pA ?vA ?yA Hl ?rA
 case yA => intro q h; obtain ⟨⟨y0, y1, y2, y3⟩, ⟨x0, x1⟩⟩ := HS.out q h; go_simp; try with_reducible rfl
 refine Tk 1 ?pB ?vB ?yB Hl ?rB
 case yB => intro q h; obtain ⟨⟨y0, y1, y2, y3⟩, ⟨x0, x1⟩⟩ := HS.out q h; go_simp; try with_reducible rfl
 simp only [Act.put, Pa, Pb, Pc]
 refine Rd 2 ?pC ?sC
 intro K hK; go_simp
 refine (end_ok _).mono ?_; rintro e v2 ⟨rfl, hb2⟩
 have B2 := And.intro (Br Hl.1 hb2) (Br Hl.2 hb2)
 have hBv := Bu HBW3.out (Bu hBwd hb2 Lr) Lr
 have hRv := Br (Br HRR.out hBwd) hb2
 obtain ⟨⟨k0, k1, k2, k3⟩, kf⟩ := row4 hRv
 have kf0 := kf 0
 have kf1 := kf 1
 have kf2 := kf 2
 have kf3 := kf 3
 refine hK.out _ _ B2 fun Hl => ?_; clear hK K
 refine Tm 3 ?pD ?vD Hl ?rD
 simp only [Act.put, Pa, Pb, Pc]
 refine Rd 4 ?pE ?sE
 intro K hK; go_simp
 obtain ⟨W7, hW7⟩ := Nq (Na.put4 v2 (w.heap.size + 1) (.int .i64 d2.p.i) (.int .i64 d2.p.t) (.int .i64 d2.base) (.slice ad d2.l.length c))
 have hR7 := Na.put4_row hRv (.int .i64 d2.p.i) (.int .i64 d2.p.t) (.int .i64 d2.base) (.slice ad d2.l.length c)
 have hB7 := Na.put4_bel hBv (show w.heap.size ≤ w.heap.size + 1 by omega) (.int .i64 d2.p.i) (.int .i64 d2.p.t) (.int .i64 d2.base) (.slice ad d2.l.length c)
 have hO7 : ∀ k, k ≠ w.heap.size + 1 → W7.heap[k]? = v2.heap[k]? := fun k hk => by rw [← hW7]; exact Na.put4_oth hk _ _ _ _
 have hS7 : W7.heap.size = v2.heap.size := by rw [← hW7]; simp [Na.put4]
 rw [hW7] at hR7 hB7
 have hSS := And.intro ((hO7 b9 HB9.out.1).trans Hl.1) ((hO7 (w.heap.size + 2) (by omega)).trans Hl.2)
 have HFIN : Hid (DoO w ad (Na.M.prs a y a.base) (.returned (.tuple #[Na.aV d2 ad c, .bool true])) W7) := Hf (by rw [HDD.out]; exact ⟨ad, c, rfl, HXL.out.keepBut (fun k hk hb => (hO7 k (HAP.out k hb)).trans ((Bu HB23.out (Bu hBwd hb2 Lr) Lr).block k hk)), fun j hj => ⟨HNW.out j hj, by rw [hS7]; exact Nat.lt_of_lt_of_le (HLT.out j hj) (Bu HB23.out (Bu hBwd hb2 Lr) Lr).size⟩, hB7⟩)
 have HR7 := Hf hR7
 unfold Na.put4 at hW7; rw [hW7]; clear hW7
 refine hK.out _ _ hSS fun Hl => ?_; clear hK K
 refine Tm 5 ?pF ?vF Hl ?rF
 simp only [Act.put, Pa, Pb, Pc]
 refine wpAnyH_done (by kernel_rfl) ?_ _
 clear HS; go_wp2
 refine bodyPost_ret (v := .tuple #[Na.aV d2 ad c, .bool true]) ?_ rfl HFIN.out
 exact Na.res31 f96_res _ _ (w.heap.size + 1) _ _ _ _ rfl HR7.out
theorem ddo_vo (hx : XL vl w ad c a.l) (hlt : ∀ j, Na.blk ad j → j < w.heap.size) (ok : Na.M.Ok a) (v : V) (hv : Wf (.vo v)) : Calls Tryz.prog 96 #[Na.aV a ad c, .string (ofL (kb (.vo v)))] w (DoO w ad (redo a (.vo v))) := by
 have HX := Hf hx
 have HOK := Hf ok
 have HXL0 := Hf hlt
 obtain ⟨h1, h2, h3, h40⟩ := hv
 obtain ⟨vs, ⟨vi, vt⟩, vv⟩ := v
 obtain ⟨l, rfl⟩ : ∃ l, vv = ofL l := ⟨vv.data.toList, (Ns.M.ofL_of _).symm⟩
 simp only at h1 h2 h3
 have hl4 : l.length ≤ 4096 := by
  have : (ofL l).size ≤ 4096 := h40
  rw [Ns.M.ofL_size] at this
  exact this
 have e1 := enc_le h1
 have e2 := enc_le h2
 have e3 := enc_le h3
 have e4 := encT_le l (by omega)
 have hi1 := Nc.M.int_enc vs (enc vi ++ (enc vt ++ encT l)) h1
 have hi2 := Nc.M.int_enc vi (enc vt ++ encT l) h2
 have hi3 := Nc.M.int_enc vt (encT l) h3
 have hi4 : Nc.M.text (encT l) = some (l, []) := by have := Nc.M.text_enc l [] (by omega); rwa [List.append_nil] at this
 have hkb : kb (.vo ⟨vs, ⟨vi, vt⟩, ofL l⟩) = 2 :: (enc vs ++ (enc vi ++ (enc vt ++ encT l))) := by
  show 2 :: (enc vs ++ ((enc vi ++ enc vt) ++ encT (ofL l).data.toList)) = _
  rw [Ns.ofL_data, List.append_assoc]
 rw [hkb]
 show Calls Tryz.prog 96 _ w (DoO w ad (Na.M.acs a ⟨vs, ⟨vi, vt⟩, ofL l⟩))
 have n4 : (encT l).length ≤ 5000 := by omega
 have n3 : (enc vt ++ encT l).length ≤ 5010 := by rw [List.length_append]; omega
 have n2 : (enc vi ++ (enc vt ++ encT l)).length ≤ 5020 := by rw [List.length_append]; omega
 have n1 : (enc vs ++ (enc vi ++ (enc vt ++ encT l))).length ≤ 5030 := by rw [List.length_append]; omega
 clear hx ok hlt hkb h40
 obtain ⟨W1, HW1⟩ := Nh (((w.alloc (.cells #[.int .i64 a.p.i, .int .i64 a.p.t, .int .i64 a.base, .slice ad a.l.length c] 39)).alloc (.cells #[.int .i64 0, .int .i64 0, .int .i64 0, .slice none 0 0] 39)).alloc (.cells #[.string (ofL (2 :: (enc vs ++ (enc vi ++ (enc vt ++ encT l))))), .bool false] 162))
 have HDB : Hid (DB w a ad c (2 :: (enc vs ++ (enc vi ++ (enc vt ++ encT l)))) W1) := Hf (by
  rw [← HW1.out]
  have h1 := heap_alloc2_old w (.cells #[.int .i64 a.p.i, .int .i64 a.p.t, .int .i64 a.base, .slice ad a.l.length c] 39) (.cells #[.int .i64 0, .int .i64 0, .int .i64 0, .slice none 0 0] 39)
  have h2 := heap_alloc2_new w (.cells #[.int .i64 a.p.i, .int .i64 a.p.t, .int .i64 a.base, .slice ad a.l.length c] 39) (.cells #[.int .i64 0, .int .i64 0, .int .i64 0, .slice none 0 0] 39)
  have hb2 := bel2 w (.cells #[.int .i64 a.p.i, .int .i64 a.p.t, .int .i64 a.base, .slice ad a.l.length c] 39) (.cells #[.int .i64 0, .int .i64 0, .int .i64 0, .slice none 0 0] 39)
  have h3 := heap_alloc_last ((w.alloc (.cells #[.int .i64 a.p.i, .int .i64 a.p.t, .int .i64 a.base, .slice ad a.l.length c] 39)).alloc (.cells #[.int .i64 0, .int .i64 0, .int .i64 0, .slice none 0 0] 39)) (.cells #[.string (ofL (2 :: (enc vs ++ (enc vi ++ (enc vt ++ encT l))))), .bool false] 162)
  have hb3 := bel1 ((w.alloc (.cells #[.int .i64 a.p.i, .int .i64 a.p.t, .int .i64 a.base, .slice ad a.l.length c] 39)).alloc (.cells #[.int .i64 0, .int .i64 0, .int .i64 0, .slice none 0 0] 39)) (.cells #[.string (ofL (2 :: (enc vs ++ (enc vi ++ (enc vt ++ encT l))))), .bool false] 162)
  have hs : ((w.alloc (.cells #[.int .i64 a.p.i, .int .i64 a.p.t, .int .i64 a.base, .slice ad a.l.length c] 39)).alloc (.cells #[.int .i64 0, .int .i64 0, .int .i64 0, .slice none 0 0] 39)).heap.size = w.heap.size + 2 := by simp
  rw [hs] at h3
  exact ⟨Br h1 hb3, Br h2 hb3, h3, Bu hb2 hb3 Lr⟩)
 go_enter Tryz.func96, Tryz.ntmps96
 go_upto_region 2 with fail
 rw [HW1.out]; clear HW1
 obtain ⟨⟨b0, b1⟩, _⟩ := row2 HDB.out.rb
 have hc := take_byte (b := 2) (l := enc vs ++ (enc vi ++ (enc vt ++ encT l))) (by omega) W1
 go_wp2_with fail
 refine hc.mono ?_; rintro e v1 ⟨rfl, hb⟩
 have HDv := Hf (HDB.out.keep hb)
 clear hc hb b0 b1 HDB
 obtain ⟨⟨b0, b1⟩, bf⟩ := row2 HDv.out.rb
 have bf0 := bf 0
 have bf1 := bf 1
 obtain ⟨Y1, hY⟩ := Nq (st2 v1 (w.heap.size + 2) (.string (ofL (enc vs ++ (enc vi ++ (enc vt ++ encT l))))) (.bool false))
 have HDB : Hid (DB w a ad c (enc vs ++ (enc vi ++ (enc vt ++ encT l))) Y1) := Hf (by rw [← hY]; exact HDv.out.next (enc vs ++ (enc vi ++ (enc vt ++ encT l))))
 unfold st2 at hY
 have HY := Hf hY
 clear hY bf
 go_upto_region 3 with fail
 rw [HY.out]; clear HY b0 b1 bf0 bf1 HDv
 obtain ⟨⟨b0, b1⟩, _⟩ := row2 HDB.out.rb
 have hc := take_int hi1 (by omega) Y1
 go_wp2_with fail
 refine hc.mono ?_; rintro e v2 ⟨rfl, hb⟩
 have HDv := Hf (HDB.out.keep hb)
 clear hc hb b0 b1 HDB
 obtain ⟨⟨b0, b1⟩, bf⟩ := row2 HDv.out.rb
 have bf0 := bf 0
 have bf1 := bf 1
 obtain ⟨Y2, hY⟩ := Nq (st2 v2 (w.heap.size + 2) (.string (ofL (enc vi ++ (enc vt ++ encT l)))) (.bool false))
 have HDB : Hid (DB w a ad c (enc vi ++ (enc vt ++ encT l)) Y2) := Hf (by rw [← hY]; exact HDv.out.next (enc vi ++ (enc vt ++ encT l)))
 unfold st2 at hY
 have HY := Hf hY
 clear hY bf
 go_upto_region 4 with fail
 rw [HY.out]; clear HY b0 b1 bf0 bf1 HDv
 go_upto_region 7 with fail
 obtain ⟨⟨b0, b1⟩, _⟩ := row2 HDB.out.rb
 have hc := take_int hi2 (by omega) Y2
 go_wp2_with fail
 refine hc.mono ?_; rintro e v3 ⟨rfl, hb⟩
 have HDv := Hf (HDB.out.keep hb)
 clear hc hb b0 b1 HDB
 obtain ⟨⟨b0, b1⟩, bf⟩ := row2 HDv.out.rb
 have bf0 := bf 0
 have bf1 := bf 1
 obtain ⟨Y3, hY⟩ := Nq (st2 v3 (w.heap.size + 2) (.string (ofL (enc vt ++ encT l))) (.bool false))
 have HDB : Hid (DB w a ad c (enc vt ++ encT l) Y3) := Hf (by rw [← hY]; exact HDv.out.next (enc vt ++ encT l))
 unfold st2 at hY
 have HY := Hf hY
 clear hY bf
 go_upto_region 8 with fail
 rw [HY.out]; clear HY b0 b1 bf0 bf1 HDv
 go_upto_region 11 with fail
 obtain ⟨⟨b0, b1⟩, _⟩ := row2 HDB.out.rb
 have hc := take_int hi3 (by omega) Y3
 go_wp2_with fail
 refine hc.mono ?_; rintro e v4 ⟨rfl, hb⟩
 have HDv := Hf (HDB.out.keep hb)
 clear hc hb b0 b1 HDB
 obtain ⟨⟨b0, b1⟩, bf⟩ := row2 HDv.out.rb
 have bf0 := bf 0
 have bf1 := bf 1
 obtain ⟨Y4, hY⟩ := Nq (st2 v4 (w.heap.size + 2) (.string (ofL (encT l))) (.bool false))
 have HDB : Hid (DB w a ad c (encT l) Y4) := Hf (by rw [← hY]; exact HDv.out.next (encT l))
 unfold st2 at hY
 have HY := Hf hY
 clear hY bf
 go_upto_region 12 with fail
 rw [HY.out]; clear HY b0 b1 bf0 bf1 HDv
 obtain ⟨⟨b0, b1⟩, _⟩ := row2 HDB.out.rb
 have hc := take_text hi4 (by omega) Y4
 go_wp2_with fail
 refine hc.mono ?_; rintro e v5 ⟨rfl, hb⟩
 have HDv := Hf (HDB.out.keep hb)
 clear hc hb b0 b1 HDB
 obtain ⟨⟨b0, b1⟩, bf⟩ := row2 HDv.out.rb
 have bf0 := bf 0
 have bf1 := bf 1
 obtain ⟨Y5, hY⟩ := Nq (st2 v5 (w.heap.size + 2) (.string (ofL [])) (.bool false))
 have HDB : Hid (DB w a ad c [] Y5) := Hf (by rw [← hY]; exact HDv.out.next [])
 unfold st2 at hY
 have HY := Hf hY
 clear hY bf
 go_upto_region 13 with fail
 rw [HY.out]; clear HY b0 b1 bf0 bf1 HDv
 obtain ⟨⟨q0, q1, q2, q3⟩, _⟩ := row4 HDB.out.ra
 have hc := racc_any a ad c ⟨vs, ⟨vi, vt⟩, ofL l⟩ Y5 (HX.out.keep HDB.out.bel) HOK.out (fun j hj => Nat.lt_of_lt_of_le (HXL0.out j hj) HDB.out.bel.size)
 go_wp2_with fail
 refine hc.mono ?_; rintro e w2 ⟨a2, c2, rfl, hx2, hk2, hb2⟩
 obtain ⟨d2, hd2⟩ := Nq (Na.M.acs a ⟨vs, ⟨vi, vt⟩, ofL l⟩)
 rw [hd2] at hx2 ⊢
 have HDD := Hf hd2
 clear hd2 hc q0 q1 q2 q3
 obtain ⟨W3, HW3⟩ := Nh (w2.alloc (.cells #[.int .i64 d2.p.i, .int .i64 d2.p.t, .int .i64 d2.base, .slice a2 d2.l.length c2] 39))
 have hb3 : Below w2.heap.size w2 W3 := by rw [← HW3.out]; exact bel1 _ _
 have hr9 : W3.heap[w2.heap.size]? = some (.cells #[.int .i64 d2.p.i, .int .i64 d2.p.t, .int .i64 d2.base, .slice a2 d2.l.length c2] 39 (0, 0)) := by rw [← HW3.out]; exact heap_alloc_last _ _
 have hsz := (Array.getElem?_eq_some_iff.1 HDB.out.rb).1
 have hbl := hb2
 have HXL : Hid (XL vl w2 a2 c2 d2.l) := Hf hx2
 have HLT : Hid (∀ j, Na.blk a2 j → j < w2.heap.size) := Hf (fun j hj => (hk2 j hj).2)
 have HNW : Hid (∀ j, Na.blk a2 j → Na.blk ad j ∨ w.heap.size ≤ j) := Hf (fun j hj => (hk2 j hj).1.imp id (fun h => Nat.le_trans HDB.out.bel.size h))
 have HAP : Hid (∀ j, Na.blk a2 j → j ≠ w.heap.size + 1) := Hf (fun j hj => by
  rcases (hk2 j hj).1 with h | h
  ·have := HXL0.out j h; omega
  ·omega)
 have HB23 := Hf hb3
 have HD3 := Hf ((HDB.out.keep hbl).keep hb3)
 obtain ⟨b9, hb9⟩ := Nq (w2.heap.size)
 have hlt3 := (Array.getElem?_eq_some_iff.1 HDB.out.rb).1
 have hlt4 := hbl.size
 rw [hb9] at hr9
 have HR9 := Hf hr9
 have HB9 : Hid (b9 ≠ w.heap.size + 1 ∧ w.heap.size ≤ b9) := Hf (by omega)
 have HBE := Hf hb9
 have HRB3 := Hf HD3.out.rb
 have HRR := Hf HD3.out.rr
 have HBW3 := Hf HD3.out.bel
 have HS : Hid (∀ wq : World, (wq.heap[b9]? = some (.cells #[.int .i64 d2.p.i, .int .i64 d2.p.t, .int .i64 d2.base, .slice a2 d2.l.length c2] 39 (0, 0)) ∧ wq.heap[w.heap.size + 2]? = some (.cells #[.string (ofL []), .bool false] 162 (0, 0))) → (wq.cell? ⟨b9, 0, none⟩ = some (.int .i64 d2.p.i) ∧ wq.cell? ⟨b9, 1, none⟩ = some (.int .i64 d2.p.t) ∧ wq.cell? ⟨b9, 2, none⟩ = some (.int .i64 d2.base) ∧ wq.cell? ⟨b9, 3, none⟩ = some (.slice a2 d2.l.length c2)) ∧ (wq.cell? ⟨w.heap.size + 2, 0, none⟩ = some (.string (ofL [])) ∧ wq.cell? ⟨w.heap.size + 2, 1, none⟩ = some (.bool false))) := fun wq h => ⟨(row4 h.1).1, (row2 h.2).1⟩
 clear hb3 hr9 hb9 hbl hlt3 hlt4
 go_upto_region 14 with fail
 rw [HW3.out]
 try rw [HBE.out]
 clear HW3 HBE HDB
 refine wp_region_held_drew (S := fun wq => wq.heap[b9]? = some (.cells #[.int .i64 d2.p.i, .int .i64 d2.p.t, .int .i64 d2.base, .slice a2 d2.l.length c2] 39 (0, 0)) ∧ wq.heap[w.heap.size + 2]? = some (.cells #[.string (ofL []), .bool false] 162 (0, 0))) (by kernel_rfl) (And.intro HR9.out HRB3.out) fun Hl => ?_
 obtain ⟨wdx, hwdx⟩ := Nq (W3.drew)
 have hBwd : Below W3.heap.size W3 wdx := by rw [← hwdx]; exact Below.drew (Below.refl _ _)
 rw [hwdx] at Hl ⊢; clear hwdx
 refine Tk 0 ?pA ?vA ?yA Hl ?rA
 case yA => intro q h; obtain ⟨⟨y0, y1, y2, y3⟩, ⟨x0, x1⟩⟩ := HS.out q h; go_simp; try with_reducible rfl
 simp only [Act.put, Pa, Pb, Pc]
 refine Tm 1 ?pB ?vB Hl ?rB
 simp only [Act.put, Pa, Pb, Pc]
 refine Tm 2 ?pC ?vC Hl ?rC
 simp only [Act.put, Pa, Pb, Pc]
 refine Tm 3 ?pG ?vG Hl ?rG
 simp only [Act.put, Pa, Pb, Pc]
 refine Tk 4 ?pH ?vH ?yH Hl ?rH
 case yH => intro q h; obtain ⟨⟨y0, y1, y2, y3⟩, ⟨x0, x1⟩⟩ := HS.out q h; go_simp; try with_reducible rfl
 simp only [Act.put, Pa, Pb, Pc]
 refine Rd 5 ?pI ?sI
 intro K hK; go_simp
 refine (end_ok _).mono ?_; rintro e v2 ⟨rfl, hb2⟩
 have B2 := And.intro (Br Hl.1 hb2) (Br Hl.2 hb2)
 have hBv := Bu HBW3.out (Bu hBwd hb2 Lr) Lr
 have hRv := Br (Br HRR.out hBwd) hb2
 obtain ⟨⟨k0, k1, k2, k3⟩, kf⟩ := row4 hRv
 have kf0 := kf 0
 have kf1 := kf 1
 have kf2 := kf 2
 have kf3 := kf 3
 refine hK.out _ _ B2 fun Hl => ?_; clear hK K
 refine Tm 6 ?pJ ?vJ Hl ?rJ
 simp only [Act.put, Pa, Pb, Pc]
 refine Tm 7 ?pK ?vK Hl ?rK
 simp only [Act.put, Pa, Pb, Pc]
 refine Rd 8 ?pL ?sL
 intro K hK; go_simp
 obtain ⟨W7, hW7⟩ := Nq (Na.put4 v2 (w.heap.size + 1) (.int .i64 d2.p.i) (.int .i64 d2.p.t) (.int .i64 d2.base) (.slice a2 d2.l.length c2))
 have hR7 := Na.put4_row hRv (.int .i64 d2.p.i) (.int .i64 d2.p.t) (.int .i64 d2.base) (.slice a2 d2.l.length c2)
 have hB7 := Na.put4_bel hBv (show w.heap.size ≤ w.heap.size + 1 by omega) (.int .i64 d2.p.i) (.int .i64 d2.p.t) (.int .i64 d2.base) (.slice a2 d2.l.length c2)
 have hO7 : ∀ k, k ≠ w.heap.size + 1 → W7.heap[k]? = v2.heap[k]? := fun k hk => by rw [← hW7]; exact Na.put4_oth hk _ _ _ _
 have hS7 : W7.heap.size = v2.heap.size := by rw [← hW7]; simp [Na.put4]
 rw [hW7] at hR7 hB7
 have hSS := And.intro ((hO7 b9 HB9.out.1).trans Hl.1) ((hO7 (w.heap.size + 2) (by omega)).trans Hl.2)
 have HFIN : Hid (DoO w ad (Na.M.acs a ⟨vs, ⟨vi, vt⟩, ofL l⟩) (.returned (.tuple #[Na.aV d2 a2 c2, .bool true])) W7) := Hf (by rw [HDD.out]; exact ⟨a2, c2, rfl, HXL.out.keepBut (fun k hk hb => (hO7 k (HAP.out k hb)).trans ((Bu HB23.out (Bu hBwd hb2 Lr) Lr).block k hk)), fun j hj => ⟨HNW.out j hj, by rw [hS7]; exact Nat.lt_of_lt_of_le (HLT.out j hj) (Bu HB23.out (Bu hBwd hb2 Lr) Lr).size⟩, hB7⟩)
 have HR7 := Hf hR7
 unfold Na.put4 at hW7; rw [hW7]; clear hW7
 refine hK.out _ _ hSS fun Hl => ?_; clear hK K
 refine Tm 9 ?pM ?vM Hl ?rM
 simp only [Act.put, Pa, Pb, Pc]
 refine wpAnyH_done (by kernel_rfl) ?_ _
 clear HS; go_wp2
 refine bodyPost_ret (v := .tuple #[Na.aV d2 a2 c2, .bool true]) ?_ rfl HFIN.out
 exact Na.res31 f96_res _ _ (w.heap.size + 1) _ _ _ _ rfl HR7.out
end
end Go.Proofs.YtlnedgjikkhplaaGreat.Du
