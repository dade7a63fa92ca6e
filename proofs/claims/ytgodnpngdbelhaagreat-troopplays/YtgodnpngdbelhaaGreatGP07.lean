import Derived.Test.YtgodnpngdbelhaaGreatGP06
set_option maxRecDepth 100000
set_option maxHeartbeats 8000000
set_option linter.unusedVariables false
set_option linter.unusedSimpArgs false
open Go.Proofs.Tryz
namespace Go.Proofs.YtgodnpngdbelhaaGreat.Na
open Go.RowKit
open Go.Proofs.YtgodnpngdbelhaaGreat.M (E V)
theorem may_any {w : World} {base b : Nat} {v : Value} {a : M.S} (h : AI w base b v a) (x : E) : Calls prog 99 #[.pointer (some ⟨b, 0, none⟩), bV x] w fun e w' => e = .returned (.bool (M.may a x)) ∧ Bl w w' := by
 have HM : Hid (M.may a x = (M.vld x && decide (0 ≤ M.cmpE x a.p))) := rfl; rw [HM.out]; clear HM; obtain ⟨W1, HW1⟩ := Nh (w.alloc (.cells #[.int .i64 x.i, .int .i64 x.t] 42)); have HB1 : Hid (Bl w W1) := by rw [← HW1.out]; exact bel1 w _
 have HS : Hid (∀ w', Bl W1 w' → (w'.cell? ⟨w.heap.size, 0, none⟩ = some (.int .i64 x.i) ∧ w'.cell? ⟨w.heap.size, 1, none⟩ = some (.int .i64 x.t)) ∧ (w'.cell? ⟨b, 0, none⟩ = some (.int .i64 a.p.i) ∧ w'.cell? ⟨b, 1, none⟩ = some (.int .i64 a.p.t) ∧ w'.cell? ⟨b, 2, none⟩ = some (.int .i64 a.base) ∧ w'.cell? ⟨b, 3, none⟩ = some v)) := by
  intro w' hb; have h1 := Ac HW1; exact ⟨(row2 (Br h1 hb)).1, (row4 (Br (Br h.row HB1.out) hb)).1⟩
 have hv := fun W => valid_any x W; clear h; cases hx : M.vld x with
 | true =>
  rw [hx] at hv; clear hx; rw [Bool.true_and]; go_enter func99, ntmps99; go_wp2_with fail; rw [HW1.out]; clear HW1; refine wp_region_held_drew (S := fun wq => Below (W1).heap.size (W1) wq) (by kernel_rfl) (Below.drew (Below.refl _ _)) fun Hl => ?_; refine Tj 0 Hl ?_; simp only [Act.put, Pz]; refine Rd 1 ?pB ?sB; intro K hK; go_simp; refine (hv _).mono ?_; rintro e v1 ⟨rfl, hb⟩; have B1 : Bl W1 v1 := Hl.trans (hb.mono Hl.size); clear hb; refine hK.out _ _ B1 fun Hl => ?_; refine Tm 2 Hl ?_; simp only [Act.put, Pz]; refine Tj 3 Hl ?_; simp only [Act.put, Pz]; refine Tm 4 Hl ?_; simp only [Act.put, Pz]; refine Tm 5 Hl ?_; simp only [Act.put, Pz]; refine Tm 6 Hl ?_; simp only [Act.put, Pz]; refine Tj 7 Hl ?_; simp only [Act.put, Pz]; refine Rd 8 ?pI ?sI; intro K hK; go_simp; refine (cmp_any x a.p _).mono ?_; rintro e v8 ⟨rfl, hb⟩; have B8 : Bl W1 v8 := Hl.trans (hb.mono Hl.size); clear hb; refine hK.out _ _ B8 fun Hl => ?_; refine Tm 9 Hl ?_; simp only [Act.put, Pz]; refine Tm 10 Hl ?_; simp only [Act.put, Pz]; refine Tm 11 Hl ?_; simp only [Act.put, Pz]; refine Wd ?_; go_wp2; go_ret; exact ⟨rfl, Bu HB1.out Hl Lr⟩
 | false =>
  rw [hx] at hv; clear hx; rw [Bool.false_and]; go_enter func99, ntmps99; go_wp2_with fail; rw [HW1.out]; clear HW1; refine wp_region_held_drew (S := fun wq => Below (W1).heap.size (W1) wq) (by kernel_rfl) (Below.drew (Below.refl _ _)) fun Hl => ?_; refine Tj 0 Hl ?_; simp only [Act.put, Pz]; refine Rd 1 ?pN ?sN; intro K hK; go_simp; refine (hv _).mono ?_; rintro e v1 ⟨rfl, hb⟩; have B1 : Bl W1 v1 := Hl.trans (hb.mono Hl.size); clear hb; refine hK.out _ _ B1 fun Hl => ?_; refine Tm 2 Hl ?_; simp only [Act.put, Pz]; refine Ts 3 Hl ?_; simp only [Act.put, Pz]; refine Ts 4 Hl ?_; simp only [Act.put, Pz]; refine Ts 5 Hl ?_; simp only [Act.put, Pz]; refine Ts 6 Hl ?_; simp only [Act.put, Pz]; refine Ts 7 Hl ?_; simp only [Act.put, Pz]; refine Ts 8 Hl ?_; simp only [Act.put, Pz]; refine Ts 9 Hl ?_; simp only [Act.put, Pz]; refine Tm 10 Hl ?_; simp only [Act.put, Pz]; refine Tm 11 Hl ?_; simp only [Act.put, Pz]; refine Wd ?_; go_wp2; go_ret; exact ⟨rfl, Bu HB1.out Hl Lr⟩
theorem _root_.Go.Proofs.YtgodnpngdbelhaaGreat.OwnL.adr {α : Type} {Y : Ly α} {t : TypeId} {w : World} {base n cap : Nat} {ad : Option Addr} {l : List α} (h : OwnL Y t w base (.slice ad n cap) l) : (ad = none ∧ cap = 0) ∨ ∃ g, ad = some ⟨g, 0, none⟩ := by
 rcases h.2 with ⟨e, _⟩ | ⟨g, c, _, e, _⟩
 ·simp at e; exact .inl ⟨e.1, e.2.2⟩
 ·simp at e; exact .inr ⟨g, e.1⟩
theorem app1 {w : World} {base : Nat} {v : Value} {l : List V} (x : V) (ho : OwnL vl 126 w base v l) (hb : base ≤ w.heap.size) (hl : l.length + 1 ≤ 1000000) :
  ∃ a' c' w', (∀ ty, (Builtin.append_ #[43, 43] ty #[v, .slice (some ⟨w.heap.size, 0, none⟩) 1 1]).run prog (w.alloc (.cells #[.int .i64 x.s, .int .i64 x.b.i, .int .i64 x.b.t, .string x.v] 126)) = .ok (.slice a' (l.length + 1) c') w') ∧ OwnL vl 126 w' base (.slice a' (l.length + 1) c') (l ++ [x]) ∧ Rw w v w' (.slice a' (l.length + 1) c') := by
 obtain ⟨a', c', w4, hrun, ho4, hr4⟩ := run_appL_ty tiV (w.alloc (.cells #[.int .i64 x.s, .int .i64 x.b.i, .int .i64 x.b.t, .string x.v] 126)) base v l [x] w.heap.size 0 1 1 (ho.keep (bel1 w _)) (atL_one (t := 126) (heap_alloc_last w _)) rfl (by simp; omega) (by simp; omega); exact ⟨a', c', w4, hrun, ho4, (Rw.ofBelow _ (bel1 w _)).trans hr4⟩
def RV (w : World) (l : List V) (e : Ending) (w' : World) : Prop := ∃ v, e = .returned v ∧ OwnL vl 126 w' w.heap.size v l ∧ Bl w w'
theorem votes_any {w : World} {base b : Nat} {v : Value} {a : M.S} (h : AI w base b v a) (ok : M.Ok a) (kk : Int) : Calls prog 100 #[.pointer (some ⟨b, 0, none⟩), .int .i64 kk] w (RV w (M.vts a.l kk)) := by
 obtain ⟨ad, cap, rfl, hxl, hbl⟩ := h.own.at; have hlen := ok.len; have hcap := hxl.le; have hmx : cap ≤ 9223372036854775807 := by have := hxl.mx; unfold maxLen at this; omega
 have hpl := place_any ad cap a.l kk w (by omega) hxl.at' ok.up; obtain ⟨c0, _⟩ := row4 h.row; have HR := Hf h.row; have HAt := Hf hxl; have HSZ := Hf (fun x hx => Nat.le_trans (ok.vs x hx) (by decide : 4096 ≤ 140737488351232)); have HA := Hf h.own.adr; clear ok h hxl hbl; go_enter func100, ntmps100; go_wp2_with fail; refine hpl.mono ?_; rintro e w1 ⟨r, bb, rfl, hs, hb1⟩; have HD := Hf hs.drop; have hrl := hs.le; obtain ⟨d0, _⟩ := row4 (Br HR.out hb1); have hx1 := HAt.out.keep hb1; have HB1 := Hf hb1; clear hs hb1 hpl c0 HR HAt; have HZD : Hid (∀ x ∈ a.l.drop r, x.v.size ≤ 140737488351232) := fun x hx => HSZ.out x (List.mem_of_mem_drop hx); have hls : (a.l.drop r).length = a.l.length - r := by simp
 by_cases hcr : cap = r
 ·have hnr : a.l.length = r := by omega
  have HAt : Hid (AtL vl w1 ad (a.l.drop r)) := by
   rw [List.drop_of_length_le (by omega)]; exact AtL.nil _ _
  subst hcr; clear hx1 HSZ; generalize a.l.drop cap = D at *; generalize a.l.length = L at *; go_wp2; go_loopw [28, 7] (fun i u wr => ∃ k : Nat, k ≤ D.length ∧ i = .int .i64 k ∧ OwnL vl 126 wr w1.heap.size u (D.take k) ∧ Bl w1 wr) (fun i u _ => D.length - (intOf i).toNat)
  case atStart => exact ⟨0, Nat.zero_le _, rfl, OwnL.nil _ _ _, Below.refl _ _⟩
  case round =>
   obtain ⟨k, hk, rfl, ho, hbl⟩ := hrel; obtain ⟨a1, cap1, hv1, hx1, _⟩ := ho.at; have hlen : (D.take k).length = k := by simp; omega
   rw [hlen] at hv1; subst hv1; by_cases hlt : k < D.length
   ·exact absurd hlt (by omega)
   ·obtain rfl : k = D.length := by omega
    have HQ : Hid (RV w (M.vts a.l kk) (.returned (.slice a1 D.length cap1)) wr) := by
     rw [← HD.out]
     exact ⟨_, rfl, by rw [List.take_of_length_le Lr] at ho; exact ho.low HB1.out.size, Bu HB1.out hbl Lr⟩
    clear ho hbl hx1; go_wp2; go_ret; exact HQ.out
 ·obtain ⟨g, rfl⟩ : ∃ g, ad = some ⟨g, 0, none⟩ := by
   rcases HA.out with ⟨_, h0⟩ | h0
   ·omega
   ·exact h0
  have HAt : Hid (AtL vl w1 (some ⟨g, r * 4, none⟩) (a.l.drop r)) := by
   have e := hx1.at'.drop r; rw [Nat.zero_add] at e; exact e
  clear hx1 HSZ; generalize a.l.drop r = D at *; generalize a.l.length = L at *; go_wp2; go_loopw [28, 7] (fun i u wr => ∃ k : Nat, k ≤ D.length ∧ i = .int .i64 k ∧ OwnL vl 126 wr w1.heap.size u (D.take k) ∧ Bl w1 wr) (fun i u _ => D.length - (intOf i).toNat)
  case atStart => exact ⟨0, Nat.zero_le _, rfl, OwnL.nil _ _ _, Below.refl _ _⟩
  case round =>
   obtain ⟨k, hk, rfl, ho, hbl⟩ := hrel; obtain ⟨a1, cap1, hv1, hx1, _⟩ := ho.at; have hlen : (D.take k).length = k := by simp; omega
   rw [hlen] at hv1; subst hv1; by_cases hlt : k < D.length
   ·obtain ⟨g0, off0, eA, q0, q1, q2, q3⟩ := (HAt.out.keep hbl).getV k hlt; have HT : Hid (D.take (k + 1) = D.take k ++ [D[k]]) := Hf (List.take_succ_eq_append_getElem hlt); obtain ⟨W1, HW1⟩ := Nh (wr.alloc (.cells #[.int .i64 D[k].s, .int .i64 D[k].b.i, .int .i64 D[k].b.t, .string D[k].v] 126)); have hb1 := Ab HW1; have hbox := Ac HW1; obtain ⟨⟨z0, z1, z2, z3⟩, _⟩ := row4 hbox; have how := own_any D[k] W1 (HZD.out _ (List.getElem_mem _)); have HO := Hf ho; have HBL := Hf hbl; have HB := Hf hb1; clear ho hbl hx1 hb1 hbox; generalize D[k] = x at *; obtain ⟨s, ⟨i, t⟩, vv⟩ := x; simp only [vV] at how q0 q1 q2 q3 z0 z1 z2 z3; cases eA; go_upto_region 8 with fail
    rw [HW1.out]; go_wp2_with fail; refine how.mono ?_; rintro e w2 ⟨rfl, hb2⟩; have ho2 := (HO.out.keep HB.out).keep hb2; have hbw : Bl wr w2 := Bu HB.out hb2 Lr; obtain ⟨a', c', w4, hrun, ho4, hr4⟩ := app1 ⟨s, ⟨i, t⟩, vv⟩ ho2 (by have := HBL.out.size; have := hbw.size; omega) (by rw [hlen]; omega); rw [hlen] at hrun ho4 hr4; simp only at hrun; have hr6 : Rw wr (.slice a1 k cap1) w4 (.slice a' (k + 1) c') := (Rw.ofBelow _ hbw).trans hr4; have HB4 : Hid (Bl w1 w4) := HBL.out.trans (hr6.below (fun j hj => (HO.out.lt hj).1) HBL.out.size); have HO4 := Hf ho4; clear how ho2 hbw ho4 hr4 hr6 hb2 HO HBL HB; go_wp2_with (at_builtin; refine wpList_append_known rfl _ _ 43 rfl _ _ rfl rfl _ _ (hrun _) ?_); go_roundw
    case rel => exact ⟨k + 1, by omega, by go_num, by rw [HT.out]; exact HO4.out, HB4.out⟩
    case measure => simp [intOf]; omega
   ·obtain rfl : k = D.length := by omega
    have HQ : Hid (RV w (M.vts a.l kk) (.returned (.slice a1 D.length cap1)) wr) := by
     rw [← HD.out]
     exact ⟨_, rfl, by rw [List.take_of_length_le Lr] at ho; exact ho.low HB1.out.size, Bu HB1.out hbl Lr⟩
    clear ho hbl hx1; go_wp2; go_ret; exact HQ.out
def put2 (w : World) (g : Nat) (a b : Value) : World := (w.setCell ⟨g, 0, none⟩ a).setCell ⟨g, 1, none⟩ b
theorem fr_set {w w1 : World} {F G : Nat → Prop} {b : Nat} (h : Fr w F w1 G) (hb : F b) (o : Nat) (x : Value) : Fr w F (w1.setCell ⟨b, o, none⟩ x) G :=
 ⟨h.os, h.tape, h.output, by simpa using h.size, fun k hk hF => by rw [heap_setCell_other w1 ⟨b, o, none⟩ k _ (fun e => hF (by subst e; exact hb))]; exact h.block k hk hF, h.n⟩
theorem AI.setP {w : World} {base b : Nat} {v : Value} {a : M.S} (h : AI w base b v a) (x : E) : AI (put2 w b (.int .i64 x.i) (.int .i64 x.t)) base b v ⟨x, a.base, a.l⟩ := by
 refine ⟨?_, ?_, h.ap, h.lo⟩
 ·exact heap_setCell_same _ b 1 _ _ _ (heap_setCell_same w b 0 _ _ _ h.row)
 ·refine h.own.keepBut fun k hk e => ?_; have hne : k ≠ b := fun e' => h.ap (by rw [← e']; exact e); unfold put2; rw [heap_setCell_other _ ⟨b, 1, none⟩ k _ hne, heap_setCell_other _ ⟨b, 0, none⟩ k _ hne]
def PrOut (w : World) (base b : Nat) (v : Value) (a : M.S) (x : E) (k : Int) (e : Ending) (w' : World) : Prop :=
 ∃ u, e = .returned (.tuple #[u, .bool (M.prb a x k)]) ∧ OwnL vl 126 w' w.heap.size u (M.prl a x k) ∧ AI w' base b v (M.prs a x k) ∧ Fr w (fpa b v) w' (fpa b v)
theorem promise_any {w : World} {base b : Nat} {v : Value} {a : M.S} (h : AI w base b v a) (ok : M.Ok a) (x : E) (k : Int) : Calls prog 72 #[.pointer (some ⟨b, 0, none⟩), bV x, .int .i64 k] w (PrOut w base b v a x k) := by
 obtain ⟨W1, HW1⟩ := Nh (w.alloc (.cells #[.int .i64 x.i, .int .i64 x.t] 42)); have hb1 := Ab HW1; have hr1 := Ac HW1; have h1 := h.keep hb1; have hm := may_any h1 x; obtain ⟨z0, _⟩ := row2 hr1; have HR1 := Hf hr1; have HH1 := Hf h1; have HB1 := Hf hb1; have HP : Hid (M.prb a x k = (M.may a x && decide (a.base ≤ k))) := rfl; have HNO : Hid (M.prb a x k = false → ∀ w', Bl w w' → PrOut w base b v a x k (.returned (.tuple #[.slice none 0 0, .bool false])) w') := by
  intro hp w' hb; refine ⟨.slice none 0 0, by rw [hp], ?_, ?_, Fr.ofBelow hb⟩
  ·have e : M.prl a x k = [] := by unfold M.prl; rw [hp]; rfl
   rw [e]; exact OwnL.nil _ _ _
  ·rw [M.prs_no hp]; exact h.keep hb
 have HYES : Hid (M.prb a x k = true → ∀ w2 w3 u, Bl w w2 → OwnL vl 126 w3 (put2 w2 b (.int .i64 x.i) (.int .i64 x.t)).heap.size u (M.vts a.l k) → Below (put2 w2 b (.int .i64 x.i) (.int .i64 x.t)).heap.size (put2 w2 b (.int .i64 x.i) (.int .i64 x.t)) w3 → PrOut w base b v a x k (.returned (.tuple #[u, .bool true])) w3) := by
  intro hp w2 w3 u hb ho hb3; refine ⟨u, by rw [hp], ?_, ?_, ?_⟩
  ·have e : M.prl a x k = M.vts a.l k := by unfold M.prl; rw [hp]; rfl
   rw [e]; exact ho.low (by have := hb.size; simp [put2]; omega)
  ·rw [M.prs_yes hp]; exact ((h.keep hb).setP x).keep hb3
  ·exact (fr_set (fr_set (Fr.ofBelow hb) (.inl rfl) 0 _) (.inl rfl) 1 _).up hb3
 clear h h1 hb1 hr1; cases hmx : M.may a x with
 | false =>
  rw [hmx] at hm; have HQ := Hf (HNO.out (by rw [HP.out, hmx]; rfl)); clear HNO HYES HP hmx; go_enter func72, ntmps72; go_upto_region 1 with fail
  rw [HW1.out]; go_wp2_with fail; refine hm.mono ?_; rintro e w2 ⟨rfl, hb2⟩; have HB2 := Hf (Bu HB1.out hb2 Lr); clear hb2 hm; go_wp2; go_ret2; exact HQ.out _ HB2.out
 | true =>
  rw [hmx] at hm; by_cases hk : a.base ≤ k
  ·have hp : M.prb a x k = true := by rw [HP.out, hmx, decide_eq_true hk]; rfl
   have HQ := Hf (HYES.out hp); have HOK : Hid (M.Ok ⟨x, a.base, a.l⟩) := by have := M.prs_ok ok x k; rw [M.prs_yes hp] at this; exact this
   have d0 : decide (k < a.base) = false := decide_eq_false (by omega); clear HNO HYES HP hmx hp ok hk; go_enter func72, ntmps72; go_upto_region 1 with fail
   rw [HW1.out]; go_wp2_with fail; refine hm.mono ?_; rintro e w2 ⟨rfl, hb2⟩; have HB2 := Hf (Bu HB1.out hb2 Lr); have h2 := HH1.out.keep hb2; obtain ⟨y0, _⟩ := row2 (Br HR1.out hb2); obtain ⟨c0, cf⟩ := row4 h2.row; have f0 := cf 0; have f1 := cf 1; have hv := votes_any (h2.setP x) HOK.out k; clear hb2 hm h2 cf z0 HR1 HH1 HB1; obtain ⟨W3, HW3⟩ := Nh (put2 w2 b (.int .i64 x.i) (.int .i64 x.t)); have HW3' : Hid ((w2.setCell ⟨b, 0, none⟩ (.int .i64 x.i)).setCell ⟨b, 1, none⟩ (.int .i64 x.t) = W3) := HW3.out; have HQ' := Hf (HQ.out w2); rw [HW3.out] at hv HQ'; clear HQ HW3; go_wp2_with fail; rw [HW3'.out]; refine hv.mono ?_; rintro e w4 ⟨u, rfl, ho, hb4⟩; have HF := Hf (HQ'.out w4 u HB2.out ho hb4); clear hv ho hb4; go_wp2; go_ret2; exact HF.out
  ·have HQ := Hf (HNO.out (by rw [HP.out, hmx, decide_eq_false hk]; rfl)); have d0 : decide (k < a.base) = true := decide_eq_true (by omega); clear HNO HYES HP hmx ok hk; go_enter func72, ntmps72; go_upto_region 1 with fail
   rw [HW1.out]; go_wp2_with fail; refine hm.mono ?_; rintro e w2 ⟨rfl, hb2⟩; have HB2 := Hf (Bu HB1.out hb2 Lr); obtain ⟨c0, _⟩ := row4 (HH1.out.keep hb2).row; clear hb2 hm; go_wp2; go_ret2; exact HQ.out _ HB2.out
def putO (w : World) (g o : Nat) (a b c d : Value) : World := (((w.setCell ⟨g, o, none⟩ a).setCell ⟨g, o + 1, none⟩ b).setCell ⟨g, o + 2, none⟩ c).setCell ⟨g, o + 3, none⟩ d
theorem putO_oth {w : World} {g k o : Nat} (h : k ≠ g) (a b c d : Value) : (putO w g o a b c d).heap[k]? = w.heap[k]? := by
 unfold putO; rw [heap_setCell_other _ ⟨g, o + 3, none⟩ k _ h, heap_setCell_other _ ⟨g, o + 2, none⟩ k _ h, heap_setCell_other _ ⟨g, o + 1, none⟩ k _ h, heap_setCell_other _ ⟨g, o, none⟩ k _ h]
theorem _root_.Go.Proofs.YtgodnpngdbelhaaGreat.OwnL.setV {w : World} {base : Nat} {v : Value} {l : List V} (h : OwnL vl 126 w base v l) (i : Nat) (hi : i < l.length) (x : V) :
  ∃ g cap, v = .slice (some ⟨g, 0, none⟩) l.length cap ∧ base ≤ g ∧ g < w.heap.size ∧ (∃ a b c d, w.cell? ⟨g, i * 4, none⟩ = some a ∧ w.cell? ⟨g, i * 4 + 1, none⟩ = some b ∧ w.cell? ⟨g, i * 4 + 2, none⟩ = some c ∧ w.cell? ⟨g, i * 4 + 3, none⟩ = some d) ∧ (∀ j, w.frozen? ⟨g, j, none⟩ = false) ∧ OwnL vl 126 (putO w g (i * 4) (.int .i64 x.s) (.int .i64 x.b.i) (.int .i64 x.b.t) (.string x.v)) base v (l.set i x) := by
 obtain ⟨g, cap, hv, hb, hlt, k0, hf, h0⟩ := h.set1 i hi 0 (by decide); obtain ⟨_, _, hv1, _, _, k1, _, _⟩ := h.set1 i hi 1 (by decide); obtain ⟨_, _, hv2, _, _, k2, _, _⟩ := h.set1 i hi 2 (by decide); obtain ⟨_, _, hv3, _, _, k3, _, _⟩ := h.set1 i hi 3 (by decide); rw [hv] at hv1 hv2 hv3; simp only [Value.slice.injEq, Option.some.injEq, Addr.mk.injEq, and_true] at hv1 hv2 hv3; obtain ⟨rfl, _⟩ := hv1; obtain ⟨rfl, _⟩ := hv2; obtain ⟨rfl, _⟩ := hv3; refine ⟨g, cap, hv, hb, hlt, ⟨_, _, _, _, k0, k1, k2, k3⟩, hf, ?_⟩; have H0 := h0 ⟨x.s, l[i].b, l[i].v⟩ (.int .i64 x.s) rfl; obtain ⟨g1, _, hv1, _, _, _, _, h1⟩ := H0.set1 i (by simpa using hi) 1 (by decide); have H1 := h1 ⟨x.s, ⟨x.b.i, l[i].b.t⟩, l[i].v⟩ (.int .i64 x.b.i) (by rw [List.getElem_set_self]; rfl); rw [List.set_set] at H1; obtain ⟨g2, _, hv2, _, _, _, _, h2⟩ := H1.set1 i (by simpa using hi) 2 (by decide); have H2 := h2 ⟨x.s, ⟨x.b.i, x.b.t⟩, l[i].v⟩ (.int .i64 x.b.t) (by rw [List.getElem_set_self]; rfl); rw [List.set_set] at H2; obtain ⟨g3, _, hv3, _, _, _, _, h3⟩ := H2.set1 i (by simpa using hi) 3 (by decide); have H3 := h3 x (.string x.v) (by rw [List.getElem_set_self]; rfl); rw [List.set_set] at H3; rw [hv] at hv1 hv2 hv3; simp only [Value.slice.injEq, Option.some.injEq, Addr.mk.injEq, and_true] at hv1 hv2 hv3; obtain ⟨rfl, _⟩ := hv1; obtain ⟨rfl, _⟩ := hv2; obtain ⟨rfl, _⟩ := hv3; exact H3
def AcOut (w : World) (base b : Nat) (v : Value) (a : M.S) (x : V) (e : Ending) (w' : World) : Prop :=
 ∃ v', e = .returned (.bool (M.acb a x)) ∧ AI w' base b v' (M.acs a x) ∧ Fr w (fpa b v) w' (fpa b v')
theorem accept_no {w : World} {base b : Nat} {v : Value} {a : M.S} (h : AI w base b v a) (x : V) (hno : M.acb a x = false) : Calls prog 128 #[.pointer (some ⟨b, 0, none⟩), vV x] w (AcOut w base b v a x) := by
 obtain ⟨W1, HW1⟩ := Nh (w.alloc (.cells #[.int .i64 x.s, .int .i64 x.b.i, .int .i64 x.b.t, .string x.v] 126)); have hb1 := Ab HW1; have hr1 := Ac HW1; have h1 := h.keep hb1; have hm := may_any h1 x.b; obtain ⟨z0, _⟩ := row4 hr1; have HR1 := Hf hr1; have HH1 := Hf h1; have HB1 := Hf hb1; have HQ : Hid (∀ w', Bl w w' → AcOut w base b v a x (.returned (.bool false)) w') := fun w' hb => ⟨v, by rw [hno], by rw [M.acs_no hno]; exact h.keep hb, Fr.ofBelow hb⟩; have HA : Hid ((M.may a x.b && decide (a.base ≤ x.s) && decide (x.s < 1024) && decide (x.v.size ≤ 4096)) = false) := hno; clear h h1 hb1 hr1 hno; cases hmx : M.may a x.b with
 | false =>
  rw [hmx] at hm; clear hmx HA; go_enter func128, ntmps128; go_upto_region 1 with fail
  rw [HW1.out]; go_wp2_with fail; refine hm.mono ?_; rintro e w2 ⟨rfl, hb2⟩; have HB2 := Hf (Bu HB1.out hb2 Lr); obtain ⟨y0, _⟩ := row4 (Br HR1.out hb2); clear hb2 hm; go_wp2; go_ret; exact HQ.out _ HB2.out
 | true =>
  rw [hmx] at hm; by_cases hsl : a.base ≤ x.s ∧ x.s < 1024
  ·have hsz : 4096 < x.v.size := by
    have := HA.out; rw [hmx, decide_eq_true hsl.1, decide_eq_true hsl.2] at this; simpa using this
   have hsd : (decide (a.base ≤ x.s) && decide (x.s < 1024)) = true := by rw [decide_eq_true hsl.1, decide_eq_true hsl.2]; rfl
   have d0 : decide ((4096 : Int) < (x.v.size : Int)) = true := decide_eq_true (by omega); clear hmx HA hsl hsz; go_enter func128, ntmps128; go_upto_region 1 with fail
   rw [HW1.out]; go_wp2_with fail; refine hm.mono ?_; rintro e w2 ⟨rfl, hb2⟩; have HB2 := Hf (Bu HB1.out hb2 Lr); obtain ⟨y0, _⟩ := row4 (Br HR1.out hb2); have hs := hasSlot_any (HH1.out.keep hb2) x.s; rw [hsd] at hs; clear hb2 hm hsd; go_wp2_with fail; refine hs.mono ?_; rintro e w3 ⟨rfl, rfl⟩; clear hs; go_wp2; go_ret; exact HQ.out _ HB2.out
  ·have hsd : (decide (a.base ≤ x.s) && decide (x.s < 1024)) = false := by
    cases hq : (decide (a.base ≤ x.s) && decide (x.s < 1024)) with
    | false => rfl
    | true => exact absurd (by simpa using hq) hsl
   clear hmx HA hsl; go_enter func128, ntmps128; go_upto_region 1 with fail
   rw [HW1.out]; go_wp2_with fail; refine hm.mono ?_; rintro e w2 ⟨rfl, hb2⟩; have HB2 := Hf (Bu HB1.out hb2 Lr); obtain ⟨y0, _⟩ := row4 (Br HR1.out hb2); have hs := hasSlot_any (HH1.out.keep hb2) x.s; rw [hsd] at hs; clear hb2 hm hsd; go_wp2_with fail; refine hs.mono ?_; rintro e w3 ⟨rfl, rfl⟩; clear hs; go_wp2; go_ret; exact HQ.out _ HB2.out
theorem fin_any {w w6 : World} {base b bx r : Nat} {v v6 : Value} {a : M.S} {x : V} {l1 : List V} (h6 : AI w6 base b v6 ⟨x.b, a.base, l1⟩) (hx6 : w6.heap[bx]? = some (.cells #[.int .i64 x.s, .int .i64 x.b.i, .int .i64 x.b.t, .string x.v] 126 (0, 0))) (hne : ¬ fpa b v6 bx) (hr : r < l1.length)
  (hF : Fr w (fpa b v) w6 (fpa b v6) ∧ (∀ l2, l2 = l1.set r x → M.acs a x = ⟨x.b, a.base, l2⟩) ∧ M.acb a x = true) :
  ∃ g cap n, n = l1.length ∧ v6 = .slice (some ⟨g, 0, none⟩) n cap ∧ g ≠ b ∧ g ≠ bx ∧
   Hid (w6.drew.cell? ⟨b, 3, none⟩ = some (.slice (some ⟨g, 0, none⟩) n cap) ∧ w6.drew.cell? ⟨bx, 0, none⟩ = some (.int .i64 x.s) ∧ w6.drew.cell? ⟨bx, 1, none⟩ = some (.int .i64 x.b.i) ∧ w6.drew.cell? ⟨bx, 2, none⟩ = some (.int .i64 x.b.t) ∧ w6.drew.cell? ⟨bx, 3, none⟩ = some (.string x.v)) ∧
   Hid (∀ w7, Below w6.drew.heap.size w6.drew w7 → w7.cell? ⟨b, 3, none⟩ = some (.slice (some ⟨g, 0, none⟩) n cap) ∧ w7.cell? ⟨bx, 0, none⟩ = some (.int .i64 x.s) ∧ w7.cell? ⟨bx, 1, none⟩ = some (.int .i64 x.b.i) ∧ w7.cell? ⟨bx, 2, none⟩ = some (.int .i64 x.b.t) ∧ w7.cell? ⟨bx, 3, none⟩ = some (.string x.v)) ∧
   Hid (∀ w7, Below w6.drew.heap.size w6.drew w7 → (∃ q0 q1 q2 q3, w7.cell? ⟨g, r * 4, none⟩ = some q0 ∧ w7.cell? ⟨g, r * 4 + 1, none⟩ = some q1 ∧ w7.cell? ⟨g, r * 4 + 2, none⟩ = some q2 ∧ w7.cell? ⟨g, r * 4 + 3, none⟩ = some q3) ∧ w7.frozen? ⟨g, r * 4, none⟩ = false ∧ w7.frozen? ⟨g, r * 4 + 1, none⟩ = false ∧ w7.frozen? ⟨g, r * 4 + 2, none⟩ = false ∧ w7.frozen? ⟨g, r * 4 + 3, none⟩ = false) ∧
   Hid (∀ w7 : World, (w7.cell? ⟨b, 3, none⟩ = some (.slice (some ⟨g, 0, none⟩) n cap) ∧ w7.cell? ⟨bx, 0, none⟩ = some (.int .i64 x.s) ∧ w7.cell? ⟨bx, 1, none⟩ = some (.int .i64 x.b.i) ∧ w7.cell? ⟨bx, 2, none⟩ = some (.int .i64 x.b.t) ∧ w7.cell? ⟨bx, 3, none⟩ = some (.string x.v)) →
    ((putO w7 g (r * 4) (.int .i64 x.s) (.int .i64 x.b.i) (.int .i64 x.b.t) (.string x.v)).cell? ⟨b, 3, none⟩ = some (.slice (some ⟨g, 0, none⟩) n cap) ∧ (putO w7 g (r * 4) (.int .i64 x.s) (.int .i64 x.b.i) (.int .i64 x.b.t) (.string x.v)).cell? ⟨bx, 0, none⟩ = some (.int .i64 x.s) ∧ (putO w7 g (r * 4) (.int .i64 x.s) (.int .i64 x.b.i) (.int .i64 x.b.t) (.string x.v)).cell? ⟨bx, 1, none⟩ = some (.int .i64 x.b.i) ∧ (putO w7 g (r * 4) (.int .i64 x.s) (.int .i64 x.b.i) (.int .i64 x.b.t) (.string x.v)).cell? ⟨bx, 2, none⟩ = some (.int .i64 x.b.t) ∧ (putO w7 g (r * 4) (.int .i64 x.s) (.int .i64 x.b.i) (.int .i64 x.b.t) (.string x.v)).cell? ⟨bx, 3, none⟩ = some (.string x.v))) ∧
   Hid (∀ w7, Below w6.drew.heap.size w6.drew w7 → AcOut w base b v a x (.returned (.bool true)) (putO w7 g (r * 4) (.int .i64 x.s) (.int .i64 x.b.i) (.int .i64 x.b.t) (.string x.v))) := by
 obtain ⟨g, cap, hv, hbg, hgl, _, _, _⟩ := h6.own.setV r hr x; have hgb : g ≠ b := fun e => h6.ap (by rw [hv, e]; rfl); have hgx : g ≠ bx := fun e => hne (.inr (by rw [hv, e]; rfl)); have key : ∀ w7, Below w6.drew.heap.size w6.drew w7 → w7.cell? ⟨b, 3, none⟩ = some (.slice (some ⟨g, 0, none⟩) l1.length cap) ∧ w7.cell? ⟨bx, 0, none⟩ = some (.int .i64 x.s) ∧ w7.cell? ⟨bx, 1, none⟩ = some (.int .i64 x.b.i) ∧ w7.cell? ⟨bx, 2, none⟩ = some (.int .i64 x.b.t) ∧ w7.cell? ⟨bx, 3, none⟩ = some (.string x.v) := by
  intro w7 hb; have h1 := (row4 (Br (W := w6.drew) h6.row hb)).1.2.2.2; rw [hv] at h1; exact ⟨h1, (row4 (Br (W := w6.drew) hx6 hb)).1⟩
 have kept : ∀ (w7 : World) (k o : Nat), k ≠ g → (putO w7 g (r * 4) (.int .i64 x.s) (.int .i64 x.b.i) (.int .i64 x.b.t) (.string x.v)).cell? ⟨k, o, none⟩ = w7.cell? ⟨k, o, none⟩ := fun w7 k o hk => World.cell?_of_block (w := w7) (a := ⟨k, o, none⟩) (putO_oth hk _ _ _ _); refine ⟨g, cap, l1.length, rfl, hv, hgb, hgx, Hf (key _ (Below.refl _ _)), Hf key, Hf fun w7 hb => ?_, Hf fun w7 hw => ?_, Hf fun w7 hb => ?_⟩
 ·have hb' : Bl w6 w7 := ⟨hb.os, hb.tape, hb.output, hb.size, hb.block⟩; obtain ⟨g', cap', hv', _, _, hc, hf, _⟩ := (h6.keep hb').own.setV r hr x; rw [hv] at hv'; simp only [Value.slice.injEq, Option.some.injEq, Addr.mk.injEq, and_true, true_and] at hv'; obtain ⟨rfl, _⟩ := hv'; exact ⟨hc, hf _, hf _, hf _, hf _⟩
 ·rw [kept _ _ _ hgb.symm, kept _ _ _ hgx.symm, kept _ _ _ hgx.symm, kept _ _ _ hgx.symm, kept _ _ _ hgx.symm]; exact hw
 ·have hb' : Bl w6 w7 := ⟨hb.os, hb.tape, hb.output, hb.size, hb.block⟩; have h7 := h6.keep hb'; obtain ⟨g', cap', hv', _, _, _, _, ho⟩ := h7.own.setV r hr x; rw [hv] at hv'; simp only [Value.slice.injEq, Option.some.injEq, Addr.mk.injEq, and_true, true_and] at hv'; obtain ⟨rfl, _⟩ := hv'; refine ⟨v6, by rw [hF.2.2], ?_, ?_⟩
  ·rw [hF.2.1 _ rfl]; exact ⟨(putO_oth hgb.symm _ _ _ _).trans h7.row, ho, h6.ap, h6.lo⟩
  ·refine (hF.1.up hb').trans ?_; have hg : fpa b v6 g := .inr (by rw [hv]; rfl); exact fr_set (fr_set (fr_set (fr_set (Fr.refl _ _) hg _ _) hg _ _) hg _ _) hg _ _
theorem arg_one (w : World) (v : Value) (hv : ∀ k, v.ownBlock = some k → k < w.heap.size) : Arg (w.alloc (.cells #[.int .i64 0, .int .i64 0, .int .i64 0, .string ⟨#[]⟩] 126)) v (.slice (some ⟨w.heap.size, 0, none⟩) 1 1) [⟨0, ⟨0, 0⟩, ⟨#[]⟩⟩] :=
 .inr ⟨w.heap.size, 1, [.int .i64 0, .int .i64 0, .int .i64 0, .string ⟨#[]⟩], rfl, ⟨heap_alloc_last w _, by simp, by decide, rfl, rfl⟩, fun e => by have := hv _ e; omega, by simp⟩
theorem accept_yes {w : World} {base b : Nat} {v : Value} {a : M.S} (h : AI w base b v a) (hbs : base ≤ w.heap.size) (ok : M.Ok a) (x : V) (hyes : M.acb a x = true) : Calls prog 128 #[.pointer (some ⟨b, 0, none⟩), vV x] w (AcOut w base b v a x) := by
 obtain ⟨hmx, hs0, hs1, hsz⟩ := M.acb_yes hyes; obtain ⟨W1, HW1⟩ := Nh (w.alloc (.cells #[.int .i64 x.s, .int .i64 x.b.i, .int .i64 x.b.t, .string x.v] 126)); have hb1 := Ab HW1; have hr1 := Ac HW1; have h1 := h.keep hb1; have hm := may_any h1 x.b; rw [hmx] at hm; obtain ⟨⟨z0, z1, z2, z3⟩, _⟩ := row4 hr1; have HR1 := Hf hr1; have HH := Hf h; have HB1 := Hf hb1; have HOK := Hf ok; have HY := Hf hyes; have HXS : Hid (x.v.size ≤ 140737488351232) := by have := hsz; exact Hf (by omega)
 have hsd : (decide (a.base ≤ x.s) && decide (x.s < 1024)) = true := by rw [decide_eq_true hs0, decide_eq_true hs1]; rfl
 have d0 : decide ((4096 : Int) < (x.v.size : Int)) = false := decide_eq_false (by omega); clear h h1 hb1 hr1 ok hyes hmx hs0 hs1 hsz; go_enter func128, ntmps128; go_upto_region 1 with fail
 rw [HW1.out]; clear HW1; go_wp2_with fail; refine hm.mono ?_; rintro e w2 ⟨rfl, hb2⟩; have hbw2 := Bu HB1.out hb2 Lr; have HB2 := Hf hbw2; have hr2 := Br HR1.out hb2; obtain ⟨⟨y0, y1, y2, y3⟩, _⟩ := row4 hr2; have h2 := HH.out.keep hbw2; have hs := hasSlot_any h2 x.s; rw [hsd] at hs; obtain ⟨⟨c0, c1, c2, c3⟩, cf⟩ := row4 h2.row; have f0 := cf 0; have f1 := cf 1; have h3 := h2.setP x.b; have hbx : w.heap.size ≠ b := by have := HH.out.lt; omega
 have hr3 : (put2 w2 b (.int .i64 x.b.i) (.int .i64 x.b.t)).heap[w.heap.size]? = some (.cells #[.int .i64 x.s, .int .i64 x.b.i, .int .i64 x.b.t, .string x.v] 126 (0, 0)) := by
  unfold put2; rw [heap_setCell_other _ ⟨b, 1, none⟩ _ _ hbx, heap_setCell_other _ ⟨b, 0, none⟩ _ _ hbx]; exact hr2
 have hf3 : Fr w (fpa b v) (put2 w2 b (.int .i64 x.b.i) (.int .i64 x.b.t)) (fpa b v) := fr_set (fr_set (Fr.ofBelow hbw2) (.inl rfl) 0 _) (.inl rfl) 1 _; obtain ⟨W3, HW3⟩ := Nh (put2 w2 b (.int .i64 x.b.i) (.int .i64 x.b.t)); have HW3' : Hid ((w2.setCell ⟨b, 0, none⟩ (.int .i64 x.b.i)).setCell ⟨b, 1, none⟩ (.int .i64 x.b.t) = W3) := HW3.out; rw [HW3.out] at h3 hr3 hf3; have HF3 := Hf hf3; have HH3 := Hf h3; have HR3 := Hf hr3; clear hb2 hm h2 cf z0 z1 z2 z3 HR1 HB1 HW3 hsd hbw2 hr2 h3 hr3 hf3; go_wp2_with fail; refine hs.mono ?_; rintro e w3 ⟨rfl, rfl⟩; clear hs; obtain ⟨ad, cap, hv, hxl, hbl⟩ := HH3.out.own.at; simp only at hv hxl; have HPL : Hid (∀ W, Bl W3 W → Calls prog 123 #[.slice ad a.l.length cap, .int .i64 x.s] W (SrOut W a.l x.s)) := fun W hW => place_any ad cap a.l x.s W (by have := HOK.out.len; omega) (hxl.at'.keep hW) HOK.out.up; have HS : Hid (∀ w', Bl W3 w' → (w'.cell? ⟨w.heap.size, 0, none⟩ = some (.int .i64 x.s) ∧ w'.cell? ⟨w.heap.size, 1, none⟩ = some (.int .i64 x.b.i) ∧ w'.cell? ⟨w.heap.size, 2, none⟩ = some (.int .i64 x.b.t) ∧ w'.cell? ⟨w.heap.size, 3, none⟩ = some (.string x.v)) ∧ (w'.cell? ⟨b, 0, none⟩ = some (.int .i64 x.b.i) ∧ w'.cell? ⟨b, 1, none⟩ = some (.int .i64 x.b.t) ∧ w'.cell? ⟨b, 2, none⟩ = some (.int .i64 a.base) ∧ w'.cell? ⟨b, 3, none⟩ = some (.slice ad a.l.length cap))) := by
  intro w' hb; have h4 := (row4 (Br HH3.out.row hb)).1; rw [hv] at h4; exact ⟨(row4 (Br HR3.out hb)).1, h4⟩
 have HV := Hf hv; clear hxl hbl hv; go_wp2_with fail; rw [HW3'.out]; clear HW3'; refine wp_region_held_drew (S := fun wq => Below (W3).heap.size (W3) wq) (by kernel_rfl) (Below.drew (Below.refl _ _)) fun Hl => ?_; refine Tm 0 Hl ?_; refine Tm 1 Hl ?_; refine Tm 2 Hl ?_; refine Tj 3 Hl ?_; refine Tm 4 Hl ?_; refine Tj 5 Hl ?_; simp only [Act.put, Pz]; refine Rd 6 ?pG ?sG; intro K hK; go_simp; refine (HPL.out _ Hl).mono ?_; rintro e w4 ⟨r, bb, rfl, hsr, hb4⟩; have B6 : Bl W3 w4 := Hl.trans (hb4.mono Hl.size); clear hb4; refine hK.out _ _ B6 fun Hl => ?_; refine Tm 7 Hl ?_; refine Tm 8 Hl ?_; refine Tm 9 Hl ?_; refine Tm 10 Hl ?_; refine Tm 11 Hl ?_; simp only [Act.put, Pz]; refine Wd ?_; have HX4 := Hf (Br HR3.out Hl); have HH4 := Hf (HH3.out.keep Hl); have HF4 := Hf (HF3.out.up Hl); have hlen := HOK.out.len; have hsl := hsr.le; have HSR := Hf hsr; have HNX : Hid (∀ k, v.ownBlock = some k → k ≠ w.heap.size) := fun k hk e => by have := (HH.out.own.lt hk).2; omega
 have hbw : b ≠ w.heap.size := by have := HH.out.lt; omega
 clear hsr HPL HS HR3 HH3 HF3 HB2 y0 y1 y2 y3 c0 c1 c2 c3 f0 f1 Hl; cases bb with
 | true =>
  have h6 := HH4.out; have hx6 := HX4.out; have hne6 : ¬ fpa b v w.heap.size := by
   rintro (e | e)
   ·exact hbw e.symm
   ·exact HNX.out _ e rfl
  obtain ⟨hlt6, -⟩ := HSR.out.yes rfl; have hF6 : Fr w (fpa b v) w4 (fpa b v) ∧ (∀ l2, l2 = a.l.set r x → M.acs a x = ⟨x.b, a.base, l2⟩) ∧ M.acb a x = true := ⟨HF4.out, fun l2 e => by rw [M.acs_yes HY.out, e, HSR.out.put_yes HOK.out.up], HY.out⟩; clear HH4 HX4 HF4; go_wp2_with fail; obtain ⟨g, cap6, N6, hN6, hv6, hgb, hgx, HKI, HKS, HKC, HKT, HQ⟩ := fin_any h6 hx6 hne6 hlt6 hF6; subst hv6; obtain rfl := hN6; have hi6 := hlt6; have hi7 : (r : Int) < (a.l.length : Int) := by omega
  clear h6 hx6 hne6 hF6; refine wp_region_held_drew (S := fun wq => wq.cell? ⟨b, 3, none⟩ = some (.slice (some ⟨g, 0, none⟩) a.l.length cap6) ∧ wq.cell? ⟨w.heap.size, 0, none⟩ = some (.int .i64 x.s) ∧ wq.cell? ⟨w.heap.size, 1, none⟩ = some (.int .i64 x.b.i) ∧ wq.cell? ⟨w.heap.size, 2, none⟩ = some (.int .i64 x.b.t) ∧ wq.cell? ⟨w.heap.size, 3, none⟩ = some (.string x.v)) (by kernel_rfl) HKI.out fun Hl => ?_; refine Tm 0 Hl ?_; refine Tm 1 Hl ?_; refine Tm 2 Hl ?_; refine Tk 3 ?pP ?vP ?yP Hl ?rP
  case yP => intro wq hq; obtain ⟨y3, z0, z1, z2, z3⟩ := hq; go_simp; try with_reducible rfl
  refine Tm 4 Hl ?_
  refine Tk 5 ?pR ?vR ?yR Hl ?rR
  case yR => intro wq hq; obtain ⟨y3, z0, z1, z2, z3⟩ := hq; go_simp; try with_reducible rfl
  simp only [Act.put, Pz]; refine Rd 6 ?pS ?sS; intro K hK; go_simp; refine (own_any x _ HXS.out).mono ?_; rintro e w7 ⟨rfl, hb7⟩; have S7 := HKS.out _ hb7; have HG7 := Hf (HKC.out _ hb7); have HQ7 := Hf (HQ.out _ hb7); clear hb7; refine hK.out _ _ S7 fun Hl => ?_; refine Tm 7 Hl ?_; simp only [Act.put, Pz]; refine Rd 8 ?pU ?sU; intro K hK; go_simp; obtain ⟨⟨q0, q1, q2, q3, gc0, gc1, gc2, gc3⟩, gf0, gf1, gf2, gf3⟩ := HG7.out; go_simp; refine hK.out _ _ (HKT.out _ Hl) fun Hl => ?_; refine Wd ?_; go_wp2; go_ret; exact HQ7.out
 | false =>
  have h4 := HH4.out; obtain ⟨⟨c0, c1, c2, c3⟩, _⟩ := row4 h4.row; rw [HV.out] at c3; simp only at c0 c1 c2; have hbs4 : base ≤ w4.heap.size := Nat.le_trans hbs HF4.out.size; have hins := insert_any r (Nat.le_trans hbs4 (bel1 w4 (.cells #[.int .i64 0, .int .i64 0, .int .i64 0, .string ⟨#[]⟩] 126)).size) (h4.own.keep (bel1 w4 _)) (arg_one w4 v (fun k hk => (h4.own.lt hk).2)) hsl (by simp only; omega) (by simp); rw [HV.out] at hins; clear h4; go_wp2_with fail; refine hins.mono ?_; rintro e w5 ⟨v6, rfl, ho5, hr5⟩; have hb4 := bel1 w4 (.cells #[.int .i64 0, .int .i64 0, .int .i64 0, .string ⟨#[]⟩] 126); rw [← HV.out] at hr5; have hR5 : Rw w4 v w5 v6 := (Rw.ofBelow _ hb4).trans hr5; have h4 := HH4.out; have hb5 : w5.heap[b]? = w4.heap[b]? := hR5.g.block b h4.lt (fun e => h4.ap e.symm); have hx5 : w5.heap[w.heap.size]? = w4.heap[w.heap.size]? := hR5.g.block _ (Array.getElem?_eq_some_iff.1 HX4.out).1 (fun e => HNX.out _ e.symm rfl); have hap6 : v6.ownBlock ≠ some b := fun e => by
   rcases hR5.n b e with h | h
   ·exact h4.ap h
   ·have := h4.lt; omega
  have hrow5 := hb5.trans h4.row; obtain ⟨e0, ef⟩ := row4 hrow5; have ef3 := ef 3; have h6 : AI (w5.setCell ⟨b, 3, none⟩ v6) base b v6 ⟨x.b, a.base, a.l.take r ++ [⟨0, ⟨0, 0⟩, ⟨#[]⟩⟩] ++ a.l.drop r⟩ :=
   ⟨heap_setCell_same w5 b 3 _ _ _ hrow5, ho5.keepBut (fun k hk e => heap_setCell_other w5 ⟨b, 3, none⟩ k _ (fun e' => hap6 (e.trans (congrArg some e')))), hap6, h4.lo⟩
  have hx6 : (w5.setCell ⟨b, 3, none⟩ v6).heap[w.heap.size]? = some (.cells #[.int .i64 x.s, .int .i64 x.b.i, .int .i64 x.b.t, .string x.v] 126 (0, 0)) := (heap_setCell_other w5 ⟨b, 3, none⟩ _ _ hbw.symm).trans (hx5.trans HX4.out); have hne6 : ¬ fpa b v6 w.heap.size := by
   rintro (e | e)
   ·exact hbw e.symm
   ·rcases hR5.n _ e with h | h
    ·exact HNX.out _ h rfl
    ·have := (Array.getElem?_eq_some_iff.1 HX4.out).1; omega
  have hlt6 : r < (a.l.take r ++ [(⟨0, ⟨0, 0⟩, ⟨#[]⟩⟩ : V)] ++ a.l.drop r).length := by simp; omega
  have hset6 : (a.l.take r ++ [(⟨0, ⟨0, 0⟩, ⟨#[]⟩⟩ : V)] ++ a.l.drop r).set r x = a.l.take r ++ [x] ++ a.l.drop r := by
   rw [List.append_assoc, List.set_append_right _ _ (by simp; omega), show r - (a.l.take r).length = 0 by simp; omega]; simp
  have hfr5 : Fr w4 (fpa b v) w5 (fpa b v6) := ⟨hR5.g.os, hR5.g.tape, hR5.g.output, hR5.g.size, fun k hk hF => hR5.g.block k hk (fun e => hF (.inr e.symm)), fun k hk => by
   rcases hk with e | e
   ·exact .inl (.inl e)
   ·rcases hR5.n k e with h | h
    ·exact .inl (.inr h)
    ·exact .inr h⟩
  have hF6 : Fr w (fpa b v) (w5.setCell ⟨b, 3, none⟩ v6) (fpa b v6) ∧ (∀ l2, l2 = (a.l.take r ++ [(⟨0, ⟨0, 0⟩, ⟨#[]⟩⟩ : V)] ++ a.l.drop r).set r x → M.acs a x = ⟨x.b, a.base, l2⟩) ∧ M.acb a x = true :=
   ⟨(HF4.out.trans hfr5).trans (fr_set (Fr.refl _ _) (.inl rfl) 3 v6), fun l2 e => by rw [M.acs_yes HY.out, e, hset6, HSR.out.put_no], HY.out⟩
  clear hins ho5 hr5 hb4 hR5 h4 hb5 hx5 hap6 hrow5 ef hset6 hfr5 HH4 HX4 HF4 c0 c1 c2 c3; generalize a.l.take r ++ [(⟨0, ⟨0, 0⟩, ⟨#[]⟩⟩ : V)] ++ a.l.drop r = l6 at *; obtain ⟨W6, HW6⟩ := Nh (w5.setCell ⟨b, 3, none⟩ v6); rw [HW6.out] at h6 hx6 hF6; obtain ⟨g, cap6, N6, hN6, hv6, hgb, hgx, HKI, HKS, HKC, HKT, HQ⟩ := fin_any h6 hx6 hne6 hlt6 hF6; subst hv6; obtain rfl := hN6; have hi6 := hlt6; have hi7 : (r : Int) < (l6.length : Int) := by omega
  clear h6 hx6 hne6 hF6; go_wp2_with fail; rw [HW6.out]; clear HW6 e0 ef3; refine wp_region_held_drew (S := fun wq => wq.cell? ⟨b, 3, none⟩ = some (.slice (some ⟨g, 0, none⟩) l6.length cap6) ∧ wq.cell? ⟨w.heap.size, 0, none⟩ = some (.int .i64 x.s) ∧ wq.cell? ⟨w.heap.size, 1, none⟩ = some (.int .i64 x.b.i) ∧ wq.cell? ⟨w.heap.size, 2, none⟩ = some (.int .i64 x.b.t) ∧ wq.cell? ⟨w.heap.size, 3, none⟩ = some (.string x.v)) (by kernel_rfl) HKI.out fun Hl => ?_; refine Tm 0 Hl ?_; refine Tm 1 Hl ?_; refine Tm 2 Hl ?_; refine Tk 3 ?pY ?vY ?yY Hl ?rY
  case yY => intro wq hq; obtain ⟨y3, z0, z1, z2, z3⟩ := hq; go_simp; try with_reducible rfl
  refine Tm 4 Hl ?_
  refine Tk 5 ?pa ?va ?ya Hl ?ra
  case ya => intro wq hq; obtain ⟨y3, z0, z1, z2, z3⟩ := hq; go_simp; try with_reducible rfl
  simp only [Act.put, Pz]; refine Rd 6 ?pb ?sb; intro K hK; go_simp; refine (own_any x _ HXS.out).mono ?_; rintro e w7 ⟨rfl, hb7⟩; have S7 := HKS.out _ hb7; have HG7 := Hf (HKC.out _ hb7); have HQ7 := Hf (HQ.out _ hb7); clear hb7; refine hK.out _ _ S7 fun Hl => ?_; refine Tm 7 Hl ?_; simp only [Act.put, Pz]; refine Rd 8 ?pd ?sd; intro K hK; go_simp; obtain ⟨⟨q0, q1, q2, q3, gc0, gc1, gc2, gc3⟩, gf0, gf1, gf2, gf3⟩ := HG7.out; go_simp; refine hK.out _ _ (HKT.out _ Hl) fun Hl => ?_; refine Wd ?_; go_wp2; go_ret; exact HQ7.out
end Go.Proofs.YtgodnpngdbelhaaGreat.Na
