import Derived.Test.YtgodnpngdbelhaaGreatGP07
import Derived.Maps.OwnSet
set_option maxRecDepth 100000
set_option maxHeartbeats 8000000
set_option linter.unusedVariables false
set_option linter.unusedSimpArgs false
open Go.Proofs.Tryz
namespace Go.Proofs.YtgodnpngdbelhaaGreat.Na
open Go.RowKit
open Go.Proofs.YtgodnpngdbelhaaGreat.M (E V)
structure AS (w0 w : World) (F : Nat → Prop) (b : Nat) (a : M.S) : Prop where
 ai : ∃ v, F = fpa b v ∧ AI w w0.heap.size b v a
 bel : Bl w0 w
 ok : M.Ok a
section
variable {w0 w w' : World} {F G G' : Nat → Prop} {b : Nat} {a : M.S}
theorem AS.keep (h : AS w0 w F b a) (hb : Bl w w') : AS w0 w' F b a := by
 obtain ⟨v, hF, hX⟩ := h.ai; exact ⟨⟨v, hF, hX.keep hb⟩, Bu h.bel hb Lr, h.ok⟩
theorem AS.mine (h : AS w0 w F b a) : ∀ k, F k → w0.heap.size ≤ k ∧ k < w.heap.size := by
 obtain ⟨v, rfl, hX⟩ := h.ai; exact hX.mine
theorem AS.step (h : AS w0 w F b a) (hF : Fr w G w' G') (hap : ∀ k, F k → ¬ G k) (hG : ∀ k, G k → w0.heap.size ≤ k) : AS w0 w' F b a ∧ ∀ k, F k → ¬ G' k := by
 have hm := h.mine; obtain ⟨v, e, hX⟩ := h.ai; refine ⟨⟨⟨v, e, hX.keepBut (fun k hk hk2 => hF.block k hk (hap k (by rw [e]; exact hk2)))⟩, h.bel.trans (hF.below hG h.bel.size), h.ok⟩, fun k hk hg => ?_⟩; rcases hF.n k hg with h' | h'
 ·exact hap k hk h'
 ·have := (hm k hk).2; omega
theorem newA_any (w0 w : World) (hb : Bl w0 w) : Calls prog 46 #[] w fun e w' => ∃ b F, e = .returned (.pointer (some ⟨b, 0, none⟩)) ∧ AS w0 w' F b M.S0 ∧ Bl w w' ∧ ∀ k, F k → w.heap.size ≤ k :=
 (new_any w).mono fun e w' ⟨b, h1, h2, h3, h4⟩ => ⟨b, _, h1, ⟨⟨_, rfl, ⟨h2.row, h2.own.low hb.size, h2.ap, Nat.le_trans hb.size h2.lo⟩⟩, Bu hb h3 Lr, M.Ok.zero⟩, h3, fun k hk => (h2.mine k hk).1⟩
theorem AS.fr (h : AS w0 w F b a) (hF : Fr w F w' G) : Bl w0 w' := h.bel.trans (hF.below (fun k hk => (h.mine k hk).1) h.bel.size)
theorem AS.promise (h : AS w0 w F b a) (x : E) (k : Int) : Calls prog 72 #[.pointer (some ⟨b, 0, none⟩), bV x, .int .i64 k] w fun e w' => ∃ ad c, e = .returned (.tuple #[.slice ad (M.prl a x k).length c, .bool (M.prb a x k)]) ∧ XL vl w' ad c (M.prl a x k) ∧ (∀ j, blk ad j → w.heap.size ≤ j ∧ j < w'.heap.size) ∧ AS w0 w' F b (M.prs a x k) ∧ Fr w F w' F := by
 have h0 := h; obtain ⟨v, rfl, hX⟩ := h.ai; refine (promise_any hX h.ok x k).mono ?_; rintro e w' ⟨u, h1, h2, h3, h4⟩; obtain ⟨ad, c, rfl, hx, hbk⟩ := h2.at; exact ⟨ad, c, h1, hx, fun j hj => ⟨(hbk j hj).1, (hbk j hj).2.2⟩, ⟨⟨v, rfl, h3⟩, h0.fr h4, M.prs_ok h.ok x k⟩, h4⟩
theorem AS.accept (h : AS w0 w F b a) (x : V) : Calls prog 128 #[.pointer (some ⟨b, 0, none⟩), vV x] w fun e w' => ∃ G, e = .returned (.bool (M.acb a x)) ∧ AS w0 w' G b (M.acs a x) ∧ Fr w F w' G := by
 have h0 := h; obtain ⟨v, rfl, hX⟩ := h.ai; have key : Calls prog 128 #[.pointer (some ⟨b, 0, none⟩), vV x] w (AcOut w w0.heap.size b v a x) := by
  cases hb : M.acb a x with
  | false => exact accept_no hX x hb
  | true => exact accept_yes hX h.bel.size h.ok x hb
 refine key.mono ?_; rintro e w' ⟨v', h1, h2, h3⟩; exact ⟨_, h1, ⟨⟨v', rfl, h2⟩, h0.fr h3, M.acs_ok h.ok x⟩, h3⟩
theorem AS.promised (h : AS w0 w F b a) : Calls prog 71 #[.pointer (some ⟨b, 0, none⟩)] w fun e w' => e = .returned (bV a.p) ∧ Bl w w' := by
 obtain ⟨v, rfl, hX⟩ := h.ai; exact promised_any hX
theorem AS.base (h : AS w0 w F b a) : Calls prog 92 #[.pointer (some ⟨b, 0, none⟩)] w fun e w' => e = .returned (.int .i64 a.base) ∧ w' = w := by
 obtain ⟨v, rfl, hX⟩ := h.ai; exact base_any hX
end
def veq (s i t : Int) (v : ByteArray) (s' i' t' : Int) (v' : ByteArray) : Bool := (s == s') && (((i == i') && (t == t')) && (v.toList == v'.toList))
theorem equal126 (s i t : Int) (v : ByteArray) (s' i' t' : Int) (v' : ByteArray) (w : World) : (Op.equalIn 10000 126 (.agg #[.int .i64 s, .int .i64 i, .int .i64 t, .string v]) (.agg #[.int .i64 s', .int .i64 i', .int .i64 t', .string v'])).run prog w = .ok (veq s i t v s' i' t' v') w := by
 have u3 := underlying3; have u9 := underlying9; have a3 := Tryz.isAgg3; have a9 := Tryz.isAgg9; have a28 := Tryz.isAgg42; have z3 := Tryz.sizeOf3; have z9 := Tryz.sizeOf9; have z28 := Tryz.sizeOf42; have hS : prog.underlying 126 = some (.struct (prog.fieldsOf 126)) := by kernel_rfl
 have hp : prog.stoodInHeld 126 = false := by kernel_rfl
 rw [show (10000 : Nat) = 9999 + 1 from rfl, run_equalIn_agg w 9999 126 _ _ hS hp]; clear hS hp; simp only [Program.fieldsOf, underlying126]; unfold veq; cases h1 : s == s' with
 | false => go_simp
 | true =>
  cases h2 : i == i' with
  | false =>
   have n2 : ¬ (i = i') := by simpa using h2
   go_simp
  | true =>
   have n2 : i = i' := by simpa using h2
   cases h3 : t == t' with
   | false =>
    have n3 : ¬ (t = t') := by simpa using h3
    go_simp
   | true =>
    have n3 : t = t' := by simpa using h3
    go_simp; by_cases h : v.toList = v'.toList
    ·simp [h]
    ·simp [h]
theorem ql126 (s i t : Int) (v : ByteArray) (s' i' t' : Int) (v' : ByteArray) (w : World) : (binOp .eql 126 (.agg #[.int .i64 s, .int .i64 i, .int .i64 t, .string v]) (.agg #[.int .i64 s', .int .i64 i', .int .i64 t', .string v'])).run prog w = .ok (.bool (veq s i t v s' i' t' v')) w := by
 rw [run_eql_struct, equal126]; rfl
end Go.Proofs.YtgodnpngdbelhaaGreat.Na
namespace Go.Proofs.YtgodnpngdbelhaaGreat.Np
open Go.RowKit Go.Maps
open Go.Proofs.YtgodnpngdbelhaaGreat.M (E V)
open Go.Proofs.YtgodnpngdbelhaaGreat.Np.M (fup)
abbrev bV (x : E) : Value := .agg #[.int .i64 x.i, .int .i64 x.t]
abbrev vV (x : V) : Value := .agg #[.int .i64 x.s, .int .i64 x.b.i, .int .i64 x.b.t, .string x.v]
def oenc (x : V) : DataW Unit := .agg [.lit (.int .i64 x.s), .lit (.int .i64 x.b.i), .lit (.int .i64 x.b.t), .lit (.string x.v.data.toList)]
def outR : Value → Option (DataW Unit × List MemPlace)
 | .agg ⟨[.int .i64 a, .int .i64 b, .int .i64 c, .string s]⟩ => some (oenc ⟨a, ⟨b, c⟩, s⟩, [])
 | _ => none
theorem outR_mk (p : V) : outR (vV p) = some (oenc p, []) := rfl
theorem oenc_inj {p q : V} (h : oenc p = oenc q) : p = q := by
 obtain ⟨a, ⟨b, c⟩, s⟩ := p; obtain ⟨a', ⟨b', c'⟩, t⟩ := q; simp only [oenc, DataW.agg.injEq, List.cons.injEq, DataW.lit.injEq, Lit.int.injEq, Lit.string.injEq, and_true, true_and] at h; obtain ⟨rfl, rfl, rfl, h2⟩ := h; have : s = t := by
  apply ByteArray.ext
  exact Array.ext' h2
 rw [this]
theorem outR_inv {v : Value} {p : V} {ps : List MemPlace} (h : outR v = some (oenc p, ps)) : v = vV p := by
 unfold outR at h
 split at h
 ·simp only [Option.some.injEq, Prod.mk.injEq] at h; have := oenc_inj h.1; subst this; rfl
 ·cases h
theorem law3 : Keyed prog 3 := int_keyed underlying3
def zo : V := ⟨0, ⟨0, 0⟩, ⟨#[]⟩⟩
theorem zero126 (w : World) : (zeroValue 126).run prog w = .ok (vV zo) w := by kernel_rfl
def MI (w : World) (m n : Nat) (f : Int → Option V) : Prop := ∃ D : DataW Unit, w.ownsMap prog 3 outR m n D ∧ ∀ k, D.atKey (.int .i64 k) (oenc zo) = oenc ((f k).getD zo) ∧ Maps.has D (.int .i64 k) = (f k).isSome
structure MT (w : World) (m : Nat) (w' : World) : Prop where
 os : w'.os = w.os
 tape : w'.tape = w.tape
 output : w'.output = w.output
 size : w'.heap.size = w.heap.size
 block : ∀ k, k ≠ m → w'.heap[k]? = w.heap[k]?
 frozen : ∀ a, w'.frozen? a = w.frozen? a
theorem MT.of {w w' : World} {m : Nat} (h : w.mapTurned w' m) : MT w m w' := by
 have hf := fun a => h.frozen a; obtain ⟨es, clock, es', clock', hb, rfl⟩ := h; exact ⟨rfl, rfl, rfl, by simp [ChangeMaps.setBlock], fun k hk => ChangeMaps.heap_setBlock_other hb _ hk, hf⟩
section
variable {w w' : World} {m n : Nat} {f : Int → Option V}
theorem MI.keep (h : MI w m n f) (hk : w'.heap[m]? = w.heap[m]?) : MI w' m n f := by
 obtain ⟨D, ⟨es, clock, hb, rest⟩, hD⟩ := h; exact ⟨D, ⟨es, clock, hk.trans hb, rest⟩, hD⟩
theorem MI.lt (h : MI w m n f) : m < w.heap.size := by
 obtain ⟨D, h, _⟩ := h; exact h.lt
theorem MI.ne (h : MI w m n f) {b : Nat} {cs : Array Value} {t : TypeId} {z : Nat × Nat} (hb : w.heap[b]? = some (.cells cs t z)) : b ≠ m := by
 obtain ⟨D, ⟨es, clock, hm, _⟩, _⟩ := h; intro e; subst e; rw [hm] at hb; cases hb
theorem MI.look (h : MI w m n f) (k : Int) (hk : (Lit.int .i64 k).wf = true) : (Instr.lookup 135 (.map (some m)) (.int .i64 k) false).run prog w = .ok (vV ((f k).getD zo)) w := by
 obtain ⟨D, h, hD⟩ := h; obtain ⟨v, ps, hrun, hv⟩ := h.lookup law3 underlying135 (zero126 w) (zd := oenc zo) (zp := []) rfl (keyOf_int_mk underlying3 hk); rw [(hD k).1] at hv; rw [hrun, outR_inv hv]
theorem MI.lookOk (h : MI w m n f) (k : Int) (hk : (Lit.int .i64 k).wf = true) : (Instr.lookup 135 (.map (some m)) (.int .i64 k) true).run prog w = .ok (.tuple #[vV ((f k).getD zo), .bool (f k).isSome]) w := by
 obtain ⟨D, h, hD⟩ := h; obtain ⟨v, ps, hrun, hv⟩ := h.look_ok law3 underlying135 (zero126 w) (zd := oenc zo) (zp := []) rfl (keyOf_int_mk underlying3 hk); rw [(hD k).1] at hv; rw [hrun, outR_inv hv, (hD k).2]
theorem lit_ne {j k : Int} (h : j ≠ k) : (Lit.int .i64 j) ≠ (Lit.int .i64 k) := fun e => h (by cases e; rfl)
theorem MI.put (h : MI w m n f) (k : Int) (hk : (Lit.int .i64 k).wf = true) (p : V) (hn : n < maxLen) :
  ∃ w', (Instr.mapUpdate 135 (.map (some m)) (.int .i64 k) (vV p)).run prog w = .ok () w' ∧ MI w' m (n + 1) (fup f k (some p)) ∧ MT w m w' := by
 obtain ⟨D, h, hD⟩ := h; obtain ⟨w', hrun, h', ht⟩ := h.store law3 underlying135 hn (keyOf_int_mk underlying3 hk) (outR_mk p); refine ⟨w', hrun, ⟨_, h', fun j => ?_⟩, MT.of ht⟩; unfold fup; by_cases hj : j = k
 ·subst hj; rw [if_pos rfl, atKey_put_same h.isMap (law3.key (keyOf_int_mk underlying3 hk)), Maps.has_put_same h.isMap (law3.key (keyOf_int_mk underlying3 hk))]; exact ⟨rfl, rfl⟩
 ·rw [if_neg hj, atKey_put_other (lit_ne hj), Maps.has_put_other (lit_ne hj)]; exact hD j
theorem MI.made (w : World) : MI (w.alloc (.map #[] 0)) w.heap.size 0 (fun _ => none) := ⟨_, World.ownsMap_made _ _ _ _, fun _ => ⟨rfl, rfl⟩⟩
end
end Go.Proofs.YtgodnpngdbelhaaGreat.Np
namespace Go.Proofs.YtgodnpngdbelhaaGreat.Np
open Go.RowKit
open Go.Proofs.YtgodnpngdbelhaaGreat.M (E V)
def put2 (w : World) (g : Nat) (a b : Value) : World := (w.setCell ⟨g, 0, none⟩ a).setCell ⟨g, 1, none⟩ b
theorem put2_row {w : World} {g : Nat} {t : TypeId} {v0 v1 : Value} (h : w.heap[g]? = some (.cells #[v0, v1] t (0, 0))) (a b : Value) : (put2 w g a b).heap[g]? = some (.cells #[a, b] t (0, 0)) :=
 heap_setCell_same _ g 1 _ _ _ (heap_setCell_same w g 0 _ _ _ h)
theorem put2_bel {w0 w : World} {B g : Nat} (h : Below B w0 w) (hg : B ≤ g) (a b : Value) : Below B w0 (put2 w g a b) := (h.setCell hg _).setCell hg _
theorem put2_oth {w : World} {g k : Nat} (h : k ≠ g) (a b : Value) : (put2 w g a b).heap[k]? = w.heap[k]? := by
 unfold put2; rw [heap_setCell_other _ ⟨g, 1, none⟩ k _ h, heap_setCell_other _ ⟨g, 0, none⟩ k _ h]
theorem greatest_any (a : Option Addr) (cap : Nat) (l : List E) (w : World) (hat : AtL bl w a l) (hl : l.length ≤ 1000000) :
  Calls prog 121 #[.slice a l.length cap] w fun e w' => e = .returned (.int .i64 (M.bi l l.length)) ∧ Bl w w' := by
 go_enter func121, ntmps121; go_wp2; go_loopw [3, 8] (fun be i wr => ∃ k : Nat, k ≤ l.length ∧ i = .int .i64 k ∧ be = .int .i64 (M.bi l k) ∧ Bl w wr) (fun _ i _ => l.length - (intOf i).toNat)
 case atStart => exact ⟨0, by omega, rfl, rfl, Below.refl _ _⟩
 case round =>
  obtain ⟨k, hk, rfl, rfl, hb⟩ := hrel; have HB := Hf hb; by_cases hlt : k < l.length
  ·have hat' := hat.keep hb; obtain ⟨b, off, rfl, c0, c1⟩ := hat'.getB k hlt; have hki : (k : Int) < (l.length : Int) := by omega
   obtain ⟨x, HX⟩ := Nh (l[k]); rw [HX.out] at c0 c1; obtain ⟨W2, HW2⟩ := Nh (wr.alloc (.cells #[.int .i64 x.i, .int .i64 x.t] 42)); have HB2 : Hid (Bl w W2) := by rw [← HW2.out]; exact Bu HB.out (bel1 wr _) Lr
   have HX2 : Hid (∀ w', Bl W2 w' → w'.cell? ⟨wr.heap.size, 0, none⟩ = some (.int .i64 x.i) ∧ w'.cell? ⟨wr.heap.size, 1, none⟩ = some (.int .i64 x.t)) := fun w' hw' => by
    have h2 := Ac HW2; exact (row2 (Br h2 hw')).1
   have HL2 : Hid (∀ w', Bl W2 w' → AtL bl w' (some ⟨b, off, none⟩) l) := fun w' hw' => hat.keep (Bu HB2.out hw' Lr); clear hat hat' hb; rcases Nat.eq_zero_or_pos k with h0 | h0
   ·subst h0; have HE : Hid (M.bi l 1 = 0) := rfl; rw [M.bi_zero]; have c0' : wr.cell? ⟨b, off, none⟩ = some (.int .i64 x.i) := by simpa using c0
    have c1' : wr.cell? ⟨b, off + 1, none⟩ = some (.int .i64 x.t) := by simpa using c1
    have HS := HX2; clear HX2 HL2 c0 c1 HX; go_upto_region 5 with fail
    rw [HW2.out]; clear HW2; refine wp_region_held_drew (S := fun wq => Below (W2).heap.size (W2) wq) (by kernel_rfl) (Below.drew (Below.refl _ _)) fun Hl => ?_; refine Tm 0 Hl ?_; simp only [Act.put, Pz]; refine Tm 1 Hl ?_; simp only [Act.put, Pz]; refine Tm 2 Hl ?_; simp only [Act.put, Pz]; refine Ts 3 Hl ?_; simp only [Act.put, Pz]; refine Ts 4 Hl ?_; simp only [Act.put, Pz]; refine Ts 5 Hl ?_; simp only [Act.put, Pz]; refine Ts 6 Hl ?_; simp only [Act.put, Pz]; refine Ts 7 Hl ?_; simp only [Act.put, Pz]; refine Ts 8 Hl ?_; simp only [Act.put, Pz]; refine Ts 9 Hl ?_; simp only [Act.put, Pz]; refine Tm 10 Hl ?_; simp only [Act.put, Pz]; refine Wd ?_; go_wp2; go_roundw
    case rel => exact ⟨1, by omega, by go_num, by rw [HE.out]; rfl, Bu HB2.out Hl Lr⟩
    case measure => simp [intOf]; omega
   ·obtain ⟨p, y, r, hpn, HBI, HR, HS, HN1, HN2⟩ : ∃ (p : Nat) (y : E) (r : Int), p < l.length ∧ Hid (M.bi l k = (p : Int)) ∧ Hid (M.cmpE x y = r) ∧ Hid (∀ w', Bl W2 w' → (w'.cell? ⟨wr.heap.size, 0, none⟩ = some (.int .i64 x.i) ∧ w'.cell? ⟨wr.heap.size, 1, none⟩ = some (.int .i64 x.t)) ∧ (w'.cell? ⟨b, off + p * 2, none⟩ = some (.int .i64 y.i) ∧ w'.cell? ⟨b, off + p * 2 + 1, none⟩ = some (.int .i64 y.t))) ∧ Hid (0 < r → M.bi l (k + 1) = (k : Int)) ∧ Hid (¬ 0 < r → M.bi l (k + 1) = (p : Int)) := by
     have hp := M.bst_lt l k h0; have hst := M.bst_step l k h0 hlt; have hb1 := M.bi_pos l (show 0 < k + 1 by omega); rw [HX.out] at hst; refine ⟨M.bst l k, l[M.bst l k]'(by omega), _, by omega, M.bi_pos l h0, Hf rfl, Hf fun w' hw' => ⟨HX2.out w' hw', ?_⟩, Hf fun hr => ?_, Hf fun hr => ?_⟩
     ·obtain ⟨b', off', e, y0, y1⟩ := (HL2.out w' hw').getB (M.bst l k) (by omega); cases e; exact ⟨y0, y1⟩
     ·rw [hb1, hst, if_pos hr]
     ·rw [hb1, hst, if_neg hr]
    have hpi : (p : Int) < (l.length : Int) := by omega
    have hp0 : decide ((p : Int) < 0) = false := decide_eq_false (by omega); rw [HBI.out]; clear HX2 HL2 HBI HX; by_cases hr : 0 < r
    ·have HE := Hf (HN1.out hr); have dr : decide (0 < r) = true := decide_eq_true hr; clear HN1 HN2 hr; go_upto_region 5 with fail
     rw [HW2.out]; clear HW2; refine wp_region_held_drew (S := fun wq => Below (W2).heap.size (W2) wq) (by kernel_rfl) (Below.drew (Below.refl _ _)) fun Hl => ?_; refine Tm 0 Hl ?_; simp only [Act.put, Pz]; refine Tm 1 Hl ?_; simp only [Act.put, Pz]; refine Tm 2 Hl ?_; simp only [Act.put, Pz]; refine Tj 3 Hl ?_; simp only [Act.put, Pz]; refine Tm 4 Hl ?_; simp only [Act.put, Pz]; refine Tm 5 Hl ?_; simp only [Act.put, Pz]; refine Tm 6 Hl ?_; simp only [Act.put, Pz]; refine Tj 7 Hl ?_; simp only [Act.put, Pz]; refine Rd 8 ?pT ?sT; intro K hK; go_simp; have cc := cmp_any x y; rw [HR.out] at cc; refine (cc _).mono ?_; clear cc; rintro e w3 ⟨rfl, hb3⟩; have B3 : Bl W2 w3 := Hl.trans (hb3.mono Hl.size); clear hb3; refine hK.out _ _ B3 fun Hl => ?_; refine Tm 9 Hl ?_; simp only [Act.put, Pz]; refine Tm 10 Hl ?_; simp only [Act.put, Pz]; refine Wd ?_; go_wp2; go_roundw
     case rel => exact ⟨k + 1, by omega, by go_num, by rw [HE.out], Bu HB2.out Hl Lr⟩
     case measure => simp [intOf]; omega
    ·have HE := Hf (HN2.out hr); have dr : decide (0 < r) = false := decide_eq_false hr; clear HN1 HN2 hr; go_upto_region 5 with fail
     rw [HW2.out]; clear HW2; refine wp_region_held_drew (S := fun wq => Below (W2).heap.size (W2) wq) (by kernel_rfl) (Below.drew (Below.refl _ _)) fun Hl => ?_; refine Tm 0 Hl ?_; simp only [Act.put, Pz]; refine Tm 1 Hl ?_; simp only [Act.put, Pz]; refine Tm 2 Hl ?_; simp only [Act.put, Pz]; refine Tj 3 Hl ?_; simp only [Act.put, Pz]; refine Tm 4 Hl ?_; simp only [Act.put, Pz]; refine Tm 5 Hl ?_; simp only [Act.put, Pz]; refine Tm 6 Hl ?_; simp only [Act.put, Pz]; refine Tj 7 Hl ?_; simp only [Act.put, Pz]; refine Rd 8 ?pe ?se; intro K hK; go_simp; have cc := cmp_any x y; rw [HR.out] at cc; refine (cc _).mono ?_; clear cc; rintro e w3 ⟨rfl, hb3⟩; have B3 : Bl W2 w3 := Hl.trans (hb3.mono Hl.size); clear hb3; refine hK.out _ _ B3 fun Hl => ?_; refine Tm 9 Hl ?_; simp only [Act.put, Pz]; refine Tm 10 Hl ?_; simp only [Act.put, Pz]; refine Wd ?_; go_wp2; go_roundw
     case rel => exact ⟨k + 1, by omega, by go_num, by rw [HE.out], Bu HB2.out Hl Lr⟩
     case measure => simp [intOf]; omega
  ·obtain rfl : k = l.length := by omega
   clear hat; go_wp2; go_ret; exact ⟨rfl, HB.out⟩
theorem f96_res : Tryz.f96.results = #[.cell 2 42] := rfl
theorem max_any (a : Option Addr) (cap : Nat) (l : List E) (w : World) (hat : AtL bl w a l) (hl : l.length ≤ 1000000) :
  Calls prog 96 #[.slice a l.length cap] w fun e w' => e = .returned (.agg #[.int .i64 (M.bx l l.length).i, .int .i64 (M.bx l l.length).t]) ∧ Bl w w' := by
 obtain ⟨z, HZ⟩ := Nh (M.bx l l.length); rw [HZ.out]; have hr1 := heap_alloc_last w (.cells #[.int .i64 0, .int .i64 0] 42); obtain ⟨W1, HW1⟩ := Nh (w.alloc (.cells #[.int .i64 0, .int .i64 0] 42)); have HB1 : Hid (Bl w W1) := by rw [← HW1.out]; exact bel1 w _
 rw [HW1.out] at hr1; have HR1 := Hf hr1; clear hr1; go_enter func96, ntmps96; go_upto_region 1 with fail
 rw [HW1.out]; clear HW1; go_wp2_with fail; refine (greatest_any a cap l W1 (hat.keep HB1.out) hl).mono ?_; rintro e w2 ⟨rfl, hb2⟩; have HB2 := Hf (Bu HB1.out hb2 Lr); have hr2 := Br HR1.out hb2; have HR2 := Hf hr2; obtain ⟨x0, xf⟩ := row2 hr2; have f0 := xf 0; have f1 := xf 1; have hat2 := hat.keep HB2.out; clear xf hr2 hat HB1 HR1 hb2; rcases Nat.eq_zero_or_pos l.length with h0 | h0
 ·have e1 : M.bi l l.length = -1 := by rw [h0]; rfl
  obtain rfl : z = ⟨0, 0⟩ := by rw [← HZ.out, h0]; rfl
  rw [e1]; clear e1 hat2 h0 HZ; go_wp2; refine bodyPost_ret (v := .agg #[.int .i64 0, .int .i64 0]) ?_ rfl ⟨rfl, put2_bel HB2.out Lr _ _⟩; exact results_cell_row f96_res _ _ w.heap.size 42 _ (0, 0) _ rfl (put2_row HR2.out _ _) underlying42 rfl Tryz.size42
 ·have hp := M.bst_lt l l.length h0; have e1 := M.bi_pos l h0; have e2 := M.bx_pos l h0 Lr; rw [HZ.out] at e2; rw [e1]; obtain ⟨b, off, rfl, c0, c1⟩ := hat2.getB (M.bst l l.length) hp; rw [← e2] at c0 c1; clear e1 e2 hat2 h0 HZ; generalize M.bst l l.length = p at *; have hpi : (p : Int) < (l.length : Int) := by omega
  have hp0 : decide ((p : Int) < 0) = false := decide_eq_false (by omega); go_wp2; refine bodyPost_ret (v := .agg #[.int .i64 z.i, .int .i64 z.t]) ?_ rfl ⟨rfl, put2_bel HB2.out Lr _ _⟩; exact results_cell_row f96_res _ _ w.heap.size 42 _ (0, 0) _ rfl (put2_row HR2.out _ _) underlying42 rfl Tryz.size42
theorem hi42 : prog.info? 42 = some Tryz.t42 := by kernel_rfl
def lst (l : List V) (k : Nat) : List E := (l.map V.b).take k ++ List.replicate (l.length - k) ⟨0, 0⟩
theorem lst_len (l : List V) (k : Nat) (h : k ≤ l.length) : (lst l k).length = l.length := by
 unfold lst; rw [List.length_append, List.length_take, List.length_map, List.length_replicate, Nat.min_eq_left h]; omega
theorem lst_all (l : List V) : lst l l.length = l.map V.b := by
 unfold lst; rw [Nat.sub_self, List.replicate_zero, List.append_nil, List.take_of_length_le (by simp)]
theorem lst_set (l : List V) (k : Nat) (h : k < l.length) : (lst l k).set k l[k].b = lst l (k + 1) := by
 unfold lst; obtain ⟨m, hm⟩ : ∃ m, l.length - k = m + 1 := ⟨l.length - k - 1, by omega⟩; have hA : ((l.map V.b).take k).length = k := by rw [List.length_take, List.length_map]; omega
 rw [hm, show l.length - (k + 1) = m by omega, List.replicate_succ, List.set_append_right _ _ (by omega), hA, Nat.sub_self, List.set_cons_zero]; rw [List.take_add_one, List.getElem?_map, List.getElem?_eq_getElem h, List.append_assoc]; rfl
theorem rep_cells : ∀ n, bl.cells (List.replicate n ⟨0, 0⟩) = (List.range (n * 2)).map (fun i => (#[Value.int .i64 0, Value.int .i64 0])[i % 2]!)
 | 0 => rfl
 | n + 1 => by
  rw [List.replicate_succ', Ly.app, rep_cells n, show (n + 1) * 2 = n * 2 + 1 + 1 by omega, List.range_succ, List.range_succ, List.map_append, List.map_append, List.append_assoc]; have e1 : n * 2 % 2 = 0 := by omega
  have e2 : (n * 2 + 1) % 2 = 1 := by omega
  simp only [List.map_cons, List.map_nil, e1, e2]; rfl
theorem made (n : Nat) : madeCells (Value.agg #[.int .i64 0, .int .i64 0]).cells (n * 2) = (bl.cells (List.replicate n ⟨0, 0⟩)).toArray := by
 rw [rep_cells]; apply Array.ext'; unfold madeCells; rw [Array.toList_map, Array.toList_range]; rfl
def BOut (w : World) (l : List V) (e : Ending) (w' : World) : Prop := ∃ a, e = .returned (.slice a l.length l.length) ∧ AtL bl w' a (l.map V.b) ∧ Bl w w'
theorem at_row {w : World} {g : Nat} {l : List E} (h : w.heap[g]? = some (.cells (bl.cells l).toArray 42 (0, 0))) : AtL bl w (some ⟨g, 0, none⟩) l := by
 intro j hj; refine ⟨g, 0, rfl, fun q hq => ?_⟩; rw [cell_of_row w g _ _ _ _ h, List.getElem?_toArray, Nat.zero_add]; exact bl.get l j hj q hq
theorem set_row {w : World} {g : Nat} {l : List E} (k : Nat) (hk : k < l.length) (x : E) (h : w.heap[g]? = some (.cells (bl.cells l).toArray 42 (0, 0))) :
  (w.cell? ⟨g, k * 2, none⟩ = some (.int .i64 l[k].i) ∧ w.cell? ⟨g, k * 2 + 1, none⟩ = some (.int .i64 l[k].t) ∧ w.frozen? ⟨g, k * 2, none⟩ = false ∧ w.frozen? ⟨g, k * 2 + 1, none⟩ = false) ∧ ((w.setCell ⟨g, k * 2, none⟩ (.int .i64 x.i)).setCell ⟨g, k * 2 + 1, none⟩ (.int .i64 x.t)).heap[g]? = some (.cells (bl.cells (l.set k x)).toArray 42 (0, 0)) := by
 obtain ⟨b, off, e, c0, c1⟩ := (at_row h).getB k hk; cases e; rw [Nat.zero_add] at c0 c1; refine ⟨⟨c0, c1, frozen_of_row w g _ _ _ h, frozen_of_row w g _ _ _ h⟩, ?_⟩; have h1 := heap_setCell_same w g (k * 2) _ _ (.int .i64 x.i) h; have h2 := heap_setCell_same _ g (k * 2 + 1) _ _ (.int .i64 x.t) h1; rw [h2]; have e1 := bl.set1 l k hk 0 (by decide) ⟨x.i, l[k].t⟩ (.int .i64 x.i) rfl; have e2 := bl.set1 (l.set k ⟨x.i, l[k].t⟩) k (by simpa using hk) 1 (by decide) x (.int .i64 x.t) (by simp [bl]); rw [← e1, List.set_set] at e2; have e3 : (((bl.cells l).toArray.setIfInBounds (k * 2) (.int .i64 x.i)).setIfInBounds (k * 2 + 1) (.int .i64 x.t)) = (bl.cells (l.set k x)).toArray := by
  rw [← e2]; simp [bl]
 rw [e3]
theorem ballots_any (a : Option Addr) (cap : Nat) (l : List V) (w : World) (hat : AtL vl w a l) (hl : l.length ≤ 1000000) :
  Calls prog 146 #[.slice a l.length cap] w (BOut w l) := by
 have hmk : (Instr.makeSlice 163 (.int .i64 (l.length : Int)) (.int .i64 (l.length : Int))).run prog w = .ok (.slice (some ⟨w.heap.size, 0, none⟩) l.length l.length) (w.alloc (.cells (bl.cells (List.replicate l.length ⟨0, 0⟩)).toArray 42)) := by
  have h := run_make (P := prog) w 163 42 Tryz.t42 (.agg #[.int .i64 0, .int .i64 0]) underlying163 hi42 rfl .i64 .i64 (l.length : Int) (l.length : Int) (by omega) (by omega) (by show (16 : Int) * _ ≤ _; omega) (by omega); rw [show Tryz.t42.size = 2 from rfl, Int.toNat_natCast, made] at h; exact h
 have hrow := heap_alloc_last w (.cells (bl.cells (List.replicate l.length ⟨0, 0⟩)).toArray 42); obtain ⟨W1, HW1⟩ := Nh (w.alloc (.cells (bl.cells (List.replicate l.length ⟨0, 0⟩)).toArray 42)); have HB1 : Hid (Bl w W1) := by rw [← HW1.out]; exact bel1 w _
 rw [HW1.out] at hmk hrow; have HR1 : Hid (W1.heap[w.heap.size]? = some (.cells (bl.cells (lst l 0)).toArray 42 (0, 0))) := by
  have e : lst l 0 = List.replicate l.length ⟨0, 0⟩ := by unfold lst; simp
  rw [e]; exact hrow
 clear hrow HW1; go_enter func146, ntmps146; go_wp2; go_loopw [11] (fun i wr => ∃ k : Nat, k ≤ l.length ∧ i = .int .i64 k ∧ Bl w wr ∧ Hid (wr.heap[w.heap.size]? = some (.cells (bl.cells (lst l k)).toArray 42 (0, 0)))) (fun i _ => l.length - (intOf i).toNat)
 case atStart => exact ⟨0, by omega, rfl, HB1.out, HR1⟩
 case round =>
  obtain ⟨k, hk, rfl, hb, HR⟩ := hrel; have HB := Hf hb; by_cases hlt : k < l.length
  ·have hki : (k : Int) < (l.length : Int) := by omega
   have HSE := Hf (lst_set l k hlt); obtain ⟨b, off, rfl, c0, c1, c2, c3⟩ := (hat.keep hb).getV k hlt; obtain ⟨x, HX⟩ := Nh (l[k]); rw [HX.out] at c0 c1 c2 c3 HSE; have hr2 := heap_alloc_last wr (.cells #[.int .i64 x.s, .int .i64 x.b.i, .int .i64 x.b.t, .string x.v] 126); obtain ⟨W2, HW2⟩ := Nh (wr.alloc (.cells #[.int .i64 x.s, .int .i64 x.b.i, .int .i64 x.b.t, .string x.v] 126)); have HBW : Hid (Bl wr W2) := by rw [← HW2.out]; exact bel1 wr _
   have HB2 : Hid (Bl w W2) := Bu HB.out HBW.out Lr; rw [HW2.out] at hr2; obtain ⟨y0, -⟩ := row4 hr2; have hlen := lst_len l k hk; obtain ⟨⟨z0, z1, f0, f1⟩, hz⟩ := set_row k (by omega) x.b (Br HR.out HBW.out); have HZ := Hf hz; generalize (lst l k)[k].i = u0 at *; generalize (lst l k)[k].t = u1 at *; clear hat hb hr2 hz hlen HR hmk; go_upto_region 5 with fail
   rw [HW2.out]; clear HW2 c0 c1 c2 c3; go_wp2; go_roundw
   case rel => exact ⟨k + 1, by omega, by go_num, (HB2.out.setCell Lr _).setCell Lr _, by rw [← HSE.out]; exact HZ⟩
   case measure => simp [intOf]; omega
  ·obtain rfl : k = l.length := by omega
   have HA : Hid (AtL bl wr (some ⟨w.heap.size, 0, none⟩) (l.map V.b)) := by
    have := at_row HR.out; rw [lst_all] at this; exact this
   clear hat hb HR hmk; go_wp2; go_ret
   exact ⟨_, rfl, HA.out, HB.out⟩
def put4 (w : World) (g : Nat) (a b c d : Value) : World := (((w.setCell ⟨g, 0, none⟩ a).setCell ⟨g, 1, none⟩ b).setCell ⟨g, 2, none⟩ c).setCell ⟨g, 3, none⟩ d
theorem put4_row {w : World} {g : Nat} {t : TypeId} {v0 v1 v2 v3 : Value} (h : w.heap[g]? = some (.cells #[v0, v1, v2, v3] t (0, 0))) (a b c d : Value) : (put4 w g a b c d).heap[g]? = some (.cells #[a, b, c, d] t (0, 0)) :=
 heap_setCell_same _ g 3 _ _ _ (heap_setCell_same _ g 2 _ _ _ (heap_setCell_same _ g 1 _ _ _ (heap_setCell_same w g 0 _ _ _ h)))
theorem put4_bel {w0 w : World} {B g : Nat} (h : Below B w0 w) (hg : B ≤ g) (a b c d : Value) : Below B w0 (put4 w g a b c d) := (((h.setCell hg _).setCell hg _).setCell hg _).setCell hg _
theorem put4_oth {w : World} {g k : Nat} (h : k ≠ g) (a b c d : Value) : (put4 w g a b c d).heap[k]? = w.heap[k]? := by
 unfold put4; rw [heap_setCell_other _ ⟨g, 3, none⟩ k _ h, heap_setCell_other _ ⟨g, 2, none⟩ k _ h, heap_setCell_other _ ⟨g, 1, none⟩ k _ h, heap_setCell_other _ ⟨g, 0, none⟩ k _ h]
theorem res4 {fn : Func} {p u : Tmp} (h : fn.results = #[.cell p 126, .tmp u]) (tmps : Array Value) (w : World) (g : Nat) (v0 v1 v2 v3 : Value) (hp : tmps.getD p undef = .pointer (some ⟨g, 0, none⟩)) (hg : w.heap[g]? = some (.cells #[v0, v1, v2, v3] 126 (0, 0))) :
  (results fn tmps).run prog w = .ok (.tuple #[.agg #[v0, v1, v2, v3], tmps.getD u undef]) w := by
 have hp' : tmps[p]?.getD undef = .pointer (some ⟨g, 0, none⟩) := by simpa using hp
 rw [results_cell_tmp h]; simp [asAddr, hp', run_loadVar_row w g 126 126 #[v0, v1, v2, v3] (0, 0) _ hg underlying126 rfl Tryz.size126]
theorem f143_res : Tryz.f143.results = #[.cell 2 126, .tmp 3] := rfl
theorem pick_any (a : Option Addr) (cap : Nat) (l : List V) (w : World) (hat : AtL vl w a l) (hl : l.length ≤ 1000000) (hv : ∀ x ∈ l, x.v.size ≤ 140737488351232) :
  Calls prog 143 #[.slice a l.length cap] w fun e w' => e = .returned (.tuple #[.agg #[.int .i64 (M.vx l l.length).s, .int .i64 (M.vx l l.length).b.i, .int .i64 (M.vx l l.length).b.t, .string (M.vx l l.length).v], .bool (decide (0 < l.length))]) ∧ Bl w w' := by
 obtain ⟨z, HZ⟩ := Nh (M.vx l l.length); rw [HZ.out]; obtain ⟨nz, HNZ⟩ := Nh (decide (0 < l.length)); rw [HNZ.out]; have hr1 := heap_alloc_last w (.cells #[.int .i64 0, .int .i64 0, .int .i64 0, .string ⟨#[]⟩] 126); obtain ⟨W1, HW1⟩ := Nh (w.alloc (.cells #[.int .i64 0, .int .i64 0, .int .i64 0, .string ⟨#[]⟩] 126)); have HB1 : Hid (Bl w W1) := by rw [← HW1.out]; exact bel1 w _
 rw [HW1.out] at hr1; have HR1 := Hf hr1; clear hr1; go_enter func143, ntmps143; go_upto_region 1 with fail
 rw [HW1.out]; clear HW1; go_wp2_with fail; refine (ballots_any a cap l W1 (hat.keep HB1.out) hl).mono ?_; rintro e w2 ⟨a2, rfl, hat2, hb2⟩; have hlm : (l.map V.b).length = l.length := by simp
 have hg := greatest_any a2 l.length (l.map V.b) w2 hat2 (by omega); rw [hlm] at hg; have HB2 := Hf (Bu HB1.out hb2 Lr); have HR2 := Hf (Br HR1.out hb2); clear hb2 hlm hat2 HB1 HR1; go_wp2_with fail; refine hg.mono ?_; clear hg; rintro e w3 ⟨rfl, hb3⟩; have HB3 := Hf (Bu HB2.out hb3 Lr); have hr3 := Br HR2.out hb3; have HR3 := Hf hr3; obtain ⟨x0, xf⟩ := row4 hr3; have f0 := xf 0; have f1 := xf 1; have f2 := xf 2; have f3 := xf 3; have hat3 := hat.keep HB3.out; clear xf hr3 hat HB2 HR2 hb3; rcases Nat.eq_zero_or_pos l.length with h0 | h0
 ·have e1 : M.bi (l.map V.b) l.length = -1 := by rw [h0]; rfl
  obtain rfl : z = ⟨0, ⟨0, 0⟩, ⟨#[]⟩⟩ := by rw [← HZ.out, h0]; rfl
  obtain rfl : nz = false := by rw [← HNZ.out, h0]; rfl
  rw [e1]; clear e1 hat3 h0 HZ HNZ hv; go_wp2; refine bodyPost_ret (v := .tuple #[.agg #[.int .i64 0, .int .i64 0, .int .i64 0, .string ⟨#[]⟩], .bool false]) ?_ rfl ⟨rfl, put4_bel HB3.out Lr _ _ _ _⟩; exact res4 f143_res _ _ w.heap.size _ _ _ _ rfl (put4_row HR3.out _ _ _ _)
 ·have hp := M.bst_lt (l.map V.b) l.length h0; have e1 := M.bi_pos (l.map V.b) h0; have e2 := M.vx_pos l h0 Lr; rw [HZ.out] at e2; obtain rfl : nz = true := by rw [← HNZ.out]; exact decide_eq_true h0
  rw [e1]; obtain ⟨b, off, rfl, c0, c1, c2, c3⟩ := hat3.getV (M.bst (l.map V.b) l.length) hp; rw [← e2] at c0 c1 c2 c3; have hzv : z.v.size ≤ 140737488351232 := hv z (by rw [e2]; exact List.getElem_mem _); clear e1 e2 hat3 h0 HZ HNZ hv; generalize M.bst (l.map V.b) l.length = p at *; have hpi : (p : Int) < (l.length : Int) := by omega
  have hp0 : decide ((p : Int) < 0) = false := decide_eq_false (by omega); have hr4 := heap_alloc_last w3 (.cells #[.int .i64 z.s, .int .i64 z.b.i, .int .i64 z.b.t, .string z.v] 126); obtain ⟨W4, HW4⟩ := Nh (w3.alloc (.cells #[.int .i64 z.s, .int .i64 z.b.i, .int .i64 z.b.t, .string z.v] 126)); have HB4 : Hid (Bl w3 W4) := by rw [← HW4.out]; exact bel1 w3 _
  rw [HW4.out] at hr4; have HR4 := Hf hr4; obtain ⟨y0, -⟩ := row4 hr4; clear hr4; go_upto_region 5 with fail
  rw [HW4.out]; clear HW4 c0 c1 c2 c3 x0 f0 f1 f2 f3; go_wp2_with fail; refine (sclone_any z.v W4 hzv).mono ?_; rintro e w5 ⟨rfl, hb5⟩; have hq5 := Br HR4.out hb5; have hR5 := Br (Br HR3.out HB4.out) hb5; have HB5 := Hf (Bu (Bu HB3.out HB4.out Lr) hb5 Lr); have hne : w3.heap.size ≠ w.heap.size := by
   have := (Array.getElem?_eq_some_iff.1 HR3.out).1; omega
  obtain ⟨d0, df⟩ := row4 hq5; have g3 := df 3; have hq6 : (w5.setCell ⟨w3.heap.size, 3, none⟩ (.string z.v)).heap[w3.heap.size]? = some (.cells #[.int .i64 z.s, .int .i64 z.b.i, .int .i64 z.b.t, .string z.v] 126 (0, 0)) := heap_setCell_same w5 _ 3 _ _ _ hq5; have hR6 : (w5.setCell ⟨w3.heap.size, 3, none⟩ (.string z.v)).heap[w.heap.size]? = some (.cells #[.int .i64 0, .int .i64 0, .int .i64 0, .string ⟨#[]⟩] 126 (0, 0)) := (heap_setCell_other w5 ⟨w3.heap.size, 3, none⟩ _ _ (Ne.symm hne)).trans hR5; have HB6 : Hid (Below w.heap.size w (w5.setCell ⟨w3.heap.size, 3, none⟩ (.string z.v))) := Hf (HB5.out.setCell (HB3.out.size) _); obtain ⟨W6, HW6⟩ := Nh (w5.setCell ⟨w3.heap.size, 3, none⟩ (.string z.v)); rw [HW6.out] at hq6 hR6 HB6; have HR6 := Hf hR6; obtain ⟨k0, -⟩ := row4 hq6; obtain ⟨x0, xf⟩ := row4 hR6; have f0 := xf 0; have f1 := xf 1; have f2 := xf 2; have f3 := xf 3; clear xf df hq5 hR5 hq6 hR6 hb5 hne y0 HB5 HR4 HR3 HB4; go_upto_region 6 with fail
  rw [HW6.out]; clear HW6 d0 g3; go_wp2; refine bodyPost_ret (v := .tuple #[.agg #[.int .i64 z.s, .int .i64 z.b.i, .int .i64 z.b.t, .string z.v], .bool true]) ?_ rfl ⟨rfl, put4_bel HB6.out Lr _ _ _ _⟩; exact res4 f143_res _ _ w.heap.size _ _ _ _ rfl (put4_row HR6.out _ _ _ _)
end Go.Proofs.YtgodnpngdbelhaaGreat.Np
