import Derived.Test.YtgodnpngdbelhaaGreatGP23
set_option maxRecDepth 100000
set_option maxHeartbeats 8000000
set_option linter.unusedVariables false
set_option linter.unusedSimpArgs false
open Go.Proofs.Tryz
namespace Go.Proofs.YtgodnpngdbelhaaGreat
open Go.RowKit Go.Maps
open M (E V)
open Rm (NT R)
open Tm (T)
theorem XN.fr {w w' : World} {G G' : Nat → Prop} {base : Nat} {y : RN} (h : XN w (fun k => base ≤ k ∧ ¬ G k) y) (hf : Fr w G w' G') : XN w' (fun k => base ≤ k ∧ ¬ G' k) y :=
 ⟨h.xl.keepBut fun k hk hk2 => hf.block k hk (h.blk k hk2).2.2, fun k hk => ⟨Nat.lt_of_lt_of_le (h.blk k hk).1 hf.size, (h.blk k hk).2.1, not_n hf (h.blk k hk).2.2 (h.blk k hk).1⟩⟩
theorem XS.fr {w w' : World} {G G' : Nat → Prop} {base : Nat} {ad : Option Addr} {c : Nat} {ys : List RN} (h : XS w (fun k => base ≤ k ∧ ¬ G k) ad c ys) (hf : Fr w G w' G') : XS w' (fun k => base ≤ k ∧ ¬ G' k) ad c ys :=
 ⟨h.xl.keepBut fun k hk hk2 => hf.block k hk (h.blk k hk2).2.2, fun k hk => ⟨Nat.lt_of_lt_of_le (h.blk k hk).1 hf.size, (h.blk k hk).2.1, not_n hf (h.blk k hk).2.2 (h.blk k hk).1⟩, fun y hy => (h.all y hy).fr hf⟩
def ClO (w0 w : World) (F X : Nat → Prop) (b : Nat) (r' : R) (l : List NT) (Q : World → Prop) (e : Ending) (w' : World) : Prop := ∃ u G, e = .returned u ∧ NO w G u w' l ∧ RS w0 w' G b r' ∧ Fx w F X w' G ∧ Q w'
def doT (t : T) (i : Int) (r' : R) (l : List NT) : T := if Tm.isT t i = true then Tm.say t i.toNat r' l else t
def RunO (w0 w : World) (b g c : Nat) (F : Nat → Nat → Prop) (bs : Nat → Nat) (u : Value) (ys : List RN) (t : T) (X : Nat → Prop) (Q : World → Prop) (i : Int) (r' : R) (l : List NT) (e : Ending) (w' : World) : Prop :=
 ∃ F' u' ys', e = .returned (.bool (Tm.isT t i)) ∧ TP w0 w' b g c F' bs u' ys' (doT t i r' l) ∧ Fx w (TG b t.n F u) X w' (TG b t.n F' u') ∧ (Tm.isT t i = true → Q w') ∧ (Tm.isT t i = false → Bl w w') ∧ ∀ z ∈ ys', z ∈ ys ∨ ∀ k, blk z.ad k → w.heap.size ≤ k
def sayJ (t : T) (i : Nat) (r : R) (l : List NT) (j : Nat) : T := { t with rs := Tm.upR t.rs i r, way := t.way ++ (l.take j).take (1024 - t.way.length) }
theorem sayJ_all (t : T) (i : Nat) (r : R) (l : List NT) : sayJ t i r l l.length = Tm.say t i r l := by unfold sayJ Tm.say; rw [List.take_length]
theorem sayJ_zero (t : T) (i : Nat) (r : R) (l : List NT) : sayJ t i r l 0 = { t with rs := Tm.upR t.rs i r } := by unfold sayJ; simp
theorem sayJ_succ (t : T) (i : Nat) (r : R) (l : List NT) (j : Nat) (h : j < l.length) : addT (sayJ t i r l j) l[j] = sayJ t i r l (j + 1) := by
 unfold addT; have hl : (sayJ t i r l j).way.length = t.way.length + min (1024 - t.way.length) j := by
  unfold sayJ; simp only [List.length_append, List.length_take]; omega
 have h1 : l.take (j + 1) = l.take j ++ [l[j]] := (List.take_append_getElem h).symm; split
 ·next e =>
  rw [hl] at e; have hj : j < 1024 - t.way.length := by omega
  unfold sayJ; simp only; rw [h1, List.take_of_length_le (l := l.take j) (by rw [List.length_take]; omega), List.take_of_length_le (l := l.take j ++ [l[j]]) (by simp; omega), List.append_assoc]
 ·next e =>
  rw [hl] at e; have hj : 1024 - t.way.length ≤ j := by omega
  unfold sayJ; rw [List.take_take, List.take_take, Nat.min_eq_left hj, Nat.min_eq_left (by omega)]
theorem tg_new {b n i : Nat} {F : Nat → Nat → Prop} {u : Value} {G' : Nat → Prop} {k B : Nat} (h : TG b n (upF F i G') u k) (hm : ∀ k, TG b n F u k → k < B) : G' k ∨ k < B := by
 rcases h with (e | ⟨j, hj, e⟩) | e
 ·exact .inr (hm k (.inl (.inl e)))
 ·by_cases hji : j = i
  ·subst hji; rw [upF_same] at e; exact .inl e
  ·rw [upF_other _ _ hji] at e; exact .inr (hm k (.inl (.inr ⟨j, hj, e⟩)))
 ·exact .inr (hm k (.inr e))
section
variable {w0 w w' w1 : World} {b g c : Nat} {F : Nat → Nat → Prop} {bs : Nat → Nat} {u u' : Value} {ys ys' : List RN} {t : T} {G X : Nat → Prop} {Q : World → Prop}
structure LP (w0 w wr : World) (b g c : Nat) (F F' : Nat → Nat → Prop) (bs : Nat → Nat) (u : Value) (ys : List RN) (t t' : T) (X : Nat → Prop) (Q : World → Prop) (ad : Option Addr) (cc : Nat) (zs : List RN) (u' : Value) (ys' : List RN) : Prop where
 tp : TP w0 wr b g c F' bs u' ys' t'
 fx : Fx w (TG b t.n F u) X wr (TG b t.n F' u')
 xs : XS wr (fun k => w.heap.size ≤ k ∧ ¬ TG b t.n F' u' k) ad cc zs
 us : ∀ z ∈ ys', z ∈ ys ∨ ∀ k, blk z.ad k → w.heap.size ≤ k
 q : Q wr
theorem TP.said (h : TP w0 w b g c F bs u ys t) {W2 : World} (hb : Bl w W2) (hX : ∀ k, X k → k < w.heap.size ∧ ¬ TG b t.n F u k ∧ w0.heap.size ≤ k ∧ k ≠ g ∧ ∀ y ∈ ys, ¬ blk y.ad k) {i : Nat} (hi : i < t.n) {r' : R} {l : List NT} {e : Ending} (hc : ClO w0 W2 (F i) X (bs i) r' l Q e w') :
  ∃ ad cc zs G', e = .returned (.slice ad l.length cc) ∧ zs.map RN.x = l ∧ LP w0 w w' b g c F (upF F i G') bs u ys t (sayJ t i r' l 0) X Q ad cc zs u ys := by
 obtain ⟨v, G', rfl, hno, hrs, hfx, hq⟩ := hc; obtain ⟨ad, cc, zs, rfl, hm, hxs⟩ := hno.at; have h2 := h.keep hb; obtain ⟨r1, r2⟩ := h2.node (fun k hk => (hX k hk).2) hi hrs hfx; refine ⟨ad, cc, zs, G', rfl, hm, ⟨by rw [sayJ_zero]; exact r1, ((Fr.ofBelow hb).fx X).trans r2, hxs.imp fun k hk hp => ⟨Nat.le_trans hb.size hp.1, fun e => ?_⟩, fun z hz => .inl hz, hq⟩⟩; rcases tg_new e (fun k hk => (h2.mine k hk).2) with h' | h'
 ·exact hp.2 h'
 ·have := hp.1; omega
theorem LP.keep {wr w2 : World} {F' : Nat → Nat → Prop} {t' : T} {ad : Option Addr} {cc : Nat} {zs : List RN} (h : LP w0 w wr b g c F F' bs u ys t t' X Q ad cc zs u' ys') (hb : Bl wr w2) (hXw : ∀ k, X k → k < w.heap.size) (hQ : ∀ W W', Q W → (∀ k, X k → W'.heap[k]? = W.heap[k]?) → Q W') : LP w0 w w2 b g c F F' bs u ys t t' X Q ad cc zs u' ys' :=
 ⟨h.tp.keep hb, h.fx.up hb, h.xs.keep hb, h.us, hQ _ _ h.q fun k hk => hb.block k (Nat.lt_of_lt_of_le (hXw k hk) h.fx.size)⟩
theorem LP.add {wr w2 : World} {F' : Nat → Nat → Prop} {t' t2 : T} {ad : Option Addr} {cc : Nat} {zs : List RN} (h : LP w0 w wr b g c F F' bs u ys t t' X Q ad cc zs u' ys') (hX : ∀ k, X k → k < w.heap.size ∧ ¬ TG b t.n F u k) (hQ : ∀ W W', Q W → (∀ k, X k → W'.heap[k]? = W.heap[k]?) → Q W') (hn : t'.n = t.n) {e : Ending} {r : Value} {yad : Option Addr} (hy : ∀ k, blk yad k → w.heap.size ≤ k) (hw : WayO w0 wr b g c F' bs u' ys' yad t' t2 e r w2) :
  e = .returned r ∧ ∃ u2 ys2, LP w0 w w2 b g c F F' bs u ys t t2 X Q ad cc zs u2 ys2 := by
 obtain ⟨u2, ys2, rfl, h1, h2, h3⟩ := hw; rw [hn] at h2; exact ⟨rfl, u2, ys2, h1, h.fx.trans (h2.fx X), h.xs.fr h2, fun z hz => (h3 z hz).elim (h.us z) (fun e => .inr (by rw [e]; exact hy)), hQ _ _ h.q fun k hk => h2.block k (Nat.lt_of_lt_of_le (hX k hk).1 h.fx.size) (h.fx.not (hX k hk).2 (hX k hk).1)⟩
theorem TP.run28 (h : TP w0 w b g c F bs u ys t) (i : Int) (r' : R) (l : List NT) (hl : l.length ≤ 1000000) (hX : ∀ k, X k → k < w.heap.size ∧ ¬ TG b t.n F u k ∧ w0.heap.size ≤ k ∧ k ≠ g ∧ ∀ y ∈ ys, ¬ blk y.ad k)
  (hQ : ∀ W W', Q W → (∀ k, X k → W'.heap[k]? = W.heap[k]?) → Q W') (cl : Tm.isT t i = true → ∀ W, Bl w W → Calls prog 39 #[ptr (bs i.toNat)] W (ClO w0 W (F i.toNat) X (bs i.toNat) r' l Q)) :
  Calls prog 38 #[ptr b, .agg #[.int .i64 i, .func (.func 39) #[] #[]]] w (RunO w0 w b g c F bs u ys t X Q i r' l) := by
 obtain ⟨W1, HW1⟩ := Nh (w.alloc (.cells #[.int .i64 i, .func (.func 39) #[] #[]] 86)); have hb1 := Ab HW1; have hz1 := Ac HW1; obtain ⟨gz, hgz⟩ := Nq (w.heap.size); rw [hgz] at hz1; have h1 := h.keep hb1; have cn := h1.node' i; obtain ⟨c0, cf⟩ := row2 hz1; cases hi : Tm.isT t i with
 | false =>
  have hv : nodeV t bs i = .pointer none := by unfold nodeV; rw [hi]; rfl
  rw [hv] at cn; have HK : Hid (RunO w0 w b g c F bs u ys t X Q i r' l (.returned (.bool false)) W1) := by
   refine ⟨F, u, ys, by rw [hi], ?_, (Fr.ofBelow hb1).fx X, fun e => (by rw [hi] at e; cases e), fun _ => hb1, fun z hz => .inl hz⟩; unfold doT; rw [hi]; exact h1
  have HGZ := Hf hgz; clear h h1 hb1 hz1 hgz cf hv cl hQ hX hi; go_enter func38, ntmps38; go_upto_region 1 with fail
  rw [HW1.out, HGZ.out]; clear HW1; go_wp2_with fail; refine cn.mono ?_; rintro e w1 ⟨rfl, rfl⟩; clear cn; go_wp2; go_ret; exact HK.out
 | true =>
  have hv : nodeV t bs i = ptr (bs i.toNat) := by unfold nodeV; rw [hi]; rfl
  rw [hv] at cn; have hcl := cl hi W1 hb1; have hin := Tm.isT_yes hi; have hD : doT t i r' l = Tm.say t i.toNat r' l := by unfold doT; rw [hi]; rfl
  have HIN := Hf hin; have HP := Hf h; have HB1 := Hf hb1; have HX := Hf hX; have HQ' := Hf hQ; have HD := Hf hD; have HGZ := Hf hgz; have HI := Hf hi; obtain ⟨m, hm⟩ := Nq (l.length); rw [hm] at hl; have HM := Hf hm; clear h h1 hb1 hz1 hgz cf hv cl hQ hX hD hin hm hi; go_enter func38, ntmps38; go_upto_region 1 with fail
  rw [HW1.out, HGZ.out]; clear HW1; go_wp2_with fail; refine cn.mono ?_; rintro e w1 ⟨rfl, rfl⟩; clear cn; go_wp2_with fail; refine hcl.mono ?_; clear hcl; rintro e w2 hc; obtain ⟨ad, cc, zs, G', rfl, hzm, hlp⟩ := HP.out.said HB1.out HX.out HIN.out hc; clear hc c0; have HZM := Hf hzm; have HLP := Hf hlp; clear hlp hzm; rw [HM.out]; go_wp2_with fail; go_loopw [19] (fun i' wr => ∃ (j : Nat) (u2 : Value) (ys2 : List RN), j ≤ m ∧ i' = .int .i64 j ∧ LP w0 w wr b g c F (upF F i.toNat G') bs u ys t (sayJ t i.toNat r' l j) X Q ad cc zs u2 ys2) (fun i' _ => m - (intOf i').toNat)
  case atStart => exact ⟨0, u, ys, Nat.zero_le _, rfl, HLP.out⟩
  case round =>
   clear HLP; obtain ⟨j, u2, ys2, hj, rfl, hlp⟩ := hrel; by_cases hlt : j < m
   ·have hji : (j : Int) < (m : Int) := by omega
    have hzl : zs.length = m := by rw [← HM.out, ← HZM.out, List.length_map]
    have hjz : j < zs.length := by rw [hzl]; exact hlt
    have hjl : j < l.length := by rw [HM.out]; exact hlt
    obtain ⟨q, off, rfl, n0, n1, n2, n3, n4, n5, n6⟩ := AtL.getN hlp.xs.xl.at' j hjz; have hyx : (zs[j]).x = l[j] := by
     have h2 : j < (zs.map RN.x).length := by rw [List.length_map]; exact hjz
     have h3 : (zs.map RN.x)[j]'h2 = (zs[j]).x := List.getElem_map _; have h4 := HZM.out; rw [← h3]; simp only [h4]
    have hyn := hlp.xs.all _ (List.getElem_mem hjz); obtain ⟨y, HY⟩ := Nh (zs[j]); rw [HY.out] at n0 n1 n2 n3 n4 n5 n6 hyx hyn; obtain ⟨⟨yk, yf, yt, ysl, ⟨yi, yj⟩, yv⟩, yad, yc⟩ := y; simp only at n0 n1 n2 n3 n4 n5 n6; obtain ⟨W3, HW3⟩ := Nh (wr.alloc (.cells #[.int .i64 yk, .int .i64 yf, .int .i64 yt, .int .i64 ysl, .int .i64 yi, .int .i64 yj, .slice yad yv.length yc] 72)); have hb3 := Ab HW3; have hz3 := Ac HW3; obtain ⟨x0, _⟩ := row7 hz3; have hlp3 := hlp.keep hb3 (fun k hk => (HX.out k hk).1) HQ'.out; have ca := hlp3.tp.add ⟨⟨yk, yf, yt, ysl, ⟨yi, yj⟩, yv⟩, yad, yc⟩ ((hyn.keep hb3).imp fun k _ hk => ⟨Nat.le_trans HP.out.bel.size hk.1, hk.2⟩); have HYB : Hid (∀ k, blk yad k → w.heap.size ≤ k) := fun k hk => (hyn.blk k hk).2.1; have hsj := sayJ_succ t i.toNat r' l j hjl; rw [← hyx] at hsj; have HSJ := Hf hsj; have HLP := Hf hlp3; obtain ⟨bn, hbn⟩ := Nq (decide ((sayJ t i.toNat r' l j).way.length < 1024)); rw [hbn] at ca; clear hsj hb3 hz3 hlp hlp3 hyn hyx HY hzl hjz hjl hbn; go_upto_region 7 with fail
    rw [HW3.out]; go_wp2_with fail; refine ca.mono ?_; clear ca; rintro e w4 hw; obtain ⟨rfl, u3, ys3, hlp4⟩ := HLP.out.add (fun k hk => ⟨(HX.out k hk).1, (HX.out k hk).2.1⟩) HQ'.out rfl HYB.out hw; have HL4 := Hf hlp4; clear hw hlp4 x0 n0 n1 n2 n3 n4 n5 n6; go_wp2_with fail; go_roundw
    case rel => exact ⟨j + 1, u3, ys3, by omega, by go_num, by rw [← HSJ.out]; exact HL4.out⟩
    case measure => simp [intOf]; omega
   ·obtain rfl : j = m := by omega
    have HK : Hid (RunO w0 w b g c F bs u ys t X Q i r' l (.returned (.bool true)) wr) := by
     refine ⟨_, u2, ys2, by rw [HI.out], ?_, hlp.fx, fun _ => hlp.q, fun e => (by rw [HI.out] at e; cases e), hlp.us⟩; rw [HD.out, ← sayJ_all, HM.out]; exact hlp.tp
    clear hlp; go_wp2; go_ret; exact HK.out
theorem TP.run30 (h : TP w0 w b g c F bs u ys t) (i : Int) (p1 p2 : Value) (r' : R) (l : List NT) (hl : l.length ≤ 1000000) (hX : ∀ k, X k → k < w.heap.size ∧ ¬ TG b t.n F u k ∧ w0.heap.size ≤ k ∧ k ≠ g ∧ ∀ y ∈ ys, ¬ blk y.ad k)
  (hQ : ∀ W W', Q W → (∀ k, X k → W'.heap[k]? = W.heap[k]?) → Q W') (cl : Tm.isT t i = true → ∀ W, Bl w W → Calls prog 41 #[ptr (bs i.toNat), p1, p2] W (ClO w0 W (F i.toNat) X (bs i.toNat) r' l Q)) :
  Calls prog 38 #[ptr b, .agg #[.int .i64 i, .func (.func 41) #[] #[p1, p2]]] w (RunO w0 w b g c F bs u ys t X Q i r' l) := by
 obtain ⟨W1, HW1⟩ := Nh (w.alloc (.cells #[.int .i64 i, .func (.func 41) #[] #[p1, p2]] 86)); have hb1 := Ab HW1; have hz1 := Ac HW1; obtain ⟨gz, hgz⟩ := Nq (w.heap.size); rw [hgz] at hz1; have h1 := h.keep hb1; have cn := h1.node' i; obtain ⟨c0, cf⟩ := row2 hz1; cases hi : Tm.isT t i with
 | false =>
  have hv : nodeV t bs i = .pointer none := by unfold nodeV; rw [hi]; rfl
  rw [hv] at cn; have HK : Hid (RunO w0 w b g c F bs u ys t X Q i r' l (.returned (.bool false)) W1) := by
   refine ⟨F, u, ys, by rw [hi], ?_, (Fr.ofBelow hb1).fx X, fun e => (by rw [hi] at e; cases e), fun _ => hb1, fun z hz => .inl hz⟩; unfold doT; rw [hi]; exact h1
  have HGZ := Hf hgz; clear h h1 hb1 hz1 hgz cf hv cl hQ hX hi; go_enter func38, ntmps38; go_upto_region 1 with fail
  rw [HW1.out, HGZ.out]; clear HW1; go_wp2_with fail; refine cn.mono ?_; rintro e w1 ⟨rfl, rfl⟩; clear cn; go_wp2; go_ret; exact HK.out
 | true =>
  have hv : nodeV t bs i = ptr (bs i.toNat) := by unfold nodeV; rw [hi]; rfl
  rw [hv] at cn; have hcl := cl hi W1 hb1; have hin := Tm.isT_yes hi; have hD : doT t i r' l = Tm.say t i.toNat r' l := by unfold doT; rw [hi]; rfl
  have HIN := Hf hin; have HP := Hf h; have HB1 := Hf hb1; have HX := Hf hX; have HQ' := Hf hQ; have HD := Hf hD; have HGZ := Hf hgz; have HI := Hf hi; obtain ⟨m, hm⟩ := Nq (l.length); rw [hm] at hl; have HM := Hf hm; clear h h1 hb1 hz1 hgz cf hv cl hQ hX hD hin hm hi; go_enter func38, ntmps38; go_upto_region 1 with fail
  rw [HW1.out, HGZ.out]; clear HW1; go_wp2_with fail; refine cn.mono ?_; rintro e w1 ⟨rfl, rfl⟩; clear cn; go_wp2_with fail; refine hcl.mono ?_; clear hcl; rintro e w2 hc; obtain ⟨ad, cc, zs, G', rfl, hzm, hlp⟩ := HP.out.said HB1.out HX.out HIN.out hc; clear hc c0; have HZM := Hf hzm; have HLP := Hf hlp; clear hlp hzm; rw [HM.out]; go_wp2_with fail; go_loopw [19] (fun i' wr => ∃ (j : Nat) (u2 : Value) (ys2 : List RN), j ≤ m ∧ i' = .int .i64 j ∧ LP w0 w wr b g c F (upF F i.toNat G') bs u ys t (sayJ t i.toNat r' l j) X Q ad cc zs u2 ys2) (fun i' _ => m - (intOf i').toNat)
  case atStart => exact ⟨0, u, ys, Nat.zero_le _, rfl, HLP.out⟩
  case round =>
   clear HLP; obtain ⟨j, u2, ys2, hj, rfl, hlp⟩ := hrel; by_cases hlt : j < m
   ·have hji : (j : Int) < (m : Int) := by omega
    have hzl : zs.length = m := by rw [← HM.out, ← HZM.out, List.length_map]
    have hjz : j < zs.length := by rw [hzl]; exact hlt
    have hjl : j < l.length := by rw [HM.out]; exact hlt
    obtain ⟨q, off, rfl, n0, n1, n2, n3, n4, n5, n6⟩ := AtL.getN hlp.xs.xl.at' j hjz; have hyx : (zs[j]).x = l[j] := by
     have h2 : j < (zs.map RN.x).length := by rw [List.length_map]; exact hjz
     have h3 : (zs.map RN.x)[j]'h2 = (zs[j]).x := List.getElem_map _; have h4 := HZM.out; rw [← h3]; simp only [h4]
    have hyn := hlp.xs.all _ (List.getElem_mem hjz); obtain ⟨y, HY⟩ := Nh (zs[j]); rw [HY.out] at n0 n1 n2 n3 n4 n5 n6 hyx hyn; obtain ⟨⟨yk, yf, yt, ysl, ⟨yi, yj⟩, yv⟩, yad, yc⟩ := y; simp only at n0 n1 n2 n3 n4 n5 n6; obtain ⟨W3, HW3⟩ := Nh (wr.alloc (.cells #[.int .i64 yk, .int .i64 yf, .int .i64 yt, .int .i64 ysl, .int .i64 yi, .int .i64 yj, .slice yad yv.length yc] 72)); have hb3 := Ab HW3; have hz3 := Ac HW3; obtain ⟨x0, _⟩ := row7 hz3; have hlp3 := hlp.keep hb3 (fun k hk => (HX.out k hk).1) HQ'.out; have ca := hlp3.tp.add ⟨⟨yk, yf, yt, ysl, ⟨yi, yj⟩, yv⟩, yad, yc⟩ ((hyn.keep hb3).imp fun k _ hk => ⟨Nat.le_trans HP.out.bel.size hk.1, hk.2⟩); have HYB : Hid (∀ k, blk yad k → w.heap.size ≤ k) := fun k hk => (hyn.blk k hk).2.1; have hsj := sayJ_succ t i.toNat r' l j hjl; rw [← hyx] at hsj; have HSJ := Hf hsj; have HLP := Hf hlp3; obtain ⟨bn, hbn⟩ := Nq (decide ((sayJ t i.toNat r' l j).way.length < 1024)); rw [hbn] at ca; clear hsj hb3 hz3 hlp hlp3 hyn hyx HY hzl hjz hjl hbn; go_upto_region 7 with fail
    rw [HW3.out]; go_wp2_with fail; refine ca.mono ?_; clear ca; rintro e w4 hw; obtain ⟨rfl, u3, ys3, hlp4⟩ := HLP.out.add (fun k hk => ⟨(HX.out k hk).1, (HX.out k hk).2.1⟩) HQ'.out rfl HYB.out hw; have HL4 := Hf hlp4; clear hw hlp4 x0 n0 n1 n2 n3 n4 n5 n6; go_wp2_with fail; go_roundw
    case rel => exact ⟨j + 1, u3, ys3, by omega, by go_num, by rw [← HSJ.out]; exact HL4.out⟩
    case measure => simp [intOf]; omega
   ·obtain rfl : j = m := by omega
    have HK : Hid (RunO w0 w b g c F bs u ys t X Q i r' l (.returned (.bool true)) wr) := by
     refine ⟨_, u2, ys2, by rw [HI.out], ?_, hlp.fx, fun _ => hlp.q, fun e => (by rw [HI.out] at e; cases e), hlp.us⟩; rw [HD.out, ← sayJ_all, HM.out]; exact hlp.tp
    clear hlp; go_wp2; go_ret; exact HK.out
theorem TP.run32 (h : TP w0 w b g c F bs u ys t) (i : Int) (p1 : Value) (r' : R) (l : List NT) (hl : l.length ≤ 1000000) (hX : ∀ k, X k → k < w.heap.size ∧ ¬ TG b t.n F u k ∧ w0.heap.size ≤ k ∧ k ≠ g ∧ ∀ y ∈ ys, ¬ blk y.ad k)
  (hQ : ∀ W W', Q W → (∀ k, X k → W'.heap[k]? = W.heap[k]?) → Q W') (cl : Tm.isT t i = true → ∀ W, Bl w W → Calls prog 60 #[ptr (bs i.toNat), p1] W (ClO w0 W (F i.toNat) X (bs i.toNat) r' l Q)) :
  Calls prog 38 #[ptr b, .agg #[.int .i64 i, .func (.func 60) #[] #[p1]]] w (RunO w0 w b g c F bs u ys t X Q i r' l) := by
 obtain ⟨W1, HW1⟩ := Nh (w.alloc (.cells #[.int .i64 i, .func (.func 60) #[] #[p1]] 86)); have hb1 := Ab HW1; have hz1 := Ac HW1; obtain ⟨gz, hgz⟩ := Nq (w.heap.size); rw [hgz] at hz1; have h1 := h.keep hb1; have cn := h1.node' i; obtain ⟨c0, cf⟩ := row2 hz1; cases hi : Tm.isT t i with
 | false =>
  have hv : nodeV t bs i = .pointer none := by unfold nodeV; rw [hi]; rfl
  rw [hv] at cn; have HK : Hid (RunO w0 w b g c F bs u ys t X Q i r' l (.returned (.bool false)) W1) := by
   refine ⟨F, u, ys, by rw [hi], ?_, (Fr.ofBelow hb1).fx X, fun e => (by rw [hi] at e; cases e), fun _ => hb1, fun z hz => .inl hz⟩; unfold doT; rw [hi]; exact h1
  have HGZ := Hf hgz; clear h h1 hb1 hz1 hgz cf hv cl hQ hX hi; go_enter func38, ntmps38; go_upto_region 1 with fail
  rw [HW1.out, HGZ.out]; clear HW1; go_wp2_with fail; refine cn.mono ?_; rintro e w1 ⟨rfl, rfl⟩; clear cn; go_wp2; go_ret; exact HK.out
 | true =>
  have hv : nodeV t bs i = ptr (bs i.toNat) := by unfold nodeV; rw [hi]; rfl
  rw [hv] at cn; have hcl := cl hi W1 hb1; have hin := Tm.isT_yes hi; have hD : doT t i r' l = Tm.say t i.toNat r' l := by unfold doT; rw [hi]; rfl
  have HIN := Hf hin; have HP := Hf h; have HB1 := Hf hb1; have HX := Hf hX; have HQ' := Hf hQ; have HD := Hf hD; have HGZ := Hf hgz; have HI := Hf hi; obtain ⟨m, hm⟩ := Nq (l.length); rw [hm] at hl; have HM := Hf hm; clear h h1 hb1 hz1 hgz cf hv cl hQ hX hD hin hm hi; go_enter func38, ntmps38; go_upto_region 1 with fail
  rw [HW1.out, HGZ.out]; clear HW1; go_wp2_with fail; refine cn.mono ?_; rintro e w1 ⟨rfl, rfl⟩; clear cn; go_wp2_with fail; refine hcl.mono ?_; clear hcl; rintro e w2 hc; obtain ⟨ad, cc, zs, G', rfl, hzm, hlp⟩ := HP.out.said HB1.out HX.out HIN.out hc; clear hc c0; have HZM := Hf hzm; have HLP := Hf hlp; clear hlp hzm; rw [HM.out]; go_wp2_with fail; go_loopw [19] (fun i' wr => ∃ (j : Nat) (u2 : Value) (ys2 : List RN), j ≤ m ∧ i' = .int .i64 j ∧ LP w0 w wr b g c F (upF F i.toNat G') bs u ys t (sayJ t i.toNat r' l j) X Q ad cc zs u2 ys2) (fun i' _ => m - (intOf i').toNat)
  case atStart => exact ⟨0, u, ys, Nat.zero_le _, rfl, HLP.out⟩
  case round =>
   clear HLP; obtain ⟨j, u2, ys2, hj, rfl, hlp⟩ := hrel; by_cases hlt : j < m
   ·have hji : (j : Int) < (m : Int) := by omega
    have hzl : zs.length = m := by rw [← HM.out, ← HZM.out, List.length_map]
    have hjz : j < zs.length := by rw [hzl]; exact hlt
    have hjl : j < l.length := by rw [HM.out]; exact hlt
    obtain ⟨q, off, rfl, n0, n1, n2, n3, n4, n5, n6⟩ := AtL.getN hlp.xs.xl.at' j hjz; have hyx : (zs[j]).x = l[j] := by
     have h2 : j < (zs.map RN.x).length := by rw [List.length_map]; exact hjz
     have h3 : (zs.map RN.x)[j]'h2 = (zs[j]).x := List.getElem_map _; have h4 := HZM.out; rw [← h3]; simp only [h4]
    have hyn := hlp.xs.all _ (List.getElem_mem hjz); obtain ⟨y, HY⟩ := Nh (zs[j]); rw [HY.out] at n0 n1 n2 n3 n4 n5 n6 hyx hyn; obtain ⟨⟨yk, yf, yt, ysl, ⟨yi, yj⟩, yv⟩, yad, yc⟩ := y; simp only at n0 n1 n2 n3 n4 n5 n6; obtain ⟨W3, HW3⟩ := Nh (wr.alloc (.cells #[.int .i64 yk, .int .i64 yf, .int .i64 yt, .int .i64 ysl, .int .i64 yi, .int .i64 yj, .slice yad yv.length yc] 72)); have hb3 := Ab HW3; have hz3 := Ac HW3; obtain ⟨x0, _⟩ := row7 hz3; have hlp3 := hlp.keep hb3 (fun k hk => (HX.out k hk).1) HQ'.out; have ca := hlp3.tp.add ⟨⟨yk, yf, yt, ysl, ⟨yi, yj⟩, yv⟩, yad, yc⟩ ((hyn.keep hb3).imp fun k _ hk => ⟨Nat.le_trans HP.out.bel.size hk.1, hk.2⟩); have HYB : Hid (∀ k, blk yad k → w.heap.size ≤ k) := fun k hk => (hyn.blk k hk).2.1; have hsj := sayJ_succ t i.toNat r' l j hjl; rw [← hyx] at hsj; have HSJ := Hf hsj; have HLP := Hf hlp3; obtain ⟨bn, hbn⟩ := Nq (decide ((sayJ t i.toNat r' l j).way.length < 1024)); rw [hbn] at ca; clear hsj hb3 hz3 hlp hlp3 hyn hyx HY hzl hjz hjl hbn; go_upto_region 7 with fail
    rw [HW3.out]; go_wp2_with fail; refine ca.mono ?_; clear ca; rintro e w4 hw; obtain ⟨rfl, u3, ys3, hlp4⟩ := HLP.out.add (fun k hk => ⟨(HX.out k hk).1, (HX.out k hk).2.1⟩) HQ'.out rfl HYB.out hw; have HL4 := Hf hlp4; clear hw hlp4 x0 n0 n1 n2 n3 n4 n5 n6; go_wp2_with fail; go_roundw
    case rel => exact ⟨j + 1, u3, ys3, by omega, by go_num, by rw [← HSJ.out]; exact HL4.out⟩
    case measure => simp [intOf]; omega
   ·obtain rfl : j = m := by omega
    have HK : Hid (RunO w0 w b g c F bs u ys t X Q i r' l (.returned (.bool true)) wr) := by
     refine ⟨_, u2, ys2, by rw [HI.out], ?_, hlp.fx, fun _ => hlp.q, fun e => (by rw [HI.out] at e; cases e), hlp.us⟩; rw [HD.out, ← sayJ_all, HM.out]; exact hlp.tp
    clear hlp; go_wp2; go_ret; exact HK.out
theorem TP.run35 (h : TP w0 w b g c F bs u ys t) (i : Int) (p1 : Value) (r' : R) (l : List NT) (hl : l.length ≤ 1000000) (hX : ∀ k, X k → k < w.heap.size ∧ ¬ TG b t.n F u k ∧ w0.heap.size ≤ k ∧ k ≠ g ∧ ∀ y ∈ ys, ¬ blk y.ad k)
  (hQ : ∀ W W', Q W → (∀ k, X k → W'.heap[k]? = W.heap[k]?) → Q W') (cl : Tm.isT t i = true → ∀ W, Bl w W → Calls prog 44 #[ptr (bs i.toNat), p1] W (ClO w0 W (F i.toNat) X (bs i.toNat) r' l Q)) :
  Calls prog 38 #[ptr b, .agg #[.int .i64 i, .func (.func 44) #[] #[p1]]] w (RunO w0 w b g c F bs u ys t X Q i r' l) := by
 obtain ⟨W1, HW1⟩ := Nh (w.alloc (.cells #[.int .i64 i, .func (.func 44) #[] #[p1]] 86)); have hb1 := Ab HW1; have hz1 := Ac HW1; obtain ⟨gz, hgz⟩ := Nq (w.heap.size); rw [hgz] at hz1; have h1 := h.keep hb1; have cn := h1.node' i; obtain ⟨c0, cf⟩ := row2 hz1; cases hi : Tm.isT t i with
 | false =>
  have hv : nodeV t bs i = .pointer none := by unfold nodeV; rw [hi]; rfl
  rw [hv] at cn; have HK : Hid (RunO w0 w b g c F bs u ys t X Q i r' l (.returned (.bool false)) W1) := by
   refine ⟨F, u, ys, by rw [hi], ?_, (Fr.ofBelow hb1).fx X, fun e => (by rw [hi] at e; cases e), fun _ => hb1, fun z hz => .inl hz⟩; unfold doT; rw [hi]; exact h1
  have HGZ := Hf hgz; clear h h1 hb1 hz1 hgz cf hv cl hQ hX hi; go_enter func38, ntmps38; go_upto_region 1 with fail
  rw [HW1.out, HGZ.out]; clear HW1; go_wp2_with fail; refine cn.mono ?_; rintro e w1 ⟨rfl, rfl⟩; clear cn; go_wp2; go_ret; exact HK.out
 | true =>
  have hv : nodeV t bs i = ptr (bs i.toNat) := by unfold nodeV; rw [hi]; rfl
  rw [hv] at cn; have hcl := cl hi W1 hb1; have hin := Tm.isT_yes hi; have hD : doT t i r' l = Tm.say t i.toNat r' l := by unfold doT; rw [hi]; rfl
  have HIN := Hf hin; have HP := Hf h; have HB1 := Hf hb1; have HX := Hf hX; have HQ' := Hf hQ; have HD := Hf hD; have HGZ := Hf hgz; have HI := Hf hi; obtain ⟨m, hm⟩ := Nq (l.length); rw [hm] at hl; have HM := Hf hm; clear h h1 hb1 hz1 hgz cf hv cl hQ hX hD hin hm hi; go_enter func38, ntmps38; go_upto_region 1 with fail
  rw [HW1.out, HGZ.out]; clear HW1; go_wp2_with fail; refine cn.mono ?_; rintro e w1 ⟨rfl, rfl⟩; clear cn; go_wp2_with fail; refine hcl.mono ?_; clear hcl; rintro e w2 hc; obtain ⟨ad, cc, zs, G', rfl, hzm, hlp⟩ := HP.out.said HB1.out HX.out HIN.out hc; clear hc c0; have HZM := Hf hzm; have HLP := Hf hlp; clear hlp hzm; rw [HM.out]; go_wp2_with fail; go_loopw [19] (fun i' wr => ∃ (j : Nat) (u2 : Value) (ys2 : List RN), j ≤ m ∧ i' = .int .i64 j ∧ LP w0 w wr b g c F (upF F i.toNat G') bs u ys t (sayJ t i.toNat r' l j) X Q ad cc zs u2 ys2) (fun i' _ => m - (intOf i').toNat)
  case atStart => exact ⟨0, u, ys, Nat.zero_le _, rfl, HLP.out⟩
  case round =>
   clear HLP; obtain ⟨j, u2, ys2, hj, rfl, hlp⟩ := hrel; by_cases hlt : j < m
   ·have hji : (j : Int) < (m : Int) := by omega
    have hzl : zs.length = m := by rw [← HM.out, ← HZM.out, List.length_map]
    have hjz : j < zs.length := by rw [hzl]; exact hlt
    have hjl : j < l.length := by rw [HM.out]; exact hlt
    obtain ⟨q, off, rfl, n0, n1, n2, n3, n4, n5, n6⟩ := AtL.getN hlp.xs.xl.at' j hjz; have hyx : (zs[j]).x = l[j] := by
     have h2 : j < (zs.map RN.x).length := by rw [List.length_map]; exact hjz
     have h3 : (zs.map RN.x)[j]'h2 = (zs[j]).x := List.getElem_map _; have h4 := HZM.out; rw [← h3]; simp only [h4]
    have hyn := hlp.xs.all _ (List.getElem_mem hjz); obtain ⟨y, HY⟩ := Nh (zs[j]); rw [HY.out] at n0 n1 n2 n3 n4 n5 n6 hyx hyn; obtain ⟨⟨yk, yf, yt, ysl, ⟨yi, yj⟩, yv⟩, yad, yc⟩ := y; simp only at n0 n1 n2 n3 n4 n5 n6; obtain ⟨W3, HW3⟩ := Nh (wr.alloc (.cells #[.int .i64 yk, .int .i64 yf, .int .i64 yt, .int .i64 ysl, .int .i64 yi, .int .i64 yj, .slice yad yv.length yc] 72)); have hb3 := Ab HW3; have hz3 := Ac HW3; obtain ⟨x0, _⟩ := row7 hz3; have hlp3 := hlp.keep hb3 (fun k hk => (HX.out k hk).1) HQ'.out; have ca := hlp3.tp.add ⟨⟨yk, yf, yt, ysl, ⟨yi, yj⟩, yv⟩, yad, yc⟩ ((hyn.keep hb3).imp fun k _ hk => ⟨Nat.le_trans HP.out.bel.size hk.1, hk.2⟩); have HYB : Hid (∀ k, blk yad k → w.heap.size ≤ k) := fun k hk => (hyn.blk k hk).2.1; have hsj := sayJ_succ t i.toNat r' l j hjl; rw [← hyx] at hsj; have HSJ := Hf hsj; have HLP := Hf hlp3; obtain ⟨bn, hbn⟩ := Nq (decide ((sayJ t i.toNat r' l j).way.length < 1024)); rw [hbn] at ca; clear hsj hb3 hz3 hlp hlp3 hyn hyx HY hzl hjz hjl hbn; go_upto_region 7 with fail
    rw [HW3.out]; go_wp2_with fail; refine ca.mono ?_; clear ca; rintro e w4 hw; obtain ⟨rfl, u3, ys3, hlp4⟩ := HLP.out.add (fun k hk => ⟨(HX.out k hk).1, (HX.out k hk).2.1⟩) HQ'.out rfl HYB.out hw; have HL4 := Hf hlp4; clear hw hlp4 x0 n0 n1 n2 n3 n4 n5 n6; go_wp2_with fail; go_roundw
    case rel => exact ⟨j + 1, u3, ys3, by omega, by go_num, by rw [← HSJ.out]; exact HL4.out⟩
    case measure => simp [intOf]; omega
   ·obtain rfl : j = m := by omega
    have HK : Hid (RunO w0 w b g c F bs u ys t X Q i r' l (.returned (.bool true)) wr) := by
     refine ⟨_, u2, ys2, by rw [HI.out], ?_, hlp.fx, fun _ => hlp.q, fun e => (by rw [HI.out] at e; cases e), hlp.us⟩; rw [HD.out, ← sayJ_all, HM.out]; exact hlp.tp
    clear hlp; go_wp2; go_ret; exact HK.out
theorem TP.run39 (h : TP w0 w b g c F bs u ys t) (i : Int) (r' : R) (l : List NT) (hl : l.length ≤ 1000000) (hX : ∀ k, X k → k < w.heap.size ∧ ¬ TG b t.n F u k ∧ w0.heap.size ≤ k ∧ k ≠ g ∧ ∀ y ∈ ys, ¬ blk y.ad k)
  (hQ : ∀ W W', Q W → (∀ k, X k → W'.heap[k]? = W.heap[k]?) → Q W') (cl : Tm.isT t i = true → ∀ W, Bl w W → Calls prog 62 #[ptr (bs i.toNat)] W (ClO w0 W (F i.toNat) X (bs i.toNat) r' l Q)) :
  Calls prog 38 #[ptr b, .agg #[.int .i64 i, .func (.func 62) #[] #[]]] w (RunO w0 w b g c F bs u ys t X Q i r' l) := by
 obtain ⟨W1, HW1⟩ := Nh (w.alloc (.cells #[.int .i64 i, .func (.func 62) #[] #[]] 86)); have hb1 := Ab HW1; have hz1 := Ac HW1; obtain ⟨gz, hgz⟩ := Nq (w.heap.size); rw [hgz] at hz1; have h1 := h.keep hb1; have cn := h1.node' i; obtain ⟨c0, cf⟩ := row2 hz1; cases hi : Tm.isT t i with
 | false =>
  have hv : nodeV t bs i = .pointer none := by unfold nodeV; rw [hi]; rfl
  rw [hv] at cn; have HK : Hid (RunO w0 w b g c F bs u ys t X Q i r' l (.returned (.bool false)) W1) := by
   refine ⟨F, u, ys, by rw [hi], ?_, (Fr.ofBelow hb1).fx X, fun e => (by rw [hi] at e; cases e), fun _ => hb1, fun z hz => .inl hz⟩; unfold doT; rw [hi]; exact h1
  have HGZ := Hf hgz; clear h h1 hb1 hz1 hgz cf hv cl hQ hX hi; go_enter func38, ntmps38; go_upto_region 1 with fail
  rw [HW1.out, HGZ.out]; clear HW1; go_wp2_with fail; refine cn.mono ?_; rintro e w1 ⟨rfl, rfl⟩; clear cn; go_wp2; go_ret; exact HK.out
 | true =>
  have hv : nodeV t bs i = ptr (bs i.toNat) := by unfold nodeV; rw [hi]; rfl
  rw [hv] at cn; have hcl := cl hi W1 hb1; have hin := Tm.isT_yes hi; have hD : doT t i r' l = Tm.say t i.toNat r' l := by unfold doT; rw [hi]; rfl
  have HIN := Hf hin; have HP := Hf h; have HB1 := Hf hb1; have HX := Hf hX; have HQ' := Hf hQ; have HD := Hf hD; have HGZ := Hf hgz; have HI := Hf hi; obtain ⟨m, hm⟩ := Nq (l.length); rw [hm] at hl; have HM := Hf hm; clear h h1 hb1 hz1 hgz cf hv cl hQ hX hD hin hm hi; go_enter func38, ntmps38; go_upto_region 1 with fail
  rw [HW1.out, HGZ.out]; clear HW1; go_wp2_with fail; refine cn.mono ?_; rintro e w1 ⟨rfl, rfl⟩; clear cn; go_wp2_with fail; refine hcl.mono ?_; clear hcl; rintro e w2 hc; obtain ⟨ad, cc, zs, G', rfl, hzm, hlp⟩ := HP.out.said HB1.out HX.out HIN.out hc; clear hc c0; have HZM := Hf hzm; have HLP := Hf hlp; clear hlp hzm; rw [HM.out]; go_wp2_with fail; go_loopw [19] (fun i' wr => ∃ (j : Nat) (u2 : Value) (ys2 : List RN), j ≤ m ∧ i' = .int .i64 j ∧ LP w0 w wr b g c F (upF F i.toNat G') bs u ys t (sayJ t i.toNat r' l j) X Q ad cc zs u2 ys2) (fun i' _ => m - (intOf i').toNat)
  case atStart => exact ⟨0, u, ys, Nat.zero_le _, rfl, HLP.out⟩
  case round =>
   clear HLP; obtain ⟨j, u2, ys2, hj, rfl, hlp⟩ := hrel; by_cases hlt : j < m
   ·have hji : (j : Int) < (m : Int) := by omega
    have hzl : zs.length = m := by rw [← HM.out, ← HZM.out, List.length_map]
    have hjz : j < zs.length := by rw [hzl]; exact hlt
    have hjl : j < l.length := by rw [HM.out]; exact hlt
    obtain ⟨q, off, rfl, n0, n1, n2, n3, n4, n5, n6⟩ := AtL.getN hlp.xs.xl.at' j hjz; have hyx : (zs[j]).x = l[j] := by
     have h2 : j < (zs.map RN.x).length := by rw [List.length_map]; exact hjz
     have h3 : (zs.map RN.x)[j]'h2 = (zs[j]).x := List.getElem_map _; have h4 := HZM.out; rw [← h3]; simp only [h4]
    have hyn := hlp.xs.all _ (List.getElem_mem hjz); obtain ⟨y, HY⟩ := Nh (zs[j]); rw [HY.out] at n0 n1 n2 n3 n4 n5 n6 hyx hyn; obtain ⟨⟨yk, yf, yt, ysl, ⟨yi, yj⟩, yv⟩, yad, yc⟩ := y; simp only at n0 n1 n2 n3 n4 n5 n6; obtain ⟨W3, HW3⟩ := Nh (wr.alloc (.cells #[.int .i64 yk, .int .i64 yf, .int .i64 yt, .int .i64 ysl, .int .i64 yi, .int .i64 yj, .slice yad yv.length yc] 72)); have hb3 := Ab HW3; have hz3 := Ac HW3; obtain ⟨x0, _⟩ := row7 hz3; have hlp3 := hlp.keep hb3 (fun k hk => (HX.out k hk).1) HQ'.out; have ca := hlp3.tp.add ⟨⟨yk, yf, yt, ysl, ⟨yi, yj⟩, yv⟩, yad, yc⟩ ((hyn.keep hb3).imp fun k _ hk => ⟨Nat.le_trans HP.out.bel.size hk.1, hk.2⟩); have HYB : Hid (∀ k, blk yad k → w.heap.size ≤ k) := fun k hk => (hyn.blk k hk).2.1; have hsj := sayJ_succ t i.toNat r' l j hjl; rw [← hyx] at hsj; have HSJ := Hf hsj; have HLP := Hf hlp3; obtain ⟨bn, hbn⟩ := Nq (decide ((sayJ t i.toNat r' l j).way.length < 1024)); rw [hbn] at ca; clear hsj hb3 hz3 hlp hlp3 hyn hyx HY hzl hjz hjl hbn; go_upto_region 7 with fail
    rw [HW3.out]; go_wp2_with fail; refine ca.mono ?_; clear ca; rintro e w4 hw; obtain ⟨rfl, u3, ys3, hlp4⟩ := HLP.out.add (fun k hk => ⟨(HX.out k hk).1, (HX.out k hk).2.1⟩) HQ'.out rfl HYB.out hw; have HL4 := Hf hlp4; clear hw hlp4 x0 n0 n1 n2 n3 n4 n5 n6; go_wp2_with fail; go_roundw
    case rel => exact ⟨j + 1, u3, ys3, by omega, by go_num, by rw [← HSJ.out]; exact HL4.out⟩
    case measure => simp [intOf]; omega
   ·obtain rfl : j = m := by omega
    have HK : Hid (RunO w0 w b g c F bs u ys t X Q i r' l (.returned (.bool true)) wr) := by
     refine ⟨_, u2, ys2, by rw [HI.out], ?_, hlp.fx, fun _ => hlp.q, fun e => (by rw [HI.out] at e; cases e), hlp.us⟩; rw [HD.out, ← sayJ_all, HM.out]; exact hlp.tp
    clear hlp; go_wp2; go_ret; exact HK.out
end
section
variable {w0 w w' w1 : World} {b g c : Nat} {F : Nat → Nat → Prop} {bs : Nat → Nat} {u u' : Value} {ys ys' : List RN} {t : T} {G X : Nat → Prop} {r : R} {F1 : Nat → Prop} {br : Nat}
abbrev no (_ : Nat) : Prop := False
abbrev yes (_ : World) : Prop := True
theorem RS.n17 (h : RS w0 w F1 br r) : 1 ≤ r.n ∧ r.n ≤ 7 := by
 obtain ⟨ba, bp, bl, Fa, Fp, Fl, rfl, hp⟩ := h; exact hp.n17
theorem ldN_len (hn : r.n ≤ 7) : (Rm.ldN r).length ≤ 7 := by
 unfold Rm.ldN; split
 ·rw [Rm.toF_len]; omega
 ·simp
theorem ppN_len (hn : r.n ≤ 7) (v : ByteArray) : (Rm.ppN r v).length ≤ 7 := by
 unfold Rm.ppN; split
 ·unfold Rm.toE; rw [Rm.toF_len]; omega
 ·simp
theorem akN_len (d : Int) : (Rm.akN r d).length ≤ 1 := by
 unfold Rm.akN
 split <;> simp
theorem RS.leadC (h : RS w0 w F1 br r) : Calls prog 39 #[ptr br] w (ClO w0 w F1 no br (Rm.ldS r) (Rm.ldN r) yes) := by
 obtain ⟨ba, bp, bl, Fa, Fp, Fl, rfl, hp⟩ := h; have cl := hp.lead; clear hp; go_enter func39, ntmps39; go_wp2_with fail; refine cl.mono ?_; clear cl; rintro e w1 ⟨u, G, rfl, h1, h2, h3⟩; have HQ : Hid (ClO w0 w (uni br Fa Fp Fl) no br (Rm.ldS r) (Rm.ldN r) yes (.returned u) w1) := ⟨u, G, rfl, h1, h2, h3.fx _, trivial⟩; clear h1 h2 h3; go_wp2; go_ret; exact HQ.out
theorem RS.askC (h : RS w0 w F1 br r) (p : Nat) (d : Int) (hp1 : w.cell? ⟨p, 0, none⟩ = some (.int .i64 d)) : Calls prog 60 #[ptr br, ptr p] w (ClO w0 w F1 no br r (Rm.akN r d) yes) := by
 have HR := Hf h; obtain ⟨ba, bp, bl, Fa, Fp, Fl, rfl, hp⟩ := h; have cl := hp.ask d; clear hp; go_enter func60, ntmps60; go_wp2_with fail; refine cl.mono ?_; clear cl; rintro e w1 ⟨u, rfl, h1, h2⟩; have HQ : Hid (ClO w0 w (uni br Fa Fp Fl) no br r (Rm.akN r d) yes (.returned u) w1) := ⟨u, _, rfl, h1, HR.out.keep h2, (Fr.ofBelow h2).fx _, trivial⟩; clear h1 h2; go_wp2; go_ret; exact HQ.out
theorem RS.crashC (h : RS w0 w F1 br r) : Calls prog 62 #[ptr br] w (ClO w0 w F1 no br (Rm.crS r) [] yes) := by
 obtain ⟨ba, bp, bl, Fa, Fp, Fl, rfl, hp⟩ := h; have cl := hp.crash; clear hp; go_enter func62, ntmps62; go_wp2_with fail; refine cl.mono ?_; clear cl; rintro e w1 ⟨G, rfl, h2, h3⟩; have HQ : Hid (ClO w0 w (uni br Fa Fp Fl) no br (Rm.crS r) [] yes (.returned (.slice none 0 0)) w1) := ⟨_, G, rfl, NO.nil _ _ _, h2, h3.fx _, trivial⟩; clear h2 h3; go_wp2; go_ret; exact HQ.out
theorem RS.takeC (h : RS w0 w F1 br r) (p : Nat) (y : RN) (hp1 : w.heap[p]? = some (.cells (nl.cs y).toArray 72 (0, 0))) (hy : XN w (fun q => ¬ F1 q) y) (hwf : ∀ x ∈ y.x.v, (Lit.int .i64 x.s).wf = true) (hc1 : r.p.c + y.x.v.length ≤ 900000) (hc2 : r.l.c + y.x.v.length ≤ 900000) :
  Calls prog 44 #[ptr br, ptr p] w (ClO w0 w F1 no br (Rm.tkS r y.x) (Rm.tkN r y.x) yes) := by
 obtain ⟨ba, bp, bl, Fa, Fp, Fl, rfl, hp⟩ := h; have cl := hp.take y hy.xl (fun _ k hk => hy.blk k hk) hwf hc1 hc2; clear hp hwf hc1 hc2 hy; obtain ⟨⟨k, f, t, s, ⟨bi, bt⟩, v⟩, ad, c⟩ := y; obtain ⟨⟨x0, x1, x2, x3, x4, x5, x6⟩, _⟩ := row7 hp1; simp only at x0 x1 x2 x3 x4 x5 x6; have HCL := Hf cl; clear cl hp1; go_enter func44, ntmps44; go_wp2_with fail; refine HCL.out.mono ?_; clear HCL; rintro e w1 ⟨u, G, rfl, h1, h2, h3⟩; have HQ : Hid (ClO w0 w (uni br Fa Fp Fl) no br (Rm.tkS r ⟨k, f, t, s, ⟨bi, bt⟩, v⟩) (Rm.tkN r ⟨k, f, t, s, ⟨bi, bt⟩, v⟩) yes (.returned u) w1) := ⟨u, G, rfl, h1, h2, h3.fx _, trivial⟩; clear h1 h2 h3; go_wp2; go_ret; exact HQ.out
theorem NO.aside {w w' : World} {G : Nat → Prop} {u : Value} {l : List NT} (h : NO w G u w' l) {p : Nat} (hp : p < w.heap.size) (v : Value) : NO w G u (w'.setCell ⟨p, 0, none⟩ v) l := by
 obtain ⟨ys, h1, h2⟩ := h; exact ⟨ys, h1.keepBut (by simp) (fun k _ hk => heap_setCell_other w' ⟨p, 0, none⟩ k _ (by simp; omega)), h2⟩
theorem RS.proposeC (h : RS w0 w F1 br r) (v : ByteArray) (p q : Nat) (x : Value) (hp1 : w.cell? ⟨p, 0, none⟩ = some (.string v)) (hq1 : w.heap[q]? = some (.cells #[x] 60 (0, 0))) (hqn : ¬ F1 q) (hq0 : w0.heap.size ≤ q) :
  Calls prog 41 #[ptr br, ptr p, ptr q] w (ClO w0 w F1 (· = q) br (Rm.ppS r v) (Rm.ppN r v) fun W => W.heap[q]? = some (.cells #[.int .i64 (Np.M.ppc r.p v)] 60 (0, 0))) := by
 obtain ⟨ba, bp, bl, Fa, Fp, Fl, rfl, hp⟩ := h; have cl := hp.propose v; have HP := Hf hp; have HQ1 := Hf hq1; have HQN := Hf hqn; have HQ0 := Hf hq0; clear hp hqn hq1 hq0; go_enter func41, ntmps41; go_wp2_with fail; refine cl.mono ?_; clear cl; rintro e w1 ⟨u, rfl, h1, h2, h3⟩; have hql := (Array.getElem?_eq_some_iff.1 HQ1.out).1; have hrow := (h3.block q hql HQN.out).trans HQ1.out; obtain ⟨z0, zf⟩ := row1 hrow; have zf0 := zf 0; have HF : Hid (ClO w0 w (uni br Fa Fp Fl) (· = q) br (Rm.ppS r v) (Rm.ppN r v) (fun W => W.heap[q]? = some (.cells #[.int .i64 (Np.M.ppc r.p v)] 60 (0, 0))) (.returned u) (w1.setCell ⟨q, 0, none⟩ (.int .i64 (Np.M.ppc r.p v)))) := by
  have hfo := fr_one w1 q 0 (.int .i64 (Np.M.ppc r.p v)); refine ⟨u, _, rfl, h1.aside hql _, (h2.aside (not_n h3 HQN.out hql) HQ0.out 0 _).rs, ⟨hfo.os.trans h3.os, hfo.tape.trans h3.tape, hfo.output.trans h3.output, Nat.le_trans h3.size hfo.size, fun k hk hn hx => (hfo.block k (Nat.lt_of_lt_of_le hk h3.size) hx).trans (h3.block k hk hn), h3.n⟩, ?_⟩; show (w1.setCell ⟨q, 0, none⟩ (.int .i64 (Np.M.ppc r.p v))).heap[q]? = _; rw [heap_setCell_same w1 q 0 _ _ _ hrow]; rfl
 clear h1 h2 h3 hql hrow zf; go_wp2; go_ret; exact HF.out
end
end Go.Proofs.YtgodnpngdbelhaaGreat
