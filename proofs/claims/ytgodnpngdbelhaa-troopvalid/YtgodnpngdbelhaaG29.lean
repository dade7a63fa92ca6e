/-
  A node does what it is told to do, and what it says comes to be under way.
-/
import Derived.Test.YtgodnpngdbelhaaG28
namespace Go.Proofs.Ytgodnpngdbelhaa
open Go.RowKit Go.Maps
set_option linter.unusedVariables false
open M (E V)
open Rm (NT R)
open Tm (T)
theorem XN.fr {w w' : World} {G G' : Nat → Prop} {base : Nat} {y : RN} (h : XN w (fun k => base ≤ k ∧ ¬ G k) y) (hf : Fr w G w' G') : XN w' (fun k => base ≤ k ∧ ¬ G' k) y :=
  ⟨h.xl.keepBut fun k hk hk2 => hf.block k hk (h.blk k hk2).2.2, fun k hk => ⟨Nat.lt_of_lt_of_le (h.blk k hk).1 hf.size, (h.blk k hk).2.1, not_n hf (h.blk k hk).2.2 (h.blk k hk).1⟩⟩
theorem XS.fr {w w' : World} {G G' : Nat → Prop} {base : Nat} {ad : Option Addr} {c : Nat} {ys : List RN} (h : XS w (fun k => base ≤ k ∧ ¬ G k) ad c ys) (hf : Fr w G w' G') : XS w' (fun k => base ≤ k ∧ ¬ G' k) ad c ys :=
  ⟨h.xl.keepBut fun k hk hk2 => hf.block k hk (h.blk k hk2).2.2, fun k hk => ⟨Nat.lt_of_lt_of_le (h.blk k hk).1 hf.size, (h.blk k hk).2.1, not_n hf (h.blk k hk).2.2 (h.blk k hk).1⟩, fun y hy => (h.all y hy).fr hf⟩
/-- What a node that was told to do something leaves. -/
def ClO (w0 w : World) (F X : Nat → Prop) (b : Nat) (r' : R) (l : List NT) (Q : World → Prop) (e : Ending) (w' : World) : Prop := ∃ u G, e = .returned u ∧ NO w G u w' l ∧ RS w0 w' G b r' ∧ Fx w F X w' G ∧ Q w'
/-- What the nodes are then. -/
def doT (t : T) (i : Int) (r' : R) (l : List NT) : T := if Tm.isT t i = true then Tm.say t i.toNat r' l else t
def RunO (w0 w : World) (b g c : Nat) (F : Nat → Nat → Prop) (bs : Nat → Nat) (u : Value) (ys : List RN) (t : T) (X : Nat → Prop) (Q : World → Prop) (i : Int) (r' : R) (l : List NT) (e : Ending) (w' : World) : Prop :=
  ∃ F' u' ys', e = .returned (.bool (Tm.isT t i)) ∧ TP w0 w' b g c F' bs u' ys' (doT t i r' l) ∧ Fx w (TG b t.n F u) X w' (TG b t.n F' u') ∧ (Tm.isT t i = true → Q w') ∧ (Tm.isT t i = false → Below w.heap.size w w') ∧ ∀ z ∈ ys', z ∈ ys ∨ ∀ k, blk z.ad k → w.heap.size ≤ k
/-- Behind the first so many of what it said. -/
def sayJ (t : T) (i : Nat) (r : R) (l : List NT) (j : Nat) : T := { t with rs := Tm.upR t.rs i r, way := t.way ++ (l.take j).take (1024 - t.way.length) }
theorem sayJ_all (t : T) (i : Nat) (r : R) (l : List NT) : sayJ t i r l l.length = Tm.say t i r l := by unfold sayJ Tm.say; rw [List.take_length]
theorem sayJ_zero (t : T) (i : Nat) (r : R) (l : List NT) : sayJ t i r l 0 = { t with rs := Tm.upR t.rs i r } := by unfold sayJ; simp
theorem sayJ_succ (t : T) (i : Nat) (r : R) (l : List NT) (j : Nat) (h : j < l.length) : addT (sayJ t i r l j) l[j] = sayJ t i r l (j + 1) := by
  unfold addT
  have hl : (sayJ t i r l j).way.length = t.way.length + min (1024 - t.way.length) j := by
    unfold sayJ
    simp only [List.length_append, List.length_take]
    omega
  have h1 : l.take (j + 1) = l.take j ++ [l[j]] := (List.take_append_getElem h).symm
  split
  · next e =>
    rw [hl] at e
    have hj : j < 1024 - t.way.length := by omega
    unfold sayJ
    simp only
    rw [h1, List.take_of_length_le (l := l.take j) (by rw [List.length_take]; omega), List.take_of_length_le (l := l.take j ++ [l[j]]) (by simp; omega), List.append_assoc]
  · next e =>
    rw [hl] at e
    have hj : 1024 - t.way.length ≤ j := by omega
    unfold sayJ
    rw [List.take_take, List.take_take, Nat.min_eq_left hj, Nat.min_eq_left (by omega)]
theorem tg_new {b n i : Nat} {F : Nat → Nat → Prop} {u : Value} {G' : Nat → Prop} {k B : Nat} (h : TG b n (upF F i G') u k) (hm : ∀ k, TG b n F u k → k < B) : G' k ∨ k < B := by
  rcases h with (e | ⟨j, hj, e⟩) | e
  · exact .inr (hm k (.inl (.inl e)))
  · by_cases hji : j = i
    · subst hji
      rw [upF_same] at e
      exact .inl e
    · rw [upF_other _ _ hji] at e
      exact .inr (hm k (.inl (.inr ⟨j, hj, e⟩)))
  · exact .inr (hm k (.inr e))
section
variable {w0 w w' w1 : World} {b g c : Nat} {F : Nat → Nat → Prop} {bs : Nat → Nat} {u u' : Value} {ys ys' : List RN} {t : T} {G X : Nat → Prop} {Q : World → Prop}
/-- The state behind the first so many. -/
structure LP (w0 w wr : World) (b g c : Nat) (F F' : Nat → Nat → Prop) (bs : Nat → Nat) (u : Value) (ys : List RN) (t t' : T) (X : Nat → Prop) (Q : World → Prop) (ad : Option Addr) (cc : Nat) (zs : List RN) (u' : Value) (ys' : List RN) : Prop where
  tp : TP w0 wr b g c F' bs u' ys' t'
  fx : Fx w (TG b t.n F u) X wr (TG b t.n F' u')
  xs : XS wr (fun k => w.heap.size ≤ k ∧ ¬ TG b t.n F' u' k) ad cc zs
  us : ∀ z ∈ ys', z ∈ ys ∨ ∀ k, blk z.ad k → w.heap.size ≤ k
  q : Q wr
theorem TP.said (h : TP w0 w b g c F bs u ys t) {W2 : World} (hb : Below w.heap.size w W2) (hX : ∀ k, X k → k < w.heap.size ∧ ¬ TG b t.n F u k ∧ w0.heap.size ≤ k ∧ k ≠ g ∧ ∀ y ∈ ys, ¬ blk y.ad k) {i : Nat} (hi : i < t.n) {r' : R} {l : List NT} {e : Ending} (hc : ClO w0 W2 (F i) X (bs i) r' l Q e w') :
    ∃ ad cc zs G', e = .returned (.slice ad l.length cc) ∧ zs.map RN.x = l ∧ LP w0 w w' b g c F (upF F i G') bs u ys t (sayJ t i r' l 0) X Q ad cc zs u ys := by
  obtain ⟨v, G', rfl, hno, hrs, hfx, hq⟩ := hc
  obtain ⟨ad, cc, zs, rfl, hm, hxs⟩ := hno.at
  have h2 := h.keep hb
  obtain ⟨r1, r2⟩ := h2.node (fun k hk => (hX k hk).2) hi hrs hfx
  refine ⟨ad, cc, zs, G', rfl, hm, ⟨by rw [sayJ_zero]; exact r1, ((Fr.ofBelow hb).fx X).trans r2, hxs.imp fun k hk hp => ⟨Nat.le_trans hb.size hp.1, fun e => ?_⟩, fun z hz => .inl hz, hq⟩⟩
  rcases tg_new e (fun k hk => (h2.mine k hk).2) with h' | h'
  · exact hp.2 h'
  · have := hp.1; omega
theorem LP.keep {wr w2 : World} {F' : Nat → Nat → Prop} {t' : T} {ad : Option Addr} {cc : Nat} {zs : List RN} (h : LP w0 w wr b g c F F' bs u ys t t' X Q ad cc zs u' ys') (hb : Below wr.heap.size wr w2) (hXw : ∀ k, X k → k < w.heap.size) (hQ : ∀ W W', Q W → (∀ k, X k → W'.heap[k]? = W.heap[k]?) → Q W') : LP w0 w w2 b g c F F' bs u ys t t' X Q ad cc zs u' ys' :=
  ⟨h.tp.keep hb, h.fx.up hb, h.xs.keep hb, h.us, hQ _ _ h.q fun k hk => hb.block k (Nat.lt_of_lt_of_le (hXw k hk) h.fx.size)⟩
theorem LP.add {wr w2 : World} {F' : Nat → Nat → Prop} {t' t2 : T} {ad : Option Addr} {cc : Nat} {zs : List RN} (h : LP w0 w wr b g c F F' bs u ys t t' X Q ad cc zs u' ys') (hX : ∀ k, X k → k < w.heap.size ∧ ¬ TG b t.n F u k) (hQ : ∀ W W', Q W → (∀ k, X k → W'.heap[k]? = W.heap[k]?) → Q W') (hn : t'.n = t.n) {e : Ending} {r : Value} {yad : Option Addr} (hy : ∀ k, blk yad k → w.heap.size ≤ k) (hw : WayO w0 wr b g c F' bs u' ys' yad t' t2 e r w2) :
    e = .returned r ∧ ∃ u2 ys2, LP w0 w w2 b g c F F' bs u ys t t2 X Q ad cc zs u2 ys2 := by
  obtain ⟨u2, ys2, rfl, h1, h2, h3⟩ := hw
  rw [hn] at h2
  exact ⟨rfl, u2, ys2, h1, h.fx.trans (h2.fx X), h.xs.fr h2, fun z hz => (h3 z hz).elim (h.us z) (fun e => .inr (by rw [e]; exact hy)), hQ _ _ h.q fun k hk => h2.block k (Nat.lt_of_lt_of_le (hX k hk).1 h.fx.size) (h.fx.not (hX k hk).2 (hX k hk).1)⟩
set_option maxRecDepth 100000 in
set_option maxHeartbeats 2000000 in
theorem TP.run28 (h : TP w0 w b g c F bs u ys t) (i : Int) (r' : R) (l : List NT) (hl : l.length ≤ 1000000) (hX : ∀ k, X k → k < w.heap.size ∧ ¬ TG b t.n F u k ∧ w0.heap.size ≤ k ∧ k ≠ g ∧ ∀ y ∈ ys, ¬ blk y.ad k)
    (hQ : ∀ W W', Q W → (∀ k, X k → W'.heap[k]? = W.heap[k]?) → Q W') (cl : Tm.isT t i = true → ∀ W, Below w.heap.size w W → Calls Try.prog 28 #[ptr (bs i.toNat)] W (ClO w0 W (F i.toNat) X (bs i.toNat) r' l Q)) :
    Calls Try.prog 27 #[ptr b, .agg #[.int .i64 i, .func (.func 28) #[] #[]]] w (RunO w0 w b g c F bs u ys t X Q i r' l) := by
  obtain ⟨W1, HW1⟩ : ∃ W1, Hid (w.alloc (.cells #[.int .i64 i, .func (.func 28) #[] #[]] 55) = W1) := ⟨_, Hid_of rfl⟩
  have hb1 : Below w.heap.size w W1 := by rw [← HW1.out]; exact bel1 w _
  have hz1 : W1.heap[w.heap.size]? = some (.cells #[.int .i64 i, .func (.func 28) #[] #[]] 55 (0, 0)) := by rw [← HW1.out]; exact heap_alloc_last w _
  obtain ⟨gz, hgz⟩ : ∃ gz, w.heap.size = gz := ⟨_, rfl⟩
  rw [hgz] at hz1
  have h1 := h.keep hb1
  have cn := h1.node' i
  obtain ⟨⟨c0, c1⟩, cf⟩ := row2 hz1
  cases hi : Tm.isT t i with
  | false =>
    have hv : nodeV t bs i = .pointer none := by unfold nodeV; rw [hi]; rfl
    rw [hv] at cn
    have HK : Hid (RunO w0 w b g c F bs u ys t X Q i r' l (.returned (.bool false)) W1) := by
      refine ⟨F, u, ys, by rw [hi], ?_, (Fr.ofBelow hb1).fx X, fun e => (by rw [hi] at e; cases e), fun _ => hb1, fun z hz => .inl hz⟩
      unfold doT
      rw [hi]
      exact h1
    have HGZ := Hid_of hgz
    clear h h1 hb1 hz1 hgz cf hv cl hQ hX hi
    go_enter Try.func27, Try.ntmps27
    go_upto_region 1 with fail
    rw [HW1.out, HGZ.out]
    clear HW1
    go_wp2_with fail
    refine cn.mono ?_
    rintro e w1 ⟨rfl, rfl⟩
    clear cn
    go_wp2
    go_ret
    exact HK.out
  | true =>
    have hv : nodeV t bs i = ptr (bs i.toNat) := by unfold nodeV; rw [hi]; rfl
    rw [hv] at cn
    have hcl := cl hi W1 hb1
    have hin := Tm.isT_yes hi
    have hD : doT t i r' l = Tm.say t i.toNat r' l := by unfold doT; rw [hi]; rfl
    have HIN := Hid_of hin
    have HP := Hid_of h
    have HB1 := Hid_of hb1
    have HX := Hid_of hX
    have HQ' := Hid_of hQ
    have HD := Hid_of hD
    have HGZ := Hid_of hgz
    have HI := Hid_of hi
    obtain ⟨m, hm⟩ : ∃ m, l.length = m := ⟨_, rfl⟩
    rw [hm] at hl
    have HM := Hid_of hm
    clear h h1 hb1 hz1 hgz cf hv cl hQ hX hD hin hm hi
    go_enter Try.func27, Try.ntmps27
    go_upto_region 1 with fail
    rw [HW1.out, HGZ.out]
    clear HW1
    go_wp2_with fail
    refine cn.mono ?_
    rintro e w1 ⟨rfl, rfl⟩
    clear cn
    go_wp2_with fail
    refine hcl.mono ?_
    clear hcl
    rintro e w2 hc
    obtain ⟨ad, cc, zs, G', rfl, hzm, hlp⟩ := HP.out.said HB1.out HX.out HIN.out hc
    clear hc c0 c1
    have HZM := Hid_of hzm
    have HLP := Hid_of hlp
    clear hlp hzm
    rw [HM.out]
    go_wp2_with fail
    go_loopw [19] (fun i' wr => ∃ (j : Nat) (u2 : Value) (ys2 : List RN), j ≤ m ∧ i' = .int .i64 j ∧ LP w0 w wr b g c F (upF F i.toNat G') bs u ys t (sayJ t i.toNat r' l j) X Q ad cc zs u2 ys2) (fun i' _ => m - (intOf i').toNat)
    case atStart => exact ⟨0, u, ys, Nat.zero_le _, rfl, HLP.out⟩
    case round =>
      clear HLP
      obtain ⟨j, u2, ys2, hj, rfl, hlp⟩ := hrel
      by_cases hlt : j < m
      · have hji : (j : Int) < (m : Int) := by omega
        have hzl : zs.length = m := by rw [← HM.out, ← HZM.out, List.length_map]
        have hjz : j < zs.length := by rw [hzl]; exact hlt
        have hjl : j < l.length := by rw [HM.out]; exact hlt
        obtain ⟨q, off, rfl, n0, n1, n2, n3, n4, n5, n6⟩ := AtL.getN hlp.xs.xl.at' j hjz
        have hyx : (zs[j]).x = l[j] := by
          have h2 : j < (zs.map RN.x).length := by rw [List.length_map]; exact hjz
          have h3 : (zs.map RN.x)[j]'h2 = (zs[j]).x := List.getElem_map _
          have h4 := HZM.out
          rw [← h3]
          simp only [h4]
        have hyn := hlp.xs.all _ (List.getElem_mem hjz)
        obtain ⟨y, HY⟩ : ∃ y, Hid (zs[j] = y) := ⟨_, Hid_of rfl⟩
        rw [HY.out] at n0 n1 n2 n3 n4 n5 n6 hyx hyn
        obtain ⟨⟨yk, yf, yt, ysl, ⟨yi, yj⟩, yv⟩, yad, yc⟩ := y
        simp only at n0 n1 n2 n3 n4 n5 n6
        obtain ⟨W3, HW3⟩ : ∃ W3, Hid (wr.alloc (.cells #[.int .i64 yk, .int .i64 yf, .int .i64 yt, .int .i64 ysl, .int .i64 yi, .int .i64 yj, .slice yad yv.length yc] 63) = W3) := ⟨_, Hid_of rfl⟩
        have hb3 : Below wr.heap.size wr W3 := by rw [← HW3.out]; exact bel1 wr _
        have hz3 : W3.heap[wr.heap.size]? = some (.cells #[.int .i64 yk, .int .i64 yf, .int .i64 yt, .int .i64 ysl, .int .i64 yi, .int .i64 yj, .slice yad yv.length yc] 63 (0, 0)) := by rw [← HW3.out]; exact heap_alloc_last wr _
        obtain ⟨⟨x0, x1, x2, x3, x4, x5, x6⟩, _⟩ := row7 hz3
        have hlp3 := hlp.keep hb3 (fun k hk => (HX.out k hk).1) HQ'.out
        have ca := hlp3.tp.add ⟨⟨yk, yf, yt, ysl, ⟨yi, yj⟩, yv⟩, yad, yc⟩ ((hyn.keep hb3).imp fun k _ hk => ⟨Nat.le_trans HP.out.bel.size hk.1, hk.2⟩)
        have HYB : Hid (∀ k, blk yad k → w.heap.size ≤ k) := fun k hk => (hyn.blk k hk).2.1
        have hsj := sayJ_succ t i.toNat r' l j hjl
        rw [← hyx] at hsj
        have HSJ := Hid_of hsj
        have HLP := Hid_of hlp3
        obtain ⟨bn, hbn⟩ : ∃ bn, decide ((sayJ t i.toNat r' l j).way.length < 1024) = bn := ⟨_, rfl⟩
        rw [hbn] at ca
        clear hsj hb3 hz3 hlp hlp3 hyn hyx HY hzl hjz hjl hbn
        go_upto_region 7 with fail
        rw [HW3.out]
        go_wp2_with fail
        refine ca.mono ?_
        clear ca
        rintro e w4 hw
        obtain ⟨rfl, u3, ys3, hlp4⟩ := HLP.out.add (fun k hk => ⟨(HX.out k hk).1, (HX.out k hk).2.1⟩) HQ'.out rfl HYB.out hw
        have HL4 := Hid_of hlp4
        clear hw hlp4 x0 x1 x2 x3 x4 x5 x6 n0 n1 n2 n3 n4 n5 n6
        go_wp2_with fail
        go_roundw
        case rel => exact ⟨j + 1, u3, ys3, by omega, by go_num, by rw [← HSJ.out]; exact HL4.out⟩
        case measure => simp [intOf]; omega
      · obtain rfl : j = m := by omega
        have HK : Hid (RunO w0 w b g c F bs u ys t X Q i r' l (.returned (.bool true)) wr) := by
          refine ⟨_, u2, ys2, by rw [HI.out], ?_, hlp.fx, fun _ => hlp.q, fun e => (by rw [HI.out] at e; cases e), hlp.us⟩
          rw [HD.out, ← sayJ_all, HM.out]
          exact hlp.tp
        clear hlp
        go_wp2
        go_ret
        exact HK.out
set_option maxRecDepth 100000 in
set_option maxHeartbeats 2000000 in
theorem TP.run30 (h : TP w0 w b g c F bs u ys t) (i : Int) (p1 p2 : Value) (r' : R) (l : List NT) (hl : l.length ≤ 1000000) (hX : ∀ k, X k → k < w.heap.size ∧ ¬ TG b t.n F u k ∧ w0.heap.size ≤ k ∧ k ≠ g ∧ ∀ y ∈ ys, ¬ blk y.ad k)
    (hQ : ∀ W W', Q W → (∀ k, X k → W'.heap[k]? = W.heap[k]?) → Q W') (cl : Tm.isT t i = true → ∀ W, Below w.heap.size w W → Calls Try.prog 30 #[ptr (bs i.toNat), p1, p2] W (ClO w0 W (F i.toNat) X (bs i.toNat) r' l Q)) :
    Calls Try.prog 27 #[ptr b, .agg #[.int .i64 i, .func (.func 30) #[] #[p1, p2]]] w (RunO w0 w b g c F bs u ys t X Q i r' l) := by
  obtain ⟨W1, HW1⟩ : ∃ W1, Hid (w.alloc (.cells #[.int .i64 i, .func (.func 30) #[] #[p1, p2]] 55) = W1) := ⟨_, Hid_of rfl⟩
  have hb1 : Below w.heap.size w W1 := by rw [← HW1.out]; exact bel1 w _
  have hz1 : W1.heap[w.heap.size]? = some (.cells #[.int .i64 i, .func (.func 30) #[] #[p1, p2]] 55 (0, 0)) := by rw [← HW1.out]; exact heap_alloc_last w _
  obtain ⟨gz, hgz⟩ : ∃ gz, w.heap.size = gz := ⟨_, rfl⟩
  rw [hgz] at hz1
  have h1 := h.keep hb1
  have cn := h1.node' i
  obtain ⟨⟨c0, c1⟩, cf⟩ := row2 hz1
  cases hi : Tm.isT t i with
  | false =>
    have hv : nodeV t bs i = .pointer none := by unfold nodeV; rw [hi]; rfl
    rw [hv] at cn
    have HK : Hid (RunO w0 w b g c F bs u ys t X Q i r' l (.returned (.bool false)) W1) := by
      refine ⟨F, u, ys, by rw [hi], ?_, (Fr.ofBelow hb1).fx X, fun e => (by rw [hi] at e; cases e), fun _ => hb1, fun z hz => .inl hz⟩
      unfold doT
      rw [hi]
      exact h1
    have HGZ := Hid_of hgz
    clear h h1 hb1 hz1 hgz cf hv cl hQ hX hi
    go_enter Try.func27, Try.ntmps27
    go_upto_region 1 with fail
    rw [HW1.out, HGZ.out]
    clear HW1
    go_wp2_with fail
    refine cn.mono ?_
    rintro e w1 ⟨rfl, rfl⟩
    clear cn
    go_wp2
    go_ret
    exact HK.out
  | true =>
    have hv : nodeV t bs i = ptr (bs i.toNat) := by unfold nodeV; rw [hi]; rfl
    rw [hv] at cn
    have hcl := cl hi W1 hb1
    have hin := Tm.isT_yes hi
    have hD : doT t i r' l = Tm.say t i.toNat r' l := by unfold doT; rw [hi]; rfl
    have HIN := Hid_of hin
    have HP := Hid_of h
    have HB1 := Hid_of hb1
    have HX := Hid_of hX
    have HQ' := Hid_of hQ
    have HD := Hid_of hD
    have HGZ := Hid_of hgz
    have HI := Hid_of hi
    obtain ⟨m, hm⟩ : ∃ m, l.length = m := ⟨_, rfl⟩
    rw [hm] at hl
    have HM := Hid_of hm
    clear h h1 hb1 hz1 hgz cf hv cl hQ hX hD hin hm hi
    go_enter Try.func27, Try.ntmps27
    go_upto_region 1 with fail
    rw [HW1.out, HGZ.out]
    clear HW1
    go_wp2_with fail
    refine cn.mono ?_
    rintro e w1 ⟨rfl, rfl⟩
    clear cn
    go_wp2_with fail
    refine hcl.mono ?_
    clear hcl
    rintro e w2 hc
    obtain ⟨ad, cc, zs, G', rfl, hzm, hlp⟩ := HP.out.said HB1.out HX.out HIN.out hc
    clear hc c0 c1
    have HZM := Hid_of hzm
    have HLP := Hid_of hlp
    clear hlp hzm
    rw [HM.out]
    go_wp2_with fail
    go_loopw [19] (fun i' wr => ∃ (j : Nat) (u2 : Value) (ys2 : List RN), j ≤ m ∧ i' = .int .i64 j ∧ LP w0 w wr b g c F (upF F i.toNat G') bs u ys t (sayJ t i.toNat r' l j) X Q ad cc zs u2 ys2) (fun i' _ => m - (intOf i').toNat)
    case atStart => exact ⟨0, u, ys, Nat.zero_le _, rfl, HLP.out⟩
    case round =>
      clear HLP
      obtain ⟨j, u2, ys2, hj, rfl, hlp⟩ := hrel
      by_cases hlt : j < m
      · have hji : (j : Int) < (m : Int) := by omega
        have hzl : zs.length = m := by rw [← HM.out, ← HZM.out, List.length_map]
        have hjz : j < zs.length := by rw [hzl]; exact hlt
        have hjl : j < l.length := by rw [HM.out]; exact hlt
        obtain ⟨q, off, rfl, n0, n1, n2, n3, n4, n5, n6⟩ := AtL.getN hlp.xs.xl.at' j hjz
        have hyx : (zs[j]).x = l[j] := by
          have h2 : j < (zs.map RN.x).length := by rw [List.length_map]; exact hjz
          have h3 : (zs.map RN.x)[j]'h2 = (zs[j]).x := List.getElem_map _
          have h4 := HZM.out
          rw [← h3]
          simp only [h4]
        have hyn := hlp.xs.all _ (List.getElem_mem hjz)
        obtain ⟨y, HY⟩ : ∃ y, Hid (zs[j] = y) := ⟨_, Hid_of rfl⟩
        rw [HY.out] at n0 n1 n2 n3 n4 n5 n6 hyx hyn
        obtain ⟨⟨yk, yf, yt, ysl, ⟨yi, yj⟩, yv⟩, yad, yc⟩ := y
        simp only at n0 n1 n2 n3 n4 n5 n6
        obtain ⟨W3, HW3⟩ : ∃ W3, Hid (wr.alloc (.cells #[.int .i64 yk, .int .i64 yf, .int .i64 yt, .int .i64 ysl, .int .i64 yi, .int .i64 yj, .slice yad yv.length yc] 63) = W3) := ⟨_, Hid_of rfl⟩
        have hb3 : Below wr.heap.size wr W3 := by rw [← HW3.out]; exact bel1 wr _
        have hz3 : W3.heap[wr.heap.size]? = some (.cells #[.int .i64 yk, .int .i64 yf, .int .i64 yt, .int .i64 ysl, .int .i64 yi, .int .i64 yj, .slice yad yv.length yc] 63 (0, 0)) := by rw [← HW3.out]; exact heap_alloc_last wr _
        obtain ⟨⟨x0, x1, x2, x3, x4, x5, x6⟩, _⟩ := row7 hz3
        have hlp3 := hlp.keep hb3 (fun k hk => (HX.out k hk).1) HQ'.out
        have ca := hlp3.tp.add ⟨⟨yk, yf, yt, ysl, ⟨yi, yj⟩, yv⟩, yad, yc⟩ ((hyn.keep hb3).imp fun k _ hk => ⟨Nat.le_trans HP.out.bel.size hk.1, hk.2⟩)
        have HYB : Hid (∀ k, blk yad k → w.heap.size ≤ k) := fun k hk => (hyn.blk k hk).2.1
        have hsj := sayJ_succ t i.toNat r' l j hjl
        rw [← hyx] at hsj
        have HSJ := Hid_of hsj
        have HLP := Hid_of hlp3
        obtain ⟨bn, hbn⟩ : ∃ bn, decide ((sayJ t i.toNat r' l j).way.length < 1024) = bn := ⟨_, rfl⟩
        rw [hbn] at ca
        clear hsj hb3 hz3 hlp hlp3 hyn hyx HY hzl hjz hjl hbn
        go_upto_region 7 with fail
        rw [HW3.out]
        go_wp2_with fail
        refine ca.mono ?_
        clear ca
        rintro e w4 hw
        obtain ⟨rfl, u3, ys3, hlp4⟩ := HLP.out.add (fun k hk => ⟨(HX.out k hk).1, (HX.out k hk).2.1⟩) HQ'.out rfl HYB.out hw
        have HL4 := Hid_of hlp4
        clear hw hlp4 x0 x1 x2 x3 x4 x5 x6 n0 n1 n2 n3 n4 n5 n6
        go_wp2_with fail
        go_roundw
        case rel => exact ⟨j + 1, u3, ys3, by omega, by go_num, by rw [← HSJ.out]; exact HL4.out⟩
        case measure => simp [intOf]; omega
      · obtain rfl : j = m := by omega
        have HK : Hid (RunO w0 w b g c F bs u ys t X Q i r' l (.returned (.bool true)) wr) := by
          refine ⟨_, u2, ys2, by rw [HI.out], ?_, hlp.fx, fun _ => hlp.q, fun e => (by rw [HI.out] at e; cases e), hlp.us⟩
          rw [HD.out, ← sayJ_all, HM.out]
          exact hlp.tp
        clear hlp
        go_wp2
        go_ret
        exact HK.out
set_option maxRecDepth 100000 in
set_option maxHeartbeats 2000000 in
theorem TP.run32 (h : TP w0 w b g c F bs u ys t) (i : Int) (p1 : Value) (r' : R) (l : List NT) (hl : l.length ≤ 1000000) (hX : ∀ k, X k → k < w.heap.size ∧ ¬ TG b t.n F u k ∧ w0.heap.size ≤ k ∧ k ≠ g ∧ ∀ y ∈ ys, ¬ blk y.ad k)
    (hQ : ∀ W W', Q W → (∀ k, X k → W'.heap[k]? = W.heap[k]?) → Q W') (cl : Tm.isT t i = true → ∀ W, Below w.heap.size w W → Calls Try.prog 32 #[ptr (bs i.toNat), p1] W (ClO w0 W (F i.toNat) X (bs i.toNat) r' l Q)) :
    Calls Try.prog 27 #[ptr b, .agg #[.int .i64 i, .func (.func 32) #[] #[p1]]] w (RunO w0 w b g c F bs u ys t X Q i r' l) := by
  obtain ⟨W1, HW1⟩ : ∃ W1, Hid (w.alloc (.cells #[.int .i64 i, .func (.func 32) #[] #[p1]] 55) = W1) := ⟨_, Hid_of rfl⟩
  have hb1 : Below w.heap.size w W1 := by rw [← HW1.out]; exact bel1 w _
  have hz1 : W1.heap[w.heap.size]? = some (.cells #[.int .i64 i, .func (.func 32) #[] #[p1]] 55 (0, 0)) := by rw [← HW1.out]; exact heap_alloc_last w _
  obtain ⟨gz, hgz⟩ : ∃ gz, w.heap.size = gz := ⟨_, rfl⟩
  rw [hgz] at hz1
  have h1 := h.keep hb1
  have cn := h1.node' i
  obtain ⟨⟨c0, c1⟩, cf⟩ := row2 hz1
  cases hi : Tm.isT t i with
  | false =>
    have hv : nodeV t bs i = .pointer none := by unfold nodeV; rw [hi]; rfl
    rw [hv] at cn
    have HK : Hid (RunO w0 w b g c F bs u ys t X Q i r' l (.returned (.bool false)) W1) := by
      refine ⟨F, u, ys, by rw [hi], ?_, (Fr.ofBelow hb1).fx X, fun e => (by rw [hi] at e; cases e), fun _ => hb1, fun z hz => .inl hz⟩
      unfold doT
      rw [hi]
      exact h1
    have HGZ := Hid_of hgz
    clear h h1 hb1 hz1 hgz cf hv cl hQ hX hi
    go_enter Try.func27, Try.ntmps27
    go_upto_region 1 with fail
    rw [HW1.out, HGZ.out]
    clear HW1
    go_wp2_with fail
    refine cn.mono ?_
    rintro e w1 ⟨rfl, rfl⟩
    clear cn
    go_wp2
    go_ret
    exact HK.out
  | true =>
    have hv : nodeV t bs i = ptr (bs i.toNat) := by unfold nodeV; rw [hi]; rfl
    rw [hv] at cn
    have hcl := cl hi W1 hb1
    have hin := Tm.isT_yes hi
    have hD : doT t i r' l = Tm.say t i.toNat r' l := by unfold doT; rw [hi]; rfl
    have HIN := Hid_of hin
    have HP := Hid_of h
    have HB1 := Hid_of hb1
    have HX := Hid_of hX
    have HQ' := Hid_of hQ
    have HD := Hid_of hD
    have HGZ := Hid_of hgz
    have HI := Hid_of hi
    obtain ⟨m, hm⟩ : ∃ m, l.length = m := ⟨_, rfl⟩
    rw [hm] at hl
    have HM := Hid_of hm
    clear h h1 hb1 hz1 hgz cf hv cl hQ hX hD hin hm hi
    go_enter Try.func27, Try.ntmps27
    go_upto_region 1 with fail
    rw [HW1.out, HGZ.out]
    clear HW1
    go_wp2_with fail
    refine cn.mono ?_
    rintro e w1 ⟨rfl, rfl⟩
    clear cn
    go_wp2_with fail
    refine hcl.mono ?_
    clear hcl
    rintro e w2 hc
    obtain ⟨ad, cc, zs, G', rfl, hzm, hlp⟩ := HP.out.said HB1.out HX.out HIN.out hc
    clear hc c0 c1
    have HZM := Hid_of hzm
    have HLP := Hid_of hlp
    clear hlp hzm
    rw [HM.out]
    go_wp2_with fail
    go_loopw [19] (fun i' wr => ∃ (j : Nat) (u2 : Value) (ys2 : List RN), j ≤ m ∧ i' = .int .i64 j ∧ LP w0 w wr b g c F (upF F i.toNat G') bs u ys t (sayJ t i.toNat r' l j) X Q ad cc zs u2 ys2) (fun i' _ => m - (intOf i').toNat)
    case atStart => exact ⟨0, u, ys, Nat.zero_le _, rfl, HLP.out⟩
    case round =>
      clear HLP
      obtain ⟨j, u2, ys2, hj, rfl, hlp⟩ := hrel
      by_cases hlt : j < m
      · have hji : (j : Int) < (m : Int) := by omega
        have hzl : zs.length = m := by rw [← HM.out, ← HZM.out, List.length_map]
        have hjz : j < zs.length := by rw [hzl]; exact hlt
        have hjl : j < l.length := by rw [HM.out]; exact hlt
        obtain ⟨q, off, rfl, n0, n1, n2, n3, n4, n5, n6⟩ := AtL.getN hlp.xs.xl.at' j hjz
        have hyx : (zs[j]).x = l[j] := by
          have h2 : j < (zs.map RN.x).length := by rw [List.length_map]; exact hjz
          have h3 : (zs.map RN.x)[j]'h2 = (zs[j]).x := List.getElem_map _
          have h4 := HZM.out
          rw [← h3]
          simp only [h4]
        have hyn := hlp.xs.all _ (List.getElem_mem hjz)
        obtain ⟨y, HY⟩ : ∃ y, Hid (zs[j] = y) := ⟨_, Hid_of rfl⟩
        rw [HY.out] at n0 n1 n2 n3 n4 n5 n6 hyx hyn
        obtain ⟨⟨yk, yf, yt, ysl, ⟨yi, yj⟩, yv⟩, yad, yc⟩ := y
        simp only at n0 n1 n2 n3 n4 n5 n6
        obtain ⟨W3, HW3⟩ : ∃ W3, Hid (wr.alloc (.cells #[.int .i64 yk, .int .i64 yf, .int .i64 yt, .int .i64 ysl, .int .i64 yi, .int .i64 yj, .slice yad yv.length yc] 63) = W3) := ⟨_, Hid_of rfl⟩
        have hb3 : Below wr.heap.size wr W3 := by rw [← HW3.out]; exact bel1 wr _
        have hz3 : W3.heap[wr.heap.size]? = some (.cells #[.int .i64 yk, .int .i64 yf, .int .i64 yt, .int .i64 ysl, .int .i64 yi, .int .i64 yj, .slice yad yv.length yc] 63 (0, 0)) := by rw [← HW3.out]; exact heap_alloc_last wr _
        obtain ⟨⟨x0, x1, x2, x3, x4, x5, x6⟩, _⟩ := row7 hz3
        have hlp3 := hlp.keep hb3 (fun k hk => (HX.out k hk).1) HQ'.out
        have ca := hlp3.tp.add ⟨⟨yk, yf, yt, ysl, ⟨yi, yj⟩, yv⟩, yad, yc⟩ ((hyn.keep hb3).imp fun k _ hk => ⟨Nat.le_trans HP.out.bel.size hk.1, hk.2⟩)
        have HYB : Hid (∀ k, blk yad k → w.heap.size ≤ k) := fun k hk => (hyn.blk k hk).2.1
        have hsj := sayJ_succ t i.toNat r' l j hjl
        rw [← hyx] at hsj
        have HSJ := Hid_of hsj
        have HLP := Hid_of hlp3
        obtain ⟨bn, hbn⟩ : ∃ bn, decide ((sayJ t i.toNat r' l j).way.length < 1024) = bn := ⟨_, rfl⟩
        rw [hbn] at ca
        clear hsj hb3 hz3 hlp hlp3 hyn hyx HY hzl hjz hjl hbn
        go_upto_region 7 with fail
        rw [HW3.out]
        go_wp2_with fail
        refine ca.mono ?_
        clear ca
        rintro e w4 hw
        obtain ⟨rfl, u3, ys3, hlp4⟩ := HLP.out.add (fun k hk => ⟨(HX.out k hk).1, (HX.out k hk).2.1⟩) HQ'.out rfl HYB.out hw
        have HL4 := Hid_of hlp4
        clear hw hlp4 x0 x1 x2 x3 x4 x5 x6 n0 n1 n2 n3 n4 n5 n6
        go_wp2_with fail
        go_roundw
        case rel => exact ⟨j + 1, u3, ys3, by omega, by go_num, by rw [← HSJ.out]; exact HL4.out⟩
        case measure => simp [intOf]; omega
      · obtain rfl : j = m := by omega
        have HK : Hid (RunO w0 w b g c F bs u ys t X Q i r' l (.returned (.bool true)) wr) := by
          refine ⟨_, u2, ys2, by rw [HI.out], ?_, hlp.fx, fun _ => hlp.q, fun e => (by rw [HI.out] at e; cases e), hlp.us⟩
          rw [HD.out, ← sayJ_all, HM.out]
          exact hlp.tp
        clear hlp
        go_wp2
        go_ret
        exact HK.out
set_option maxRecDepth 100000 in
set_option maxHeartbeats 2000000 in
theorem TP.run35 (h : TP w0 w b g c F bs u ys t) (i : Int) (p1 : Value) (r' : R) (l : List NT) (hl : l.length ≤ 1000000) (hX : ∀ k, X k → k < w.heap.size ∧ ¬ TG b t.n F u k ∧ w0.heap.size ≤ k ∧ k ≠ g ∧ ∀ y ∈ ys, ¬ blk y.ad k)
    (hQ : ∀ W W', Q W → (∀ k, X k → W'.heap[k]? = W.heap[k]?) → Q W') (cl : Tm.isT t i = true → ∀ W, Below w.heap.size w W → Calls Try.prog 35 #[ptr (bs i.toNat), p1] W (ClO w0 W (F i.toNat) X (bs i.toNat) r' l Q)) :
    Calls Try.prog 27 #[ptr b, .agg #[.int .i64 i, .func (.func 35) #[] #[p1]]] w (RunO w0 w b g c F bs u ys t X Q i r' l) := by
  obtain ⟨W1, HW1⟩ : ∃ W1, Hid (w.alloc (.cells #[.int .i64 i, .func (.func 35) #[] #[p1]] 55) = W1) := ⟨_, Hid_of rfl⟩
  have hb1 : Below w.heap.size w W1 := by rw [← HW1.out]; exact bel1 w _
  have hz1 : W1.heap[w.heap.size]? = some (.cells #[.int .i64 i, .func (.func 35) #[] #[p1]] 55 (0, 0)) := by rw [← HW1.out]; exact heap_alloc_last w _
  obtain ⟨gz, hgz⟩ : ∃ gz, w.heap.size = gz := ⟨_, rfl⟩
  rw [hgz] at hz1
  have h1 := h.keep hb1
  have cn := h1.node' i
  obtain ⟨⟨c0, c1⟩, cf⟩ := row2 hz1
  cases hi : Tm.isT t i with
  | false =>
    have hv : nodeV t bs i = .pointer none := by unfold nodeV; rw [hi]; rfl
    rw [hv] at cn
    have HK : Hid (RunO w0 w b g c F bs u ys t X Q i r' l (.returned (.bool false)) W1) := by
      refine ⟨F, u, ys, by rw [hi], ?_, (Fr.ofBelow hb1).fx X, fun e => (by rw [hi] at e; cases e), fun _ => hb1, fun z hz => .inl hz⟩
      unfold doT
      rw [hi]
      exact h1
    have HGZ := Hid_of hgz
    clear h h1 hb1 hz1 hgz cf hv cl hQ hX hi
    go_enter Try.func27, Try.ntmps27
    go_upto_region 1 with fail
    rw [HW1.out, HGZ.out]
    clear HW1
    go_wp2_with fail
    refine cn.mono ?_
    rintro e w1 ⟨rfl, rfl⟩
    clear cn
    go_wp2
    go_ret
    exact HK.out
  | true =>
    have hv : nodeV t bs i = ptr (bs i.toNat) := by unfold nodeV; rw [hi]; rfl
    rw [hv] at cn
    have hcl := cl hi W1 hb1
    have hin := Tm.isT_yes hi
    have hD : doT t i r' l = Tm.say t i.toNat r' l := by unfold doT; rw [hi]; rfl
    have HIN := Hid_of hin
    have HP := Hid_of h
    have HB1 := Hid_of hb1
    have HX := Hid_of hX
    have HQ' := Hid_of hQ
    have HD := Hid_of hD
    have HGZ := Hid_of hgz
    have HI := Hid_of hi
    obtain ⟨m, hm⟩ : ∃ m, l.length = m := ⟨_, rfl⟩
    rw [hm] at hl
    have HM := Hid_of hm
    clear h h1 hb1 hz1 hgz cf hv cl hQ hX hD hin hm hi
    go_enter Try.func27, Try.ntmps27
    go_upto_region 1 with fail
    rw [HW1.out, HGZ.out]
    clear HW1
    go_wp2_with fail
    refine cn.mono ?_
    rintro e w1 ⟨rfl, rfl⟩
    clear cn
    go_wp2_with fail
    refine hcl.mono ?_
    clear hcl
    rintro e w2 hc
    obtain ⟨ad, cc, zs, G', rfl, hzm, hlp⟩ := HP.out.said HB1.out HX.out HIN.out hc
    clear hc c0 c1
    have HZM := Hid_of hzm
    have HLP := Hid_of hlp
    clear hlp hzm
    rw [HM.out]
    go_wp2_with fail
    go_loopw [19] (fun i' wr => ∃ (j : Nat) (u2 : Value) (ys2 : List RN), j ≤ m ∧ i' = .int .i64 j ∧ LP w0 w wr b g c F (upF F i.toNat G') bs u ys t (sayJ t i.toNat r' l j) X Q ad cc zs u2 ys2) (fun i' _ => m - (intOf i').toNat)
    case atStart => exact ⟨0, u, ys, Nat.zero_le _, rfl, HLP.out⟩
    case round =>
      clear HLP
      obtain ⟨j, u2, ys2, hj, rfl, hlp⟩ := hrel
      by_cases hlt : j < m
      · have hji : (j : Int) < (m : Int) := by omega
        have hzl : zs.length = m := by rw [← HM.out, ← HZM.out, List.length_map]
        have hjz : j < zs.length := by rw [hzl]; exact hlt
        have hjl : j < l.length := by rw [HM.out]; exact hlt
        obtain ⟨q, off, rfl, n0, n1, n2, n3, n4, n5, n6⟩ := AtL.getN hlp.xs.xl.at' j hjz
        have hyx : (zs[j]).x = l[j] := by
          have h2 : j < (zs.map RN.x).length := by rw [List.length_map]; exact hjz
          have h3 : (zs.map RN.x)[j]'h2 = (zs[j]).x := List.getElem_map _
          have h4 := HZM.out
          rw [← h3]
          simp only [h4]
        have hyn := hlp.xs.all _ (List.getElem_mem hjz)
        obtain ⟨y, HY⟩ : ∃ y, Hid (zs[j] = y) := ⟨_, Hid_of rfl⟩
        rw [HY.out] at n0 n1 n2 n3 n4 n5 n6 hyx hyn
        obtain ⟨⟨yk, yf, yt, ysl, ⟨yi, yj⟩, yv⟩, yad, yc⟩ := y
        simp only at n0 n1 n2 n3 n4 n5 n6
        obtain ⟨W3, HW3⟩ : ∃ W3, Hid (wr.alloc (.cells #[.int .i64 yk, .int .i64 yf, .int .i64 yt, .int .i64 ysl, .int .i64 yi, .int .i64 yj, .slice yad yv.length yc] 63) = W3) := ⟨_, Hid_of rfl⟩
        have hb3 : Below wr.heap.size wr W3 := by rw [← HW3.out]; exact bel1 wr _
        have hz3 : W3.heap[wr.heap.size]? = some (.cells #[.int .i64 yk, .int .i64 yf, .int .i64 yt, .int .i64 ysl, .int .i64 yi, .int .i64 yj, .slice yad yv.length yc] 63 (0, 0)) := by rw [← HW3.out]; exact heap_alloc_last wr _
        obtain ⟨⟨x0, x1, x2, x3, x4, x5, x6⟩, _⟩ := row7 hz3
        have hlp3 := hlp.keep hb3 (fun k hk => (HX.out k hk).1) HQ'.out
        have ca := hlp3.tp.add ⟨⟨yk, yf, yt, ysl, ⟨yi, yj⟩, yv⟩, yad, yc⟩ ((hyn.keep hb3).imp fun k _ hk => ⟨Nat.le_trans HP.out.bel.size hk.1, hk.2⟩)
        have HYB : Hid (∀ k, blk yad k → w.heap.size ≤ k) := fun k hk => (hyn.blk k hk).2.1
        have hsj := sayJ_succ t i.toNat r' l j hjl
        rw [← hyx] at hsj
        have HSJ := Hid_of hsj
        have HLP := Hid_of hlp3
        obtain ⟨bn, hbn⟩ : ∃ bn, decide ((sayJ t i.toNat r' l j).way.length < 1024) = bn := ⟨_, rfl⟩
        rw [hbn] at ca
        clear hsj hb3 hz3 hlp hlp3 hyn hyx HY hzl hjz hjl hbn
        go_upto_region 7 with fail
        rw [HW3.out]
        go_wp2_with fail
        refine ca.mono ?_
        clear ca
        rintro e w4 hw
        obtain ⟨rfl, u3, ys3, hlp4⟩ := HLP.out.add (fun k hk => ⟨(HX.out k hk).1, (HX.out k hk).2.1⟩) HQ'.out rfl HYB.out hw
        have HL4 := Hid_of hlp4
        clear hw hlp4 x0 x1 x2 x3 x4 x5 x6 n0 n1 n2 n3 n4 n5 n6
        go_wp2_with fail
        go_roundw
        case rel => exact ⟨j + 1, u3, ys3, by omega, by go_num, by rw [← HSJ.out]; exact HL4.out⟩
        case measure => simp [intOf]; omega
      · obtain rfl : j = m := by omega
        have HK : Hid (RunO w0 w b g c F bs u ys t X Q i r' l (.returned (.bool true)) wr) := by
          refine ⟨_, u2, ys2, by rw [HI.out], ?_, hlp.fx, fun _ => hlp.q, fun e => (by rw [HI.out] at e; cases e), hlp.us⟩
          rw [HD.out, ← sayJ_all, HM.out]
          exact hlp.tp
        clear hlp
        go_wp2
        go_ret
        exact HK.out
set_option maxRecDepth 100000 in
set_option maxHeartbeats 2000000 in
theorem TP.run39 (h : TP w0 w b g c F bs u ys t) (i : Int) (r' : R) (l : List NT) (hl : l.length ≤ 1000000) (hX : ∀ k, X k → k < w.heap.size ∧ ¬ TG b t.n F u k ∧ w0.heap.size ≤ k ∧ k ≠ g ∧ ∀ y ∈ ys, ¬ blk y.ad k)
    (hQ : ∀ W W', Q W → (∀ k, X k → W'.heap[k]? = W.heap[k]?) → Q W') (cl : Tm.isT t i = true → ∀ W, Below w.heap.size w W → Calls Try.prog 39 #[ptr (bs i.toNat)] W (ClO w0 W (F i.toNat) X (bs i.toNat) r' l Q)) :
    Calls Try.prog 27 #[ptr b, .agg #[.int .i64 i, .func (.func 39) #[] #[]]] w (RunO w0 w b g c F bs u ys t X Q i r' l) := by
  obtain ⟨W1, HW1⟩ : ∃ W1, Hid (w.alloc (.cells #[.int .i64 i, .func (.func 39) #[] #[]] 55) = W1) := ⟨_, Hid_of rfl⟩
  have hb1 : Below w.heap.size w W1 := by rw [← HW1.out]; exact bel1 w _
  have hz1 : W1.heap[w.heap.size]? = some (.cells #[.int .i64 i, .func (.func 39) #[] #[]] 55 (0, 0)) := by rw [← HW1.out]; exact heap_alloc_last w _
  obtain ⟨gz, hgz⟩ : ∃ gz, w.heap.size = gz := ⟨_, rfl⟩
  rw [hgz] at hz1
  have h1 := h.keep hb1
  have cn := h1.node' i
  obtain ⟨⟨c0, c1⟩, cf⟩ := row2 hz1
  cases hi : Tm.isT t i with
  | false =>
    have hv : nodeV t bs i = .pointer none := by unfold nodeV; rw [hi]; rfl
    rw [hv] at cn
    have HK : Hid (RunO w0 w b g c F bs u ys t X Q i r' l (.returned (.bool false)) W1) := by
      refine ⟨F, u, ys, by rw [hi], ?_, (Fr.ofBelow hb1).fx X, fun e => (by rw [hi] at e; cases e), fun _ => hb1, fun z hz => .inl hz⟩
      unfold doT
      rw [hi]
      exact h1
    have HGZ := Hid_of hgz
    clear h h1 hb1 hz1 hgz cf hv cl hQ hX hi
    go_enter Try.func27, Try.ntmps27
    go_upto_region 1 with fail
    rw [HW1.out, HGZ.out]
    clear HW1
    go_wp2_with fail
    refine cn.mono ?_
    rintro e w1 ⟨rfl, rfl⟩
    clear cn
    go_wp2
    go_ret
    exact HK.out
  | true =>
    have hv : nodeV t bs i = ptr (bs i.toNat) := by unfold nodeV; rw [hi]; rfl
    rw [hv] at cn
    have hcl := cl hi W1 hb1
    have hin := Tm.isT_yes hi
    have hD : doT t i r' l = Tm.say t i.toNat r' l := by unfold doT; rw [hi]; rfl
    have HIN := Hid_of hin
    have HP := Hid_of h
    have HB1 := Hid_of hb1
    have HX := Hid_of hX
    have HQ' := Hid_of hQ
    have HD := Hid_of hD
    have HGZ := Hid_of hgz
    have HI := Hid_of hi
    obtain ⟨m, hm⟩ : ∃ m, l.length = m := ⟨_, rfl⟩
    rw [hm] at hl
    have HM := Hid_of hm
    clear h h1 hb1 hz1 hgz cf hv cl hQ hX hD hin hm hi
    go_enter Try.func27, Try.ntmps27
    go_upto_region 1 with fail
    rw [HW1.out, HGZ.out]
    clear HW1
    go_wp2_with fail
    refine cn.mono ?_
    rintro e w1 ⟨rfl, rfl⟩
    clear cn
    go_wp2_with fail
    refine hcl.mono ?_
    clear hcl
    rintro e w2 hc
    obtain ⟨ad, cc, zs, G', rfl, hzm, hlp⟩ := HP.out.said HB1.out HX.out HIN.out hc
    clear hc c0 c1
    have HZM := Hid_of hzm
    have HLP := Hid_of hlp
    clear hlp hzm
    rw [HM.out]
    go_wp2_with fail
    go_loopw [19] (fun i' wr => ∃ (j : Nat) (u2 : Value) (ys2 : List RN), j ≤ m ∧ i' = .int .i64 j ∧ LP w0 w wr b g c F (upF F i.toNat G') bs u ys t (sayJ t i.toNat r' l j) X Q ad cc zs u2 ys2) (fun i' _ => m - (intOf i').toNat)
    case atStart => exact ⟨0, u, ys, Nat.zero_le _, rfl, HLP.out⟩
    case round =>
      clear HLP
      obtain ⟨j, u2, ys2, hj, rfl, hlp⟩ := hrel
      by_cases hlt : j < m
      · have hji : (j : Int) < (m : Int) := by omega
        have hzl : zs.length = m := by rw [← HM.out, ← HZM.out, List.length_map]
        have hjz : j < zs.length := by rw [hzl]; exact hlt
        have hjl : j < l.length := by rw [HM.out]; exact hlt
        obtain ⟨q, off, rfl, n0, n1, n2, n3, n4, n5, n6⟩ := AtL.getN hlp.xs.xl.at' j hjz
        have hyx : (zs[j]).x = l[j] := by
          have h2 : j < (zs.map RN.x).length := by rw [List.length_map]; exact hjz
          have h3 : (zs.map RN.x)[j]'h2 = (zs[j]).x := List.getElem_map _
          have h4 := HZM.out
          rw [← h3]
          simp only [h4]
        have hyn := hlp.xs.all _ (List.getElem_mem hjz)
        obtain ⟨y, HY⟩ : ∃ y, Hid (zs[j] = y) := ⟨_, Hid_of rfl⟩
        rw [HY.out] at n0 n1 n2 n3 n4 n5 n6 hyx hyn
        obtain ⟨⟨yk, yf, yt, ysl, ⟨yi, yj⟩, yv⟩, yad, yc⟩ := y
        simp only at n0 n1 n2 n3 n4 n5 n6
        obtain ⟨W3, HW3⟩ : ∃ W3, Hid (wr.alloc (.cells #[.int .i64 yk, .int .i64 yf, .int .i64 yt, .int .i64 ysl, .int .i64 yi, .int .i64 yj, .slice yad yv.length yc] 63) = W3) := ⟨_, Hid_of rfl⟩
        have hb3 : Below wr.heap.size wr W3 := by rw [← HW3.out]; exact bel1 wr _
        have hz3 : W3.heap[wr.heap.size]? = some (.cells #[.int .i64 yk, .int .i64 yf, .int .i64 yt, .int .i64 ysl, .int .i64 yi, .int .i64 yj, .slice yad yv.length yc] 63 (0, 0)) := by rw [← HW3.out]; exact heap_alloc_last wr _
        obtain ⟨⟨x0, x1, x2, x3, x4, x5, x6⟩, _⟩ := row7 hz3
        have hlp3 := hlp.keep hb3 (fun k hk => (HX.out k hk).1) HQ'.out
        have ca := hlp3.tp.add ⟨⟨yk, yf, yt, ysl, ⟨yi, yj⟩, yv⟩, yad, yc⟩ ((hyn.keep hb3).imp fun k _ hk => ⟨Nat.le_trans HP.out.bel.size hk.1, hk.2⟩)
        have HYB : Hid (∀ k, blk yad k → w.heap.size ≤ k) := fun k hk => (hyn.blk k hk).2.1
        have hsj := sayJ_succ t i.toNat r' l j hjl
        rw [← hyx] at hsj
        have HSJ := Hid_of hsj
        have HLP := Hid_of hlp3
        obtain ⟨bn, hbn⟩ : ∃ bn, decide ((sayJ t i.toNat r' l j).way.length < 1024) = bn := ⟨_, rfl⟩
        rw [hbn] at ca
        clear hsj hb3 hz3 hlp hlp3 hyn hyx HY hzl hjz hjl hbn
        go_upto_region 7 with fail
        rw [HW3.out]
        go_wp2_with fail
        refine ca.mono ?_
        clear ca
        rintro e w4 hw
        obtain ⟨rfl, u3, ys3, hlp4⟩ := HLP.out.add (fun k hk => ⟨(HX.out k hk).1, (HX.out k hk).2.1⟩) HQ'.out rfl HYB.out hw
        have HL4 := Hid_of hlp4
        clear hw hlp4 x0 x1 x2 x3 x4 x5 x6 n0 n1 n2 n3 n4 n5 n6
        go_wp2_with fail
        go_roundw
        case rel => exact ⟨j + 1, u3, ys3, by omega, by go_num, by rw [← HSJ.out]; exact HL4.out⟩
        case measure => simp [intOf]; omega
      · obtain rfl : j = m := by omega
        have HK : Hid (RunO w0 w b g c F bs u ys t X Q i r' l (.returned (.bool true)) wr) := by
          refine ⟨_, u2, ys2, by rw [HI.out], ?_, hlp.fx, fun _ => hlp.q, fun e => (by rw [HI.out] at e; cases e), hlp.us⟩
          rw [HD.out, ← sayJ_all, HM.out]
          exact hlp.tp
        clear hlp
        go_wp2
        go_ret
        exact HK.out
end
end Go.Proofs.Ytgodnpngdbelhaa
