/-
  The document's net: one arrives, or not.
-/
import Derived.Test.YtjbodjjeenjbeaaRE
namespace Go.Proofs.Ytjbodjjeenjbeaa
open Go.RowKit
set_option linter.unusedVariables false
open Nt (Pk)

theorem refDecode_is (s : ByteArray) (hs : s.size ≤ 1000000) (W : World) : Calls Try.prog 31 #[.string s] W fun e w' => e = .returned (.tuple #[.agg #[.int .i64 (Msg.dk s), .int .i64 (Msg.df s), .int .i64 (Msg.dt s), .int .i64 (Msg.di s), .string (ofL (Msg.db s))], .int .i64 (Msg.dcode s)]) ∧ Below W.heap.size W w' := refDecode_any s W hs
/-- What is dropped. -/
def pkt (R : List Pk) (i : Int) : Pk := (R[Nt.wr i R.length]?).getD ⟨0, 0, ⟨#[]⟩⟩
theorem rdrop_any {w : World} {N : Int} {a : Option Addr} {cap : Nat} {R : List Pk} {ka : Option Addr} {kc : Nat} {K : List (Int × Int)} (h : RN w a cap R ka kc K) (i : Int) :
    Calls Try.prog 15 #[.agg #[.int .i64 N, .slice a R.length cap, .slice ka K.length kc], .int .i64 i] w (DrOut w N a cap R ka kc K (Nt.drp R i) (pkt R i) (Nt.is R)) := by
  cases e1 : Nt.is R with
  | false =>
    have hnil := Nt.is_nil e1
    subst hnil
    exact rdrop_none h i
  | true =>
    have hR := Nt.is_lt e1
    have hj := Nt.wr_lt i hR
    obtain ⟨b, off, rfl, _⟩ := h.r.at' 0 hR
    have hp : pkt R i = R[Nt.wr i R.length] := by unfold pkt; rw [List.getElem?_eq_getElem hj]; rfl
    rw [hp]
    exact rdrop_some h i hR _ rfl hj
theorem XRes.slice {w w' : World} {a : Option Addr} {cap : Nat} {R R' : List Pk} {v : Value} (h : XRes w w' a cap R v R') : ∃ a' c', v = .slice a' R'.length c' := by
  rcases h with ⟨rfl, rfl⟩ | h
  · exact ⟨a, cap, rfl⟩
  · obtain ⟨a', c', hv, _⟩ := h.at
    exact ⟨a', c', hv⟩
theorem XRes.up {w w' w2 : World} {a : Option Addr} {cap : Nat} {R R' : List Pk} {v : Value} (h : XRes w w' a cap R v R') (hb : ∀ k, k < w'.heap.size → v.ownBlock = some k → w2.heap[k]? = w'.heap[k]?) : XRes w w2 a cap R v R' := by
  rcases h with h | h
  · exact .inl h
  · exact .inr (h.keepBut hb)
theorem XRes.from {w w1 w' : World} {a : Option Addr} {cap : Nat} {R R' : List Pk} {v : Value} (h : XRes w1 w' a cap R v R') (hb : w.heap.size ≤ w1.heap.size) : XRes w w' a cap R v R' := by
  rcases h with h | h
  · exact .inl h
  · exact .inr (h.low hb)
/-- What Deliver leaves. -/
def DvOut (w : World) (N : Int) (a : Option Addr) (cap : Nat) (R : List Pk) (ka : Option Addr) (kc : Nat) (K : List (Int × Int)) (R' : List Pk) (o : Option ByteArray) (e : Ending) (w' : World) : Prop :=
  ∃ v1, e = .returned (.tuple #[.agg #[.int .i64 N, v1, .slice ka K.length kc], .agg (mc o), .bool (Nt.gok o)]) ∧ XRes w w' a cap R v1 R' ∧ Below w.heap.size w w'
/-- Both results are laid, whichever first. -/
theorem lay35 {w W : World} {p q : Nat} (hpq : p ≠ q) (hp : w.heap.size ≤ p) (hq : w.heap.size ≤ q) {z0 z1 z2 y0 y1 y2 y3 y4 : Value} (h1 : W.heap[p]? = some (.cells #[z0, z1, z2] 30 (0, 0))) (h2 : W.heap[q]? = some (.cells #[y0, y1, y2, y3, y4] 33 (0, 0))) (hB : Below w.heap.size w W) (a b c a' b' c' d' e' : Value) (W' : World)
    (hW : W' = put5 (put3 W p a b c) q a' b' c' d' e' ∨ W' = put3 (put5 W q a' b' c' d' e') p a b c) :
    W'.heap[p]? = some (.cells #[a, b, c] 30 (0, 0)) ∧ W'.heap[q]? = some (.cells #[a', b', c', d', e'] 33 (0, 0)) ∧ (∀ k, k ≠ p → k ≠ q → W'.heap[k]? = W.heap[k]?) ∧ Below w.heap.size w W' := by
  rcases hW with rfl | rfl
  · exact ⟨(put5_oth hpq _ _ _ _ _).trans (put3_row h1 _ _ _), put5_row ((put3_oth hpq.symm _ _ _).trans h2) _ _ _ _ _, fun k k1 k2 => (put5_oth k2 _ _ _ _ _).trans (put3_oth k1 _ _ _), put5_bel (put3_bel hB hp _ _ _) hq _ _ _ _ _⟩
  · exact ⟨put3_row ((put5_oth hpq _ _ _ _ _).trans h1) _ _ _, (put3_oth hpq.symm _ _ _).trans (put5_row h2 _ _ _ _ _), fun k k1 k2 => (put3_oth k1 _ _ _).trans (put5_oth k2 _ _ _ _ _), put3_bel (put5_bel hB hq _ _ _ _ _) hp _ _ _⟩
set_option maxRecDepth 100000 in
set_option maxHeartbeats 1000000 in
theorem rdeliver_any {w : World} {N : Int} {a : Option Addr} {cap : Nat} {R : List Pk} {ka : Option Addr} {kc : Nat} {K : List (Int × Int)} (h : RN w a cap R ka kc K) (i : Int) :
    Calls Try.prog 13 #[.agg #[.int .i64 N, .slice a R.length cap, .slice ka K.length kc], .int .i64 i] w (DvOut w N a cap R ka kc K (Nt.drp R i) (Nt.out R (fun x y => Nt.rcut K (min x y) (max x y)) i)) := by
  obtain ⟨W1, HW1⟩ : ∃ W1, Hid (((w.alloc (.cells #[.int .i64 N, .slice a R.length cap, .slice ka K.length kc] 30)).alloc (.cells #[.int .i64 0, .slice none 0 0, .slice none 0 0] 30)).alloc (.cells #[.int .i64 0, .int .i64 0, .int .i64 0, .int .i64 0, .string ⟨#[]⟩] 33) = W1) := ⟨_, rfl⟩
  have hB1 : Below w.heap.size w W1 := by rw [← HW1.out]; exact (bel2 w _ _).alloc (by simp; omega) _
  obtain ⟨hr1, hr2, hr3⟩ : W1.heap[w.heap.size]? = some (.cells #[.int .i64 N, .slice a R.length cap, .slice ka K.length kc] 30 (0, 0)) ∧ W1.heap[w.heap.size + 1]? = some (.cells #[.int .i64 0, .slice none 0 0, .slice none 0 0] 30 (0, 0)) ∧ W1.heap[w.heap.size + 2]? = some (.cells #[.int .i64 0, .int .i64 0, .int .i64 0, .int .i64 0, .string ⟨#[]⟩] 33 (0, 0)) := by
    rw [← HW1.out]
    exact heap_alloc3 w _ _ _
  have hl1 : w.heap.size + 2 < W1.heap.size := (Array.getElem?_eq_some_iff.1 hr3).1
  have cD := rdrop_any (N := N) (h.keep hB1) i
  have HRN := Hid_of h
  have hkk := h.n
  have HPK : Hid (Nt.is R = true → ∃ p ∈ R, pkt R i = p ∧ R[Nt.wr i R.length]? = some p) := by
    intro e1
    obtain ⟨p, hp, hm⟩ := Nt.at_some (Nt.is_lt e1) i
    exact ⟨p, hm, by unfold pkt; rw [hp]; rfl, hp⟩
  have HNO : Hid (Nt.is R = false → Nt.out R (fun x y => Nt.rcut K (min x y) (max x y)) i = none) := by
    intro e1
    rw [Nt.is_nil e1]
    rfl
  have HROW := Hid_of (And.intro hr1 (And.intro hr2 hr3))
  obtain ⟨oo, hoo⟩ : ∃ o, Nt.out R (fun x y => Nt.rcut K (min x y) (max x y)) i = o := ⟨_, rfl⟩
  rw [hoo]
  have HOO := Hid_of hoo
  clear hoo
  obtain ⟨⟨n0, n1, n2⟩, _⟩ := rw3 hr1
  obtain ⟨pa, hpa⟩ : ∃ x, (pkt R i).a = x := ⟨_, rfl⟩
  obtain ⟨pb, hpb⟩ : ∃ x, (pkt R i).b = x := ⟨_, rfl⟩
  obtain ⟨ps, hps⟩ : ∃ x, (pkt R i).s = x := ⟨_, rfl⟩
  have HP := Hid_of (And.intro hpa (And.intro hpb hps))
  unfold DrOut at cD
  rw [hpa, hpb, hps] at cD
  clear h hr1 hr2 hr3 hpa hpb hps
  go_enter Try.func13, Try.ntmps13
  go_upto_region 1 with fail
  rw [HW1.out]
  clear HW1
  go_wp2_with fail
  refine cD.mono ?_
  rintro e w2 ⟨v1, rfl, hX, hb2⟩
  obtain ⟨a', c', rfl⟩ := hX.slice
  obtain ⟨W3, HW3⟩ : ∃ W3, Hid ((w2.alloc (.cells #[.int .i64 N, .slice a' (Nt.drp R i).length c', .slice ka K.length kc] 30)).alloc (.cells #[.int .i64 pa, .int .i64 pb, .string ps] 44) = W3) := ⟨_, rfl⟩
  have hb3 : Below w2.heap.size w2 W3 := by rw [← HW3.out]; exact bel2 w2 _ _
  have hq1 : W3.heap[w2.heap.size]? = some (.cells #[.int .i64 N, .slice a' (Nt.drp R i).length c', .slice ka K.length kc] 30 (0, 0)) := by rw [← HW3.out]; exact heap_alloc2_old w2 _ _
  have hq2 : W3.heap[w2.heap.size + 1]? = some (.cells #[.int .i64 pa, .int .i64 pb, .string ps] 44 (0, 0)) := by rw [← HW3.out]; exact heap_alloc2_new w2 _ _
  have HS2 : Hid (w.heap.size + 3 ≤ w2.heap.size) := Hid_of (by have := hb2.size; omega)
  clear cD n0 n1 n2
  go_upto_region 2 with fail
  rw [HW3.out]
  clear HW3
  generalize hnl : (Nt.drp R i).length = nl at *
  have HFIN : Hid (∀ (w5 : World) (u0 u1 u2 u3 : Int) (u4 : ByteArray), Below W3.heap.size W3 w5 → mc oo = #[.int .i64 u0, .int .i64 u1, .int .i64 u2, .int .i64 u3, .string u4] →
      (w5.heap[w2.heap.size]? = some (.cells #[.int .i64 N, .slice a' nl c', .slice ka K.length kc] 30 (0, 0)) ∧ w5.heap[w.heap.size + 1]? = some (.cells #[.int .i64 0, .slice none 0 0, .slice none 0 0] 30 (0, 0)) ∧ w5.heap[w.heap.size + 2]? = some (.cells #[.int .i64 0, .int .i64 0, .int .i64 0, .int .i64 0, .string ⟨#[]⟩] 33 (0, 0)) ∧ w5.heap[w.heap.size]? = some (.cells #[.int .i64 N, .slice a R.length cap, .slice ka K.length kc] 30 (0, 0)) ∧ w5.heap[w2.heap.size + 1]? = some (.cells #[.int .i64 pa, .int .i64 pb, .string ps] 44 (0, 0)) ∧ Below w.heap.size w w5) ∧
      ∀ W', (W' = put5 (put3 w5 (w.heap.size + 1) (.int .i64 N) (.slice a' nl c') (.slice ka K.length kc)) (w.heap.size + 2) (.int .i64 u0) (.int .i64 u1) (.int .i64 u2) (.int .i64 u3) (.string u4) ∨ W' = put3 (put5 w5 (w.heap.size + 2) (.int .i64 u0) (.int .i64 u1) (.int .i64 u2) (.int .i64 u3) (.string u4)) (w.heap.size + 1) (.int .i64 N) (.slice a' nl c') (.slice ka K.length kc)) → W'.heap[w.heap.size + 1]? = some (.cells #[.int .i64 N, .slice a' nl c', .slice ka K.length kc] 30 (0, 0)) ∧ W'.heap[w.heap.size + 2]? = some (.cells #[.int .i64 u0, .int .i64 u1, .int .i64 u2, .int .i64 u3, .string u4] 33 (0, 0)) ∧ DvOut w N a cap R ka kc K (Nt.drp R i) oo (.returned (.tuple #[.agg #[.int .i64 N, .slice a' nl c', .slice ka K.length kc], .agg #[.int .i64 u0, .int .i64 u1, .int .i64 u2, .int .i64 u3, .string u4], .bool (Nt.gok oo)])) W') := by
    intro w5 u0 u1 u2 u3 u4 hb5 hmc
    obtain ⟨t1, t2, t3⟩ := HROW.out
    have hb25 := bel_up hb3 hb5 (Nat.le_refl _)
    have hb15 := bel_up hb2 hb25 (Nat.le_refl _)
    have hbw5 := bel_up hB1 hb15 (Nat.le_refl _)
    have g2 := HS2.out
    refine ⟨⟨bel_row hq1 hb5, bel_row t2 hb15, bel_row t3 hb15, bel_row t1 hb15, bel_row hq2 hb5, hbw5⟩, fun W' hW => ?_⟩
    obtain ⟨j1, j2, j3, j4⟩ := lay35 (by omega) (by omega) (by omega) (bel_row t2 hb15) (bel_row t3 hb15) hbw5 _ _ _ _ _ _ _ _ W' hW
    refine ⟨j1, j2, _, by rw [hmc], ?_, j4⟩
    rcases hX with h' | ho
    · exact .inl h'
    · refine .inr (OwnP.low (ho.keepBut fun k hk hv => ?_) hB1.size)
      have := (ho.lt hv).1
      exact (j3 k (by omega) (by omega)).trans (hb25.block k hk)
  have HROW3 : Hid ((W3.heap[w2.heap.size]? = some (.cells #[.int .i64 N, .slice a' nl c', .slice ka K.length kc] 30 (0, 0)) ∧ W3.heap[w.heap.size + 1]? = some (.cells #[.int .i64 0, .slice none 0 0, .slice none 0 0] 30 (0, 0)) ∧ W3.heap[w.heap.size + 2]? = some (.cells #[.int .i64 0, .int .i64 0, .int .i64 0, .int .i64 0, .string ⟨#[]⟩] 33 (0, 0)) ∧ W3.heap[w.heap.size]? = some (.cells #[.int .i64 N, .slice a R.length cap, .slice ka K.length kc] 30 (0, 0)) ∧ W3.heap[w2.heap.size + 1]? = some (.cells #[.int .i64 pa, .int .i64 pb, .string ps] 44 (0, 0)) ∧ Below w.heap.size w W3) ∧ True) := by
    obtain ⟨t1, t2, t3⟩ := HROW.out
    have hb13 := bel_up hb2 hb3 (Nat.le_refl _)
    exact ⟨⟨hq1, bel_row t2 hb13, bel_row t3 hb13, bel_row t1 hb13, hq2, bel_up hB1 hb13 (Nat.le_refl _)⟩, trivial⟩
  cases e1 : Nt.is R with
  | false =>
    obtain rfl : oo = none := HOO.out.symm.trans (HNO.out e1)
    obtain ⟨⟨f1, f2, f3, f4, f5, f6⟩, f7⟩ := HFIN.out W3 0 0 0 0 ⟨#[]⟩ (Below.refl _ _) mc_none
    obtain ⟨g1, g2, g3⟩ := f7 _ (.inl rfl)
    have HG1 := Hid_of g1
    have HG2 := Hid_of g2
    have HG3 := Hid_of g3
    obtain ⟨⟨x0, x1, x2⟩, _⟩ := rw3 f1
    obtain ⟨⟨y0, y1, y2⟩, yf⟩ := rw3 f2
    obtain ⟨⟨z0, z1, z2, z3, z4⟩, zf⟩ := row5 f3
    have yf0 := yf 0
    have yf1 := yf 1
    have yf2 := yf 2
    have zf0 := zf 0
    have zf1 := zf 1
    have zf2 := zf 2
    have zf3 := zf 3
    have zf4 := zf 4
    clear HFIN f1 f2 f3 f4 f5 f6 f7 g1 g2 g3 hX hb2 hb3 hq1 hq2 HROW HRN HNO HPK HP hB1 hl1 yf zf
    go_wp2
    refine bodyPost_ret (v := .tuple #[.agg #[.int .i64 N, .slice a' nl c', .slice ka K.length kc], .agg #[.int .i64 0, .int .i64 0, .int .i64 0, .int .i64 0, .string ⟨#[]⟩], .bool (Nt.gok none)]) ?_ rfl HG3.out
    exact res35 f13_res _ _ (w.heap.size + 1) (w.heap.size + 2) _ _ _ _ _ _ _ _ rfl rfl HG1.out HG2.out
  | true =>
    obtain ⟨p, hpm, hpp, hpi⟩ := HPK.out e1
    have hps : p.s.size ≤ 1000000 := (HRN.out.ok.s p hpm).2
    obtain ⟨hp1, hp2, hp3⟩ := HP.out
    rw [hpp] at hp1 hp2 hp3
    subst hp1 hp2 hp3
    have hout : Nt.out R (fun x y => Nt.rcut K (min x y) (max x y)) i = (bif Nt.rcut K (min p.a p.b) (max p.a p.b) then none else some p.s) := by
      unfold Nt.out
      rw [hpi]
    obtain ⟨⟨f1, f2, f3, f4, f5, f6⟩, _⟩ := HROW3.out
    have cc := rcut_any N (.slice a R.length cap) ka kc K p.a p.b W3 hkk (HRN.out.keep f6).k
    obtain ⟨⟨n0, n1, n2⟩, _⟩ := rw3 f4
    obtain ⟨⟨w0, w1', w2'⟩, _⟩ := rw3 f5
    cases hcu : Nt.rcut K (min p.a p.b) (max p.a p.b) with
    | true =>
      rw [hcu] at cc hout
      obtain rfl : oo = none := HOO.out.symm.trans hout
      clear f1 f2 f3 f4 f5 f6 HROW3 hout hcu hpp hpi hpm hps HOO
      go_wp2_with fail
      refine cc.mono ?_
      rintro e w5 ⟨rfl, hb5⟩
      obtain ⟨⟨f1, f2, f3, f4, f5, f6⟩, f7⟩ := HFIN.out w5 0 0 0 0 ⟨#[]⟩ hb5 mc_none
      obtain ⟨g1, g2, g3⟩ := f7 _ (.inl rfl)
      have HG1 := Hid_of g1
      have HG2 := Hid_of g2
      have HG3 := Hid_of g3
      obtain ⟨⟨x0, x1, x2⟩, _⟩ := rw3 f1
      obtain ⟨⟨y0, y1, y2⟩, yf⟩ := rw3 f2
      obtain ⟨⟨z0, z1, z2, z3, z4⟩, zf⟩ := row5 f3
      have yf0 := yf 0
      have yf1 := yf 1
      have yf2 := yf 2
      have zf0 := zf 0
      have zf1 := zf 1
      have zf2 := zf 2
      have zf3 := zf 3
      have zf4 := zf 4
      clear HFIN f1 f2 f3 f4 f5 f6 f7 g1 g2 g3 hX hb2 hb3 hq1 hq2 HROW HRN HNO HPK HP hB1 hl1 yf zf hb5 cc n0 n1 n2 w0 w1' w2'
      go_wp2
      refine bodyPost_ret (v := .tuple #[.agg #[.int .i64 N, .slice a' nl c', .slice ka K.length kc], .agg #[.int .i64 0, .int .i64 0, .int .i64 0, .int .i64 0, .string ⟨#[]⟩], .bool (Nt.gok none)]) ?_ rfl HG3.out
      exact res35 f13_res _ _ (w.heap.size + 1) (w.heap.size + 2) _ _ _ _ _ _ _ _ rfl rfl HG1.out HG2.out
    | false =>
      rw [hcu] at cc hout
      have ho : oo = some p.s := HOO.out.symm.trans hout
      have cd := refDecode_is p.s hps
      have hmc := mc_some p.s
      have hgk := gok_some p.s
      rw [← ho] at hmc hgk
      rw [hgk] at HFIN
      generalize Msg.dcode p.s = dc at *
      generalize Msg.dk p.s = u0 at *
      generalize Msg.df p.s = u1 at *
      generalize Msg.dt p.s = u2 at *
      generalize Msg.di p.s = u3 at *
      generalize ofL (Msg.db p.s) = u4 at *
      clear f1 f2 f3 f4 f5 f6 HROW3 hout hcu ho hpp hpi hpm hps hgk HOO
      go_wp2_with fail
      refine cc.mono ?_
      rintro e w5 ⟨rfl, hb5⟩
      obtain ⟨⟨f1, f2, f3, f4, f5, f6⟩, _⟩ := HFIN.out w5 u0 u1 u2 u3 u4 hb5 hmc
      obtain ⟨⟨v0, v1, v2⟩, _⟩ := rw3 f5
      clear f1 f2 f3 f4 f5 f6 n0 n1 n2 w0 w1' w2' cc
      go_wp2_with fail
      refine (cd _).mono ?_
      rintro e w6 ⟨rfl, hb6⟩
      obtain ⟨W7, HW7⟩ : ∃ W7, Hid (w6.alloc (.cells #[.int .i64 u0, .int .i64 u1, .int .i64 u2, .int .i64 u3, .string u4] 33) = W7) := ⟨_, rfl⟩
      have hb7 : Below w6.heap.size w6 W7 := by rw [← HW7.out]; exact bel1 w6 _
      have hq7 : W7.heap[w6.heap.size]? = some (.cells #[.int .i64 u0, .int .i64 u1, .int .i64 u2, .int .i64 u3, .string u4] 33 (0, 0)) := by rw [← HW7.out]; exact heap_alloc_last w6 _
      clear v0 v1 v2 cd
      go_upto_region 5 with fail
      rw [HW7.out]
      clear HW7
      obtain ⟨wd, hwd⟩ : ∃ wd, W7.drew = wd := ⟨_, rfl⟩
      have bd : Below W7.heap.size W7 wd := by rw [← hwd]; exact (Below.refl _ _).drew
      obtain ⟨⟨f1, f2, f3, f4, f5, f6⟩, f7⟩ := HFIN.out wd u0 u1 u2 u3 u4 (bel_up hb5 (bel_up hb6 (bel_up hb7 bd (Nat.le_refl _)) (Nat.le_refl _)) (Nat.le_refl _)) hmc
      have hqd := bel_row hq7 bd
      have hs6 : w2.heap.size + 1 < w6.heap.size := by
        have := (Array.getElem?_eq_some_iff.1 hq2).1
        have := hb5.size
        have := hb6.size
        omega
      obtain ⟨g1, g2, g3⟩ := f7 _ (.inl rfl)
      obtain ⟨l1, l2, l3⟩ := f7 _ (.inr rfl)
      have HG1 := Hid_of g1
      have HG2 := Hid_of g2
      have HG3 := Hid_of g3
      have HL1 := Hid_of l1
      have HL2 := Hid_of l2
      have HL3 := Hid_of l3
      obtain ⟨⟨y0, y1, y2⟩, yf⟩ := rw3 f2
      obtain ⟨⟨z0, z1, z2, z3, z4⟩, zf⟩ := row5 f3
      have yf0 := yf 0
      have yf1 := yf 1
      have yf2 := yf 2
      have zf0 := zf 0
      have zf1 := zf 1
      have zf2 := zf 2
      have zf3 := zf 3
      have zf4 := zf 4
      have HSS : Hid (∀ W' : World, (∀ k : Nat, k ≠ w.heap.size + 1 → k ≠ w.heap.size + 2 → W'.heap[k]? = wd.heap[k]?) → (W'.cell? ⟨w2.heap.size, 0, none⟩ = some (.int .i64 N) ∧ W'.cell? ⟨w2.heap.size, 1, none⟩ = some (.slice a' nl c') ∧ W'.cell? ⟨w2.heap.size, 2, none⟩ = some (.slice ka K.length kc)) ∧ (W'.cell? ⟨w6.heap.size, 0, none⟩ = some (.int .i64 u0) ∧ W'.cell? ⟨w6.heap.size, 1, none⟩ = some (.int .i64 u1) ∧ W'.cell? ⟨w6.heap.size, 2, none⟩ = some (.int .i64 u2) ∧ W'.cell? ⟨w6.heap.size, 3, none⟩ = some (.int .i64 u3) ∧ W'.cell? ⟨w6.heap.size, 4, none⟩ = some (.string u4))) := by
        intro W' hW'
        have g := HS2.out
        have r1 := (hW' w2.heap.size (by omega) (by omega)).trans f1
        have r2 := (hW' w6.heap.size (by omega) (by omega)).trans hqd
        exact ⟨(rw3 r1).1, (row5 r2).1⟩
      have SS0 := HSS.out wd (fun _ _ _ => rfl)
      have SS1 := HSS.out (put3 wd (w.heap.size + 1) (.int .i64 N) (.slice a' nl c') (.slice ka K.length kc)) (fun k h1 h2 => put3_oth h1 _ _ _)
      have SS2 := HSS.out (put5 wd (w.heap.size + 2) (.int .i64 u0) (.int .i64 u1) (.int .i64 u2) (.int .i64 u3) (.string u4)) (fun k h1 h2 => put5_oth h2 _ _ _ _ _)
      have SS3 := HSS.out (put5 (put3 wd (w.heap.size + 1) (.int .i64 N) (.slice a' nl c') (.slice ka K.length kc)) (w.heap.size + 2) (.int .i64 u0) (.int .i64 u1) (.int .i64 u2) (.int .i64 u3) (.string u4)) (fun k h1 h2 => (put5_oth h2 _ _ _ _ _).trans (put3_oth h1 _ _ _))
      have SS4 := HSS.out (put3 (put5 wd (w.heap.size + 2) (.int .i64 u0) (.int .i64 u1) (.int .i64 u2) (.int .i64 u3) (.string u4)) (w.heap.size + 1) (.int .i64 N) (.slice a' nl c') (.slice ka K.length kc)) (fun k h1 h2 => (put3_oth h1 _ _ _).trans (put5_oth h2 _ _ _ _ _))
      clear HFIN f1 f2 f3 f4 f5 f6 f7 g1 g2 g3 l1 l2 l3 hX hb2 hb3 hq1 hq2 HROW HRN HNO HPK HP hB1 hl1 yf zf hb5 hb6 hb7 bd hq7 hqd HSS hs6 hmc HS2
      refine wp_region_held_drew (S := fun wq => (wq.cell? ⟨w2.heap.size, 0, none⟩ = some (.int .i64 N) ∧ wq.cell? ⟨w2.heap.size, 1, none⟩ = some (.slice a' nl c') ∧ wq.cell? ⟨w2.heap.size, 2, none⟩ = some (.slice ka K.length kc)) ∧ (wq.cell? ⟨w6.heap.size, 0, none⟩ = some (.int .i64 u0) ∧ wq.cell? ⟨w6.heap.size, 1, none⟩ = some (.int .i64 u1) ∧ wq.cell? ⟨w6.heap.size, 2, none⟩ = some (.int .i64 u2) ∧ wq.cell? ⟨w6.heap.size, 3, none⟩ = some (.int .i64 u3) ∧ wq.cell? ⟨w6.heap.size, 4, none⟩ = some (.string u4))) (by kernel_rfl) (by rw [hwd]; exact SS0) (fun hHeld => ?_)
      rw [hwd] at hHeld ⊢
      clear hwd
      refine wpAnyH_take (i := 0) (oi := ?p0x1) (v := ?v0x1) ?o0x1 (by kernel_rfl) (by kernel_rfl) (by kernel_rfl) ?q0x1 ?y0x1 hHeld ?r0x1
      case o0x1 => (simp only [List.getElem?_toArray, List.getElem?_cons_zero]; try rfl)
      case q0x1 => exact fun _ _ _ h => h
      case y0x1 => (refine Or.inl ⟨rfl, ?_⟩; intro wq hq; obtain ⟨⟨q0, q1, q2⟩, q3, q4, q5, q6, q7⟩ := hq; go_simp; try with_reducible rfl)
      simp only [Act.put, List.setIfInBounds_toArray, List.set_cons_zero, List.set_cons_succ]
      refine wpAnyH_take (i := 1) (oi := ?p1x2) (v := ?v1x2) ?o1x2 (by kernel_rfl) (by kernel_rfl) (by kernel_rfl) ?q1x2 ?y1x2 hHeld ?r1x2
      case o1x2 => (simp only [List.getElem?_toArray, List.getElem?_cons_succ, List.getElem?_cons_zero]; try rfl)
      case q1x2 => exact fun _ _ _ h => h
      case y1x2 => (refine Or.inl ⟨rfl, ?_⟩; intro wq hq; obtain ⟨⟨q0, q1, q2⟩, q3, q4, q5, q6, q7⟩ := hq; go_simp; try with_reducible rfl)
      simp only [Act.put, List.setIfInBounds_toArray, List.set_cons_zero, List.set_cons_succ]
      refine wpAnyH_take (i := 2) (oi := ?p2x3) (v := ?v2x3) ?o2x3 (by kernel_rfl) (by kernel_rfl) (by kernel_rfl) ?q2x3 ?y2x3 hHeld ?r2x3
      case o2x3 => (simp only [List.getElem?_toArray, List.getElem?_cons_succ, List.getElem?_cons_zero]; try rfl)
      case q2x3 => exact fun _ _ _ h => h
      case y2x3 => (refine Or.inl ⟨rfl, ?_⟩; intro wq hq; obtain ⟨⟨q0, q1, q2⟩, q3, q4, q5, q6, q7⟩ := hq; go_simp; try with_reducible rfl)
      simp only [Act.put, List.setIfInBounds_toArray, List.set_cons_zero, List.set_cons_succ]
      refine wpAnyH_take (i := 3) (oi := ?p3x4) (v := ?v3x4) ?o3x4 (by kernel_rfl) (by kernel_rfl) (by kernel_rfl) ?q3x4 ?y3x4 hHeld ?r3x4
      case o3x4 => (simp only [List.getElem?_toArray, List.getElem?_cons_succ, List.getElem?_cons_zero]; try rfl)
      case q3x4 => exact fun _ _ _ h => h
      case y3x4 => (refine Or.inl ⟨rfl, ?_⟩; intro wq hq; obtain ⟨⟨q0, q1, q2⟩, q3, q4, q5, q6, q7⟩ := hq; go_simp; try with_reducible rfl)
      simp only [Act.put, List.setIfInBounds_toArray, List.set_cons_zero, List.set_cons_succ]
      refine wpAnyH_ready (rs := [4]) (by kernel_rfl) (by simp) ?_
      refine (AllReadyH.cons (o := ?p4x5) ?o4x5 ?s4x5 AllReadyH.nil)
      case o4x5 => (simp only [List.getElem?_toArray, List.getElem?_cons_succ, List.getElem?_cons_zero]; try rfl)
      intro Kk hK
      go_simp
      refine hK.out _ _ SS1 (fun hHeld => ?_)
      clear hK Kk
      refine wpAnyH_ready (rs := [5]) (by kernel_rfl) (by simp) ?_
      refine (AllReadyH.cons (o := ?p5x6) ?o5x6 ?s5x6 AllReadyH.nil)
      case o5x6 => (simp only [List.getElem?_toArray, List.getElem?_cons_succ, List.getElem?_cons_zero]; try rfl)
      intro Kk hK
      go_simp
      refine hK.out _ _ SS3 (fun hHeld => ?_)
      clear hK Kk
      refine wpAnyH_take (i := 6) (oi := ?p6x7) (v := ?v6x7) ?o6x7 (by kernel_rfl) (by kernel_rfl) (by kernel_rfl) ?q6x7 ?y6x7 hHeld ?r6x7
      case o6x7 => (simp only [List.getElem?_toArray, List.getElem?_cons_succ, List.getElem?_cons_zero]; try rfl)
      case q6x7 => exact fun _ _ _ h => h
      case y6x7 => (refine Or.inl ⟨rfl, ?_⟩; intro wq hq; obtain ⟨⟨q0, q1, q2⟩, q3, q4, q5, q6, q7⟩ := hq; go_simp; try with_reducible rfl)
      simp only [Act.put, List.setIfInBounds_toArray, List.set_cons_zero, List.set_cons_succ]
      refine wpAnyH_done (by kernel_rfl) ?_ _
      go_wp2
      refine bodyPost_ret (v := .tuple #[.agg #[.int .i64 N, .slice a' nl c', .slice ka K.length kc], .agg #[.int .i64 u0, .int .i64 u1, .int .i64 u2, .int .i64 u3, .string u4], .bool (decide (dc = 0))]) ?_ rfl HG3.out
      exact res35 f13_res _ _ (w.heap.size + 1) (w.heap.size + 2) _ _ _ _ _ _ _ _ rfl rfl HG1.out HG2.out
end Go.Proofs.Ytjbodjjeenjbeaa
