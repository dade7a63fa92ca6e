/-
  A node alone takes all that it says.
-/
import Derived.Test.YtfjlanhekheecaaRJ
namespace Go.Proofs.Ytfjlanhekheecaa
open Go.RowKit Go.Maps
set_option linter.unusedVariables false
open M (E V)
open Rm (NT R)

namespace Rm
def n0 : NT := ⟨0, 0, 0, 0, e0, []⟩
def chk (r : R) (x : NT) (m : Nat) : Bool := (x.v.all fun y => (Lit.int .i64 y.s).wf) && (decide (r.p.c + x.v.length ≤ 900000) && (decide (r.l.c + x.v.length ≤ 900000) && decide (m + (tkN r x).length ≤ 1000000)))
/-- All is taken, so many notes at most. -/
def stl : Nat → R → List NT → Nat → R
  | 0, r, _, _ => r
  | f + 1, r, l, i => if i < l.length then stl f (tkS r (l.getD i n0)) (l ++ tkN r (l.getD i n0)) (i + 1) else r
def stOk : Nat → R → List NT → Nat → Bool
  | 0, _, _, _ => true
  | f + 1, r, l, i => if i < l.length then chk r (l.getD i n0) l.length && stOk f (tkS r (l.getD i n0)) (l ++ tkN r (l.getD i n0)) (i + 1) else true
end Rm
theorem AtL.getN {w : World} {a : Option Addr} {l : List RN} (h : AtL nl w a l) (j : Nat) (hj : j < l.length) : ∃ b off, a = some ⟨b, off, none⟩ ∧ w.cell? ⟨b, off + j * 7, none⟩ = some (.int .i64 l[j].x.k) ∧ w.cell? ⟨b, off + j * 7 + 1, none⟩ = some (.int .i64 l[j].x.f) ∧ w.cell? ⟨b, off + j * 7 + 2, none⟩ = some (.int .i64 l[j].x.t) ∧ w.cell? ⟨b, off + j * 7 + 3, none⟩ = some (.int .i64 l[j].x.s) ∧ w.cell? ⟨b, off + j * 7 + 4, none⟩ = some (.int .i64 l[j].x.b.i) ∧ w.cell? ⟨b, off + j * 7 + 5, none⟩ = some (.int .i64 l[j].x.b.t) ∧ w.cell? ⟨b, off + j * 7 + 6, none⟩ = some (.slice l[j].ad l[j].x.v.length l[j].c) := by
  obtain ⟨b, off, e, h0⟩ := h j hj
  exact ⟨b, off, e, h0 0 (by decide), h0 1 (by decide), h0 2 (by decide), h0 3 (by decide), h0 4 (by decide), h0 5 (by decide), h0 6 (by decide)⟩
/-- Notes beside a node. -/
structure OB (w : World) (base : Nat) (G : Nat → Prop) (v : Value) (ys : List RN) : Prop where
  ow : OW w base v ys
  own : ∀ k, v.ownBlock = some k → ¬ G k
  all : ∀ y ∈ ys, ∀ k, blk y.ad k → ¬ G k
theorem OB.fr {w w' : World} {base : Nat} {G G' : Nat → Prop} {v : Value} {ys : List RN} (h : OB w base G v ys) (hf : Fr w G w' G') : OB w' base G' v ys := by
  refine ⟨⟨h.ow.own.keepBut fun k hk hk2 => hf.block k hk (h.own k hk2), fun y hy => ?_⟩, fun k hk => not_n hf (h.own k hk) (h.ow.own.lt hk).2, fun y hy k hk => not_n hf (h.all y hy k hk) ((h.ow.all y hy).blk k hk).1⟩
  have h1 := h.ow.all y hy
  exact ⟨h1.xl.keepBut fun k hk hk2 => hf.block k hk (h.all y hy k hk2), fun k hk => ⟨Nat.lt_of_lt_of_le (h1.blk k hk).1 hf.size, (h1.blk k hk).2⟩⟩
theorem NO.ob {w w' : World} {G : Nat → Prop} {u : Value} {l : List NT} (h : NO w G u w' l) : ∃ ys, OB w' w.heap.size G u ys ∧ ys.map RN.x = l := by
  obtain ⟨ys, h1, h2, h3, h4⟩ := h
  exact ⟨ys, ⟨h1, h3, h4⟩, h2⟩
theorem RS.mine {w0 w : World} {F : Nat → Prop} {b : Nat} {r : R} (h : RS w0 w F b r) : ∀ k, F k → w0.heap.size ≤ k ∧ k < w.heap.size := by
  obtain ⟨ba, bp, bl, Fa, Fp, Fl, rfl, hp⟩ := h
  exact hp.mine
theorem RS.bel {w0 w : World} {F : Nat → Prop} {b : Nat} {r : R} (h : RS w0 w F b r) : Below w0.heap.size w0 w := by
  obtain ⟨ba, bp, bl, Fa, Fp, Fl, rfl, hp⟩ := h
  exact hp.bel
theorem RS.keep {w0 w w' : World} {F : Nat → Prop} {b : Nat} {r : R} (h : RS w0 w F b r) (hb : Below w.heap.size w w') : RS w0 w' F b r := by
  obtain ⟨ba, bp, bl, Fa, Fp, Fl, rfl, hp⟩ := h
  exact (hp.keep hb).rs
/-- Something else has changed. -/
theorem RS.step {w0 w w' : World} {F H H' : Nat → Prop} {b : Nat} {r : R} (h : RS w0 w F b r) (hF : Fr w H w' H') (hap : ∀ k, F k → ¬ H k) (hH : ∀ k, H k → w0.heap.size ≤ k) : RS w0 w' F b r := by
  obtain ⟨ba, bp, bl, Fa, Fp, Fl, rfl, hp⟩ := h
  exact RP.rs ⟨(hF.block b hp.lt (hap b (.inl rfl))).trans hp.row, (hp.ac.step hF (fun k hk => hap k (.inr (.inl hk))) hH).1, (hp.ps.step hF (fun k hk => hap k (.inr (.inr (.inl hk)))) hH).1, (ls_step hp.ls hF (fun k hk => hap k (.inr (.inr (.inr hk)))) hH).1, hp.ap, hp.al, hp.pl, hp.nb, hp.lo, hp.nm⟩
/-- What is left as it was. -/
structure Kp (w : World) (F : Nat → Prop) (u : Value) (w' : World) (G : Nat → Prop) (v : Value) : Prop where
  size : w.heap.size ≤ w'.heap.size
  block : ∀ k, k < w.heap.size → ¬ F k → u.ownBlock ≠ some k → w'.heap[k]? = w.heap[k]?
  n : ∀ k, G k → F k ∨ w.heap.size ≤ k
  m : ∀ k, v.ownBlock = some k → u.ownBlock = some k ∨ w.heap.size ≤ k
theorem rw_fr {w w' : World} {v v' : Value} (h : Rw w v w' v') : Fr w (fun k => v.ownBlock = some k) w' (fun k => v'.ownBlock = some k) :=
  ⟨h.g.os, h.g.tape, h.g.output, h.g.size, fun k hk hn => h.g.block k hk (fun e => hn e.symm), h.n⟩
/-- What settle leaves. -/
def StOut (w0 w : World) (F : Nat → Prop) (u : Value) (b : Nat) (r' : R) (e : Ending) (w' : World) : Prop := ∃ G v, e = .returned (.tuple #[]) ∧ RS w0 w' G b r' ∧ Kp w F u w' G v
set_option maxRecDepth 100000 in
set_option maxHeartbeats 2000000 in
theorem settle_any {w0 w : World} {F : Nat → Prop} {b base : Nat} {r : R} {u : Value} {ys : List RN} {l : List NT} (h : RS w0 w F b r) (ho : OB w base F u ys) (hm : ys.map RN.x = l) (hb : base ≤ w.heap.size) (hw0 : w0.heap.size ≤ base) (hok : Rm.stOk 50 r l 0 = true) :
    Calls Try.prog 22 #[ptr b, u] w (StOut w0 w F u b (Rm.stl 50 r l 0)) := by
  obtain ⟨R', HR'⟩ : ∃ R', Hid (Rm.stl 50 r l 0 = R') := ⟨_, Hid_of rfl⟩
  rw [HR'.out]
  have H0 : Hid (∃ (i : Nat) (G : Nat → Prop) (ys : List RN) (l : List NT) (r : R), i ≤ 50 ∧ Value.int .i64 0 = .int .i64 i ∧ RS w0 w G b r ∧ OB w base G u ys ∧ ys.map RN.x = l ∧ Rm.stl (50 - i) r l i = R' ∧ Rm.stOk (50 - i) r l i = true ∧ Kp w F u w G u) := ⟨0, F, ys, l, r, by omega, rfl, h, ho, hm, HR'.out, hok, ⟨Nat.le_refl _, fun k _ _ _ => rfl, fun k hk => .inl hk, fun k hk => .inl hk⟩⟩
  clear h ho hm hok HR'
  go_enter Try.func22, Try.ntmps22
  go_wp2_with fail
  go_loopw [1, 4] (fun v q wr => ∃ (i : Nat) (G : Nat → Prop) (ys : List RN) (l : List NT) (r : R), i ≤ 50 ∧ q = .int .i64 i ∧ RS w0 wr G b r ∧ OB wr base G v ys ∧ ys.map RN.x = l ∧ Rm.stl (50 - i) r l i = R' ∧ Rm.stOk (50 - i) r l i = true ∧ Kp w F u wr G v) (fun v q _ => 50 - (intOf q).toNat)
  case atStart => exact H0.out
  case round =>
    obtain ⟨i, G, ys, l, r, hi, rfl, hr, ho, hm, hst, hsk, hkp⟩ := hrel
    have hlen : ys.length = l.length := by rw [← hm, List.length_map]
    obtain ⟨a1, c1, hv1, -⟩ := ho.ow.own.at
    by_cases hlt : i < l.length
    · have hjn : decide ((i : Int) < (l.length : Int)) = true := decide_eq_true (by omega)
      by_cases h50 : i < 50
      · have h5n : decide ((i : Int) < 50) = true := decide_eq_true (by omega)
        obtain ⟨f, hf⟩ : ∃ f, 50 - i = f + 1 := ⟨49 - i, by omega⟩
        rw [hf, Rm.stl, if_pos hlt] at hst
        rw [hf, Rm.stOk, if_pos hlt] at hsk
        have hyi : i < ys.length := by omega
        have hxi : l.getD i Rm.n0 = ys[i].x := by
          subst hm
          rw [List.getD_eq_getElem?_getD, List.getElem?_eq_getElem hlt]
          simp
        rw [hxi] at hst hsk
        rw [Bool.and_eq_true] at hsk
        obtain ⟨hc, hsk⟩ := hsk
        unfold Rm.chk at hc
        simp only [Bool.and_eq_true, decide_eq_true_eq, List.all_eq_true] at hc
        obtain ⟨hc1, hc2, hc3, hc4⟩ := hc
        have hmem := List.getElem_mem hyi
        have hat : AtL nl wr a1 ys := by
          obtain ⟨ad, cc, e, hx, _⟩ := ho.ow.own.at
          rw [hv1] at e
          cases e
          exact hx.at'
        obtain ⟨g0, o0, rfl, q0, q1, q2, q3, q4, q5, q6⟩ := AtL.getN hat i hyi
        have hy := ho.ow.all _ hmem
        obtain ⟨ba, bp, bl, Fa, Fp, Fl, rfl, hp⟩ := hr
        have ct := hp.take ys[i] hy.xl (fun _ k hk => ⟨(hy.blk k hk).1, ho.all _ hmem k hk⟩) hc1 hc2 hc3
        obtain ⟨y, hye⟩ : ∃ y, ys[i] = y := ⟨_, rfl⟩
        rw [hye] at hst hsk q0 q1 q2 q3 q4 q5 q6 ct hc4
        have HST := Hid_of hst
        have HSK := Hid_of hsk
        have HO := Hid_of ho
        have HM := Hid_of hm
        have HKP := Hid_of hkp
        have HLN := Hid_of hlen
        have HC4 := Hid_of hc4
        have HF := Hid_of hf
        have HV1 := Hid_of hv1
        have hb2 : base ≤ wr.heap.size := Nat.le_trans hb hkp.size
        clear hst hsk hp ho hm hkp hlen hc1 hc2 hc3 hc4 hat hy hmem hye hxi hf
        rw [HLN.out] at hv1
        subst hv1
        obtain ⟨⟨yk, yf, yt, yss, ⟨ybi, ybt⟩, yv⟩, yad, yc⟩ := y
        simp only at q0 q1 q2 q3 q4 q5 q6 ct
        generalize hL : l.length = L at *
        clear hyi
        go_wp2_with fail
        refine ct.mono ?_
        clear ct q0 q1 q2 q3 q4 q5 q6
        rintro e w2 ⟨u2, G2, rfl, hno, hr2, hf2⟩
        obtain ⟨zs, hob, hmz⟩ := hno.ob
        obtain ⟨ad2, c2, rfl, hx2⟩ := hob.ow.at
        have ho2 := HO.out.fr hf2
        have hzl2 : ys.length + zs.length ≤ 1000000 := by
          have h1 := HC4.out
          have : zs.length = (Rm.tkN r ⟨yk, yf, yt, yss, ⟨ybi, ybt⟩, yv⟩).length := by rw [← hmz, List.length_map]
          rw [HLN.out]
          omega
        obtain ⟨a', c', w4, hrun, ho4, hr4⟩ := ho2.ow.appL (hx2.imp fun k _ hk => ⟨Nat.le_trans hb2 hk, fun e => by have := (HO.out.ow.own.lt e).2; omega⟩) (by have := hf2.size; omega) hzl2
        have HK4 : Hid (RS w0 w4 G2 b (Rm.tkS r ⟨yk, yf, yt, yss, ⟨ybi, ybt⟩, yv⟩) ∧ OB w4 base G2 (.slice a' (ys.length + zs.length) c') (ys ++ zs) ∧ (ys ++ zs).map RN.x = l ++ Rm.tkN r ⟨yk, yf, yt, yss, ⟨ybi, ybt⟩, yv⟩ ∧ Kp w F u w4 G2 (.slice a' (ys.length + zs.length) c')) := by
          have hm2 := hr2.mine
          refine ⟨hr2.step (rw_fr hr4) (fun k hk e => ho2.own k e hk) (fun k hk => Nat.le_trans hw0 (ho2.ow.own.lt hk).1), ⟨ho4, fun k hk e => ?_, fun y hy k hk e => ?_⟩, by rw [List.map_append, HM.out, hmz], ⟨Nat.le_trans (Nat.le_trans HKP.out.size hf2.size) hr4.g.size, fun k hk h1 h2 => ?_, fun k hk => ?_, fun k hk => ?_⟩⟩
          · rcases hr4.n k hk with h' | h'
            · exact ho2.own k h' e
            · have := (hm2 k e).2; omega
          · rcases List.mem_append.1 hy with hy | hy
            · exact ho2.all y hy k hk e
            · exact hob.all y hy k hk e
          · have hs := HKP.out.size
            have hs2 := hf2.size
            rw [hr4.g.block k (by omega) (fun e => by rcases HKP.out.m k e.symm with h' | h'; exact h2 h'; omega), hf2.block k (by omega) (fun e => by rcases HKP.out.n k e with h' | h'; exact h1 h'; omega)]
            exact HKP.out.block k hk h1 h2
          · rcases hf2.n k hk with h' | h'
            · exact HKP.out.n k h'
            · exact .inr (Nat.le_trans HKP.out.size h')
          · rcases hr4.n k hk with h' | h'
            · exact HKP.out.m k h'
            · exact .inr (Nat.le_trans (Nat.le_trans HKP.out.size hf2.size) h')
        have hadd : IntKind.i64.wrap ((i : Int) + 1) = ((i + 1 : Nat) : Int) := by rw [IntKind.wrap_i64]; omega
        clear hno hr2 hf2 hob hmz hx2 ho2 hzl2 ho4 hr4
        go_wp2_with (at_builtin; refine wpList_append_known rfl _ _ 28 rfl _ _ rfl rfl _ _ (hrun _) ?_)
        go_roundw
        case rel => exact ⟨i + 1, G2, _, _, _, by omega, by go_num, HK4.out.1, HK4.out.2.1, HK4.out.2.2.1, by rw [show 50 - (i + 1) = f by have := HF.out; omega]; exact HST.out, by rw [show 50 - (i + 1) = f by have := HF.out; omega]; exact HSK.out, HK4.out.2.2.2⟩
        case measure => simp [intOf]; omega
      · have h5n : decide ((i : Int) < 50) = false := decide_eq_false (by omega)
        have hi0 : 50 - i = 0 := by omega
        rw [hi0] at hst
        have HQ : Hid (RS w0 wr G b R' ∧ Kp w F u wr G u1) := ⟨by rw [← hst]; exact hr, hkp⟩
        rw [hlen] at hv1
        clear hr ho hm hst hsk hkp hi0 hlen
        generalize l.length = L at *
        subst hv1
        go_wp2
        go_end0
        exact ⟨G, _, rfl, HQ.out⟩
    · have hjn : decide ((i : Int) < (l.length : Int)) = false := decide_eq_false (by omega)
      have hst2 : r = R' := by
        rw [← hst]
        cases 50 - i with
        | zero => rfl
        | succ f => rw [Rm.stl, if_neg hlt]
      have HQ : Hid (RS w0 wr G b R' ∧ Kp w F u wr G u1) := ⟨by rw [← hst2]; exact hr, hkp⟩
      rw [hlen] at hv1
      clear hr ho hm hst hsk hkp hlen hst2
      generalize l.length = L at *
      subst hv1
      go_wp2
      go_end0
      exact ⟨G, _, rfl, HQ.out⟩
end Go.Proofs.Ytfjlanhekheecaa
