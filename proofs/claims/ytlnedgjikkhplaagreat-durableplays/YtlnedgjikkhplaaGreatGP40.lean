import Derived.Test.YtlnedgjikkhplaaGreatGP39
set_option maxRecDepth 100000
set_option maxHeartbeats 8000000
set_option linter.unusedVariables false
set_option linter.unusedSimpArgs false
namespace Go.Proofs.YtlnedgjikkhplaaGreat.Du
open Go.RowKit
open Na (Fr AS XL vl bV vV Hf bel1 bel2 Bu Br row2 row4 blk OwnL AtL)
open Na.M (E V S S0)
open Na (Rw)
open Ns.M (ofL)
def SV (B g o j c n : Nat) (v : V) (wq : World) : Prop := wq.cell? ⟨B, 3, none⟩ = some (.slice (some ⟨g, o, none⟩) n c) ∧ wq.cell? ⟨g, o + j * 4, none⟩ = some (.int .i64 v.s) ∧ wq.cell? ⟨g, o + j * 4 + 1, none⟩ = some (.int .i64 v.b.i) ∧ wq.cell? ⟨g, o + j * 4 + 2, none⟩ = some (.int .i64 v.b.t) ∧ wq.cell? ⟨g, o + j * 4 + 3, none⟩ = some (.string v.v)
theorem few_eq (a : S) : few a = ((if a.base = 0 then [] else [R.tr a.base]) ++ (byB a.l).map R.vo) ++ (if a.p.i = 0 ∧ a.p.t = 0 then [] else [R.pr a.p]) := by
 unfold few; rw [List.append_assoc]
theorem dall_any (a : S) (ad : Option Addr) (c : Nat) (w : World) (hx : XL vl w ad c a.l) (ok : Na.M.Ok a) (vd : Vd a) : Calls Tryz.prog 77 #[Na.aV a ad c] w (AlO w a) := by
 obtain ⟨W1, HW1⟩ := Nh (w.alloc (.cells #[.int .i64 a.p.i, .int .i64 a.p.t, .int .i64 a.base, .slice ad a.l.length c] 39))
 have hb1 : Below w.heap.size w W1 := by rw [← HW1.out]; exact bel1 w _
 have hr1 : W1.heap[w.heap.size]? = some (.cells #[.int .i64 a.p.i, .int .i64 a.p.t, .int .i64 a.base, .slice ad a.l.length c] 39 (0, 0)) := by rw [← HW1.out]; exact heap_alloc_last w _
 have HWF := Hf (few_wf ok vd)
 have hll := ok.len
 have HB1 := Hf hb1
 have HR1 := Hf hr1
 have HX := Hf (hx.keep hb1)
 have HVW : Hid (∀ y ∈ byB a.l, Wf (.vo y)) := Hf fun y hy => few_wf ok vd _ (by rw [few_eq]; simp [hy])
 have HI : Hid (a.base ≠ 0 → I64 a.base) := Hf fun h => (few_wf ok vd (.tr a.base) (by rw [few_eq]; simp [h]) : I64 a.base)
 have HP : Hid (¬ (a.p.i = 0 ∧ a.p.t = 0) → I64 a.p.i ∧ I64 a.p.t) := Hf fun h => (few_wf ok vd (.pr a.p) (by rw [few_eq, if_neg h]; simp) : I64 a.p.i ∧ I64 a.p.t)
 obtain ⟨⟨z0, z1, z2, z3⟩, _⟩ := row4 hr1
 obtain ⟨L0, hL0⟩ := Nq ((if a.base = 0 then [] else [R.tr a.base]))
 have HFE := Hf (few_eq a)
 rw [hL0] at HFE
 have hl0 : L0.length ≤ 1 := by rw [← hL0]; split <;> simp
 have HL0 := Hf hL0
 clear hb1 hr1 hx ok vd hL0
 go_enter Tryz.func77, Tryz.ntmps77
 go_upto_region 2 with fail
 rw [HW1.out]; clear HW1
 go_upto_if 10 with fail
 go_cut [3] from 8 to 16 (fun u wx => TO W1 wx u L0 none)
 case first =>
  by_cases hb : a.base = 0
  ·have HQ : Hid (TO W1 W1 (.slice none 0 0) L0 none) := Hf (by
    have := HL0.out
    rw [if_pos hb] at this; subst this
    exact ⟨OwnL.nil _ _ _, Below.refl _ _, fun k hk => (no_blk hk).elim⟩)
   have hbe : (a.base != 0) = false := by simp [hb]
   clear hb
   go_wp2_with fail
   go_meet
   case rel => exact HQ.out
  ·have hbe : (a.base != 0) = true := by simp [hb]
   have HQ : Hid (L0 = [R.tr a.base]) := Hf (by rw [← HL0.out, if_neg hb])
   have hc := fun W => dtrim_any a.base W (HI.out hb)
   clear hb
   go_wp2_with fail
   refine (hc _).mono ?_; rintro e w2 ⟨rfl, hb2⟩
   have hR1 : TO W1 w2 (.slice none 0 0) [] none := ⟨OwnL.nil _ _ _, hb2, fun k hk => (no_blk hk).elim⟩
   obtain ⟨ua, uc, a', c', w3, eu, hrun, hR2, _⟩ := hR1.app (.tr a.base) (by simp)
   cases eu
   have HR2 := Hf hR2
   clear hc hb2 hR1 hR2 hbe
   go_wp2_with (at_builtin; refine Na.wpList_append_known rfl _ _ 31 rfl _ _ rfl rfl _ _ (hrun _) ?_)
   go_meet
   case rel => rw [HQ.out]; exact HR2.out
 case rest =>
  rename World => wk
  have HTO := Hf hcut
  obtain ⟨ou, oc, hou, _, _⟩ := hcut.o.at
  rw [List.length_map] at hou; subst hou
  have HRW := Hf (Br HR1.out hcut.bel)
  have HXC := Hf (HX.out.keep hcut.bel)
  have HBC := Hf hcut.bel
  clear hcut z0 z1 z2 z3; go_wp2
  go_loopw [5, 4] (fun i u wr => ∃ j : Nat, j ≤ a.l.length ∧ i = .int .i64 j ∧ OwnL vl 48 wr wk.heap.size u (byB (a.l.take j)) ∧ Below wk.heap.size wk wr) (fun i _ _ => a.l.length - (intOf i).toNat)
  case atStart => exact ⟨0, Nat.zero_le _, rfl, OwnL.nil _ _ _, Below.refl _ _⟩
  case round =>
   obtain ⟨j, hj, rfl, ho4, hb4⟩ := hrel
   obtain ⟨a4, c4, rfl, hx4, hbk4⟩ := ho4.at
   obtain ⟨⟨z0, z1, z2, z3⟩, _⟩ := row4 (Br HRW.out hb4)
   by_cases hlt : j < a.l.length
   ·have hji : (j : Int) < (a.l.length : Int) := by omega
    have hLl : (byB (a.l.take j)).length = j := by rw [byB_len, List.length_take]; omega
    obtain ⟨g1, o1, rfl, q0, q1, q2, q3⟩ := (HXC.out.at'.keep hb4).getV j hlt
    obtain ⟨v, hv⟩ := Nq (a.l[j])
    have HBS := Hf (byB_step a.l j hlt)
    rw [hv] at q0 q1 q2 q3 HBS
    have HS0 : Hid (∀ W, Below wr.heap.size wr W → SV w.heap.size g1 o1 j c a.l.length v W) := Hf fun W hW => by
     have k1 : ∀ g o v, wr.cell? ⟨g, o, none⟩ = some v → W.cell? ⟨g, o, none⟩ = some v := fun g o v h => (World.cell?_of_block (w := wr) (a := ⟨g, o, none⟩) (hW.block g (World.block_lt_of_cell? wr _ h))).trans h
     exact ⟨k1 _ _ _ z3, k1 _ _ _ q0, k1 _ _ _ q1, k1 _ _ _ q2, k1 _ _ _ q3⟩
    have HO4 := Hf ho4
    have HX4 := Hf hx4
    have HK4 := Hf hbk4
    have HBR0 := Hf hb4
    obtain ⟨L, hL⟩ := Nq (byB (a.l.take j))
    rw [hL] at HX4 HO4 HBS hLl; rw [hL]
    have HLB := Hf hL
    have HLL := Hf hLl
    have hLb : L.length ≤ 1024 := by omega
    clear hLl; clear ho4 hx4 hbk4 hb4 q0 q1 q2 q3 hv hL
    rename World => wo
    go_wp2
    go_loopw [6] (fun k wr => ∃ p : Nat, p ≤ L.length ∧ k = .int .i64 p ∧ (∀ q, q < p → nxB L v q = true) ∧ Below wo.heap.size wo wr) (fun k _ => L.length - (intOf k).toNat)
    case atStart => exact ⟨0, Nat.zero_le _, rfl, fun q hq => absurd hq (Nat.not_lt_zero _), Below.refl _ _⟩
    case round =>
     obtain ⟨p, hp, rfl, hall, hbq⟩ := hrel
     have HALL := Hf hall
     have HBQ := Hf hbq
     clear hall hbq z0 z1 z2 z3
     go_upto_region 9 with fail
     go_cut [42] from 24 to 42 (fun s wx => s = .bool (nxB L v p) ∧ Below wr.heap.size wr wx)
     case first =>
      by_cases hpl : p < L.length
      ·obtain ⟨g0, o0, rfl, q0, q1, q2, q3⟩ := (HX4.out.at'.keep HBQ.out).getV p hpl
       have hnx := nxB_lt (v := v) hpl
       obtain ⟨y, hy⟩ := Nq (L[p])
       rw [hy] at q0 q1 q2 q3 hnx
       have HS : Hid (∀ W, Below wr.heap.size wr W → W.cell? ⟨w.heap.size, 3, none⟩ = some (.slice (some ⟨g1, o1, none⟩) a.l.length c) ∧ (W.cell? ⟨g0, o0 + p * 4, none⟩ = some (.int .i64 y.s) ∧ W.cell? ⟨g0, o0 + p * 4 + 1, none⟩ = some (.int .i64 y.b.i) ∧ W.cell? ⟨g0, o0 + p * 4 + 2, none⟩ = some (.int .i64 y.b.t) ∧ W.cell? ⟨g0, o0 + p * 4 + 3, none⟩ = some (.string y.v)) ∧ (W.cell? ⟨g1, o1 + j * 4, none⟩ = some (.int .i64 v.s) ∧ W.cell? ⟨g1, o1 + j * 4 + 1, none⟩ = some (.int .i64 v.b.i) ∧ W.cell? ⟨g1, o1 + j * 4 + 2, none⟩ = some (.int .i64 v.b.t) ∧ W.cell? ⟨g1, o1 + j * 4 + 3, none⟩ = some (.string v.v))) := Hf fun W hW => by
        have k1 : ∀ g o v, wr.cell? ⟨g, o, none⟩ = some v → W.cell? ⟨g, o, none⟩ = some v := fun g o v h => (World.cell?_of_block (w := wr) (a := ⟨g, o, none⟩) (hW.block g (World.block_lt_of_cell? wr _ h))).trans h
        obtain ⟨y1, y2⟩ := HS0.out W (Bu HBQ.out hW Lr)
        exact ⟨y1, ⟨k1 _ _ _ q0, k1 _ _ _ q1, k1 _ _ _ q2, k1 _ _ _ q3⟩, y2⟩
       have hpi : (p : Int) < (L.length : Int) := by omega
       have hpd : decide ((p : Int) < (L.length : Int)) = true := decide_eq_true hpi
       have hpd2 : decide (p < L.length) = true := decide_eq_true hpl
       have HNX := Hf hnx
       clear q0 q1 q2 q3 hy hnx
       refine wp_region_held_drew (S := fun wq => Below (wr).heap.size (wr) wq) (by kernel_rfl) (Below.drew (Below.refl _ _)) fun Hl => ?_
       obtain ⟨wdx, hwdx⟩ := Nq (wr.drew)
       have hBwd : Below wr.heap.size wr wdx := by rw [← hwdx]; exact Below.drew (Below.refl _ _)
       rw [hwdx] at Hl ⊢; clear hwdx
       refine Tm 0 ?pA ?vA Hl ?rA
       simp only [Act.put, Pa, Pb, Pc]
       refine Tm 1 ?pB ?vB Hl ?rB
       simp only [Act.put, Pa, Pb, Pc]
       refine Tm 2 ?pC ?vC Hl ?rC
       simp only [Act.put, Pa, Pb, Pc]
       refine Tm 3 ?pD ?vD Hl ?rD
       simp only [Act.put, Pa, Pb, Pc]
       refine Tm 4 ?pE ?vE Hl ?rE
       simp only [Act.put, Pa, Pb, Pc]
       refine Tm 5 ?pF ?vF Hl ?rF
       simp only [Act.put, Pa, Pb, Pc]
       refine Tm 6 ?pG ?vG Hl ?rG
       simp only [Act.put, Pa, Pb, Pc]
       refine Tm 7 ?pH ?vH Hl ?rH
       simp only [Act.put, Pa, Pb, Pc]
       refine Tm 8 ?pI ?vI Hl ?rI
       simp only [Act.put, Pa, Pb, Pc]
       refine Tk 9 ?pJ ?vJ ?yJ Hl ?rJ
       case yJ => intro q h; obtain ⟨z3, ⟨y0, y1, y2, y3⟩, ⟨u0, u1, u2, u3⟩⟩ := HS.out q h; go_simp; try with_reducible rfl
       simp only [Act.put, Pa, Pb, Pc]
       refine Tm 10 ?pK ?vK Hl ?rK
       simp only [Act.put, Pa, Pb, Pc]
       refine Tk 11 ?pL ?vL ?yL Hl ?rL
       case yL => intro q h; obtain ⟨z3, ⟨y0, y1, y2, y3⟩, ⟨u0, u1, u2, u3⟩⟩ := HS.out q h; go_simp; try with_reducible rfl
       simp only [Act.put, Pa, Pb, Pc]
       refine Tm 12 ?pM ?vM Hl ?rM
       simp only [Act.put, Pa, Pb, Pc]
       refine Tm 13 ?pN ?vN Hl ?rN
       simp only [Act.put, Pa, Pb, Pc]
       refine Tm 14 ?pO ?vO Hl ?rO
       simp only [Act.put, Pa, Pb, Pc]
       refine Tk 15 ?pP ?vP ?yP Hl ?rP
       case yP => intro q h; obtain ⟨z3, ⟨y0, y1, y2, y3⟩, ⟨u0, u1, u2, u3⟩⟩ := HS.out q h; go_simp; try with_reducible rfl
       simp only [Act.put, Pa, Pb, Pc]
       refine Rd 16 ?pQ ?sQ
       intro K hK; go_simp
       refine (Na.rcmp_any y.b v.b _).mono ?_; rintro e v16 ⟨rfl, hb16⟩
       have B16 := Hl.trans (hb16.mono Hl.size)
       refine hK.out _ _ B16 fun Hl => ?_; clear hK K
       refine Tm 17 ?pR ?vR Hl ?rR
       simp only [Act.put, Pa, Pb, Pc]
       refine Tm 18 ?pS ?vS Hl ?rS
       simp only [Act.put, Pa, Pb, Pc]
       refine wpAnyH_done (by kernel_rfl) ?_ _
       clear HS
       go_wp2_with fail
       go_meet
       case rel => rw [HNX.out]; exact ⟨rfl, Hl⟩
      ·have hnx := nxB_ge (v := v) hpl
       have hpi : ¬ (p : Int) < (L.length : Int) := by omega
       have hpd : decide ((p : Int) < (L.length : Int)) = false := decide_eq_false hpi
       have hpd2 : decide (p < L.length) = false := decide_eq_false hpl
       have HS : Hid (∀ W, Below wr.heap.size wr W → W.cell? ⟨w.heap.size, 3, none⟩ = some (.slice (some ⟨g1, o1, none⟩) a.l.length c)) := Hf fun W hW => (HS0.out W (Bu HBQ.out hW Lr)).1
       have HNX := Hf hnx
       clear hnx
       refine wp_region_held_drew (S := fun wq => Below (wr).heap.size (wr) wq) (by kernel_rfl) (Below.drew (Below.refl _ _)) fun Hl => ?_
       obtain ⟨wdy, hwdy⟩ := Nq (wr.drew)
       have hBwd : Below wr.heap.size wr wdy := by rw [← hwdy]; exact Below.drew (Below.refl _ _)
       rw [hwdy] at Hl ⊢; clear hwdy
       refine Tm 0 ?pT ?vT Hl ?rT
       simp only [Act.put, Pa, Pb, Pc]
       refine Tm 1 ?pU ?vU Hl ?rU
       simp only [Act.put, Pa, Pb, Pc]
       refine Tm 2 ?pV ?vV Hl ?rV
       simp only [Act.put, Pa, Pb, Pc]
       refine Tm 3 ?pW ?vW Hl ?rW
       simp only [Act.put, Pa, Pb, Pc]
       refine Tm 4 ?pX ?vX Hl ?rX
       simp only [Act.put, Pa, Pb, Pc]
       refine Ts 5 ?pY Hl ?rY
       simp only [Act.put, Pa, Pb, Pc]
       refine Ts 6 ?pZ Hl ?rZ
       simp only [Act.put, Pa, Pb, Pc]
       refine Ts 7 ?pa Hl ?ra
       simp only [Act.put, Pa, Pb, Pc]
       refine Ts 8 ?pb Hl ?rb
       simp only [Act.put, Pa, Pb, Pc]
       refine Ts 9 ?pc Hl ?rc
       simp only [Act.put, Pa, Pb, Pc]
       refine Ts 10 ?pd Hl ?rd
       simp only [Act.put, Pa, Pb, Pc]
       refine Ts 11 ?pe Hl ?re
       simp only [Act.put, Pa, Pb, Pc]
       refine Ts 12 ?pf Hl ?rf
       simp only [Act.put, Pa, Pb, Pc]
       refine Ts 13 ?pg Hl ?rg
       simp only [Act.put, Pa, Pb, Pc]
       refine Ts 14 ?ph Hl ?rh
       simp only [Act.put, Pa, Pb, Pc]
       refine Ts 15 ?pi Hl ?ri
       simp only [Act.put, Pa, Pb, Pc]
       refine Ts 16 ?pj Hl ?rj
       simp only [Act.put, Pa, Pb, Pc]
       refine Ts 17 ?pk Hl ?rk
       simp only [Act.put, Pa, Pb, Pc]
       refine Tm 18 ?pl ?vl Hl ?rl
       simp only [Act.put, Pa, Pb, Pc]
       refine wpAnyH_done (by kernel_rfl) ?_ _
       clear HS
       go_wp2_with fail
       go_meet
       case rel => rw [HNX.out]; exact ⟨rfl, Hl⟩
     case rest =>
      obtain ⟨rfl, hbc⟩ := hcut
      have HBC2 := Hf (Bu HBQ.out hbc Lr)
      clear hbc
      cases hnx : nxB L v p with
      | true =>
       have hpl := nxB_yes hnx
       have HAL2 : Hid (∀ q, q < p + 1 → nxB L v q = true) := Hf fun q hq => by
        rcases Nat.lt_or_ge q p with h | h
        ·exact HALL.out q h
        ·rw [show q = p by omega]; exact hnx
       clear hnx; go_wp2
       go_roundw
       case rel => exact ⟨p + 1, by omega, by go_num, HAL2.out, HBC2.out⟩
       case measure => simp [intOf]; omega
      | false =>
       have HBS2 : Hid (byB (a.l.take (j + 1)) = L.take p ++ [v] ++ L.drop p) := Hf (by
        rw [HBS.out, ins_at L v p hp HALL.out hnx, List.append_assoc]
        rfl)
       have HBR := Hf (Bu HBR0.out HBC2.out Lr)
       have HSW : Hid (∀ W, Below wc.heap.size wc W → SV w.heap.size g1 o1 j c a.l.length v W) := Hf fun W hW => HS0.out W (Bu HBC2.out hW Lr)
       have hcap : L.length ≤ c4 := HX4.out.le
       have hcm : c4 ≤ 9223372036854775807 := HX4.out.mx
       obtain ⟨AX, hAX⟩ := Nq ((if c4 = p then a4 else Option.map (fun x => x.add (p * 4)) a4))
       have HIN : Hid (∀ wd, Below wc.heap.size wc wd → InsRun wd L p v (.slice a4 p c4) (.slice AX (L.length - p) (c4 - p))) := Hf fun wd hwd => by
        have hb := Bu HBC2.out hwd Lr
        have hxd := HX4.out.keep hb
        refine ins_run wd L p hp v a4 c4 ⟨hxd.at'.take p, by rw [List.length_take]; omega, hxd.mx, hxd.nil⟩ _ ?_ ?_ (by omega)
        ·by_cases hpl : p = L.length
         ·exact .inl ⟨List.drop_of_length_le (by omega), AX, c4 - p, by rw [show L.length - p = 0 by omega]⟩
         ·obtain ⟨b, off, ea, _⟩ := hxd.at' 0 (by omega)
          subst ea; rw [if_neg (by omega)] at hAX
          have e : AX = some ⟨b, off + p * 4, none⟩ := by rw [← hAX]; show some (Addr.add _ _) = _; rw [Na.add_n]
          subst e
          exact .inr ⟨b, off + p * 4, c4 - p, by rw [List.length_drop], hxd.at'.drop p⟩
        ·rintro q ⟨a', n', c', e, hq⟩
         cases e
         have hq4 : blk a4 q := by
          rw [← hAX] at hq
          split at hq
          ·exact hq
          ·obtain ⟨o, s, e⟩ := hq
           cases a4 with
           | none => cases e
           | some ad =>
            obtain ⟨b, off, sl⟩ := ad
            simp [Addr.add] at e
            split at e
            ·simp at e; exact ⟨off, _, by rw [e.1]⟩
            ·simp at e; exact ⟨off, _, by rw [e.1]⟩
         exact Nat.lt_of_lt_of_le (HK4.out q hq4).2.2 hb.size
       have hpc : p ≤ c4 := by omega
       clear hnx HALL HBQ
       go_wp2_with fail
       obtain ⟨wd, hwd⟩ := Nq (wc.drew)
       have hBD : Below wc.heap.size wc wd := by rw [← hwd]; exact (Below.refl _ _).drew
       have HWD := Hf hBD
       obtain ⟨⟨a1, c1, w4, hr4, hB4, a2, c2, w5, hr5, hB5, a3, c3, w6, hr6, ho6, hb6⟩, ⟨a1', c1', w4', hr4', hB4', a2', c2', w5', hr5', hB5', a3', c3', w6', hr6', ho6', hb6'⟩⟩ := HIN.out wd hBD
       have HOA := Hf (And.intro ho6 hb6)
       have HOB := Hf (And.intro ho6' hb6')
       have HSS : Hid (∀ W, Below wd.heap.size wd W → SV w.heap.size g1 o1 j c a.l.length v W) := Hf fun W hW => HSW.out W (Bu HWD.out hW Lr)
       have k0 : SV w.heap.size g1 o1 j c a.l.length v wc.drew := by rw [hwd]; exact HSS.out wd (Below.refl _ _)
       have k4 := HSS.out _ hB4
       have k4b := HSS.out _ (Bu hB4 (bel1 w4 (.cells #[.int .i64 v.s, .int .i64 v.b.i, .int .i64 v.b.t, .string v.v] 48)) Lr)
       have k5 := HSS.out _ hB5
       have k6 := HSS.out _ hb6
       have k9 := HSS.out _ (bel1 wd (.cells #[.int .i64 v.s, .int .i64 v.b.i, .int .i64 v.b.t, .string v.v] 48))
       have k4' := HSS.out _ hB4'
       have k5' := HSS.out _ hB5'
       have k6' := HSS.out _ hb6'
       clear ho6 hb6 ho6' hb6' HIN hBD hB4 hB5 hB4' hB5' HSS
       refine wp_region_held_drew (S := SV w.heap.size g1 o1 j c a.l.length v) (by kernel_rfl) k0 fun Hl => ?_
       rw [hwd] at Hl ⊢; clear hwd k0
       refine Tm 0 ?pm ?vm Hl ?rm
       refine Tm 1 ?pn ?vn Hl ?rn
       refine Tm 2 ?po ?vo Hl ?ro
       refine Tm 4 ?pp ?vp Hl ?rp
       refine Tk 5 ?pq ?vq ?yq Hl ?rq
       case yq => intro wq hq; obtain ⟨z3, u0, u1, u2, u3⟩ := hq; go_simp; try with_reducible rfl
       refine Tm 6 ?pr ?vr Hl ?rr
       refine Tm 7 ?ps ?vs Hl ?rs
       refine Tk 8 ?pt ?vt ?yt Hl ?rt
       case yt => intro wq hq; obtain ⟨z3, u0, u1, u2, u3⟩ := hq; go_simp; try with_reducible rfl
       refine Tm 11 ?pu ?vu Hl ?ru
       refine Tm 12 ?pv ?vv Hl ?rv
       refine Tm 13 ?pw ?vw Hl ?rw
       simp only [Act.put, Pa, Pb, Pc]
       refine Rn [3, 9] (Rc ?px ?sx (Rc ?py ?sy AllReadyH.nil))
       case sx =>
        intro Kk hK
        refine Na.step_append_known rfl (.const (.slice none 0 0)) (.tmp 47) 37 rfl _ _ rfl rfl _ _ (hr4 _) ?_
        refine hK.out _ _ k4 fun Hl => ?_; clear hK Kk
        simp only [Act.put, List.setIfInBounds_toArray, List.set_cons_zero, List.set_cons_succ]
        refine Rd 9 ?pz ?sz
        intro Kk hK; go_simp
        refine hK.out _ _ k4b fun Hl => ?_; clear hK Kk
        refine Rd 10 ?p0 ?s0
        intro Kk hK
        refine Na.step_append_known rfl (.tmp 48) (.tmp 54) 37 rfl _ _ rfl rfl _ _ (hr5 _) ?_
        refine hK.out _ _ k5 fun Hl => ?_; clear hK Kk
        simp only [Act.put, List.setIfInBounds_toArray, List.set_cons_zero, List.set_cons_succ]
        refine Rd 14 ?p1 ?s1
        intro Kk hK
        refine Na.step_append_known rfl (.tmp 55) (.tmp 58) 37 rfl _ _ rfl rfl _ _ (hr6 _) ?_
        refine hK.out _ _ k6 fun Hl => ?_; clear hK Kk
        simp only [Act.put, List.setIfInBounds_toArray, List.set_cons_zero, List.set_cons_succ]
        refine Tm 15 ?p2 ?v2 Hl ?r2
        simp only [Act.put, Pa, Pb, Pc]
        refine wpAnyH_done (by kernel_rfl) ?_ _
        have HEB : Hid (Below wk.heap.size wk w6) := Hf (Bu (Bu HBR.out HWD.out Lr) (HOA.out.2) Lr)
        have HEO : Hid (OwnL vl 48 w6 wk.heap.size (.slice a3 (L.length + 1) c3) (byB (a.l.take (j + 1)))) := Hf (by
         rw [HBS2.out]
         exact HOA.out.1.low (Bu HBR.out HWD.out Lr).size)
        clear HOA HOB HWD hr4 hr5 hr6 hr4' hr5' hr6' Hl k4 k4b k5 k6 k9 k4' k5' k6'; go_wp2
        go_roundw
        case rel => exact ⟨j + 1, by omega, by go_num, HEO.out, HEB.out⟩
        case measure => simp [intOf]; omega
       case sy =>
        intro Kk hK; go_simp
        refine hK.out _ _ k9 fun Hl => ?_; clear hK Kk
        refine Rd 3 ?p3 ?s3
        intro Kk hK
        refine Na.step_append_known rfl (.const (.slice none 0 0)) (.tmp 47) 37 rfl _ _ rfl rfl _ _ (hr4' _) ?_
        refine hK.out _ _ k4' fun Hl => ?_; clear hK Kk
        simp only [Act.put, List.setIfInBounds_toArray, List.set_cons_zero, List.set_cons_succ]
        refine Rd 10 ?p4 ?s4
        intro Kk hK
        refine Na.step_append_known rfl (.tmp 48) (.tmp 54) 37 rfl _ _ rfl rfl _ _ (hr5' _) ?_
        refine hK.out _ _ k5' fun Hl => ?_; clear hK Kk
        simp only [Act.put, List.setIfInBounds_toArray, List.set_cons_zero, List.set_cons_succ]
        refine Rd 14 ?p5 ?s5
        intro Kk hK
        refine Na.step_append_known rfl (.tmp 55) (.tmp 58) 37 rfl _ _ rfl rfl _ _ (hr6' _) ?_
        refine hK.out _ _ k6' fun Hl => ?_; clear hK Kk
        simp only [Act.put, List.setIfInBounds_toArray, List.set_cons_zero, List.set_cons_succ]
        refine Tm 15 ?p6 ?v6 Hl ?r6
        simp only [Act.put, Pa, Pb, Pc]
        refine wpAnyH_done (by kernel_rfl) ?_ _
        have HEB : Hid (Below wk.heap.size wk w6') := Hf (Bu (Bu HBR.out HWD.out Lr) (HOB.out.2) Lr)
        have HEO : Hid (OwnL vl 48 w6' wk.heap.size (.slice a3' (L.length + 1) c3') (byB (a.l.take (j + 1)))) := Hf (by
         rw [HBS2.out]
         exact HOB.out.1.low (Bu HBR.out HWD.out Lr).size)
        clear HOA HOB HWD hr4 hr5 hr6 hr4' hr5' hr6' Hl k4 k4b k5 k6 k9 k4' k5' k6'; go_wp2
        go_roundw
        case rel => exact ⟨j + 1, by omega, by go_num, HEO.out, HEB.out⟩
        case measure => simp [intOf]; omega
   ·obtain rfl : j = a.l.length := by omega
    obtain ⟨B, hB⟩ := Nq (byB (a.l.take a.l.length))
    rw [hB] at hx4; rw [hB]; rw [List.take_length] at hB
    have HBB := Hf hB
    have hBl : B.length ≤ 1024 := by rw [← hB, byB_len]; exact hll
    have HTO4 : Hid (TO W1 wr (.slice ou L0.length oc) (L0 ++ (B.take 0).map R.vo) a4) := Hf (by
     rw [List.take_zero, List.map_nil, List.append_nil]
     have h := HTO.out.keep hb4
     refine ⟨h.o, h.bel, fun k hk => ⟨fun e => ?_, (hbk4 k hk).2.2⟩⟩
     have h1 := (HTO.out.o.lt e).2
     have h2 := (hbk4 k hk).1
     omega)
    have HAT0 := Hf hx4.at'
    clear ho4 hb4 hbk4 hx4 hB; go_wp2; clear z0 z1 z2 z3
    go_loopw [7, 3] (fun i u wr => ∃ q : Nat, q ≤ B.length ∧ i = .int .i64 q ∧ TO W1 wr u (L0 ++ (B.take q).map R.vo) a4 ∧ AtL vl wr a4 B) (fun i _ _ => B.length - (intOf i).toNat)
    case atStart => exact ⟨0, Nat.zero_le _, rfl, HTO4.out, HAT0.out⟩
    case round =>
     obtain ⟨q, hq, rfl, hto, hat⟩ := hrel
     clear HTO4 HAT0
     have hpl : (L0 ++ (B.take q).map R.vo).length = L0.length + q := by simp; omega
     obtain ⟨ua, uc, hu, _, _⟩ := hto.o.at
     rw [List.length_map, hpl] at hu; subst hu
     by_cases hlt : q < B.length
     ·obtain ⟨g, off, hga, c0, c1, c2, c3⟩ := hat.getV q hlt
      subst hga
      have hvr := fun W => dvote_any B[q] W (HVW.out B[q] (by rw [HBB.out]; exact List.getElem_mem _))
      have HNX : Hid (L0 ++ (B.take (q + 1)).map R.vo = (L0 ++ (B.take q).map R.vo) ++ [.vo B[q]]) := Hf (by
       rw [List.take_succ_eq_append_getElem hlt, List.map_append, List.append_assoc]
       rfl)
      have HTQ := Hf hto
      have HAQ := Hf hat
      have HPL := Hf hpl
      have hqi : (q : Int) < (B.length : Int) := by omega
      generalize B[q] = y at *
      clear hto hat hpl
      go_wp2_with fail
      refine (hvr _).mono ?_; rintro e w6 ⟨rfl, hb6⟩
      obtain ⟨ua', uc', a', c', w7, eu, hrun, hro7, hsame⟩ := (HTQ.out.keep hb6).app (.vo y) (by rw [HPL.out]; omega)
      rw [HPL.out] at eu hrun hro7
      cases eu
      have HF : Hid (TO W1 w7 (.slice a' (L0.length + q + 1) c') (L0 ++ (B.take (q + 1)).map R.vo) (some ⟨g, off, none⟩) ∧ AtL vl w7 (some ⟨g, off, none⟩) B) := Hf (by
       rw [HNX.out]
       exact ⟨hro7, (HAQ.out.keep hb6).keepBut fun k hk hk2 => hsame k hk2⟩)
      clear hvr hb6 HTQ HAQ hro7 hsame c0 c1 c2 c3 HNX
      go_wp2_with (at_builtin; refine Na.wpList_append_known rfl _ _ 31 rfl _ _ rfl rfl _ _ (hrun _) ?_)
      clear hrun; go_wp2
      go_roundw
      case rel => exact ⟨q + 1, by omega, by go_num, HF.out⟩
      case measure => simp [intOf]; omega
     ·obtain rfl : q = B.length := by omega
      rw [List.take_length] at hto hpl
      obtain ⟨⟨z0, z1, z2, z3⟩, _⟩ := row4 (Br HR1.out hto.bel)
      have HTQ := Hf hto
      have HPL := Hf hpl
      have hpr := HP.out
      clear hto hat hpl
      by_cases hz : a.p.i = 0 ∧ a.p.t = 0
      ·obtain ⟨hz1, hz2⟩ := hz
       have HQ : Hid (AlO w a (.returned (.slice ua (L0.length + B.length) uc)) wr) := Hf (by
        have e : few a = L0 ++ B.map R.vo := by rw [HFE.out, HBB.out, if_pos ⟨hz1, hz2⟩, List.append_nil]
        refine AlO_of HB1.out (by rw [e]; exact HTQ.out) (by rw [e]; exact HPL.out))
       rw [hz1] at z0; rw [hz2] at z1; clear HTQ HPL hpr hz1 hz2; go_wp2
       go_ret
       exact HQ.out
      ·have hrunp : ∀ W, (binOp .neq 36 (.agg #[.int .i64 a.p.i, .int .i64 a.p.t]) (.agg #[.int .i64 0, .int .i64 0])).run Tryz.prog W = .ok (.bool true) W := fun W => nz36 _ _ hz W
       have hc := fun W => dpromise_any a.p W (hpr hz).1 (hpr hz).2
       have HFW : Hid (few a = (L0 ++ B.map R.vo) ++ [.pr a.p]) := Hf (by rw [HFE.out, HBB.out, if_neg hz])
       clear hz hpr
       go_wp2_with fail
       refine (hc _).mono ?_; rintro e w8 ⟨rfl, hb8⟩
       obtain ⟨ua', uc', a', c', w9, eu, hrun, hro9, _⟩ := (HTQ.out.keep hb8).app (.pr a.p) (by rw [HPL.out]; omega)
       rw [HPL.out] at eu hrun hro9
       cases eu
       have HQ : Hid (AlO w a (.returned (.slice a' (L0.length + B.length + 1) c')) w9) := Hf (by
        refine AlO_of HB1.out (by rw [HFW.out]; exact hro9) (by rw [HFW.out, List.length_append, HPL.out]; rfl))
       clear hc hb8 HTQ HPL hro9 HFW hrunp
       go_wp2_with (at_builtin; refine Na.wpList_append_known rfl _ _ 31 rfl _ _ rfl rfl _ _ (hrun _) ?_)
       clear hrun; go_wp2
       go_ret
       exact HQ.out
end Go.Proofs.YtlnedgjikkhplaaGreat.Du
namespace Go.Proofs.YtlnedgjikkhplaaGreat.Du
open Go.RowKit
open Na (Fr AS XL vl bV vV Hf bel1 bel2 Bu Br row2 row4 blk OwnL AtL)
open Na.M (E V S S0)
open Ns (Hd XD fl)
open Ns.M (DD RR ofL)
def half2 (s : List UInt8) (j : Nat) : List UInt8 := if j = 0 then s.take 256 else s.drop 256
theorem both_fl (P : List Ns.M.Pl) : Ns.both P = fl (P.map Ns.M.last) := by
 show (ofL (fl (P.map Ns.M.last))).data.toList = _
 exact Ns.ofL_data _
theorem piece {n : Nat} {P : List Ns.M.Pl} (h8 : 8 ≤ n) (hl : P.length = n) (hok : Ns.M.Ok P) (j : Nat) (hj : j ≤ 1) : Ns.M.refused n false ((4 * j : Nat) : Int) 4 = 0 ∧ (Ns.M.rtext n false P ((4 * j : Nat) : Int) 4).size = 256 ∧ (Ns.M.rtext n false P ((4 * j : Nat) : Int) 4).data.toList = half2 (Ns.both (P.take 8)) j := by
 have hr : Ns.M.refused n false ((4 * j : Nat) : Int) 4 = 0 := by
  unfold Ns.M.refused; rw [decide_eq_false (show ¬ (((4 * j : Nat) : Int) < 0) by omega), decide_eq_false (show ¬ ((4 : Int) < 1) by omega), decide_eq_false (show ¬ (((4 * j : Nat) : Int) > (n : Int) - 4) by omega)]
  rfl
 have e : Ns.M.rtext n false P ((4 * j : Nat) : Int) 4 = ofL (fl (((P.map Ns.M.last).drop (4 * j)).take 4)) := by
  unfold Ns.M.rtext; rw [hr, decide_eq_true rfl, Int.toNat_natCast]
  rfl
 have h64 : ∀ q ∈ P.map Ns.M.last, q.size = 64 := Ns.last_64 hok
 have h64b : ∀ q ∈ ((P.map Ns.M.last).drop (4 * j)).take 4, q.size = 64 := fun q hq => h64 q (List.mem_of_mem_drop (List.mem_of_mem_take hq))
 have h64c : ∀ q ∈ (P.map Ns.M.last).take 8, q.size = 64 := fun q hq => h64 q (List.mem_of_mem_take hq)
 refine ⟨hr, ?_, ?_⟩
 ·rw [e, Ns.M.ofL_size, fl_len h64b, List.length_take, List.length_drop, List.length_map, hl]
  omega
 ·rw [e, Ns.ofL_data, both_fl, List.map_take]
  rcases (show j = 0 ∨ j = 1 by omega) with rfl | rfl
  ·show _ = (fl ((P.map Ns.M.last).take 8)).take (4 * 64)
   rw [← fl_take h64c, List.take_take, Nat.mul_zero, List.drop_zero]
   rfl
  ·show _ = (fl ((P.map Ns.M.last).take 8)).drop (4 * 64)
   rw [← fl_drop h64c, List.drop_take, Nat.mul_one]
theorem dsread_any {w : World} {h : Hd} {D : DD} {n : Nat} {P : List Ns.M.Pl} (hx : XD w h D) (rr : RR n P false D) (hl : P.length = n) (hok : Ns.M.Ok P) (h8 : 8 ≤ n) :
  Calls Tryz.prog 40 #[.agg (h.vals D)] w fun e w' => e = .returned (.tuple #[.string (ofL (Ns.rdP (P.take 8)).2), .int .i64 (Ns.rdP (P.take 8)).1, .int .i64 (Ns.rcode (Ns.rdP (P.take 8)))]) ∧ Below w.heap.size w w' := by
 obtain ⟨W1, HW1⟩ := Nh (w.alloc (.cells (h.vals D) 34))
 have hb1 : Below w.heap.size w W1 := by rw [← HW1.out]; exact bel1 w _
 have hr1 : W1.heap[w.heap.size]? = some (.cells (h.vals D) 34 (0, 0)) := by rw [← HW1.out]; exact heap_alloc_last w _
 have HRD : Hid (∀ (W : World) (j : Nat), j ≤ 1 → Below W1.heap.size W1 W → Calls Tryz.prog 41 #[.agg (h.vals D), .int .i64 ((4 * j : Nat) : Int), .int .i64 4] W fun e w' => ∃ X : ByteArray, e = .returned (.tuple #[.string X, .int .i64 0]) ∧ X.size = 256 ∧ X.data.toList = half2 (Ns.both (P.take 8)) j ∧ Below W.heap.size W w') := fun W j hj hW => by
  obtain ⟨p1, p2, p3⟩ := piece h8 hl hok j hj
  refine (Ns.rread_any h D _ 4 W (by rw [rr.ok.l1]; exact rr.ok.n1.2) rr.ok.s1 (hx.keep (Bu hb1 hW Lr))).mono ?_; rintro e w' ⟨rfl, hb⟩
  rw [rr.read, rr.ok.l1, rr.ls, p1]
  exact ⟨_, rfl, p2, p3, hb⟩
 have hp := Ns.rd_par (Ns.both (P.take 8))
 have a1 : Ns.acc (Ns.both (P.take 8)) 1 = bif decide ((Ns.acc (Ns.both (P.take 8)) 0).1 < (Ns.Sp.sa 0 (half2 (Ns.both (P.take 8)) 0)).1) then Ns.Sp.sa 0 (half2 (Ns.both (P.take 8)) 0) else Ns.acc (Ns.both (P.take 8)) 0 := Ns.acc_1 (Ns.both (P.take 8))
 have a2 : Ns.acc (Ns.both (P.take 8)) 2 = bif decide ((Ns.acc (Ns.both (P.take 8)) 1).1 < (Ns.Sp.sa 1 (half2 (Ns.both (P.take 8)) 1)).1) then Ns.Sp.sa 1 (half2 (Ns.both (P.take 8)) 1) else Ns.acc (Ns.both (P.take 8)) 1 := rfl
 have a3 : Ns.acc (Ns.both (P.take 8)) 2 = Ns.rdP (P.take 8) := rfl
 have HR1 := Hf hr1
 have HB1 := Hf hb1
 clear hx rr hl hok h8 hr1 hb1
 have HP : Hid ((Ns.rdP (P.take 8)).1 = 0 ∧ (Ns.rdP (P.take 8)).2 = [] ∨ 1 ≤ (Ns.rdP (P.take 8)).1 ∧ (Ns.rdP (P.take 8)).1 < 2147483648 ∧ (Ns.rdP (P.take 8)).2.length ≤ 244) := hp
 clear hp
 generalize Ns.rdP (P.take 8) = Y at *
 generalize Ns.both (P.take 8) = B at *
 have HA1 := Hf a1
 have HA2 := Hf a2
 have HA3 := Hf a3
 clear a1 a2 a3; unfold Ns.Hd.vals at HW1 HR1 HRD ⊢
 go_enter Tryz.func40, Tryz.ntmps40
 go_upto_region 1 with fail
 rw [HW1.out]; clear HW1; go_wp2
 go_loopw [5, 6, 7] (fun bv gv av wr => ∃ j : Nat, j ≤ 2 ∧ bv = .string (ofL (Ns.acc B j).2) ∧ gv = .int .i64 ((Ns.acc B j).1 : Nat) ∧ av = .int .i64 ((4 * j : Nat) : Int) ∧ Below W1.heap.size W1 wr) (fun _ _ av _ => 8 - (intOf av).toNat)
 case atStart => exact ⟨0, by omega, rfl, rfl, rfl, Below.refl _ _⟩
 case round =>
  obtain ⟨j, hj, rfl, rfl, rfl, hbr⟩ := hrel
  by_cases hlt : j ≤ 1
  ·have hc := HRD.out wr j hlt hbr
   obtain ⟨⟨c0, c1, c2, c3⟩, _⟩ := row4 (Br HR1.out hbr)
   have HBR := Hf hbr
   have d8 : decide (((4 * j : Nat) : Int) < 8) = true := decide_eq_true (by omega)
   have HSTEP : Hid (Ns.acc B (j + 1) = bif decide ((Ns.acc B j).1 < (Ns.Sp.sa j (half2 B j)).1) then Ns.Sp.sa j (half2 B j) else Ns.acc B j) := by
    rcases (show j = 0 ∨ j = 1 by omega) with rfl | rfl
    ·exact HA1.out
    ·exact HA2.out
   have hj4 : (4 : Int) * (j : Int) < 8 := by omega
   clear hbr
   go_wp2_with fail
   refine hc.mono ?_; rintro e w2 ⟨X, rfl, hX1, hX2, hb2⟩
   have hc2 := Ns.right_any j X w2 hX1
   rw [hX2] at hc2
   have hcast : ((j * 4 : Nat) : Int) = ((4 * j : Nat) : Int) := by omega
   rw [hcast] at hc2
   have HB2 := Hf (Bu HBR.out hb2 Lr)
   clear hc hb2 hX2 hcast c0 c1 c2 c3
   go_wp2_with fail
   refine hc2.mono ?_; rintro e w3 ⟨x, y, rfl, hxy, hb3⟩
   have HB3 := Hf (Bu HB2.out hb3 Lr)
   clear hc2 hb3
   have hlA := Ns.acc_lt B j
   cases hk : Ns.Sp.ok j (half2 B j) with
   | false =>
    have hz : (Ns.Sp.sa j (half2 B j)) = (0, []) := by unfold Ns.Sp.sa; rw [hk]; rfl
    have HN : Hid (Ns.acc B (j + 1) = Ns.acc B j) := Hf (by rw [HSTEP.out, hz]; simp)
    clear hk hz hxy; go_wp2
    go_roundw
    case rel => exact ⟨j + 1, by omega, by rw [HN.out], by rw [HN.out], by go_num, HB3.out⟩
    case measure => simp [intOf]; omega
   | true =>
    obtain ⟨rfl, rfl⟩ := hxy hk
    have hz : (Ns.Sp.sa j (half2 B j)) = (Ns.Sp.nm (half2 B j) 0, Ns.Sp.bd (half2 B j)) := by unfold Ns.Sp.sa; rw [hk]; rfl
    clear hk hxy
    by_cases hgt : (Ns.acc B j).1 < Ns.Sp.nm (half2 B j) 0
    ·have HN : Hid (Ns.acc B (j + 1) = (Ns.Sp.nm (half2 B j) 0, Ns.Sp.bd (half2 B j))) := Hf (by rw [HSTEP.out, hz, decide_eq_true hgt]; rfl)
     have hd : decide ((Ns.acc B j).1 < Ns.Sp.nm (half2 B j) 0) = true := decide_eq_true hgt
     clear hz; go_wp2
     go_roundw
     case rel => exact ⟨j + 1, by omega, by rw [HN.out], by rw [HN.out], by go_num, HB3.out⟩
     case measure => simp [intOf]; omega
    ·have HN : Hid (Ns.acc B (j + 1) = Ns.acc B j) := Hf (by rw [HSTEP.out, hz, decide_eq_false hgt]; rfl)
     have hd : decide ((Ns.acc B j).1 < Ns.Sp.nm (half2 B j) 0) = false := decide_eq_false hgt
     clear hz; go_wp2
     go_roundw
     case rel => exact ⟨j + 1, by omega, by rw [HN.out], by rw [HN.out], by go_num, HB3.out⟩
     case measure => simp [intOf]; omega
  ·obtain rfl : j = 2 := by omega
   have HBR := Hf hbr
   clear hbr; rw [HA3.out]
   rcases HP.out with ⟨h1, h2⟩ | ⟨h1, _, _⟩
   ·rw [h1, h2]
    have HC : Hid (Ns.rcode Y = 7) := Hf (by unfold Ns.rcode; rw [h1]; rfl)
    have HY := Hf (And.intro h1 h2)
    clear h1 h2; go_wp2
    go_ret3
    rw [HC.out, HY.out.1, HY.out.2]
    exact ⟨rfl, Bu HB1.out HBR.out Lr⟩
   ·have HC : Hid (Ns.rcode Y = 0) := Hf (by unfold Ns.rcode; rw [decide_eq_false (by omega)]; rfl)
    have hne : (((Y.1 : Nat) : Int) == 0) = false := by simp; omega
    have hnn : (Y.1 = 0) = False := by simp; omega
    clear h1; go_wp2
    go_ret3
    rw [HC.out]
    exact ⟨rfl, Bu HB1.out HBR.out Lr⟩
end Go.Proofs.YtlnedgjikkhplaaGreat.Du
