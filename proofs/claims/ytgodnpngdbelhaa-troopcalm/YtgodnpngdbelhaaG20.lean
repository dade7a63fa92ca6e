/-
  A value is proposed; a node asks to lead.
-/
import Derived.Test.YtgodnpngdbelhaaG19
namespace Go.Proofs.Ytgodnpngdbelhaa
open Go.RowKit Go.Maps
set_option linter.unusedVariables false
open M (E V)
open Rm (NT R)

section
variable {w0 w : World} {b ba bp bl : Nat} {Fa Fp Fl : Nat → Prop} {r : R}
set_option maxRecDepth 100000 in
set_option maxHeartbeats 1000000 in
theorem RP.propose (h : RP w0 w b ba bp bl Fa Fp Fl r) (v : ByteArray) : Calls Try.prog 31 #[ptr b, .string v] w fun e w' => ∃ u, e = .returned (.tuple #[u, .int .i64 (Np.M.ppc r.p v)]) ∧ NO w (uni b Fa Fp Fl) u w' (Rm.ppN r v) ∧ RP w0 w' b ba bp bl Fa Fp Fl (Rm.ppS r v) ∧ Fr w (uni b Fa Fp Fl) w' (uni b Fa Fp Fl) := by
  have cp := h.ps.propose v
  have HM := Hid_of (fun k hk => (h.mine k hk).2)
  have hn := h.n17
  obtain ⟨⟨c0, c1, c2, c3, c4⟩, _⟩ := row5 h.row
  have H0 := Hid_of h
  have HY : Hid ((Np.M.ppv r.p v).v.size ≤ 140737488351232) := Hid_of (by
    unfold Np.M.ppv
    split
    · next e =>
      unfold Np.M.ppc at e
      split at e
      · omega
      · show v.size ≤ 140737488351232
        omega
    · show (0 : Nat) ≤ 140737488351232
      omega)
  have HPN0 : Hid (Np.M.ppc r.p v ≠ 0 → Rm.ppN r v = []) := fun e => by unfold Rm.ppN; rw [if_neg e]
  have HPN : Hid (Np.M.ppc r.p v = 0 → Rm.ppN r v = Rm.toE (Rm.ppS r v) 3 (Np.M.ppv r.p v)) := fun e => by unfold Rm.ppN; rw [if_pos e]; rfl
  clear h
  generalize Np.M.ppv r.p v = y at *
  go_enter Try.func31, Try.ntmps31
  go_wp2_with fail
  refine cp.mono ?_
  clear cp
  rintro e w1 ⟨rfl, hps, hf⟩
  obtain ⟨hrp, hfu⟩ := H0.out.setP hps hf
  have HR1 := Hid_of hrp
  have HF1 := Hid_of hfu
  obtain ⟨s, ⟨i, t⟩, vv⟩ := y
  clear hps hf hrp hfu
  generalize hcc : Np.M.ppc r.p v = c at *
  have HCC := Hid_of hcc
  clear hcc
  by_cases hc : c = 0
  · subst hc
    have HP3 := HPN.out rfl
    obtain ⟨W2, HW2⟩ : ∃ W2, Hid (w1.alloc (.cells #[.int .i64 s, .int .i64 i, .int .i64 t, .string vv] 84) = W2) := ⟨_, Hid_of rfl⟩
    have hb2 : Below w1.heap.size w1 W2 := by rw [← HW2.out]; exact bel1 w1 _
    have hr2 : W2.heap[w1.heap.size]? = some (.cells #[.int .i64 s, .int .i64 i, .int .i64 t, .string vv] 84 (0, 0)) := by rw [← HW2.out]; exact heap_alloc_last w1 _
    obtain ⟨⟨x0, x1, x2, x3⟩, _⟩ := row4 hr2
    have h2 := HR1.out.keep hb2
    have ce := toEach_any h2.row hn.1 hn.2 3 ⟨s, ⟨i, t⟩, vv⟩ HY.out
    have HP3 := Hid_of HP3
    have H2 := Hid_of h2
    have HF2 := Hid_of (HF1.out.up hb2)
    clear hb2 hr2 h2 HPN HPN0
    go_upto_region 4 with fail
    rw [HW2.out]
    go_wp2_with fail
    refine ce.mono ?_
    clear ce
    rintro e w3 ⟨u, ys, rfl, how, hmap, hb3⟩
    have HQ : Hid (NO w (uni b Fa Fp Fl) u w3 (Rm.ppN r v) ∧ RP w0 w3 b ba bp bl Fa Fp Fl (Rm.ppS r v) ∧ Fr w (uni b Fa Fp Fl) w3 (uni b Fa Fp Fl)) := by
      refine ⟨?_, H2.out.keep hb3, HF2.out.up hb3⟩
      rw [HP3.out]
      exact NO.of how HF2.out.size (fun k hk => by have := HM.out k hk; have := HF2.out.size; omega) hmap
    clear how hmap hb3 x0 x1 x2 x3
    go_wp2
    go_ret2
    exact ⟨u, by rw [HCC.out]; rfl, HQ.out⟩
  · have hd : (c != 0) = true := by simpa using hc
    have HQ : Hid (∀ o, NO w (uni b Fa Fp Fl) (.slice none 0 0) (w1.alloc o) (Rm.ppN r v) ∧ RP w0 (w1.alloc o) b ba bp bl Fa Fp Fl (Rm.ppS r v) ∧ Fr w (uni b Fa Fp Fl) (w1.alloc o) (uni b Fa Fp Fl)) := fun o => ⟨by rw [HPN0.out hc]; exact NO.nil _ _ _, HR1.out.keep (bel1 _ _), HF1.out.up (bel1 _ _)⟩
    clear hc HPN HPN0
    go_wp2
    go_ret2
    exact ⟨.slice none 0 0, by rw [HCC.out]; rfl, HQ.out _⟩
set_option maxRecDepth 100000 in
set_option maxHeartbeats 2000000 in
theorem RP.lead (h : RP w0 w b ba bp bl Fa Fp Fl r) : Calls Try.prog 29 #[ptr b] w (OutN w0 w (uni b Fa Fp Fl) b (Rm.ldS r) (Rm.ldN r)) := by
  have cn := h.ls.next
  have hn := h.n17
  obtain ⟨⟨c0, c1, c2, c3, c4⟩, _⟩ := row5 h.row
  have HRP := Hid_of h
  have HLB : Hid (Np.M.lde r.p r.a.p (Nl.M.nx r.l) = Rm.ldb r) := rfl
  have HLC : Hid (Np.M.ldc r.p r.a.p (Nl.M.nx r.l) = Rm.ldc r) := rfl
  have HS0 : Hid (Rm.ldc r ≠ 0 → Rm.ldS r = { r with p := Np.M.lds r.p r.a.p (Nl.M.nx r.l) } ∧ Rm.ldN r = []) := fun e => by
    refine ⟨?_, by unfold Rm.ldN; rw [if_neg e]⟩
    unfold Rm.ldS
    rw [if_neg e]
    unfold Np.M.lds
    rw [if_neg (by rw [HLC.out]; exact e)]
  have HS1 : Hid (Rm.ldc r = 0 → Rm.ldS r = { r with p := Np.M.lds r.p r.a.p (Nl.M.nx r.l), a := Na.M.prs r.a (Rm.ldb r) (Nl.M.nx r.l) } ∧ Rm.ldN r = Rm.toF r 1 (Nl.M.nx r.l) (Rm.ldb r) [] r.n.toNat) := fun e => ⟨by unfold Rm.ldS; rw [if_pos e], by unfold Rm.ldN; rw [if_pos e]⟩
  obtain ⟨n, hnn⟩ : ∃ n : Nat, r.n = n := ⟨r.n.toNat, by omega⟩
  have hn7 : n ≤ 7 := by omega
  have HNN : Hid (r.n.toNat = n) := Hid_of (by omega)
  generalize hkx : Nl.M.nx r.l = kx at *
  clear hkx
  obtain ⟨SQ, HSQ⟩ : ∃ SQ : World → Prop, Hid (SQ = fun wq => wq.heap[b]? = some (rrow r ba bp bl)) := ⟨_, Hid_of rfl⟩
  have HS : Hid (∀ wq, SQ wq → wq.cell? ⟨b, 0, none⟩ = some (.int .i64 r.n) ∧ wq.cell? ⟨b, 1, none⟩ = some (.int .i64 r.me) ∧ wq.cell? ⟨b, 2, none⟩ = some (ptr ba) ∧ wq.cell? ⟨b, 3, none⟩ = some (ptr bp) ∧ wq.cell? ⟨b, 4, none⟩ = some (ptr bl)) := fun wq hq => by
    rw [HSQ.out] at hq
    exact (row5 hq).1
  have SK : Hid (∀ w', w'.heap[b]? = some (rrow r ba bp bl) → SQ w') := fun w' hw' => by rw [HSQ.out]; exact hw'
  have SB : Hid (∀ w', Below w.heap.size w w' → SQ w') := fun w' hw' => SK.out w' (bel_row HRP.out.row hw')
  have HSI : Hid (SQ w.drew) := SB.out _ (Below.drew (Below.refl _ _))
  clear h HSQ
  go_enter Try.func29, Try.ntmps29
  go_upto_region 3 with fail
  go_wp2_with fail
  refine cn.mono ?_
  rintro e w1 ⟨rfl, rfl⟩
  clear cn
  go_upto_region 4 with fail
  clear c0 c1 c2 c3 c4
  go_cut [4, 5] from 15 to 28 (fun p c wx => c = .int .i64 (Rm.ldc r) ∧ ∃ bz Gp, p = ptr bz ∧ wx.heap[bz]? = some (.cells #[.int .i64 (Rm.ldb r).i, .int .i64 (Rm.ldb r).t] 60 (0, 0)) ∧ w1.heap.size ≤ bz ∧ ¬ uni b Fa Gp Fl bz ∧ RP w0 wx b ba bp bl Fa Gp Fl { r with p := Np.M.lds r.p r.a.p kx } ∧ Fr w1 (uni b Fa Fp Fl) wx (uni b Fa Gp Fl))
  case first =>
    refine wp_region_held_drew (S := fun wq => SQ wq) (by kernel_rfl) HSI.out (fun hHeld => ?_)
    obtain ⟨wdx, hwdx⟩ : ∃ wd, w1.drew = wd := ⟨_, rfl⟩
    have hBwd : Below w1.heap.size w1 wdx := by rw [← hwdx]; exact Below.drew (Below.refl _ _)
    rw [hwdx] at hHeld ⊢
    clear hwdx
    have HBc := hBwd
    refine Tm 0 ?p0x ?v0x hHeld ?r0x
    refine Tm 1 ?p1x ?v1x hHeld ?r1x
    refine Tm 2 ?p2x ?v2x hHeld ?r2x
    refine Tk 3 ?p3x ?v3x ?y3x hHeld ?r3x
    case y3x => intro wq hq; obtain ⟨b0, b1, b2, b3, b4⟩ := HS.out wq hq; go_simp; try with_reducible rfl
    refine Tm 4 ?p4x ?v4x hHeld ?r4x
    refine Tm 5 ?p5x ?v5x hHeld ?r5x
    refine Tm 6 ?p6x ?v6x hHeld ?r6x
    refine Tk 7 ?p7x ?v7x ?y7x hHeld ?r7x
    case y7x => intro wq hq; obtain ⟨b0, b1, b2, b3, b4⟩ := HS.out wq hq; go_simp; try with_reducible rfl
    refine Tm 9 ?p9x ?v9x hHeld ?r9x
    simp only [Act.put, Pa, Pb, Pc]
    refine Rn [8, 14] (Rc ?p8x ?s8x (Rc ?p14x ?s14x AllReadyH.nil))
    case s8x =>
      intro K hK
      go_simp
      refine ((HRP.out.keep HBc).ac.promised).mono ?_
      rintro e v8 ⟨rfl, hb8⟩
      have HBc := bel_up HBc hb8 (Nat.le_refl _)
      have S8 := SB.out v8 HBc
      clear hb8
      refine hK.out _ _ S8 (fun hHeld => ?_)
      clear hK K
      refine Rn [10, 14] (Rc ?p10x_8 ?s10x_8 (Rc ?p14x_8 ?s14x_8 AllReadyH.nil))
      case s10x_8 =>
        intro K hK
        go_simp
        refine ((HRP.out.keep HBc).ps.lead r.a.p kx).mono ?_
        rintro e v10 ⟨Gp, he, hps, hfr⟩
        rw [HLB.out, HLC.out] at he
        subst he
        obtain ⟨hrp, hfu⟩ := (HRP.out.keep HBc).setP hps hfr
        have HFc := (Fr.ofBelow HBc).trans hfu
        have HRc := Hid_of hrp
        have HFc := Hid_of HFc
        have S10 := SK.out v10 hrp.row
        clear hps hfr hrp hfu
        refine hK.out _ _ S10 (fun hHeld => ?_)
        clear hK K
        refine Tm 11 ?p11x_8_10 ?v11x_8_10 hHeld ?r11x_8_10
        refine Tm 12 ?p12x_8_10 ?v12x_8_10 hHeld ?r12x_8_10
        refine Tm 13 ?p13x_8_10 ?v13x_8_10 hHeld ?r13x_8_10
        simp only [Act.put, Pa, Pb, Pc]
        refine Rd 14 ?p14x_8_10 ?s14x_8_10
        intro K hK
        go_simp
        obtain ⟨wa, hwa⟩ : ∃ wa, v10.alloc (.cells #[.int .i64 0, .int .i64 0] 60) = wa := ⟨_, rfl⟩
        rw [hwa]
        have hba : Below v10.heap.size v10 wa := by rw [← hwa]; exact bel1 _ _
        have hz : wa.heap[v10.heap.size]? = some (.cells #[.int .i64 0, .int .i64 0] 60 (0, 0)) := by rw [← hwa]; exact heap_alloc_last _ _
        have hlz := (Array.getElem?_eq_some_iff.1 hz).1
        have hzw : w1.heap.size ≤ v10.heap.size := HFc.out.size
        have hnz : ¬ uni b Fa Gp Fl v10.heap.size := fun e => by have := (HRc.out.mine _ e).2; omega
        obtain ⟨bz, hbz⟩ : ∃ bz, v10.heap.size = bz := ⟨_, rfl⟩
        rw [hbz] at hz hlz hzw ⊢
        rw [hbz] at hnz
        have HFc := Hid_of (HFc.out.up hba)
        have HRc := Hid_of (HRc.out.keep hba)
        have S14 := SK.out wa HRc.out.row
        clear hwa hbz hba
        refine hK.out _ _ S14 (fun hHeld => ?_)
        clear hK K
        refine Rd 15 ?p15x_8_10_14 ?s15x_8_10_14
        intro K hK
        go_simp
        have hrz := Np.put2_row hz (.int .i64 (Rm.ldb r).i) (.int .i64 (Rm.ldb r).t)
        have HR5 := Hid_of ((HRc.out.aside hnz (Nat.le_trans HRP.out.bel.size hzw) 0 (.int .i64 (Rm.ldb r).i)).aside hnz (Nat.le_trans HRP.out.bel.size hzw) 1 (.int .i64 (Rm.ldb r).t))
        have HF5 := Hid_of (Np.fr_new (Np.fr_new HFc.out hzw 0 (.int .i64 (Rm.ldb r).i)) hzw 1 (.int .i64 (Rm.ldb r).t))
        obtain ⟨⟨z0, z1⟩, zf⟩ := row2 hz
        have zf0 := zf 0
        have zf1 := zf 1
        obtain ⟨ws, hws⟩ : ∃ ws, Np.put2 wa bz (.int .i64 (Rm.ldb r).i) (.int .i64 (Rm.ldb r).t) = ws := ⟨_, rfl⟩
        have HWS := Hid_of hws
        unfold Np.put2 at hws
        rw [hws] at HR5 HF5
        rw [HWS.out] at hrz
        have S15 := SK.out ws HR5.out.row
        go_simp
        try rw [hws]
        clear hws zf
        refine hK.out _ _ S15 (fun hHeld => ?_)
        clear hK K
        refine Tm 16 ?p16x_8_10_14_15 ?v16x_8_10_14_15 hHeld ?r16x_8_10_14_15
        simp only [Act.put, Pa, Pb, Pc]
        refine wpAnyH_done (by kernel_rfl) ?_ _
        clear HS z0 z1 zf0 zf1
        have HCUT := Hid_of (show ∃ bz' Gp, ptr bz = ptr bz' ∧ ws.heap[bz']? = some (.cells #[.int .i64 (Rm.ldb r).i, .int .i64 (Rm.ldb r).t] 60 (0, 0)) ∧ w1.heap.size ≤ bz' ∧ ¬ uni b Fa Gp Fl bz' ∧ RP w0 ws b ba bp bl Fa Gp Fl { r with p := Np.M.lds r.p r.a.p kx } ∧ Fr w1 (uni b Fa Fp Fl) ws (uni b Fa Gp Fl) from ⟨bz, _, rfl, hrz, hzw, hnz, HR5.out, HF5.out⟩)
        go_wp2_with fail
        go_meet
        case rel => exact ⟨rfl, HCUT.out⟩
      case s14x_8 =>
        intro K hK
        go_simp
        obtain ⟨wa, hwa⟩ : ∃ wa, v8.alloc (.cells #[.int .i64 0, .int .i64 0] 60) = wa := ⟨_, rfl⟩
        rw [hwa]
        have hba : Below v8.heap.size v8 wa := by rw [← hwa]; exact bel1 _ _
        have hz : wa.heap[v8.heap.size]? = some (.cells #[.int .i64 0, .int .i64 0] 60 (0, 0)) := by rw [← hwa]; exact heap_alloc_last _ _
        have hlz := (Array.getElem?_eq_some_iff.1 hz).1
        have hzw : w1.heap.size ≤ v8.heap.size := HBc.size
        obtain ⟨bz, hbz⟩ : ∃ bz, v8.heap.size = bz := ⟨_, rfl⟩
        rw [hbz] at hz hlz hzw ⊢
        have HBc := bel_up HBc hba (Nat.le_refl _)
        have S14 := SB.out wa HBc
        clear hwa hbz hba
        refine hK.out _ _ S14 (fun hHeld => ?_)
        clear hK K
        refine Rd 10 ?p10x_8_14 ?s10x_8_14
        intro K hK
        go_simp
        refine ((HRP.out.keep HBc).ps.lead r.a.p kx).mono ?_
        rintro e v10 ⟨Gp, he, hps, hfr⟩
        rw [HLB.out, HLC.out] at he
        subst he
        obtain ⟨hrp, hfu⟩ := (HRP.out.keep HBc).setP hps hfr
        have HFc := (Fr.ofBelow HBc).trans hfu
        have HRc := Hid_of hrp
        have HFc := Hid_of HFc
        have S10 := SK.out v10 hrp.row
        have hnz : ¬ uni b Fa Gp Fl bz := not_n hfu (fun e => by have := (HRP.out.mine _ e).2; omega) (Array.getElem?_eq_some_iff.1 hz).1
        have hz := (hfu.block bz (Array.getElem?_eq_some_iff.1 hz).1 (fun e => by have := (HRP.out.mine _ e).2; omega)).trans hz
        clear hps hfr hrp hfu
        refine hK.out _ _ S10 (fun hHeld => ?_)
        clear hK K
        refine Tm 11 ?p11x_8_14_10 ?v11x_8_14_10 hHeld ?r11x_8_14_10
        refine Tm 12 ?p12x_8_14_10 ?v12x_8_14_10 hHeld ?r12x_8_14_10
        refine Tm 13 ?p13x_8_14_10 ?v13x_8_14_10 hHeld ?r13x_8_14_10
        simp only [Act.put, Pa, Pb, Pc]
        refine Rd 15 ?p15x_8_14_10 ?s15x_8_14_10
        intro K hK
        go_simp
        have hrz := Np.put2_row hz (.int .i64 (Rm.ldb r).i) (.int .i64 (Rm.ldb r).t)
        have HR5 := Hid_of ((HRc.out.aside hnz (Nat.le_trans HRP.out.bel.size hzw) 0 (.int .i64 (Rm.ldb r).i)).aside hnz (Nat.le_trans HRP.out.bel.size hzw) 1 (.int .i64 (Rm.ldb r).t))
        have HF5 := Hid_of (Np.fr_new (Np.fr_new HFc.out hzw 0 (.int .i64 (Rm.ldb r).i)) hzw 1 (.int .i64 (Rm.ldb r).t))
        obtain ⟨⟨z0, z1⟩, zf⟩ := row2 hz
        have zf0 := zf 0
        have zf1 := zf 1
        obtain ⟨ws, hws⟩ : ∃ ws, Np.put2 v10 bz (.int .i64 (Rm.ldb r).i) (.int .i64 (Rm.ldb r).t) = ws := ⟨_, rfl⟩
        have HWS := Hid_of hws
        unfold Np.put2 at hws
        rw [hws] at HR5 HF5
        rw [HWS.out] at hrz
        have S15 := SK.out ws HR5.out.row
        go_simp
        try rw [hws]
        clear hws zf
        refine hK.out _ _ S15 (fun hHeld => ?_)
        clear hK K
        refine Tm 16 ?p16x_8_14_10_15 ?v16x_8_14_10_15 hHeld ?r16x_8_14_10_15
        simp only [Act.put, Pa, Pb, Pc]
        refine wpAnyH_done (by kernel_rfl) ?_ _
        clear HS z0 z1 zf0 zf1
        have HCUT := Hid_of (show ∃ bz' Gp, ptr bz = ptr bz' ∧ ws.heap[bz']? = some (.cells #[.int .i64 (Rm.ldb r).i, .int .i64 (Rm.ldb r).t] 60 (0, 0)) ∧ w1.heap.size ≤ bz' ∧ ¬ uni b Fa Gp Fl bz' ∧ RP w0 ws b ba bp bl Fa Gp Fl { r with p := Np.M.lds r.p r.a.p kx } ∧ Fr w1 (uni b Fa Fp Fl) ws (uni b Fa Gp Fl) from ⟨bz, _, rfl, hrz, hzw, hnz, HR5.out, HF5.out⟩)
        go_wp2_with fail
        go_meet
        case rel => exact ⟨rfl, HCUT.out⟩
    case s14x =>
      intro K hK
      go_simp
      obtain ⟨wa, hwa⟩ : ∃ wa, wdx.alloc (.cells #[.int .i64 0, .int .i64 0] 60) = wa := ⟨_, rfl⟩
      rw [hwa]
      have hba : Below wdx.heap.size wdx wa := by rw [← hwa]; exact bel1 _ _
      have hz : wa.heap[wdx.heap.size]? = some (.cells #[.int .i64 0, .int .i64 0] 60 (0, 0)) := by rw [← hwa]; exact heap_alloc_last _ _
      have hlz := (Array.getElem?_eq_some_iff.1 hz).1
      have hzw : w1.heap.size ≤ wdx.heap.size := HBc.size
      obtain ⟨bz, hbz⟩ : ∃ bz, wdx.heap.size = bz := ⟨_, rfl⟩
      rw [hbz] at hz hlz hzw ⊢
      have HBc := bel_up HBc hba (Nat.le_refl _)
      have S14 := SB.out wa HBc
      clear hwa hbz hba
      refine hK.out _ _ S14 (fun hHeld => ?_)
      clear hK K
      refine Rd 8 ?p8x_14 ?s8x_14
      intro K hK
      go_simp
      refine ((HRP.out.keep HBc).ac.promised).mono ?_
      rintro e v8 ⟨rfl, hb8⟩
      have HBc := bel_up HBc hb8 (Nat.le_refl _)
      have S8 := SB.out v8 HBc
      have hz := bel_row hz hb8
      clear hb8
      refine hK.out _ _ S8 (fun hHeld => ?_)
      clear hK K
      refine Rd 10 ?p10x_14_8 ?s10x_14_8
      intro K hK
      go_simp
      refine ((HRP.out.keep HBc).ps.lead r.a.p kx).mono ?_
      rintro e v10 ⟨Gp, he, hps, hfr⟩
      rw [HLB.out, HLC.out] at he
      subst he
      obtain ⟨hrp, hfu⟩ := (HRP.out.keep HBc).setP hps hfr
      have HFc := (Fr.ofBelow HBc).trans hfu
      have HRc := Hid_of hrp
      have HFc := Hid_of HFc
      have S10 := SK.out v10 hrp.row
      have hnz : ¬ uni b Fa Gp Fl bz := not_n hfu (fun e => by have := (HRP.out.mine _ e).2; omega) (Array.getElem?_eq_some_iff.1 hz).1
      have hz := (hfu.block bz (Array.getElem?_eq_some_iff.1 hz).1 (fun e => by have := (HRP.out.mine _ e).2; omega)).trans hz
      clear hps hfr hrp hfu
      refine hK.out _ _ S10 (fun hHeld => ?_)
      clear hK K
      refine Tm 11 ?p11x_14_8_10 ?v11x_14_8_10 hHeld ?r11x_14_8_10
      refine Tm 12 ?p12x_14_8_10 ?v12x_14_8_10 hHeld ?r12x_14_8_10
      refine Tm 13 ?p13x_14_8_10 ?v13x_14_8_10 hHeld ?r13x_14_8_10
      simp only [Act.put, Pa, Pb, Pc]
      refine Rd 15 ?p15x_14_8_10 ?s15x_14_8_10
      intro K hK
      go_simp
      have hrz := Np.put2_row hz (.int .i64 (Rm.ldb r).i) (.int .i64 (Rm.ldb r).t)
      have HR5 := Hid_of ((HRc.out.aside hnz (Nat.le_trans HRP.out.bel.size hzw) 0 (.int .i64 (Rm.ldb r).i)).aside hnz (Nat.le_trans HRP.out.bel.size hzw) 1 (.int .i64 (Rm.ldb r).t))
      have HF5 := Hid_of (Np.fr_new (Np.fr_new HFc.out hzw 0 (.int .i64 (Rm.ldb r).i)) hzw 1 (.int .i64 (Rm.ldb r).t))
      obtain ⟨⟨z0, z1⟩, zf⟩ := row2 hz
      have zf0 := zf 0
      have zf1 := zf 1
      obtain ⟨ws, hws⟩ : ∃ ws, Np.put2 v10 bz (.int .i64 (Rm.ldb r).i) (.int .i64 (Rm.ldb r).t) = ws := ⟨_, rfl⟩
      have HWS := Hid_of hws
      unfold Np.put2 at hws
      rw [hws] at HR5 HF5
      rw [HWS.out] at hrz
      have S15 := SK.out ws HR5.out.row
      go_simp
      try rw [hws]
      clear hws zf
      refine hK.out _ _ S15 (fun hHeld => ?_)
      clear hK K
      refine Tm 16 ?p16x_14_8_10_15 ?v16x_14_8_10_15 hHeld ?r16x_14_8_10_15
      simp only [Act.put, Pa, Pb, Pc]
      refine wpAnyH_done (by kernel_rfl) ?_ _
      clear HS z0 z1 zf0 zf1
      have HCUT := Hid_of (show ∃ bz' Gp, ptr bz = ptr bz' ∧ ws.heap[bz']? = some (.cells #[.int .i64 (Rm.ldb r).i, .int .i64 (Rm.ldb r).t] 60 (0, 0)) ∧ w1.heap.size ≤ bz' ∧ ¬ uni b Fa Gp Fl bz' ∧ RP w0 ws b ba bp bl Fa Gp Fl { r with p := Np.M.lds r.p r.a.p kx } ∧ Fr w1 (uni b Fa Fp Fl) ws (uni b Fa Gp Fl) from ⟨bz, _, rfl, hrz, hzw, hnz, HR5.out, HF5.out⟩)
      go_wp2_with fail
      go_meet
      case rel => exact ⟨rfl, HCUT.out⟩

  case rest =>
    obtain ⟨rfl, bz, Gp, rfl, hz5, hzw, hnz, hr5, hf5⟩ := hcut
    have HR5 := Hid_of hr5
    have HZ5 := Hid_of hz5
    have HF5 := Hid_of hf5
    obtain ⟨⟨c0, c1, c2, c3, c4⟩, _⟩ := row5 hr5.row
    obtain ⟨⟨k0, k1⟩, _⟩ := row2 hz5
    obtain ⟨SQ2, HSQ2⟩ : ∃ SQ2 : World → Prop, Hid (SQ2 = fun wq => wq.heap[b]? = some (rrow r ba bp bl) ∧ wq.heap[bz]? = some (.cells #[.int .i64 (Rm.ldb r).i, .int .i64 (Rm.ldb r).t] 60 (0, 0))) := ⟨_, Hid_of rfl⟩
    have HS2 : Hid (∀ wq, SQ2 wq → (wq.cell? ⟨b, 0, none⟩ = some (.int .i64 r.n) ∧ wq.cell? ⟨b, 1, none⟩ = some (.int .i64 r.me) ∧ wq.cell? ⟨b, 2, none⟩ = some (ptr ba) ∧ wq.cell? ⟨b, 3, none⟩ = some (ptr bp) ∧ wq.cell? ⟨b, 4, none⟩ = some (ptr bl)) ∧ (wq.cell? ⟨bz, 0, none⟩ = some (.int .i64 (Rm.ldb r).i) ∧ wq.cell? ⟨bz, 1, none⟩ = some (.int .i64 (Rm.ldb r).t))) := fun wq hq => by
      rw [HSQ2.out] at hq
      exact ⟨(row5 hq.1).1, (row2 hq.2).1⟩
    have SK2 : Hid (∀ w', w'.heap[b]? = some (rrow r ba bp bl) → w'.heap[bz]? = some (.cells #[.int .i64 (Rm.ldb r).i, .int .i64 (Rm.ldb r).t] 60 (0, 0)) → SQ2 w') := fun w' h1 h2 => by rw [HSQ2.out]; exact ⟨h1, h2⟩
    have HSI2 : Hid (SQ2 wc.drew) := SK2.out _ hr5.row hz5
    clear hr5 hz5 hf5 HSQ2
    by_cases hc : Rm.ldc r = 0
    · obtain ⟨hq1, hq2⟩ := HS1.out hc
      rw [HNN.out] at hq2
      have HFIN : Hid (∀ (v6 : World) (u : Value) (wr : World) (ys : List RN) (_ : Unit), RP w0 v6 b ba bp bl Fa Gp Fl { r with p := Np.M.lds r.p r.a.p kx, a := Na.M.prs r.a (Rm.ldb r) kx } → Fr w1 (uni b Fa Fp Fl) v6 (uni b Fa Gp Fl) → OW wr v6.heap.size u ys → ys.map RN.x = Rm.toF r 1 kx (Rm.ldb r) [] n → Below v6.heap.size v6 wr → OutN w0 w1 (uni b Fa Fp Fl) b (Rm.ldS r) (Rm.ldN r) (.returned u) wr) := fun v6 u wr ys _ h1 h2 h3 h4 h5 => by
        refine ⟨_, _, rfl, ?_, by rw [hq1]; exact (h1.keep h5).rs, h2.up h5⟩
        rw [hq2]
        exact NO.of h3 h2.size (fun k hk => (h1.mine k hk).2) h4
      rw [hnn] at c0
      clear hq1 hq2 HS0 HS1 HRP SB SK HS HLB HLC
      go_upto_region 7 with fail
      clear c1 c2 c3 c4
      refine wp_region_held_drew (S := fun wq => SQ2 wq) (by kernel_rfl) HSI2.out (fun hHeld => ?_)
      obtain ⟨wdy, hwdy⟩ : ∃ wd, wc.drew = wd := ⟨_, rfl⟩
      have hBwd : Below wc.heap.size wc wdy := by rw [← hwdy]; exact Below.drew (Below.refl _ _)
      rw [hwdy] at hHeld ⊢
      clear hwdy
      refine Tm 0 ?p0y ?v0y hHeld ?r0y
      refine Tm 1 ?p1y ?v1y hHeld ?r1y
      refine Tm 2 ?p2y ?v2y hHeld ?r2y
      refine Tk 3 ?p3y ?v3y ?y3y hHeld ?r3y
      case y3y => intro wq hq; obtain ⟨⟨b0, b1, b2, b3, b4⟩, ⟨d0, d1⟩⟩ := HS2.out wq hq; go_simp; try with_reducible rfl
      refine Tk 4 ?p4y ?v4y ?y4y hHeld ?r4y
      case y4y => intro wq hq; obtain ⟨⟨b0, b1, b2, b3, b4⟩, ⟨d0, d1⟩⟩ := HS2.out wq hq; go_simp; try with_reducible rfl
      refine Tm 5 ?p5y ?v5y hHeld ?r5y
      simp only [Act.put, Pa, Pb, Pc]
      refine Rd 6 ?p6y ?s6y
      intro K hK
      go_simp
      refine ((HR5.out.keep hBwd).ac.promise (Rm.ldb r) kx).mono ?_
      rintro e v6 ⟨ad6, c6, rfl, -, -, ha6, hf6⟩
      obtain ⟨hrp, hfu⟩ := (HR5.out.keep hBwd).setA ha6 hf6
      have hz6 := (hfu.block bz (Array.getElem?_eq_some_iff.1 (bel_row HZ5.out hBwd)).1 hnz).trans (bel_row HZ5.out hBwd)
      have S6 := SK2.out v6 hrp.row hz6
      have HR6 := Hid_of hrp
      have HZ6 := Hid_of hz6
      have HF6 := Hid_of ((HF5.out.up hBwd).trans hfu)
      clear ha6 hf6 hrp hfu hz6
      refine hK.out _ _ S6 (fun hHeld => ?_)
      clear hK K
      refine wpAnyH_done (by kernel_rfl) ?_ _
      have y0 : v6.cell? ⟨b, 0, none⟩ = some (.int .i64 (n : Int)) := by rw [← hnn]; exact (row5 HR6.out.row).1.1
      clear c0 k0 k1
      go_wp2_with fail
      clear y0
      go_loopw [6, 42] (fun u q wr => ∃ (j : Nat) (ys : List RN), j ≤ n ∧ q = .int .i64 j ∧ OW wr v6.heap.size u ys ∧ ys.map RN.x = Rm.toF r 1 kx (Rm.ldb r) [] j ∧ Below v6.heap.size v6 wr) (fun u q _ => n - (intOf q).toNat)
      case atStart => exact ⟨0, [], Nat.zero_le _, rfl, OW.nil _ _, rfl, Below.refl _ _⟩
      case round =>
        obtain ⟨j, ys, hj, rfl, ho, hm, hbl⟩ := hrel
        have hlen : ys.length = j := by have := congrArg List.length hm; simpa [Rm.toF_len] using this
        by_cases hlt : j < n
        · have hjn : (j : Int) < (n : Int) := by omega
          obtain ⟨a1, c1', hv1, -⟩ := ho.at
          rw [hlen] at hv1
          subst hv1
          have hb3' := bel_row HR6.out.row hbl
          have hg3 := bel_row HZ6.out hbl
          have SKr : Hid (∀ w', Below wr.heap.size wr w' → SQ2 w') := fun w' hw' => SK2.out w' (bel_row hb3' hw') (bel_row hg3 hw')
          have HSI : Hid (SQ2 wr.drew) := SKr.out _ (Below.drew (Below.refl _ _))
          have hbw1 : b < v6.heap.size := HR6.out.lt
          have hgw1 : bz < v6.heap.size := (Array.getElem?_eq_some_iff.1 HZ6.out).1
          have HO := Hid_of ho
          have HM := Hid_of hm
          have HBL := Hid_of hbl
          have HLEN := Hid_of hlen
          have hgv0 : ∀ q, (Value.slice a1 j c1').ownBlock = some q → v6.heap.size ≤ q ∧ q < wr.heap.size := fun q hq => HO.out.own.lt hq
          have HAP : Hid (∀ wv, Below wr.heap.size wr wv → ∃ a' c' w', (∀ ty, (Builtin.append_ #[44, 44] ty #[.slice a1 j c1', .slice (some ⟨wv.heap.size, 0, none⟩) 1 1]).run Try.prog (wv.alloc (.cells (nl.cs ⟨⟨1, r.me, (j : Int), kx, Rm.ldb r, []⟩, none, 0⟩).toArray 63)) = .ok (.slice a' (j + 1) c') w') ∧ OW w' v6.heap.size (.slice a' (j + 1) c') (ys ++ [⟨⟨1, r.me, (j : Int), kx, Rm.ldb r, []⟩, none, 0⟩]) ∧ Rw wv (.slice a1 j c1') w' (.slice a' (j + 1) c')) := fun wv hbw => by
            have hs4 := HBL.out.size
            have := (HO.out.keep hbw).app1 ⟨⟨1, r.me, (j : Int), kx, Rm.ldb r, []⟩, none, 0⟩ (XN.emp _ _ rfl rfl rfl) (by have := hbw.size; omega) (by rw [HLEN.out]; omega)
            rw [HLEN.out] at this
            exact this
          have SK4 : Hid (∀ w4 wv a' c', Below wr.heap.size wr wv → Rw wv (.slice a1 j c1') w4 (.slice a' (j + 1) c') → SQ2 w4 ∧ Below v6.heap.size v6 w4) := fun w4 wv a' c' hbw hr => by
            have hs4 := HBL.out.size
            have h1 := bel_row hb3' hbw
            have h2 := bel_row hg3 hbw
            refine ⟨?_, (HBL.out.trans (hbw.mono hs4)).trans ((hr.below (fun k hk => (hgv0 k hk).1) (Nat.le_trans hs4 hbw.size)))⟩
            exact SK2.out w4 ((hr.g.block b (Array.getElem?_eq_some_iff.1 h1).1 (fun e => by have := (hgv0 _ e.symm).1; omega)).trans h1) ((hr.g.block bz (Array.getElem?_eq_some_iff.1 h2).1 (fun e => by have := (hgv0 _ e.symm).1; omega)).trans h2)
          clear hb3' hg3 ho hm hbl hlen
          go_upto_region 12 with fail
          refine wp_region_held_drew (S := fun wq => SQ2 wq) (by kernel_rfl) HSI.out (fun hHeld => ?_)
          obtain ⟨wdz, hwdz⟩ : ∃ wd, wr.drew = wd := ⟨_, rfl⟩
          have hBwd : Below wr.heap.size wr wdz := by rw [← hwdz]; exact Below.drew (Below.refl _ _)
          rw [hwdz] at hHeld ⊢
          clear hwdz
          refine Tm 0 ?p0z ?v0z hHeld ?r0z
          refine Tm 1 ?p1z ?v1z hHeld ?r1z
          refine Tm 2 ?p2z ?v2z hHeld ?r2z
          refine Tm 3 ?p3z ?v3z hHeld ?r3z
          refine Tk 4 ?p4z ?v4z ?y4z hHeld ?r4z
          case y4z => intro wq hq; obtain ⟨⟨b0, b1, b2, b3, b4⟩, ⟨d0, d1⟩⟩ := HS2.out wq hq; go_simp; try with_reducible rfl
          refine Tm 5 ?p5z ?v5z hHeld ?r5z
          refine Tm 6 ?p6z ?v6z hHeld ?r6z
          refine Tk 7 ?p7z ?v7z ?y7z hHeld ?r7z
          case y7z => intro wq hq; obtain ⟨⟨b0, b1, b2, b3, b4⟩, ⟨d0, d1⟩⟩ := HS2.out wq hq; go_simp; try with_reducible rfl
          refine Tm 8 ?p8z ?v8z hHeld ?r8z
          simp only [Act.put, Pa, Pb, Pc]
          refine Rd 9 ?p9z ?s9z
          intro K hK
          go_simp
          obtain ⟨a', c', w4, hrun, ho4, hr4⟩ := HAP.out wdz hBwd
          have S9 := SKr.out (wdz.alloc (.cells (nl.cs ⟨⟨1, r.me, (j : Int), kx, Rm.ldb r, []⟩, none, 0⟩).toArray 63)) (bel_up hBwd (bel1 _ _) (Nat.le_refl _))
          have HO4 := Hid_of ho4
          have HR4 := Hid_of hr4
          clear ho4 hr4
          refine hK.out _ _ S9 (fun hHeld => ?_)
          clear hK K
          refine Rd 10 ?p10z_9 ?s10z_9
          intro K hK
          refine step_append_known rfl (.tmp 45) (.tmp 54) 44 rfl _ _ rfl rfl _ _ (hrun _) ?_
          refine hK.out _ _ (SK4.out _ _ _ _ hBwd HR4.out).1 (fun hHeld => ?_)
          clear hK K
          refine Tm 11 ?p11z_9_10 ?v11z_9_10 hHeld ?r11z_9_10
          simp only [Act.put, Pa, Pb, Pc]
          refine wpAnyH_done (by kernel_rfl) ?_ _
          go_wp2_with fail
          go_roundw
          case rel => exact ⟨j + 1, _, by omega, by go_num, HO4.out, by rw [List.map_append, HM.out, Rm.toF_succ]; rfl, (SK4.out _ _ _ _ hBwd HR4.out).2⟩
          case measure => simp [intOf]; omega
        · obtain rfl : j = n := by omega
          have HQ : Hid (OutN w0 w1 (uni b Fa Fp Fl) b (Rm.ldS r) (Rm.ldN r) (.returned u6) wr) := HFIN.out _ _ _ _ () HR6.out HF6.out ho hm hbl
          clear ho hbl hm hlen
          go_wp2
          go_ret
          exact HQ.out

    · have hd : (Rm.ldc r != 0) = true := by simpa using hc
      obtain ⟨hq1, hq2⟩ := HS0.out hc
      have HQ : Hid (OutN w0 w1 (uni b Fa Fp Fl) b (Rm.ldS r) (Rm.ldN r) (.returned (.slice none 0 0)) wc) := ⟨_, _, rfl, by rw [hq2]; exact NO.nil _ _ _, by rw [hq1]; exact HR5.out.rs, HF5.out⟩
      clear hq1 hq2 HS0 HS1 hc
      go_wp2
      go_ret
      exact HQ.out
end
end Go.Proofs.Ytgodnpngdbelhaa
