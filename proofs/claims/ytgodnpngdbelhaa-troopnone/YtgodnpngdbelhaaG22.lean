/-
  Values are asked for.
-/
import Derived.Test.YtgodnpngdbelhaaG21
import Derived.Test.YtgodnpngdbelhaaG18
namespace Go.Proofs.Ytgodnpngdbelhaa
open Go.RowKit Go.Maps
set_option linter.unusedVariables false
open M (E V)
open Rm (NT R)

theorem lgs_len (l : Nl.M.S) (s : Int) : ((Nl.M.lgs l s).length : Int) = max 0 (Nl.M.nx l - max s l.base) := by
  unfold Nl.M.lgs
  rw [Nl.M.lg_len]
  unfold Nl.M.lgn
  omega
section
variable {w0 w : World} {b ba bp bl : Nat} {Fa Fp Fl : Nat → Prop} {r : R}
set_option maxRecDepth 100000 in
set_option maxHeartbeats 2000000 in
theorem RP.asked (h : RP w0 w b ba bp bl Fa Fp Fl r) (f s : Int) : Calls Try.prog 74 #[ptr b, .agg #[.int .i64 f, .int .i64 s]] w (OutN w0 w (uni b Fa Fp Fl) b r (Rm.q5N r f s)) := by
  obtain ⟨W1, HW1⟩ : ∃ W1, Hid (w.alloc (.cells #[.int .i64 f, .int .i64 s] 126) = W1) := ⟨_, Hid_of rfl⟩
  have hb1 : Below w.heap.size w W1 := by rw [← HW1.out]; exact bel1 w _
  have hz1 : W1.heap[w.heap.size]? = some (.cells #[.int .i64 f, .int .i64 s] 126 (0, 0)) := by rw [← HW1.out]; exact heap_alloc_last w _
  obtain ⟨g, hg⟩ : ∃ g, w.heap.size = g := ⟨_, rfl⟩
  rw [hg] at hz1
  have hnu : ¬ uni b Fa Fp Fl g := fun e => by have := (h.mine _ e).2; omega
  have H1 := Hid_of (h.keep hb1)
  have HZ1 := Hid_of hz1
  have HB1 := Hid_of hb1
  have HG := Hid_of hg
  obtain ⟨SQ, HSQ⟩ : ∃ SQ : World → Prop, Hid (SQ = fun wq => wq.heap[b]? = some (rrow r ba bp bl) ∧ wq.heap[g]? = some (.cells #[.int .i64 f, .int .i64 s] 126 (0, 0))) := ⟨_, Hid_of rfl⟩
  have HS : Hid (∀ wq, SQ wq → (wq.cell? ⟨b, 0, none⟩ = some (.int .i64 r.n) ∧ wq.cell? ⟨b, 1, none⟩ = some (.int .i64 r.me) ∧ wq.cell? ⟨b, 2, none⟩ = some (ptr ba) ∧ wq.cell? ⟨b, 3, none⟩ = some (ptr bp) ∧ wq.cell? ⟨b, 4, none⟩ = some (ptr bl)) ∧ (wq.cell? ⟨g, 0, none⟩ = some (.int .i64 f) ∧ wq.cell? ⟨g, 1, none⟩ = some (.int .i64 s))) := fun wq hq => by
    rw [HSQ.out] at hq
    exact ⟨(row5 hq.1).1, (row2 hq.2).1⟩
  have SK : Hid (∀ w', w'.heap[b]? = some (rrow r ba bp bl) → w'.heap[g]? = some (.cells #[.int .i64 f, .int .i64 s] 126 (0, 0)) → SQ w') := fun w' h1 h2 => by rw [HSQ.out]; exact ⟨h1, h2⟩
  clear HSQ
  have HSI : Hid (SQ W1.drew) := SK.out _ H1.out.row hz1
  clear h hb1 hz1
  go_enter Try.func74, Try.ntmps74
  go_upto_region 1 with fail
  rw [HW1.out]
  clear HW1
  try rw [hg]
  clear hg
  refine wp_region_held_drew (S := fun wq => SQ wq) (by kernel_rfl) HSI.out (fun hHeld => ?_)
  obtain ⟨wdx, hwdx⟩ : ∃ wd, W1.drew = wd := ⟨_, rfl⟩
  have hBwd : Below W1.heap.size W1 wdx := by rw [← hwdx]; exact Below.drew (Below.refl _ _)
  rw [hwdx] at hHeld ⊢
  clear hwdx
  refine Tm 0 ?p0x ?v0x hHeld ?r0x
  refine Tk 1 ?p1x ?v1x ?y1x hHeld ?r1x
  case y1x => intro wq hq; obtain ⟨⟨b0, b1, b2, b3, b4⟩, ⟨d0, d1⟩⟩ := HS.out wq hq; go_simp; try with_reducible rfl
  refine Tm 2 ?p2x ?v2x hHeld ?r2x
  refine Tm 3 ?p3x ?v3x hHeld ?r3x
  refine Tm 4 ?p4x ?v4x hHeld ?r4x
  refine Tk 5 ?p5x ?v5x ?y5x hHeld ?r5x
  case y5x => intro wq hq; obtain ⟨⟨b0, b1, b2, b3, b4⟩, ⟨d0, d1⟩⟩ := HS.out wq hq; go_simp; try with_reducible rfl
  simp only [Act.put, Pa, Pb, Pc]
  refine Rd 6 ?p6x ?s6x
  intro K hK
  go_simp
  refine ((H1.out.keep hBwd).ls.base).mono ?_
  rintro e v6 ⟨rfl, hv6⟩
  subst hv6
  refine hK.out _ _ hHeld (fun hHeld => ?_)
  clear hK K
  refine Tm 7 ?p7x_6 ?v7x_6 hHeld ?r7x_6
  simp only [Act.put, Pa, Pb, Pc]
  refine wpAnyH_done (by kernel_rfl) ?_ _
  have HB6 : Hid (Below w.heap.size w v6) := bel_up HB1.out hBwd (Nat.le_refl _)
  have H6 := Hid_of (H1.out.keep hBwd)
  have HZ6 := Hid_of (bel_row HZ1.out hBwd)
  by_cases hsb : s < r.l.base
  · have d0 : decide (s < r.l.base) = true := decide_eq_true hsb
    have HQ : Hid (OutN w0 w (uni b Fa Fp Fl) b r (Rm.q5N r f s) (.returned (.slice none 0 0)) v6) := ⟨_, _, rfl, by unfold Rm.q5N; rw [if_pos hsb]; exact NO.nil _ _ _, H6.out.rs, Fr.ofBelow HB6.out⟩
    rw [d0]
    clear hsb d0
    go_wp2
    go_ret
    exact HQ.out
  · have d0 : decide (s < r.l.base) = false := decide_eq_false hsb
    have HSI6 : Hid (SQ v6.drew) := SK.out _ H6.out.row HZ6.out
    rw [d0]
    clear d0
    go_upto_region 3 with fail
    refine wp_region_held_drew (S := fun wq => SQ wq) (by kernel_rfl) HSI6.out (fun hHeld => ?_)
    obtain ⟨wdy, hwdy⟩ : ∃ wd, v6.drew = wd := ⟨_, rfl⟩
    have hBwd : Below v6.heap.size v6 wdy := by rw [← hwdy]; exact Below.drew (Below.refl _ _)
    rw [hwdy] at hHeld ⊢
    clear hwdy
    refine Tm 0 ?p0y ?v0y hHeld ?r0y
    refine Tm 1 ?p1y ?v1y hHeld ?r1y
    refine Tm 2 ?p2y ?v2y hHeld ?r2y
    refine Tk 3 ?p3y ?v3y ?y3y hHeld ?r3y
    case y3y => intro wq hq; obtain ⟨⟨b0, b1, b2, b3, b4⟩, ⟨d0, d1⟩⟩ := HS.out wq hq; go_simp; try with_reducible rfl
    refine Tm 4 ?p4y ?v4y hHeld ?r4y
    refine Tk 5 ?p5y ?v5y ?y5y hHeld ?r5y
    case y5y => intro wq hq; obtain ⟨⟨b0, b1, b2, b3, b4⟩, ⟨d0, d1⟩⟩ := HS.out wq hq; go_simp; try with_reducible rfl
    simp only [Act.put, Pa, Pb, Pc]
    refine Rd 6 ?p6y ?s6y
    intro K hK
    go_simp
    refine ((H6.out.keep hBwd).ls.log s).mono ?_
    rintro e v8 ⟨ad8, c8, rfl, hx8, hbk8, hb8⟩
    have hbw8 : Below v6.heap.size v6 v8 := bel_up hBwd hb8 (Nat.le_refl _)
    have S8 := SK.out v8 (bel_row H6.out.row hbw8) (bel_row HZ6.out hbw8)
    have HX8 := Hid_of hx8
    have HB8 := Hid_of hbw8
    clear hx8 hbk8 hb8 hbw8
    refine hK.out _ _ S8 (fun hHeld => ?_)
    clear hK K
    refine Tm 7 ?p7y_6 ?v7y_6 hHeld ?r7y_6
    simp only [Act.put, Pa, Pb, Pc]
    refine wpAnyH_done (by kernel_rfl) ?_ _
    obtain ⟨L, hL⟩ : ∃ L, (Nl.M.lgs r.l s).length = L := ⟨_, rfl⟩
    have HLL := Hid_of hL
    have hX8 := HX8.out
    rw [hL]
    by_cases hl0 : L = 0
    · have d0 : ((L : Int) == 0) = true := by simp [hl0]
      have HQ : Hid (OutN w0 w (uni b Fa Fp Fl) b r (Rm.q5N r f s) (.returned (.slice none 0 0)) v8) := ⟨_, _, rfl, by
        have : Rm.q5N r f s = [] := by unfold Rm.q5N Rm.q5n; rw [if_neg (by omega), if_pos (by omega)]
        rw [this]; exact NO.nil _ _ _, (H6.out.keep HB8.out).rs, (Fr.ofBelow (bel_up HB6.out HB8.out (Nat.le_refl _)))⟩
      clear hX8 hL
      go_wp2
      go_ret
      exact HQ.out
    · have d0 : ((L : Int) == 0) = false := by simp [hl0]
      have hle := hX8.le
      rw [hL] at hle
      have hmx : c8 ≤ 9223372036854775807 := by have := hX8.mx; unfold maxLen at this; omega
      obtain ⟨g8, off8, rfl, -⟩ := hX8.at' 0 (by omega)
      obtain ⟨m, hm⟩ : ∃ m : Nat, m = min L 8 := ⟨_, rfl⟩
      have hmL : m ≤ L := by omega
      have hm8 : m ≤ 8 := by omega
      have hmi : min (L : Int) 8 = (m : Int) := by omega
      have HAT := Hid_of hX8.at'
      obtain ⟨⟨x0, x1⟩, -⟩ := row2 (bel_row HZ6.out HB8.out)
      have HN : Hid (Rm.q5N r f s = [⟨6, r.me, f, 0, Rm.e0, Rm.vts s (Nl.M.lgs r.l s) m⟩]) := Hid_of (by unfold Rm.q5N Rm.q5n; rw [if_neg (by omega), if_neg (by omega), hL, ← hm])
      have hsb : 0 ≤ s ∧ s + L ≤ 1024 := by
        have h1 := H6.out.ls.ok.base
        have h2 := H6.out.ls.ok.nx
        have h3 := lgs_len r.l s
        omega
      clear hX8 hL hm
      go_upto_region 8 with fail
      clear x0 x1
      obtain ⟨LL, HLL2⟩ : ∃ LL, Nl.M.lgs r.l s = LL := ⟨_, rfl⟩
      rw [HLL2] at HN HAT HLL
      clear HLL2 HX8
      go_loopw [6, 33] (fun u q wr => ∃ j : Nat, j ≤ m ∧ q = .int .i64 j ∧ OwnL vl 84 wr v8.heap.size u (Rm.vts s LL j) ∧ Below v8.heap.size v8 wr) (fun u q _ => m - (intOf q).toNat)
      case atStart => exact ⟨0, Nat.zero_le _, rfl, OwnL.nil _ _ _, Below.refl _ _⟩
      case round =>
        obtain ⟨j, hj, rfl, ho, hbl⟩ := hrel
        have hlen := Rm.vts_len s LL j
        have hrb := bel_row (bel_row H6.out.row HB8.out) hbl
        have hrg := bel_row (bel_row HZ6.out HB8.out) hbl
        by_cases hlt : j < m
        · have hjn : (j : Int) < (m : Int) := by omega
          have hjl : j < LL.length := by rw [HLL.out]; omega
          obtain ⟨gg, oo, eA, q0⟩ := AtL.getT (HAT.out.keep hbl) j hjl
          cases eA
          have hgd : LL.getD j ⟨#[]⟩ = LL[j] := by rw [List.getD_eq_getElem?_getD, List.getElem?_eq_getElem hjl]; rfl
          have HS1 := Rm.vts_succ s LL j
          rw [hgd] at HS1
          have hadd : IntKind.i64.wrap (s + j) = s + j := by rw [IntKind.wrap_i64]; omega
          obtain ⟨⟨x0, x1⟩, -⟩ := row2 hrg
          obtain ⟨a1, c1, hv1, -⟩ := ho.at
          rw [hlen] at hv1
          subst hv1
          obtain ⟨a', c', w4, hrun, ho4, hr4⟩ := Np.app1 ⟨s + j, ⟨0, 0⟩, LL[j]⟩ ho hbl.size (by rw [hlen]; omega)
          rw [hlen] at hrun ho4 hr4
          simp only at hrun
          have HB4 : Hid (Below v8.heap.size v8 w4) := hbl.trans (hr4.below (fun q hq => (ho.lt hq).1) hbl.size)
          have HO4 : Hid (OwnL vl 84 w4 v8.heap.size (.slice a' (j + 1) c') (Rm.vts s LL (j + 1))) := by rw [HS1]; exact Hid_of ho4
          generalize LL[j] = x at *
          clear ho hbl ho4 hr4 HS1 hgd hlen hrb hrg hjl
          go_wp2_with (at_builtin; refine wpList_append_known rfl _ _ 61 rfl _ _ rfl rfl _ _ (hrun _) ?_)
          go_roundw
          case rel => exact ⟨j + 1, by omega, by go_num, HO4.out, HB4.out⟩
          case measure => simp [intOf]; omega
        · obtain rfl : j = m := by omega
          obtain ⟨a1, c1, hv1, hx1, hbk1⟩ := ho.at
          rw [hlen] at hv1
          subst hv1
          have HFIN : Hid (∀ gv wv, Below wr.heap.size wr wv → wr.heap.size ≤ gv → wv.heap[gv]? = some (.cells #[.int .i64 6, .int .i64 r.me, .int .i64 f, .int .i64 0, .int .i64 0, .int .i64 0, .slice a1 j c1] 63 (0, 0)) → OutN w0 w (uni b Fa Fp Fl) b r (Rm.q5N r f s) (.returned (.slice (some ⟨gv, 0, none⟩) 1 1)) wv) := fun gv wv hb hg hrv => by
            rw [HN.out]
            have hbw : Below w.heap.size w wr := bel_up (bel_up HB6.out HB8.out (Nat.le_refl _)) hbl (Nat.le_refl _)
            have h6 := (H6.out.keep HB8.out).keep hbl
            refine ⟨_, _, rfl, NO.one (y := ⟨⟨6, r.me, f, 0, Rm.e0, Rm.vts s LL j⟩, a1, c1⟩) (by show wv.heap[gv]? = some (.cells #[.int .i64 6, .int .i64 r.me, .int .i64 f, .int .i64 0, .int .i64 0, .int .i64 0, .slice a1 (Rm.vts s LL j).length c1] 63 (0, 0)); rw [hlen]; exact hrv) (Nat.le_trans hbw.size hg) (fun e => by have := (h6.mine _ e).2; omega) ⟨hx1.keep hb, fun k hk => ?_⟩, (h6.keep hb).rs, Fr.ofBelow (bel_up hbw hb (Nat.le_refl _))⟩
            have h1 := hbk1 k hk
            exact ⟨Nat.lt_of_lt_of_le h1.2.2 hb.size, Nat.le_trans (bel_up HB6.out HB8.out (Nat.le_refl _)).size h1.1, (fun e => by have := (H6.out.mine _ e).2; have := HB8.out.size; have := h1.1; omega), by have := h1.2.2; omega⟩
          have HSIr : Hid (SQ wr.drew) := SK.out _ hrb hrg
          have hnl : decide ((j : Int) < (j : Int)) = false := decide_eq_false (by omega)
          clear ho hbl hx1 hbk1
          go_upto_region 12 with fail
          refine wp_region_held_drew (S := fun wq => SQ wq) (by kernel_rfl) HSIr.out (fun hHeld => ?_)
          obtain ⟨wdq, hwdq⟩ : ∃ wd, wr.drew = wd := ⟨_, rfl⟩
          have hBwd : Below wr.heap.size wr wdq := by rw [← hwdq]; exact Below.drew (Below.refl _ _)
          rw [hwdq] at hHeld ⊢
          clear hwdq
          refine Tm 0 ?p0q ?v0q hHeld ?r0q
          refine Tm 1 ?p1q ?v1q hHeld ?r1q
          refine Tm 2 ?p2q ?v2q hHeld ?r2q
          refine Tk 3 ?p3q ?v3q ?y3q hHeld ?r3q
          case y3q => intro wq hq; obtain ⟨⟨b0, b1, b2, b3, b4⟩, ⟨d0, d1⟩⟩ := HS.out wq hq; go_simp; try with_reducible rfl
          refine Tm 4 ?p4q ?v4q hHeld ?r4q
          refine Tk 5 ?p5q ?v5q ?y5q hHeld ?r5q
          case y5q => intro wq hq; obtain ⟨⟨b0, b1, b2, b3, b4⟩, ⟨d0, d1⟩⟩ := HS.out wq hq; go_simp; try with_reducible rfl
          refine Tm 6 ?p6q ?v6q hHeld ?r6q
          refine Tm 7 ?p7q ?v7q hHeld ?r7q
          simp only [Act.put, Pa, Pb, Pc]
          refine Rd 8 ?p8q ?s8q
          intro K hK
          go_simp
          obtain ⟨wv, hwv⟩ : ∃ wv, wdq.alloc (.cells #[.int .i64 6, .int .i64 r.me, .int .i64 f, .int .i64 0, .int .i64 0, .int .i64 0, .slice a1 j c1] 63) = wv := ⟨_, rfl⟩
          have hbv : Below wdq.heap.size wdq wv := by rw [← hwv]; exact bel1 _ _
          have hrv : wv.heap[wdq.heap.size]? = some (.cells #[.int .i64 6, .int .i64 r.me, .int .i64 f, .int .i64 0, .int .i64 0, .int .i64 0, .slice a1 j c1] 63 (0, 0)) := by rw [← hwv]; exact heap_alloc_last _ _
          obtain ⟨gv, hgv⟩ : ∃ gv, wdq.heap.size = gv := ⟨_, rfl⟩
          rw [hwv]
          rw [hgv] at hrv ⊢
          have hgv' : wr.heap.size ≤ gv := by rw [← hgv]; exact hBwd.size
          have hbv2 : Below wr.heap.size wr wv := bel_up hBwd hbv (Nat.le_refl _)
          have S10 := SK.out wv (bel_row hrb hbv2) (bel_row hrg hbv2)
          have HQ := Hid_of (HFIN.out gv wv hbv2 hgv' hrv)
          clear hwv hgv hbv hrv hbv2 hgv'
          refine hK.out _ _ S10 (fun hHeld => ?_)
          clear hK K
          refine Tm 9 ?p9q_8 ?v9q_8 hHeld ?r9q_8
          simp only [Act.put, Pa, Pb, Pc]
          refine wpAnyH_done (by kernel_rfl) ?_ _
          go_wp2
          go_ret
          exact HQ.out
end
end Go.Proofs.Ytgodnpngdbelhaa
namespace Go.Proofs.Ytgodnpngdbelhaa
open Go.RowKit Go.Maps
set_option linter.unusedVariables false
open M (E V)
open Rm (NT R)

theorem zero114 (w : World) : (zeroValue 114).run Try.prog w = .ok (.agg #[.int .i64 0, .int .i64 0, .int .i64 0, .int .i64 0]) w := by kernel_rfl
theorem zero100 (w : World) : (zeroValue 117).run Try.prog w = .ok (.agg #[.int .i64 0, .int .i64 0, .int .i64 0, .slice none 0 0]) w := by kernel_rfl
theorem zero103 (w : World) : (zeroValue 120).run Try.prog w = .ok (.agg #[.int .i64 0, .int .i64 0, .int .i64 0, .string ⟨#[]⟩]) w := by kernel_rfl
theorem zero106 (w : World) : (zeroValue 123).run Try.prog w = .ok (.agg #[.int .i64 0, .int .i64 0, .int .i64 0, .int .i64 0, .string ⟨#[]⟩]) w := by kernel_rfl
theorem zero109 (w : World) : (zeroValue 126).run Try.prog w = .ok (.agg #[.int .i64 0, .int .i64 0]) w := by kernel_rfl
theorem zero112 (w : World) : (zeroValue 129).run Try.prog w = .ok (.agg #[.slice none 0 0]) w := by kernel_rfl
theorem ta_yes {A : TypeId} {fs : Array Field} (hu : Try.prog.underlying A = some (.struct fs)) (v : Value) (w : World) : (Instr.typeAssert (.iface A v) 20 A true).run Try.prog w = .ok (.tuple #[v, .bool true]) w := by
  simp [Instr.typeAssert, run_underlying hu]
theorem ta_no {A T : TypeId} {fs : Array Field} {z : Value} (hu : Try.prog.underlying A = some (.struct fs)) (hz : ∀ w, (zeroValue A).run Try.prog w = .ok z w) (hne : T ≠ A) (v : Value) (w : World) : (Instr.typeAssert (.iface T v) 20 A true).run Try.prog w = .ok (.tuple #[z, .bool false]) w := by
  simp [Instr.typeAssert, run_underlying hu, hz, hne]
theorem ta_nil {A : TypeId} {fs : Array Field} {z : Value} (hu : Try.prog.underlying A = some (.struct fs)) (hz : ∀ w, (zeroValue A).run Try.prog w = .ok z w) (w : World) : (Instr.typeAssert .nilIface 20 A true).run Try.prog w = .ok (.tuple #[z, .bool false]) w := by
  simp [Instr.typeAssert, run_underlying hu, hz]
/-- What a note says. -/
def sdN (n : Nat) (y : RN) : Value := match n with
  | 1 => .iface 114 (.agg #[.int .i64 y.x.f, .int .i64 y.x.s, .int .i64 y.x.b.i, .int .i64 y.x.b.t])
  | 2 => .iface 117 (.agg #[.int .i64 y.x.f, .int .i64 y.x.b.i, .int .i64 y.x.b.t, .slice y.ad y.x.v.length y.c])
  | 3 => .iface 120 (vV (y.x.v.headD Rm.v0))
  | 4 => .iface 123 (.agg #[.int .i64 y.x.f, .int .i64 (y.x.v.headD Rm.v0).s, .int .i64 (y.x.v.headD Rm.v0).b.i, .int .i64 (y.x.v.headD Rm.v0).b.t, .string (y.x.v.headD Rm.v0).v])
  | 5 => .iface 126 (.agg #[.int .i64 y.x.f, .int .i64 y.x.s])
  | 6 => .iface 129 (.agg #[.slice y.ad y.x.v.length y.c])
  | _ => .nilIface
def sdV (y : RN) : Value := sdN (Rm.kd y.x) y
theorem sdV_of {y : RN} {n : Nat} (h : Rm.kd y.x = n) : sdV y = sdN n y := by subst h; rfl
set_option maxRecDepth 100000 in
set_option maxHeartbeats 2000000 in
theorem said_any (y : RN) (w : World) (hx : XL vl w y.ad y.c y.x.v) : Calls Try.prog 56 #[nV y] w fun e w' => e = .returned (sdV y) ∧ Below w.heap.size w w' := by
  obtain ⟨⟨k, f, t, s, ⟨bi, bt⟩, v⟩, ad, c⟩ := y
  simp only at hx
  obtain ⟨W1, HW1⟩ : ∃ W1, Hid (w.alloc (.cells #[.int .i64 k, .int .i64 f, .int .i64 t, .int .i64 s, .int .i64 bi, .int .i64 bt, .slice ad v.length c] 63) = W1) := ⟨_, Hid_of rfl⟩
  have hb1 : Below w.heap.size w W1 := by rw [← HW1.out]; exact bel1 w _
  have hz1 : W1.heap[w.heap.size]? = some (.cells #[.int .i64 k, .int .i64 f, .int .i64 t, .int .i64 s, .int .i64 bi, .int .i64 bt, .slice ad v.length c] 63 (0, 0)) := by rw [← HW1.out]; exact heap_alloc_last w _
  obtain ⟨⟨x0, x1, x2, x3, x4, x5, x6⟩, -⟩ := row7 hz1
  have hx1 := hx.keep hb1
  have HSD : Hid (∀ n, Rm.kd ⟨k, f, t, s, ⟨bi, bt⟩, v⟩ = n → sdV ⟨⟨k, f, t, s, ⟨bi, bt⟩, v⟩, ad, c⟩ = sdN n ⟨⟨k, f, t, s, ⟨bi, bt⟩, v⟩, ad, c⟩) := fun n hn => sdV_of hn
  have HB := Hid_of hb1
  simp only [nV]
  clear hx hb1 hz1
  by_cases h1 : k = 1
  · subst h1
    have HQ : Hid (sdV ⟨⟨1, f, t, s, ⟨bi, bt⟩, v⟩, ad, c⟩ = .iface 114 (.agg #[.int .i64 f, .int .i64 s, .int .i64 bi, .int .i64 bt])) := HSD.out 1 (by unfold Rm.kd; rw [if_pos rfl])
    clear HSD hx1
    go_enter Try.func56, Try.ntmps56
    go_upto_region 1 with fail
    rw [HW1.out]
    go_wp2
    go_ret
    exact ⟨by rw [HQ.out]; rfl, HB.out⟩
  by_cases h2 : k = 2
  · subst h2
    have HQ : Hid (sdV ⟨⟨2, f, t, s, ⟨bi, bt⟩, v⟩, ad, c⟩ = .iface 117 (.agg #[.int .i64 f, .int .i64 bi, .int .i64 bt, .slice ad v.length c])) := HSD.out 2 (by unfold Rm.kd; rw [if_neg (by simp), if_pos rfl])
    clear HSD hx1 h1
    go_enter Try.func56, Try.ntmps56
    go_upto_region 1 with fail
    rw [HW1.out]
    go_wp2
    go_ret
    exact ⟨by rw [HQ.out]; rfl, HB.out⟩
  by_cases h3 : k = 3
  · subst h3
    by_cases hl : v.length = 1
    · obtain ⟨⟨vs, ⟨vi, vt⟩, vv⟩, rfl⟩ := List.length_eq_one_iff.1 hl
      obtain ⟨g0, o0, rfl, q0, q1, q2, q3⟩ := hx1.at'.getV 0 (by simp)
      simp only [List.getElem_cons_zero, Nat.zero_mul, Nat.add_zero] at q0 q1 q2 q3
      have HQ : Hid (sdV ⟨⟨3, f, t, s, ⟨bi, bt⟩, [⟨vs, ⟨vi, vt⟩, vv⟩]⟩, some ⟨g0, o0, none⟩, c⟩ = .iface 120 (.agg #[.int .i64 vs, .int .i64 vi, .int .i64 vt, .string vv])) := HSD.out 3 (by unfold Rm.kd; rw [if_neg (by simp), if_neg (by simp), if_pos ⟨rfl, rfl⟩])
      clear HSD hx1 h1 h2 hl
      simp only [List.length_cons, List.length_nil, Nat.zero_add] at x6 HW1 ⊢
      go_enter Try.func56, Try.ntmps56
      go_upto_region 1 with fail
      rw [HW1.out]
      go_wp2
      go_ret
      exact ⟨by rw [HQ.out]; rfl, HB.out⟩
    · have d0 : ((v.length : Int) == 1) = false := by simp; omega
      have HQ : Hid (sdV ⟨⟨3, f, t, s, ⟨bi, bt⟩, v⟩, ad, c⟩ = .nilIface) := HSD.out 0 (by unfold Rm.kd; rw [if_neg (by simp), if_neg (by simp), if_neg (fun e => hl e.2), if_neg (by simp), if_neg (by simp), if_neg (by simp)])
      clear HSD hx1 h1 h2 hl
      go_enter Try.func56, Try.ntmps56
      go_upto_region 1 with fail
      rw [HW1.out]
      go_wp2
      go_ret
      exact ⟨by rw [HQ.out]; rfl, HB.out⟩
  by_cases h4 : k = 4
  · subst h4
    by_cases hl : v.length = 1
    · obtain ⟨⟨vs, ⟨vi, vt⟩, vv⟩, rfl⟩ := List.length_eq_one_iff.1 hl
      obtain ⟨g0, o0, rfl, q0, q1, q2, q3⟩ := hx1.at'.getV 0 (by simp)
      simp only [List.getElem_cons_zero, Nat.zero_mul, Nat.add_zero] at q0 q1 q2 q3
      have HQ : Hid (sdV ⟨⟨4, f, t, s, ⟨bi, bt⟩, [⟨vs, ⟨vi, vt⟩, vv⟩]⟩, some ⟨g0, o0, none⟩, c⟩ = .iface 123 (.agg #[.int .i64 f, .int .i64 vs, .int .i64 vi, .int .i64 vt, .string vv])) := HSD.out 4 (by unfold Rm.kd; rw [if_neg (by simp), if_neg (by simp), if_neg (by simp), if_pos ⟨rfl, rfl⟩])
      clear HSD hx1 h1 h2 h3 hl
      simp only [List.length_cons, List.length_nil, Nat.zero_add] at x6 HW1 ⊢
      go_enter Try.func56, Try.ntmps56
      go_upto_region 1 with fail
      rw [HW1.out]
      go_upto_region 8 with fail
      go_quiet (fail)
      go_wp2
      go_ret
      exact ⟨by rw [HQ.out]; rfl, below_drewN HB.out _⟩
    · have d0 : ((v.length : Int) == 1) = false := by simp; omega
      have HQ : Hid (sdV ⟨⟨4, f, t, s, ⟨bi, bt⟩, v⟩, ad, c⟩ = .nilIface) := HSD.out 0 (by unfold Rm.kd; rw [if_neg (by simp), if_neg (by simp), if_neg (by simp), if_neg (fun e => hl e.2), if_neg (by simp), if_neg (by simp)])
      clear HSD hx1 h1 h2 h3 hl
      go_enter Try.func56, Try.ntmps56
      go_upto_region 1 with fail
      rw [HW1.out]
      go_wp2
      go_ret
      exact ⟨by rw [HQ.out]; rfl, HB.out⟩
  by_cases h5 : k = 5
  · subst h5
    have HQ : Hid (sdV ⟨⟨5, f, t, s, ⟨bi, bt⟩, v⟩, ad, c⟩ = .iface 126 (.agg #[.int .i64 f, .int .i64 s])) := HSD.out 5 (by unfold Rm.kd; rw [if_neg (by simp), if_neg (by simp), if_neg (by simp), if_neg (by simp), if_pos rfl])
    clear HSD hx1 h1 h2 h3 h4
    go_enter Try.func56, Try.ntmps56
    go_upto_region 1 with fail
    rw [HW1.out]
    go_wp2
    go_ret
    exact ⟨by rw [HQ.out]; rfl, HB.out⟩
  by_cases h6 : k = 6
  · subst h6
    have HQ : Hid (sdV ⟨⟨6, f, t, s, ⟨bi, bt⟩, v⟩, ad, c⟩ = .iface 129 (.agg #[.slice ad v.length c])) := HSD.out 6 (by unfold Rm.kd; rw [if_neg (by simp), if_neg (by simp), if_neg (by simp), if_neg (by simp), if_neg (by simp), if_pos rfl])
    clear HSD hx1 h1 h2 h3 h4 h5
    go_enter Try.func56, Try.ntmps56
    go_upto_region 1 with fail
    rw [HW1.out]
    go_wp2
    go_ret
    exact ⟨by rw [HQ.out]; rfl, HB.out⟩
  · have d1 : (k == 1) = false := by simpa using h1
    have d2 : (k == 2) = false := by simpa using h2
    have d3 : (k == 3) = false := by simpa using h3
    have d4 : (k == 4) = false := by simpa using h4
    have d5 : (k == 5) = false := by simpa using h5
    have d6 : (k == 6) = false := by simpa using h6
    have HQ : Hid (sdV ⟨⟨k, f, t, s, ⟨bi, bt⟩, v⟩, ad, c⟩ = .nilIface) := HSD.out 0 (by unfold Rm.kd; rw [if_neg h1, if_neg h2, if_neg (fun e => h3 e.1), if_neg (fun e => h4 e.1), if_neg h5, if_neg h6])
    clear HSD hx1 h1 h2 h3 h4 h5 h6
    go_enter Try.func56, Try.ntmps56
    go_upto_region 1 with fail
    rw [HW1.out]
    go_wp2
    go_ret
    exact ⟨by rw [HQ.out]; rfl, HB.out⟩
end Go.Proofs.Ytgodnpngdbelhaa
