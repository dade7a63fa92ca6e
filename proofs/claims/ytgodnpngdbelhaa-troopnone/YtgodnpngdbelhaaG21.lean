/-
  A ballot is asked for.
-/
import Derived.Test.YtgodnpngdbelhaaG20
namespace Go.Proofs.Ytgodnpngdbelhaa
open Go.RowKit Go.Maps
set_option linter.unusedVariables false
open M (E V)
open Rm (NT R)

section
variable {w0 w : World} {b ba bp bl : Nat} {Fa Fp Fl : Nat → Prop} {r : R}
set_option maxRecDepth 100000 in
set_option maxHeartbeats 2000000 in
theorem RP.prepare (h : RP w0 w b ba bp bl Fa Fp Fl r) (f s : Int) (x : E) : Calls Try.prog 70 #[ptr b, .agg #[.int .i64 f, .int .i64 s, .int .i64 x.i, .int .i64 x.t]] w (OutN w0 w (uni b Fa Fp Fl) b (Rm.q1S r x s) (Rm.q1N r f x s)) := by
  obtain ⟨i, t⟩ := x
  obtain ⟨W1, HW1⟩ : ∃ W1, Hid (w.alloc (.cells #[.int .i64 f, .int .i64 s, .int .i64 i, .int .i64 t] 114) = W1) := ⟨_, Hid_of rfl⟩
  have hb1 : Below w.heap.size w W1 := by rw [← HW1.out]; exact bel1 w _
  have hz1 : W1.heap[w.heap.size]? = some (.cells #[.int .i64 f, .int .i64 s, .int .i64 i, .int .i64 t] 114 (0, 0)) := by rw [← HW1.out]; exact heap_alloc_last w _
  obtain ⟨g, hg⟩ : ∃ g, w.heap.size = g := ⟨_, rfl⟩
  rw [hg] at hz1
  have hnu : ¬ uni b Fa Fp Fl g := fun e => by have := (h.mine _ e).2; omega
  have H1 := Hid_of (h.keep hb1)
  have HZ1 := Hid_of hz1
  have HB1 := Hid_of hb1
  have HG := Hid_of hg
  obtain ⟨SQ, HSQ⟩ : ∃ SQ : World → Prop, Hid (SQ = fun wq => wq.heap[b]? = some (rrow r ba bp bl) ∧ wq.heap[g]? = some (.cells #[.int .i64 f, .int .i64 s, .int .i64 i, .int .i64 t] 114 (0, 0))) := ⟨_, Hid_of rfl⟩
  have HS : Hid (∀ wq, SQ wq → (wq.cell? ⟨b, 0, none⟩ = some (.int .i64 r.n) ∧ wq.cell? ⟨b, 1, none⟩ = some (.int .i64 r.me) ∧ wq.cell? ⟨b, 2, none⟩ = some (ptr ba) ∧ wq.cell? ⟨b, 3, none⟩ = some (ptr bp) ∧ wq.cell? ⟨b, 4, none⟩ = some (ptr bl)) ∧ (wq.cell? ⟨g, 0, none⟩ = some (.int .i64 f) ∧ wq.cell? ⟨g, 1, none⟩ = some (.int .i64 s) ∧ wq.cell? ⟨g, 2, none⟩ = some (.int .i64 i) ∧ wq.cell? ⟨g, 3, none⟩ = some (.int .i64 t))) := fun wq hq => by
    rw [HSQ.out] at hq
    exact ⟨(row5 hq.1).1, (row4 hq.2).1⟩
  have SK : Hid (∀ w', w'.heap[b]? = some (rrow r ba bp bl) → w'.heap[g]? = some (.cells #[.int .i64 f, .int .i64 s, .int .i64 i, .int .i64 t] 114 (0, 0)) → SQ w') := fun w' h1 h2 => by rw [HSQ.out]; exact ⟨h1, h2⟩
  clear HSQ
  have HSI : Hid (SQ W1.drew) := SK.out _ H1.out.row hz1
  have HNO : Hid (Rm.q1b r ⟨i, t⟩ s = false → Rm.q1S r ⟨i, t⟩ s = { r with p := Np.M.sts r.p ⟨i, t⟩ } ∧ Rm.q1N r f ⟨i, t⟩ s = []) := fun e => ⟨by unfold Rm.q1S; rw [e]; rfl, by unfold Rm.q1N; rw [e]; rfl⟩
  have HYES : Hid (Rm.q1b r ⟨i, t⟩ s = true → Rm.q1S r ⟨i, t⟩ s = { r with p := Np.M.sts r.p ⟨i, t⟩, a := Na.M.prs r.a ⟨i, t⟩ s } ∧ Rm.q1N r f ⟨i, t⟩ s = [⟨2, r.me, f, 0, ⟨i, t⟩, Na.M.prl r.a ⟨i, t⟩ s⟩]) := fun e => ⟨by unfold Rm.q1S; rw [e]; rfl, by unfold Rm.q1N; rw [e]; rfl⟩
  simp only
  clear h hb1 hz1
  go_enter Try.func70, Try.ntmps70
  go_upto_region 1 with fail
  rw [HW1.out]
  clear HW1
  try rw [hg]
  clear hg
  refine wp_region_held_drew (S := fun wq => SQ wq) (by kernel_rfl) HSI.out (fun hHeld => ?_)
  obtain ⟨wdx, hwdx⟩ : ∃ wd, W1.drew = wd := ⟨_, rfl⟩
  have hBwd : Below W1.heap.size W1 wdx := by rw [← hwdx]; exact Below.drew (Below.refl _ _)
  rw [hwdx] at hHeld ⊢
  clear hwdx
  refine Tm 0 ?p0x ?v0x hHeld ?r0x
  refine Tm 1 ?p1x ?v1x hHeld ?r1x
  refine Tm 2 ?p2x ?v2x hHeld ?r2x
  refine Tk 3 ?p3x ?v3x ?y3x hHeld ?r3x
  case y3x => intro wq hq; obtain ⟨⟨b0, b1, b2, b3, b4⟩, ⟨d0, d1, d2, d3⟩⟩ := HS.out wq hq; go_simp; try with_reducible rfl
  refine Tm 4 ?p4x ?v4x hHeld ?r4x
  refine Tk 5 ?p5x ?v5x ?y5x hHeld ?r5x
  case y5x => intro wq hq; obtain ⟨⟨b0, b1, b2, b3, b4⟩, ⟨d0, d1, d2, d3⟩⟩ := HS.out wq hq; go_simp; try with_reducible rfl
  simp only [Act.put, Pa, Pb, Pc]
  refine Rd 6 ?p6x ?s6x
  intro K hK
  go_simp
  refine ((H1.out.keep hBwd).ps.stepB ⟨i, t⟩).mono ?_
  rintro e v6 ⟨Gp, rfl, hp6, hf6⟩
  obtain ⟨hrp, hfu⟩ := (H1.out.keep hBwd).setP hp6 hf6
  have hz6 := (hfu.block g (Array.getElem?_eq_some_iff.1 (bel_row HZ1.out hBwd)).1 hnu).trans (bel_row HZ1.out hBwd)
  have hnu6 := not_n hfu hnu (Array.getElem?_eq_some_iff.1 (bel_row HZ1.out hBwd)).1
  have S6 := SK.out v6 hrp.row hz6
  have HR6 := Hid_of hrp
  have HZ6 := Hid_of hz6
  have HF6 := Hid_of (((Fr.ofBelow HB1.out).up hBwd).trans hfu)
  clear hp6 hf6 hrp hfu hz6
  refine hK.out _ _ S6 (fun hHeld => ?_)
  clear hK K
  refine wpAnyH_done (by kernel_rfl) ?_ _
  obtain ⟨⟨x0, x1, x2, x3⟩, -⟩ := row4 HZ6.out
  by_cases hs0 : s < 0
  · have d0 : decide (s < 0) = true := decide_eq_true hs0
    have hsl : Rm.slt s = false := by unfold Rm.slt; rw [decide_eq_false (by omega)]; rfl
    clear hs0
    have HQ : Hid (OutN w0 w (uni b Fa Fp Fl) b (Rm.q1S r ⟨i, t⟩ s) (Rm.q1N r f ⟨i, t⟩ s) (.returned (.slice none 0 0)) v6) := by
      obtain ⟨e1, e2⟩ := HNO.out (by unfold Rm.q1b; rw [hsl, Bool.false_and])
      exact ⟨_, _, rfl, by rw [e2]; exact NO.nil _ _ _, by rw [e1]; exact HR6.out.rs, HF6.out⟩
    clear hsl
    go_wp2
    go_ret
    exact HQ.out
  · have d0 : decide (s < 0) = false := decide_eq_false hs0
    by_cases hs1 : 1024 ≤ s
    · have d1 : decide (1024 ≤ s) = true := decide_eq_true hs1
      have hsl : Rm.slt s = false := by unfold Rm.slt; rw [decide_eq_false (show ¬ s < 1024 by omega), Bool.and_false]
      clear hs0 hs1
      have HQ : Hid (OutN w0 w (uni b Fa Fp Fl) b (Rm.q1S r ⟨i, t⟩ s) (Rm.q1N r f ⟨i, t⟩ s) (.returned (.slice none 0 0)) v6) := by
        obtain ⟨e1, e2⟩ := HNO.out (by unfold Rm.q1b; rw [hsl, Bool.false_and])
        exact ⟨_, _, rfl, by rw [e2]; exact NO.nil _ _ _, by rw [e1]; exact HR6.out.rs, HF6.out⟩
      clear hsl
      go_wp2
      go_ret
      exact HQ.out
    · have d1 : decide (1024 ≤ s) = false := decide_eq_false hs1
      have hsl : Rm.slt s = true := by unfold Rm.slt; rw [decide_eq_true (show 0 ≤ s by omega), decide_eq_true (show s < 1024 by omega)]; rfl
      have HSI6 : Hid (SQ v6.drew) := SK.out _ HR6.out.row HZ6.out
      obtain ⟨pb, hpb⟩ : ∃ pb, Na.M.prb r.a ⟨i, t⟩ s = pb := ⟨_, rfl⟩
      clear hs0 hs1
      go_upto_region 4 with fail
      clear x0 x1 x2 x3 d0 d1
      refine wp_region_held_drew (S := fun wq => SQ wq) (by kernel_rfl) HSI6.out (fun hHeld => ?_)
      obtain ⟨wdy, hwdy⟩ : ∃ wd, v6.drew = wd := ⟨_, rfl⟩
      have hBwd : Below v6.heap.size v6 wdy := by rw [← hwdy]; exact Below.drew (Below.refl _ _)
      rw [hwdy] at hHeld ⊢
      clear hwdy
      refine Tm 0 ?p0y ?v0y hHeld ?r0y
      refine Tm 1 ?p1y ?v1y hHeld ?r1y
      refine Tm 2 ?p2y ?v2y hHeld ?r2y
      refine Tk 3 ?p3y ?v3y ?y3y hHeld ?r3y
      case y3y => intro wq hq; obtain ⟨⟨b0, b1, b2, b3, b4⟩, ⟨d0, d1, d2, d3⟩⟩ := HS.out wq hq; go_simp; try with_reducible rfl
      refine Tm 4 ?p4y ?v4y hHeld ?r4y
      refine Tk 5 ?p5y ?v5y ?y5y hHeld ?r5y
      case y5y => intro wq hq; obtain ⟨⟨b0, b1, b2, b3, b4⟩, ⟨d0, d1, d2, d3⟩⟩ := HS.out wq hq; go_simp; try with_reducible rfl
      refine Tm 6 ?p6y ?v6y hHeld ?r6y
      refine Tk 7 ?p7y ?v7y ?y7y hHeld ?r7y
      case y7y => intro wq hq; obtain ⟨⟨b0, b1, b2, b3, b4⟩, ⟨d0, d1, d2, d3⟩⟩ := HS.out wq hq; go_simp; try with_reducible rfl
      simp only [Act.put, Pa, Pb, Pc]
      refine Rd 8 ?p8y ?s8y
      intro K hK
      go_simp
      refine ((HR6.out.keep hBwd).ac.promise ⟨i, t⟩ s).mono ?_
      rintro e v8 ⟨ad8, c8, he, hx8, hbk8, ha8, hf8⟩
      rw [hpb] at he
      subst he
      obtain ⟨hrp, hfu⟩ := (HR6.out.keep hBwd).setA ha8 hf8
      have hz8 := (hfu.block g (Array.getElem?_eq_some_iff.1 (bel_row HZ6.out hBwd)).1 hnu6).trans (bel_row HZ6.out hBwd)
      have S8 := SK.out v8 hrp.row hz8
      have HR8 := Hid_of hrp
      have HZ8 := Hid_of hz8
      have HF8 := Hid_of ((HF6.out.up hBwd).trans hfu)
      have HX8 := Hid_of hx8
      have HK8 : Hid (∀ k, blk ad8 k → v6.heap.size ≤ k ∧ k < v8.heap.size) := fun k hk => ⟨Nat.le_trans hBwd.size (hbk8 k hk).1, (hbk8 k hk).2⟩
      clear ha8 hf8 hrp hfu hz8 hx8 hbk8
      refine hK.out _ _ S8 (fun hHeld => ?_)
      clear hK K
      refine Tm 9 ?p9y_8 ?v9y_8 hHeld ?r9y_8
      refine Tm 10 ?p10y_8 ?v10y_8 hHeld ?r10y_8
      refine Tm 11 ?p11y_8 ?v11y_8 hHeld ?r11y_8
      refine Tm 12 ?p12y_8 ?v12y_8 hHeld ?r12y_8
      refine Tm 13 ?p13y_8 ?v13y_8 hHeld ?r13y_8
      simp only [Act.put, Pa, Pb, Pc]
      refine wpAnyH_done (by kernel_rfl) ?_ _
      cases pb with
      | false =>
        have HQ : Hid (OutN w0 w (uni b Fa Fp Fl) b (Rm.q1S r ⟨i, t⟩ s) (Rm.q1N r f ⟨i, t⟩ s) (.returned (.slice none 0 0)) v8) := by
          obtain ⟨e1, e2⟩ := HNO.out (by unfold Rm.q1b; rw [hpb, Bool.and_false])
          have h8 := HR8.out
          rw [Na.M.prs_no hpb] at h8
          exact ⟨_, _, rfl, by rw [e2]; exact NO.nil _ _ _, by rw [e1]; exact h8.rs, HF8.out⟩
        clear hpb
        go_wp2
        go_ret
        exact HQ.out
      | true =>
        obtain ⟨e1, e2⟩ := HYES.out (by unfold Rm.q1b; rw [hpb, hsl]; rfl)
        have HFIN : Hid (∀ gv wv, Below v8.heap.size v8 wv → v8.heap.size ≤ gv → wv.heap[gv]? = some (.cells #[.int .i64 2, .int .i64 r.me, .int .i64 f, .int .i64 0, .int .i64 i, .int .i64 t, .slice ad8 (Na.M.prl r.a ⟨i, t⟩ s).length c8] 63 (0, 0)) → OutN w0 w (uni b Fa Fp Fl) b (Rm.q1S r ⟨i, t⟩ s) (Rm.q1N r f ⟨i, t⟩ s) (.returned (.slice (some ⟨gv, 0, none⟩) 1 1)) wv) := fun gv wv hb hg hrv => by
          rw [e1, e2]
          refine ⟨_, _, rfl, NO.one (y := ⟨⟨2, r.me, f, 0, ⟨i, t⟩, Na.M.prl r.a ⟨i, t⟩ s⟩, ad8, c8⟩) hrv (Nat.le_trans HF8.out.size hg) (fun e => by have := (HR8.out.mine _ e).2; omega) ⟨HX8.out.keep hb, fun k hk => ?_⟩, (HR8.out.keep hb).rs, HF8.out.up hb⟩
          have h1 := HK8.out k hk
          exact ⟨Nat.lt_of_lt_of_le h1.2 hb.size, Nat.le_trans HF6.out.size h1.1, (fun e => by have := (HR6.out.mine _ e).2; have := h1.1; omega), by have := h1.2; omega⟩
        obtain ⟨L, HL⟩ : ∃ L, Hid ((Na.M.prl r.a ⟨i, t⟩ s).length = L) := ⟨_, Hid_of rfl⟩
        rw [HL.out] at HFIN ⊢
        have HSI8 : Hid (SQ v8.drew) := SK.out _ HR8.out.row HZ8.out
        clear hpb e1 e2
        go_upto_region 7 with fail
        refine wp_region_held_drew (S := fun wq => SQ wq) (by kernel_rfl) HSI8.out (fun hHeld => ?_)
        obtain ⟨wdq, hwdq⟩ : ∃ wd, v8.drew = wd := ⟨_, rfl⟩
        have hBwd : Below v8.heap.size v8 wdq := by rw [← hwdq]; exact Below.drew (Below.refl _ _)
        rw [hwdq] at hHeld ⊢
        clear hwdq
        refine Tm 0 ?p0q ?v0q hHeld ?r0q
        refine Tm 1 ?p1q ?v1q hHeld ?r1q
        refine Tm 2 ?p2q ?v2q hHeld ?r2q
        refine Tk 3 ?p3q ?v3q ?y3q hHeld ?r3q
        case y3q => intro wq hq; obtain ⟨⟨b0, b1, b2, b3, b4⟩, ⟨d0, d1, d2, d3⟩⟩ := HS.out wq hq; go_simp; try with_reducible rfl
        refine Tm 4 ?p4q ?v4q hHeld ?r4q
        refine Tk 5 ?p5q ?v5q ?y5q hHeld ?r5q
        case y5q => intro wq hq; obtain ⟨⟨b0, b1, b2, b3, b4⟩, ⟨d0, d1, d2, d3⟩⟩ := HS.out wq hq; go_simp; try with_reducible rfl
        refine Tm 6 ?p6q ?v6q hHeld ?r6q
        refine Tk 7 ?p7q ?v7q ?y7q hHeld ?r7q
        case y7q => intro wq hq; obtain ⟨⟨b0, b1, b2, b3, b4⟩, ⟨d0, d1, d2, d3⟩⟩ := HS.out wq hq; go_simp; try with_reducible rfl
        refine Tm 8 ?p8q ?v8q hHeld ?r8q
        refine Tm 9 ?p9q ?v9q hHeld ?r9q
        simp only [Act.put, Pa, Pb, Pc]
        refine Rd 10 ?p10q ?s10q
        intro K hK
        go_simp
        obtain ⟨wv, hwv⟩ : ∃ wv, wdq.alloc (.cells #[.int .i64 2, .int .i64 r.me, .int .i64 f, .int .i64 0, .int .i64 i, .int .i64 t, .slice ad8 L c8] 63) = wv := ⟨_, rfl⟩
        have hbv : Below wdq.heap.size wdq wv := by rw [← hwv]; exact bel1 _ _
        have hrv : wv.heap[wdq.heap.size]? = some (.cells #[.int .i64 2, .int .i64 r.me, .int .i64 f, .int .i64 0, .int .i64 i, .int .i64 t, .slice ad8 L c8] 63 (0, 0)) := by rw [← hwv]; exact heap_alloc_last _ _
        obtain ⟨gv, hgv⟩ : ∃ gv, wdq.heap.size = gv := ⟨_, rfl⟩
        rw [hwv]
        rw [hgv] at hrv ⊢
        have hgv' : v8.heap.size ≤ gv := by rw [← hgv]; exact hBwd.size
        have hbv2 : Below v8.heap.size v8 wv := bel_up hBwd hbv (Nat.le_refl _)
        have S10 := SK.out wv (bel_row HR8.out.row hbv2) (bel_row HZ8.out hbv2)
        have HQ := Hid_of (HFIN.out gv wv hbv2 hgv' hrv)
        clear hwv hgv hbv hrv hbv2 hgv'
        refine hK.out _ _ S10 (fun hHeld => ?_)
        clear hK K
        refine Tm 11 ?p11q_10 ?v11q_10 hHeld ?r11q_10
        simp only [Act.put, Pa, Pb, Pc]
        refine wpAnyH_done (by kernel_rfl) ?_ _
        go_wp2
        go_ret
        exact HQ.out
end
end Go.Proofs.Ytgodnpngdbelhaa
namespace Go.Proofs.Ytgodnpngdbelhaa
open Go.RowKit Go.Maps
set_option linter.unusedVariables false
open M (E V)
open Rm (NT R)

theorem fl_sz {s : Np.M.S} (ok : Np.M.Ok s) (m : Nat) : ∀ y ∈ Np.M.fl s m, y.v.size ≤ 4096 := by
  intro y hy
  unfold Np.M.fl at hy
  obtain ⟨j, -, rfl⟩ := List.mem_map.1 hy
  show (Np.M.val (s.f (s.ask + j))).size ≤ 4096
  cases h : s.f (s.ask + j) with
  | none => show (0 : Nat) ≤ 4096; omega
  | some v => exact ok.sz _ v h
theorem flo_sz {s : Np.M.S} (ok : Np.M.Ok s) : ∀ y ∈ Np.M.flo s, y.v.size ≤ 140737488351232 := by
  intro y hy
  unfold Np.M.flo at hy
  split at hy
  · exact Nat.le_trans (fl_sz ok _ y hy) (by decide)
  · cases hy
theorem flo_len {s : Np.M.S} (ok : Np.M.Ok s) : (Np.M.flo s).length ≤ 1024 := by
  unfold Np.M.flo
  split
  · rw [Np.M.fl_len]
    have := ok.a0; have := ok.af; have := ok.fx; have := ok.x1
    omega
  · simp
theorem q2F_len (r : R) : ∀ l : List V, (Rm.q2F r l).length = l.length * r.n.toNat
  | [] => by simp [Rm.q2F]
  | x :: l => by
    have := q2F_len r l
    unfold Rm.q2F at this ⊢
    rw [List.flatMap_cons, List.length_append, this, List.length_cons, Nat.add_mul, Nat.one_mul]
    show (Rm.toF _ _ _ _ _ _).length + _ = _
    rw [Rm.toF_len]
    omega
section
variable {w0 w : World} {b ba bp bl : Nat} {Fa Fp Fl : Nat → Prop} {r : R}
set_option maxRecDepth 100000 in
set_option maxHeartbeats 2000000 in
theorem RP.promise (h : RP w0 w b ba bp bl Fa Fp Fl r) (f : Int) (x : E) (ad : Option Addr) (c : Nat) (l : List V) (hx : XL vl w ad c l) (hap : 0 < l.length → ∀ k, blk ad k → k < w.heap.size ∧ ¬ uni b Fa Fp Fl k) (hcl : r.p.c + l.length ≤ 900000) :
    Calls Try.prog 71 #[ptr b, .agg #[.int .i64 f, .int .i64 x.i, .int .i64 x.t, .slice ad l.length c]] w (OutN w0 w (uni b Fa Fp Fl) b (Rm.q2S r f x l) (Rm.q2N r f x l)) := by
  obtain ⟨i, t⟩ := x
  obtain ⟨W1, HW1⟩ : ∃ W1, Hid (w.alloc (.cells #[.int .i64 f, .int .i64 i, .int .i64 t, .slice ad l.length c] 117) = W1) := ⟨_, Hid_of rfl⟩
  have hb1 : Below w.heap.size w W1 := by rw [← HW1.out]; exact bel1 w _
  have hz1 : W1.heap[w.heap.size]? = some (.cells #[.int .i64 f, .int .i64 i, .int .i64 t, .slice ad l.length c] 117 (0, 0)) := by rw [← HW1.out]; exact heap_alloc_last w _
  obtain ⟨g, hg⟩ : ∃ g, w.heap.size = g := ⟨_, rfl⟩
  rw [hg] at hz1
  have hnu : ¬ uni b Fa Fp Fl g := fun e => by have := (h.mine _ e).2; omega
  have H1 := Hid_of (h.keep hb1)
  have HZ1 := Hid_of hz1
  have HB1 := Hid_of hb1
  have HG := Hid_of hg
  have HX := Hid_of hx
  have HAP := Hid_of hap
  have HCL := Hid_of hcl
  obtain ⟨SQ, HSQ⟩ : ∃ SQ : World → Prop, Hid (SQ = fun wq => wq.heap[b]? = some (rrow r ba bp bl) ∧ wq.heap[g]? = some (.cells #[.int .i64 f, .int .i64 i, .int .i64 t, .slice ad l.length c] 117 (0, 0))) := ⟨_, Hid_of rfl⟩
  have HS : Hid (∀ wq, SQ wq → (wq.cell? ⟨b, 0, none⟩ = some (.int .i64 r.n) ∧ wq.cell? ⟨b, 1, none⟩ = some (.int .i64 r.me) ∧ wq.cell? ⟨b, 2, none⟩ = some (ptr ba) ∧ wq.cell? ⟨b, 3, none⟩ = some (ptr bp) ∧ wq.cell? ⟨b, 4, none⟩ = some (ptr bl)) ∧ (wq.cell? ⟨g, 0, none⟩ = some (.int .i64 f) ∧ wq.cell? ⟨g, 1, none⟩ = some (.int .i64 i) ∧ wq.cell? ⟨g, 2, none⟩ = some (.int .i64 t) ∧ wq.cell? ⟨g, 3, none⟩ = some (.slice ad l.length c))) := fun wq hq => by
    rw [HSQ.out] at hq
    exact ⟨(row5 hq.1).1, (row4 hq.2).1⟩
  have SK : Hid (∀ w', w'.heap[b]? = some (rrow r ba bp bl) → w'.heap[g]? = some (.cells #[.int .i64 f, .int .i64 i, .int .i64 t, .slice ad l.length c] 117 (0, 0)) → SQ w') := fun w' h1 h2 => by rw [HSQ.out]; exact ⟨h1, h2⟩
  clear HSQ
  have HSI : Hid (SQ W1.drew) := SK.out _ H1.out.row hz1
  have HNO : Hid (Np.M.prb r.p f ⟨i, t⟩ = false → Rm.q2S r f ⟨i, t⟩ l = { r with p := Np.M.prs r.p f ⟨i, t⟩ l } ∧ Rm.q2N r f ⟨i, t⟩ l = []) := fun e => ⟨by unfold Rm.q2S; rw [e]; rfl, by unfold Rm.q2N; rw [e]; rfl⟩
  have HYES : Hid (Np.M.prb r.p f ⟨i, t⟩ = true → Rm.q2S r f ⟨i, t⟩ l = { r with p := Np.M.fls (Np.M.prs r.p f ⟨i, t⟩ l) } ∧ Rm.q2N r f ⟨i, t⟩ l = Rm.q2F r (Np.M.flo (Np.M.prs r.p f ⟨i, t⟩ l))) := fun e => ⟨by unfold Rm.q2S; rw [e]; rfl, by unfold Rm.q2N; rw [e]; rfl⟩
  obtain ⟨pb, hpb⟩ : ∃ pb, Np.M.prb r.p f ⟨i, t⟩ = pb := ⟨_, rfl⟩
  simp only
  clear h hb1 hz1 hx hap hcl
  go_enter Try.func71, Try.ntmps71
  go_upto_region 1 with fail
  rw [HW1.out]
  clear HW1
  try rw [hg]
  clear hg
  refine wp_region_held_drew (S := fun wq => SQ wq) (by kernel_rfl) HSI.out (fun hHeld => ?_)
  obtain ⟨wdx, hwdx⟩ : ∃ wd, W1.drew = wd := ⟨_, rfl⟩
  have hBwd : Below W1.heap.size W1 wdx := by rw [← hwdx]; exact Below.drew (Below.refl _ _)
  rw [hwdx] at hHeld ⊢
  clear hwdx
  refine Tm 0 ?p0x ?v0x hHeld ?r0x
  refine Tm 1 ?p1x ?v1x hHeld ?r1x
  refine Tm 2 ?p2x ?v2x hHeld ?r2x
  refine Tk 3 ?p3x ?v3x ?y3x hHeld ?r3x
  case y3x => intro wq hq; obtain ⟨⟨b0, b1, b2, b3, b4⟩, ⟨d0, d1, d2, d3⟩⟩ := HS.out wq hq; go_simp; try with_reducible rfl
  refine Tm 4 ?p4x ?v4x hHeld ?r4x
  refine Tk 5 ?p5x ?v5x ?y5x hHeld ?r5x
  case y5x => intro wq hq; obtain ⟨⟨b0, b1, b2, b3, b4⟩, ⟨d0, d1, d2, d3⟩⟩ := HS.out wq hq; go_simp; try with_reducible rfl
  refine Tm 6 ?p6x ?v6x hHeld ?r6x
  refine Tk 7 ?p7x ?v7x ?y7x hHeld ?r7x
  case y7x => intro wq hq; obtain ⟨⟨b0, b1, b2, b3, b4⟩, ⟨d0, d1, d2, d3⟩⟩ := HS.out wq hq; go_simp; try with_reducible rfl
  refine Tm 8 ?p8x ?v8x hHeld ?r8x
  refine Tk 9 ?p9x ?v9x ?y9x hHeld ?r9x
  case y9x => intro wq hq; obtain ⟨⟨b0, b1, b2, b3, b4⟩, ⟨d0, d1, d2, d3⟩⟩ := HS.out wq hq; go_simp; try with_reducible rfl
  simp only [Act.put, Pa, Pb, Pc]
  refine Rd 10 ?p10x ?s10x
  intro K hK
  go_simp
  refine ((H1.out.keep hBwd).ps.promise f ⟨i, t⟩ ad c l ((HX.out.keep HB1.out).keep hBwd).at' (fun h0 k hk e => (HAP.out h0 k hk).2 (.inr (.inr (.inl e)))) HCL.out).mono ?_
  rintro e v10 ⟨Gp, he, hp6, hf6⟩
  rw [hpb] at he
  subst he
  obtain ⟨hrp, hfu⟩ := (H1.out.keep hBwd).setP hp6 hf6
  have hz6 := (hfu.block g (Array.getElem?_eq_some_iff.1 (bel_row HZ1.out hBwd)).1 hnu).trans (bel_row HZ1.out hBwd)
  have S6 := SK.out v10 hrp.row hz6
  have HR6 := Hid_of hrp
  have HF6 := Hid_of (((Fr.ofBelow HB1.out).up hBwd).trans hfu)
  clear hp6 hf6 hrp hfu hz6
  refine hK.out _ _ S6 (fun hHeld => ?_)
  clear hK K
  refine Tm 11 ?p11x_10 ?v11x_10 hHeld ?r11x_10
  simp only [Act.put, Pa, Pb, Pc]
  refine wpAnyH_done (by kernel_rfl) ?_ _
  cases pb with
  | false =>
    have HQ : Hid (OutN w0 w (uni b Fa Fp Fl) b (Rm.q2S r f ⟨i, t⟩ l) (Rm.q2N r f ⟨i, t⟩ l) (.returned (.slice none 0 0)) v10) := by
      obtain ⟨e1, e2⟩ := HNO.out hpb
      exact ⟨_, _, rfl, by rw [e2]; exact NO.nil _ _ _, by rw [e1]; exact HR6.out.rs, HF6.out⟩
    clear hpb
    go_wp2
    go_ret
    exact HQ.out
  | true =>
    obtain ⟨e1, e2⟩ := HYES.out hpb
    have E1 := Hid_of e1
    have E2 := Hid_of e2
    have cf := HR6.out.ps.fill
    have hsz := flo_sz HR6.out.ps.ok
    have hll := flo_len HR6.out.ps.ok
    obtain ⟨⟨y0, y1, y2, y3, y4⟩, -⟩ := row5 HR6.out.row
    obtain ⟨pp, HPP⟩ : ∃ pp, Hid (Np.M.prs r.p f ⟨i, t⟩ l = pp) := ⟨_, Hid_of rfl⟩
    rw [HPP.out] at HR6 E1 E2 cf hsz hll
    generalize hD : Np.M.flo pp = D at *
    clear hpb e1 e2 hD
    go_wp2_with fail
    refine cf.mono ?_
    rintro e v4 ⟨Gp4, ad4, c4, rfl, hx4, hbk4, hp4, hf4⟩
    obtain ⟨hrp, hfu⟩ := HR6.out.setP hp4 hf4
    have HR4 := Hid_of hrp
    have HF4 := Hid_of (HF6.out.trans hfu)
    have HX4 := Hid_of hx4
    have hn := HR4.out.n17
    obtain ⟨n, hnn⟩ : ∃ n : Nat, r.n.toNat = n := ⟨_, rfl⟩
    have hn7 : n ≤ 7 := by have : r.n ≤ 7 := hn.2; omega
    have HN := Hid_of hnn
    clear cf hp4 hf4 hrp hfu hbk4 hx4 y0 y1 y2 y3 y4 hnn
    go_wp2_with fail
    go_loopw [5, 26] (fun u q wr => ∃ (j : Nat) (ys : List RN), j ≤ D.length ∧ q = .int .i64 j ∧ OW wr v4.heap.size u ys ∧ ys.map RN.x = Rm.q2F r (D.take j) ∧ Below v4.heap.size v4 wr) (fun u q _ => D.length - (intOf q).toNat)
    case atStart => exact ⟨0, [], Nat.zero_le _, rfl, OW.nil _ _, rfl, Below.refl _ _⟩
    case round =>
      obtain ⟨j, ys, hj, rfl, ho, hm, hbl⟩ := hrel
      by_cases hlt : j < D.length
      · have hjn : (j : Int) < (D.length : Int) := by omega
        have hlen : ys.length = j * n := by
          have := congrArg List.length hm
          rw [List.length_map, q2F_len, HN.out, List.length_take, Nat.min_eq_left (by omega)] at this
          exact this
        have hle : ys.length ≤ 7168 := by
          have : j * n ≤ 1024 * 7 := Nat.mul_le_mul (by omega) hn7
          omega
        have HT : Hid (Rm.q2F r (D.take (j + 1)) = Rm.q2F r (D.take j) ++ Rm.toE r 3 D[j]) := Hid_of (by rw [List.take_succ_eq_append_getElem hlt]; unfold Rm.q2F; rw [List.flatMap_append, List.flatMap_singleton])
        obtain ⟨g0, off0, eA, q0, q1, q2, q3⟩ := (HX4.out.at'.keep hbl).getV j hlt
        obtain ⟨W1, HW1⟩ : ∃ W1, Hid (wr.alloc (.cells #[.int .i64 D[j].s, .int .i64 D[j].b.i, .int .i64 D[j].b.t, .string D[j].v] 84) = W1) := ⟨_, Hid_of rfl⟩
        have hb1 : Below wr.heap.size wr W1 := by rw [← HW1.out]; exact bel1 wr _
        have hbox : W1.heap[wr.heap.size]? = some (.cells #[.int .i64 D[j].s, .int .i64 D[j].b.i, .int .i64 D[j].b.t, .string D[j].v] 84 (0, 0)) := by rw [← HW1.out]; exact heap_alloc_last wr _
        obtain ⟨⟨z0, z1, z2, z3⟩, _⟩ := row4 hbox
        have hrow := bel_row (bel_row HR4.out.row hbl) hb1
        have ce := toEach_any hrow hn.1 hn.2 3 D[j] (hsz _ (List.getElem_mem _))
        have HO := Hid_of ho
        have HM := Hid_of hm
        have HBL := Hid_of hbl
        have HBB := Hid_of hb1
        clear ho hm hbl hb1 hbox hrow hlen
        obtain ⟨x, HXX⟩ : ∃ x, D[j] = x := ⟨_, rfl⟩
        rw [HXX] at HT q0 q1 q2 q3 z0 z1 z2 z3 ce
        simp only [HXX] at HW1
        clear HXX
        obtain ⟨s, ⟨i, t⟩, vv⟩ := x
        simp only [vV] at ce q0 q1 q2 q3 z0 z1 z2 z3 HW1
        cases eA
        obtain ⟨a1, c1', hv1, -⟩ := HO.out.at
        obtain ⟨yl, hyl⟩ : ∃ yl, ys.length = yl := ⟨_, rfl⟩
        rw [hyl] at hv1 hle
        have HYL := Hid_of hyl
        subst hv1
        clear hyl
        go_upto_region 7 with fail
        rw [HW1.out]
        go_wp2_with fail
        refine ce.mono ?_
        rintro e w2 ⟨u2, zs, rfl, how, hmap, hb2⟩
        obtain ⟨ad2, c2, rfl, hx2⟩ := how.at
        have hbw : Below wr.heap.size wr w2 := bel_up HBB.out hb2 (Nat.le_refl _)
        have hs4 := HBL.out.size
        have hzl : zs.length = n := by
          have := congrArg List.length hmap
          rw [List.length_map] at this
          rw [this]
          show (Rm.toF _ _ _ _ _ _).length = n
          rw [Rm.toF_len]
          exact HN.out
        obtain ⟨a', c', w4, hrun, ho4, hr4⟩ := (HO.out.keep hbw).appL (hx2.imp fun k _ hk => ⟨by have := HBB.out.size; omega, fun e => by have := (HO.out.own.lt e).2; have := HBB.out.size; omega⟩) (by have := hbw.size; omega) (by rw [HYL.out]; omega)
        rw [HYL.out] at hrun ho4 hr4
        have HO4 := Hid_of ho4
        have HM4 : Hid ((ys ++ zs).map RN.x = Rm.q2F r (D.take (j + 1))) := Hid_of (by rw [List.map_append, HM.out, HT.out, hmap]; rfl)
        have HB4 : Hid (Below v4.heap.size v4 w4) := (HBL.out.trans (hbw.mono hs4)).trans (hr4.below (fun k hk => (HO.out.own.lt hk).1) (Nat.le_trans hs4 hbw.size))
        clear ce how hmap hb2 hx2 hbw hzl ho4 hr4 q0 q1 q2 q3 z0 z1 z2 z3
        go_wp2_with (at_builtin; refine wpList_append_known rfl _ _ 44 rfl _ _ rfl rfl _ _ (hrun _) ?_)
        go_roundw
        case rel => exact ⟨j + 1, _, by omega, by go_num, HO4.out, HM4.out, HB4.out⟩
        case measure => simp [intOf]; omega
      · obtain rfl : j = D.length := by omega
        have HQ : Hid (OutN w0 w (uni b Fa Fp Fl) b (Rm.q2S r f ⟨i, t⟩ l) (Rm.q2N r f ⟨i, t⟩ l) (.returned u5) wr) := by
          rw [List.take_of_length_le (Nat.le_refl _)] at hm
          refine ⟨_, _, rfl, ?_, by rw [E1.out]; exact (HR4.out.keep hbl).rs, HF4.out.up hbl⟩
          rw [E2.out]
          exact NO.of ho HF4.out.size (fun k hk => (HR4.out.mine k hk).2) hm
        clear ho hbl hm
        go_wp2
        go_ret
        exact HQ.out
set_option maxRecDepth 100000 in
set_option maxHeartbeats 2000000 in
theorem RP.accept (h : RP w0 w b ba bp bl Fa Fp Fl r) (x : V) : Calls Try.prog 72 #[ptr b, vV x] w (OutN w0 w (uni b Fa Fp Fl) b (Rm.q3S r x) (Rm.q3N r x)) := by
  obtain ⟨s, ⟨i, t⟩, v⟩ := x
  obtain ⟨W1, HW1⟩ : ∃ W1, Hid (w.alloc (.cells #[.int .i64 s, .int .i64 i, .int .i64 t, .string v] 120) = W1) := ⟨_, Hid_of rfl⟩
  have hb1 : Below w.heap.size w W1 := by rw [← HW1.out]; exact bel1 w _
  have hz1 : W1.heap[w.heap.size]? = some (.cells #[.int .i64 s, .int .i64 i, .int .i64 t, .string v] 120 (0, 0)) := by rw [← HW1.out]; exact heap_alloc_last w _
  obtain ⟨g, hg⟩ : ∃ g, w.heap.size = g := ⟨_, rfl⟩
  rw [hg] at hz1
  have hnu : ¬ uni b Fa Fp Fl g := fun e => by have := (h.mine _ e).2; omega
  have H1 := Hid_of (h.keep hb1)
  have HZ1 := Hid_of hz1
  have HB1 := Hid_of hb1
  have HG := Hid_of hg
  obtain ⟨SQ, HSQ⟩ : ∃ SQ : World → Prop, Hid (SQ = fun wq => wq.heap[b]? = some (rrow r ba bp bl) ∧ wq.heap[g]? = some (.cells #[.int .i64 s, .int .i64 i, .int .i64 t, .string v] 120 (0, 0))) := ⟨_, Hid_of rfl⟩
  have HS : Hid (∀ wq, SQ wq → (wq.cell? ⟨b, 0, none⟩ = some (.int .i64 r.n) ∧ wq.cell? ⟨b, 1, none⟩ = some (.int .i64 r.me) ∧ wq.cell? ⟨b, 2, none⟩ = some (ptr ba) ∧ wq.cell? ⟨b, 3, none⟩ = some (ptr bp) ∧ wq.cell? ⟨b, 4, none⟩ = some (ptr bl)) ∧ (wq.cell? ⟨g, 0, none⟩ = some (.int .i64 s) ∧ wq.cell? ⟨g, 1, none⟩ = some (.int .i64 i) ∧ wq.cell? ⟨g, 2, none⟩ = some (.int .i64 t) ∧ wq.cell? ⟨g, 3, none⟩ = some (.string v))) := fun wq hq => by
    rw [HSQ.out] at hq
    exact ⟨(row5 hq.1).1, (row4 hq.2).1⟩
  have SK : Hid (∀ w', w'.heap[b]? = some (rrow r ba bp bl) → w'.heap[g]? = some (.cells #[.int .i64 s, .int .i64 i, .int .i64 t, .string v] 120 (0, 0)) → SQ w') := fun w' h1 h2 => by rw [HSQ.out]; exact ⟨h1, h2⟩
  clear HSQ
  have HSI : Hid (SQ W1.drew) := SK.out _ H1.out.row hz1
  simp only [vV]
  clear h hb1 hz1
  go_enter Try.func72, Try.ntmps72
  go_upto_region 1 with fail
  rw [HW1.out]
  clear HW1
  try rw [hg]
  clear hg
  refine wp_region_held_drew (S := fun wq => SQ wq) (by kernel_rfl) HSI.out (fun hHeld => ?_)
  obtain ⟨wdx, hwdx⟩ : ∃ wd, W1.drew = wd := ⟨_, rfl⟩
  have hBwd : Below W1.heap.size W1 wdx := by rw [← hwdx]; exact Below.drew (Below.refl _ _)
  rw [hwdx] at hHeld ⊢
  clear hwdx
  refine Tm 0 ?p0x ?v0x hHeld ?r0x
  refine Tm 1 ?p1x ?v1x hHeld ?r1x
  refine Tm 2 ?p2x ?v2x hHeld ?r2x
  refine Tk 3 ?p3x ?v3x ?y3x hHeld ?r3x
  case y3x => intro wq hq; obtain ⟨⟨b0, b1, b2, b3, b4⟩, ⟨d0, d1, d2, d3⟩⟩ := HS.out wq hq; go_simp; try with_reducible rfl
  refine Tm 4 ?p4x ?v4x hHeld ?r4x
  refine Tm 5 ?p5x ?v5x hHeld ?r5x
  refine Tk 6 ?p6x ?v6x ?y6x hHeld ?r6x
  case y6x => intro wq hq; obtain ⟨⟨b0, b1, b2, b3, b4⟩, ⟨d0, d1, d2, d3⟩⟩ := HS.out wq hq; go_simp; try with_reducible rfl
  simp only [Act.put, Pa, Pb, Pc]
  refine Rd 7 ?p7x ?s7x
  intro K hK
  go_simp
  refine ((H1.out.keep hBwd).ps.stepB ⟨i, t⟩).mono ?_
  rintro e v7 ⟨Gp, rfl, hp6, hf6⟩
  obtain ⟨hrp, hfu⟩ := (H1.out.keep hBwd).setP hp6 hf6
  have hz6 := (hfu.block g (Array.getElem?_eq_some_iff.1 (bel_row HZ1.out hBwd)).1 hnu).trans (bel_row HZ1.out hBwd)
  have hnu6 := not_n hfu hnu (Array.getElem?_eq_some_iff.1 (bel_row HZ1.out hBwd)).1
  have S6 := SK.out v7 hrp.row hz6
  have HR6 := Hid_of hrp
  have HZ6 := Hid_of hz6
  have HF6 := Hid_of (((Fr.ofBelow HB1.out).up hBwd).trans hfu)
  clear hp6 hf6 hrp hfu hz6
  refine hK.out _ _ S6 (fun hHeld => ?_)
  clear hK K
  refine wpAnyH_done (by kernel_rfl) ?_ _
  have HSI6 : Hid (SQ v7.drew) := SK.out _ HR6.out.row HZ6.out
  obtain ⟨pb, hpb⟩ : ∃ pb, Na.M.acb r.a ⟨s, ⟨i, t⟩, v⟩ = pb := ⟨_, rfl⟩
  go_upto_region 2 with fail
  refine wp_region_held_drew (S := fun wq => SQ wq) (by kernel_rfl) HSI6.out (fun hHeld => ?_)
  obtain ⟨wdy, hwdy⟩ : ∃ wd, v7.drew = wd := ⟨_, rfl⟩
  have hBwd : Below v7.heap.size v7 wdy := by rw [← hwdy]; exact Below.drew (Below.refl _ _)
  rw [hwdy] at hHeld ⊢
  clear hwdy
  refine Tm 0 ?p0y ?v0y hHeld ?r0y
  refine Tm 1 ?p1y ?v1y hHeld ?r1y
  refine Tm 2 ?p2y ?v2y hHeld ?r2y
  refine Tk 3 ?p3y ?v3y ?y3y hHeld ?r3y
  case y3y => intro wq hq; obtain ⟨⟨b0, b1, b2, b3, b4⟩, ⟨d0, d1, d2, d3⟩⟩ := HS.out wq hq; go_simp; try with_reducible rfl
  refine Tm 4 ?p4y ?v4y hHeld ?r4y
  refine Tk 5 ?p5y ?v5y ?y5y hHeld ?r5y
  case y5y => intro wq hq; obtain ⟨⟨b0, b1, b2, b3, b4⟩, ⟨d0, d1, d2, d3⟩⟩ := HS.out wq hq; go_simp; try with_reducible rfl
  simp only [Act.put, Pa, Pb, Pc]
  refine Rd 6 ?p6y ?s6y
  intro K hK
  go_simp
  refine ((HR6.out.keep hBwd).ac.accept ⟨s, ⟨i, t⟩, v⟩).mono ?_
  rintro e v8 ⟨Ga, he, ha8, hf8⟩
  rw [hpb] at he
  subst he
  obtain ⟨hrp, hfu⟩ := (HR6.out.keep hBwd).setA ha8 hf8
  have hz8 := (hfu.block g (Array.getElem?_eq_some_iff.1 (bel_row HZ6.out hBwd)).1 hnu6).trans (bel_row HZ6.out hBwd)
  have S8 := SK.out v8 hrp.row hz8
  have HR8 := Hid_of hrp
  have HZ8 := Hid_of hz8
  have HF8 := Hid_of ((HF6.out.up hBwd).trans hfu)
  clear ha8 hf8 hrp hfu hz8
  refine hK.out _ _ S8 (fun hHeld => ?_)
  clear hK K
  refine Tm 7 ?p7y_6 ?v7y_6 hHeld ?r7y_6
  simp only [Act.put, Pa, Pb, Pc]
  refine wpAnyH_done (by kernel_rfl) ?_ _
  cases pb with
  | false =>
    have HQ : Hid (OutN w0 w (uni b Fa Fp Fl) b (Rm.q3S r ⟨s, ⟨i, t⟩, v⟩) (Rm.q3N r ⟨s, ⟨i, t⟩, v⟩) (.returned (.slice none 0 0)) v8) := ⟨_, _, rfl, by unfold Rm.q3N; rw [hpb]; exact NO.nil _ _ _, HR8.out.rs, HF8.out⟩
    clear hpb
    go_wp2
    go_ret
    exact HQ.out
  | true =>
    have hsz := (Na.M.acb_yes hpb).2.2.2
    have hn := HR8.out.n17
    have ce := toEach_any HR8.out.row hn.1 hn.2 4 ⟨s, ⟨i, t⟩, v⟩ (Nat.le_trans hsz (by decide))
    obtain ⟨⟨x0, x1, x2, x3⟩, -⟩ := row4 HZ8.out
    have HP := Hid_of hpb
    clear hpb hsz hn
    go_wp2_with fail
    refine ce.mono ?_
    clear ce
    rintro e w3 ⟨u, ys, rfl, how, hmap, hb3⟩
    have HQ : Hid (OutN w0 w (uni b Fa Fp Fl) b (Rm.q3S r ⟨s, ⟨i, t⟩, v⟩) (Rm.q3N r ⟨s, ⟨i, t⟩, v⟩) (.returned u) w3) := by
      refine ⟨_, _, rfl, ?_, (HR8.out.keep hb3).rs, HF8.out.up hb3⟩
      unfold Rm.q3N
      rw [HP.out, if_pos rfl]
      exact NO.of how HF8.out.size (fun k hk => (HR8.out.mine k hk).2) hmap
    clear how hmap hb3 x0 x1 x2 x3
    go_wp2
    go_ret
    exact HQ.out
end
end Go.Proofs.Ytgodnpngdbelhaa
