/-
  The document's may: may what was read be a group?
-/
import Derived.Test.YtacfndfkoiifhaaFB
import Derived.Test.YtacfndfkoiifhaaMF
namespace Go.Proofs.Ytacfndfkoiifhaa
open Go.RowKit
set_option linter.unusedVariables false
open Mb (S)

/-- An append whose run is known, at a guarded operation that is wanted. -/
theorem step_append_guarded {P : Program} {w : World} {ops : Array Oper} {o : Oper} {a : Act} {C : Act → World → Prop} {Q : Exit → Act → World → Prop} {E : Prop} (hw : Region.wanted o (yielded ops a.tmps) = true) (s x : Operand) (t : TypeId)
    (ho : o.op = .call { callee := .builtin .append, args := #[s, x], argTypes := #[t, t] }) (v sv : Value) (hs : a.eval s = v) (hx : a.eval x = sv) (v' : Value) (w' : World)
    (hr : (Builtin.append_ #[t, t] o.type #[v, sv]).run P w = .ok v' w') (h : C (a.put o.dst v') w') : if Region.wanted o (yielded ops a.tmps) = true then Oper.wp P o a w C Q else E := by
  rw [if_pos hw]
  unfold Oper.wp execOp
  simp only [ho, resolve, invoke, builtin, Sem.run_bind, Sem.run_pure, Result.andThen_ok, List.map_toArray, List.map_cons, List.map_nil, hs, hx, hr]
  exact h
/-- May a group be? -/
def rm (s : S) : Bool := decide (2 ≤ s.l.length ∧ s.l.length ≤ 8) && (Mb.apB (s.l ++ s.sp) && Mb.mb s)
theorem rm_iff {s : S} : rm s = true ↔ Mb.nw s.l s.sp ∧ Mb.mb s = true := by
  unfold rm
  rw [Bool.and_eq_true, Bool.and_eq_true, decide_eq_true_iff, Mb.apB_eq]
  constructor
  · rintro ⟨h1, h2, h3⟩
    exact ⟨⟨⟨h1.1, h1.2, h2.left⟩, h2⟩, h3⟩
  · rintro ⟨⟨h1, h2⟩, h3⟩
    exact ⟨⟨h1.1, h1.2.1⟩, h2, h3⟩
theorem rm_no {s : S} (h : ¬ (Mb.nw s.l s.sp ∧ Mb.mb s = true)) : rm s = false := by
  cases e : rm s with
  | false => rfl
  | true => exact absurd (rm_iff.1 e) h
section
variable {w : World} {aL aS : Option Addr} {cL cS : Nat} {s : S}
set_option maxRecDepth 100000 in
set_option maxHeartbeats 8000000 in
theorem rmayQ_any (q : Bool) (hq : s.fl = q) (h : XD w aL cL aS cS s) (m : s.l.length + s.sp.length ≤ 1000000) : Calls Try.prog 55 #[.agg #[.slice aL s.l.length cL, .slice aS s.sp.length cS, .int .i64 s.ep, .int .i64 s.hole, .bool q, .int .i64 s.gone]] w fun e w' => e = .returned (.bool (rm s)) ∧ Below w.heap.size w w' := by
  obtain ⟨W1, HW1⟩ : ∃ W1, Hid (w.alloc (.cells #[.slice aL s.l.length cL, .slice aS s.sp.length cS, .int .i64 s.ep, .int .i64 s.hole, .bool q, .int .i64 s.gone] 31) = W1) := ⟨_, rfl⟩
  have HB1 : Hid (Below w.heap.size w W1) := by rw [← HW1.out]; exact bel1 w _
  have hx1 : W1.heap[w.heap.size]? = some (.cells #[.slice aL s.l.length cL, .slice aS s.sp.length cS, .int .i64 s.ep, .int .i64 s.hole, .bool q, .int .i64 s.gone] 31 (0, 0)) := by rw [← HW1.out]; exact heap_alloc_last w _
  have HX := Hid_of (h.keep HB1.out)
  have HM := Hid_of m
  have hgr := Hid_of fun wq (hw : Below W1.heap.size W1 wq) => group_any aL cL s.l wq (by have := HM.out; omega) HX.out.xl.le (HX.out.keep hw).xl.at'
  have HS : Hid (∀ wq, Below W1.heap.size W1 wq → wq.cell? ⟨w.heap.size, 0, none⟩ = some (.slice aL s.l.length cL) ∧ wq.cell? ⟨w.heap.size, 1, none⟩ = some (.slice aS s.sp.length cS) ∧ wq.cell? ⟨w.heap.size, 2, none⟩ = some (.int .i64 s.ep) ∧ wq.cell? ⟨w.heap.size, 3, none⟩ = some (.int .i64 s.hole) ∧ wq.cell? ⟨w.heap.size, 4, none⟩ = some (.bool q) ∧ wq.cell? ⟨w.heap.size, 5, none⟩ = some (.int .i64 s.gone)) := Hid_of fun wq hw => (row6 (bel_row hx1 hw)).1
  obtain ⟨x0, x1, x2, x3, x4, x5⟩ := HS.out W1 (Below.refl _ _)
  have HMB := Hid_of (show Mb.mb s = _ from rfl)
  have HFL := Hid_of hq
  clear hx1 h m hq
  by_cases hg : (2 ≤ s.l.length ∧ s.l.length ≤ 8) ∧ Mb.Ap s.l
  case neg =>
    have HG : Hid ((decide (2 ≤ s.l.length ∧ s.l.length ≤ 8) && Mb.apB s.l) = false) := Hid_of (by
      by_cases h8 : 2 ≤ s.l.length ∧ s.l.length ≤ 8
      · rw [Mb.apB_no (fun e => hg ⟨h8, e⟩), Bool.and_false]
      · rw [decide_eq_false h8, Bool.false_and])
    have HR : Hid (rm s = false) := Hid_of (rm_no fun e => hg ⟨⟨e.1.1.1, e.1.1.2.1⟩, e.1.1.2.2⟩)
    clear hg
    have HGR : Hid (∀ wq, Below W1.heap.size W1 wq → Calls Try.prog 30 #[.slice aL s.l.length cL] wq fun e w' => e = .returned (.bool false) ∧ Below wq.heap.size wq w') := Hid_of fun wq hw => by have := hgr.out wq hw; rwa [HG.out] at this
    clear hgr
    clear HMB HFL HM HX
    go_enter Try.func55, Try.ntmps55
    go_upto_region 1 with fail
    rw [HW1.out]
    clear HW1 x0 x1 x2 x3 x4 x5
    go_cut [40] from 3 to 40 (fun u wx => u = .bool true ∧ Below W1.heap.size W1 wx)
    case first =>
      refine wp_region_held_drew (S := fun wq => Below (W1).heap.size (W1) wq) (by kernel_rfl) (Below.drew (Below.refl _ _)) (fun hHeld => ?_)
      obtain ⟨wdx0, hwdx0⟩ : ∃ wd, W1.drew = wd := ⟨_, rfl⟩
      have hBwd : Below W1.heap.size W1 wdx0 := by rw [← hwdx0]; exact Below.drew (Below.refl _ _)
      rw [hwdx0] at hHeld ⊢
      clear hwdx0
      refine Tm 0 ?p0x0 ?v0x0 hHeld ?r0x0
      simp only [Act.put, Pa, Pb, Pc]
      refine Tk 1 ?p1x0 ?v1x0 ?y1x0 hHeld ?r1x0
      case y1x0 => intro wq hq; obtain ⟨x0, x1, x2, x3, x4, x5⟩ := HS.out wq hq; go_simp; try with_reducible rfl
      simp only [Act.put, Pa, Pb, Pc]
      refine Rd 2 ?p2x0 ?s2x0
      intro K hK
      go_simp
      refine (HGR.out _ hBwd).mono ?_
      rintro e v2 ⟨rfl, hb2⟩
      have hc2 := bel_up hBwd hb2 (Nat.le_refl _)
      clear hb2
      refine hK.out _ _ hc2 (fun hHeld => ?_)
      clear hK K
      refine Tm 3 ?p3x0_2 ?v3x0_2 hHeld ?r3x0_2
      simp only [Act.put, Pa, Pb, Pc]
      refine Tm 4 ?p4x0_2 ?v4x0_2 hHeld ?r4x0_2
      simp only [Act.put, Pa, Pb, Pc]
      refine Ts 5 ?p5x0_2 hHeld ?r5x0_2
      simp only [Act.put, Pa, Pb, Pc]
      refine Ts 6 ?p6x0_2 hHeld ?r6x0_2
      simp only [Act.put, Pa, Pb, Pc]
      refine Ts 7 ?p7x0_2 hHeld ?r7x0_2
      simp only [Act.put, Pa, Pb, Pc]
      refine Ts 8 ?p8x0_2 hHeld ?r8x0_2
      simp only [Act.put, Pa, Pb, Pc]
      refine Tm 9 ?p9x0_2 ?v9x0_2 hHeld ?r9x0_2
      simp only [Act.put, Pa, Pb, Pc]
      refine Tm 10 ?p10x0_2 ?v10x0_2 hHeld ?r10x0_2
      simp only [Act.put, Pa, Pb, Pc]
      refine Ts 11 ?p11x0_2 hHeld ?r11x0_2
      simp only [Act.put, Pa, Pb, Pc]
      refine Ts 12 ?p12x0_2 hHeld ?r12x0_2
      simp only [Act.put, Pa, Pb, Pc]
      refine Ts 13 ?p13x0_2 hHeld ?r13x0_2
      simp only [Act.put, Pa, Pb, Pc]
      refine Ts 14 ?p14x0_2 hHeld ?r14x0_2
      simp only [Act.put, Pa, Pb, Pc]
      refine Ts 15 ?p15x0_2 hHeld ?r15x0_2
      simp only [Act.put, Pa, Pb, Pc]
      refine Ts 16 ?p16x0_2 hHeld ?r16x0_2
      simp only [Act.put, Pa, Pb, Pc]
      refine Ts 17 ?p17x0_2 hHeld ?r17x0_2
      simp only [Act.put, Pa, Pb, Pc]
      refine Ts 18 ?p18x0_2 hHeld ?r18x0_2
      simp only [Act.put, Pa, Pb, Pc]
      refine Tm 19 ?p19x0_2 ?v19x0_2 hHeld ?r19x0_2
      simp only [Act.put, Pa, Pb, Pc]
      refine Tm 20 ?p20x0_2 ?v20x0_2 hHeld ?r20x0_2
      simp only [Act.put, Pa, Pb, Pc]
      refine Ts 21 ?p21x0_2 hHeld ?r21x0_2
      simp only [Act.put, Pa, Pb, Pc]
      refine Ts 22 ?p22x0_2 hHeld ?r22x0_2
      simp only [Act.put, Pa, Pb, Pc]
      refine Ts 23 ?p23x0_2 hHeld ?r23x0_2
      simp only [Act.put, Pa, Pb, Pc]
      refine Tm 24 ?p24x0_2 ?v24x0_2 hHeld ?r24x0_2
      simp only [Act.put, Pa, Pb, Pc]
      refine Tm 25 ?p25x0_2 ?v25x0_2 hHeld ?r25x0_2
      simp only [Act.put, Pa, Pb, Pc]
      refine Ts 26 ?p26x0_2 hHeld ?r26x0_2
      simp only [Act.put, Pa, Pb, Pc]
      refine Ts 27 ?p27x0_2 hHeld ?r27x0_2
      simp only [Act.put, Pa, Pb, Pc]
      refine Ts 28 ?p28x0_2 hHeld ?r28x0_2
      simp only [Act.put, Pa, Pb, Pc]
      refine Tm 29 ?p29x0_2 ?v29x0_2 hHeld ?r29x0_2
      simp only [Act.put, Pa, Pb, Pc]
      refine Tm 30 ?p30x0_2 ?v30x0_2 hHeld ?r30x0_2
      simp only [Act.put, Pa, Pb, Pc]
      refine Ts 31 ?p31x0_2 hHeld ?r31x0_2
      simp only [Act.put, Pa, Pb, Pc]
      refine Ts 32 ?p32x0_2 hHeld ?r32x0_2
      simp only [Act.put, Pa, Pb, Pc]
      refine Ts 33 ?p33x0_2 hHeld ?r33x0_2
      simp only [Act.put, Pa, Pb, Pc]
      refine Ts 34 ?p34x0_2 hHeld ?r34x0_2
      simp only [Act.put, Pa, Pb, Pc]
      refine Ts 35 ?p35x0_2 hHeld ?r35x0_2
      simp only [Act.put, Pa, Pb, Pc]
      refine Ts 36 ?p36x0_2 hHeld ?r36x0_2
      simp only [Act.put, Pa, Pb, Pc]
      refine Tm 37 ?p37x0_2 ?v37x0_2 hHeld ?r37x0_2
      simp only [Act.put, Pa, Pb, Pc]
      refine wpAnyH_done (by kernel_rfl) ?_ _
      have HC := Hid_of hc2
      clear hc2 hHeld hBwd HS
      go_wp2_with fail
      go_meet
      case rel => exact ⟨rfl, HC.out⟩
    case rest =>
    obtain ⟨rfl, hb⟩ := hcut
    obtain ⟨x0, x1, x2, x3, x4, x5⟩ := HS.out _ hb
    have HBX := Hid_of hb
    have HBC := Hid_of (bel_up HB1.out hb (Nat.le_refl _))
    clear hb
    go_wp2
    go_ret
    exact ⟨by rw [HR.out]; rfl, HBC.out⟩
  case pos =>
  have HG : Hid ((decide (2 ≤ s.l.length ∧ s.l.length ≤ 8) && Mb.apB s.l) = true) := Hid_of (by rw [decide_eq_true hg.1, Mb.apB_eq.2 hg.2]; rfl)
  have HGR : Hid (∀ wq, Below W1.heap.size W1 wq → Calls Try.prog 30 #[.slice aL s.l.length cL] wq fun e w' => e = .returned (.bool true) ∧ Below wq.heap.size wq w') := Hid_of fun wq hw => by have := hgr.out wq hw; rwa [HG.out] at this
  clear hgr
  by_cases h64 : 64 < s.sp.length
  · have d1 : decide ((64 : Int) < (s.sp.length : Int)) = true := decide_eq_true (by omega)
    have HR : Hid (rm s = false) := Hid_of (rm_no fun e => by have := e.1.2.right.len; omega)
    clear hg h64 HMB HFL HM HX HG
    go_enter Try.func55, Try.ntmps55
    go_upto_region 1 with fail
    rw [HW1.out]
    clear HW1 x0 x1 x2 x3 x4 x5
    go_cut [40] from 3 to 40 (fun u wx => u = .bool true ∧ Below W1.heap.size W1 wx)
    case first =>
      refine wp_region_held_drew (S := fun wq => Below (W1).heap.size (W1) wq) (by kernel_rfl) (Below.drew (Below.refl _ _)) (fun hHeld => ?_)
      obtain ⟨wdx1, hwdx1⟩ : ∃ wd, W1.drew = wd := ⟨_, rfl⟩
      have hBwd : Below W1.heap.size W1 wdx1 := by rw [← hwdx1]; exact Below.drew (Below.refl _ _)
      rw [hwdx1] at hHeld ⊢
      clear hwdx1
      refine Tm 0 ?p0x1 ?v0x1 hHeld ?r0x1
      simp only [Act.put, Pa, Pb, Pc]
      refine Tk 1 ?p1x1 ?v1x1 ?y1x1 hHeld ?r1x1
      case y1x1 => intro wq hq; obtain ⟨x0, x1, x2, x3, x4, x5⟩ := HS.out wq hq; go_simp; try with_reducible rfl
      simp only [Act.put, Pa, Pb, Pc]
      refine Rd 2 ?p2x1 ?s2x1
      intro K hK
      go_simp
      refine (HGR.out _ hBwd).mono ?_
      rintro e v2 ⟨rfl, hb2⟩
      have hc2 := bel_up hBwd hb2 (Nat.le_refl _)
      clear hb2
      refine hK.out _ _ hc2 (fun hHeld => ?_)
      clear hK K
      refine Tm 3 ?p3x1_2 ?v3x1_2 hHeld ?r3x1_2
      simp only [Act.put, Pa, Pb, Pc]
      refine Tm 4 ?p4x1_2 ?v4x1_2 hHeld ?r4x1_2
      simp only [Act.put, Pa, Pb, Pc]
      refine Tm 5 ?p5x1_2 ?v5x1_2 hHeld ?r5x1_2
      simp only [Act.put, Pa, Pb, Pc]
      refine Tk 6 ?p6x1_2 ?v6x1_2 ?y6x1_2 hHeld ?r6x1_2
      case y6x1_2 => intro wq hq; obtain ⟨x0, x1, x2, x3, x4, x5⟩ := HS.out wq hq; go_simp; try with_reducible rfl
      simp only [Act.put, Pa, Pb, Pc]
      refine Tm 7 ?p7x1_2 ?v7x1_2 hHeld ?r7x1_2
      simp only [Act.put, Pa, Pb, Pc]
      refine Tm 8 ?p8x1_2 ?v8x1_2 hHeld ?r8x1_2
      simp only [Act.put, Pa, Pb, Pc]
      refine Tm 9 ?p9x1_2 ?v9x1_2 hHeld ?r9x1_2
      simp only [Act.put, Pa, Pb, Pc]
      refine Tm 10 ?p10x1_2 ?v10x1_2 hHeld ?r10x1_2
      simp only [Act.put, Pa, Pb, Pc]
      refine Ts 11 ?p11x1_2 hHeld ?r11x1_2
      simp only [Act.put, Pa, Pb, Pc]
      refine Ts 12 ?p12x1_2 hHeld ?r12x1_2
      simp only [Act.put, Pa, Pb, Pc]
      refine Ts 13 ?p13x1_2 hHeld ?r13x1_2
      simp only [Act.put, Pa, Pb, Pc]
      refine Ts 14 ?p14x1_2 hHeld ?r14x1_2
      simp only [Act.put, Pa, Pb, Pc]
      refine Ts 15 ?p15x1_2 hHeld ?r15x1_2
      simp only [Act.put, Pa, Pb, Pc]
      refine Ts 16 ?p16x1_2 hHeld ?r16x1_2
      simp only [Act.put, Pa, Pb, Pc]
      refine Ts 17 ?p17x1_2 hHeld ?r17x1_2
      simp only [Act.put, Pa, Pb, Pc]
      refine Ts 18 ?p18x1_2 hHeld ?r18x1_2
      simp only [Act.put, Pa, Pb, Pc]
      refine Tm 19 ?p19x1_2 ?v19x1_2 hHeld ?r19x1_2
      simp only [Act.put, Pa, Pb, Pc]
      refine Tm 20 ?p20x1_2 ?v20x1_2 hHeld ?r20x1_2
      simp only [Act.put, Pa, Pb, Pc]
      refine Ts 21 ?p21x1_2 hHeld ?r21x1_2
      simp only [Act.put, Pa, Pb, Pc]
      refine Ts 22 ?p22x1_2 hHeld ?r22x1_2
      simp only [Act.put, Pa, Pb, Pc]
      refine Ts 23 ?p23x1_2 hHeld ?r23x1_2
      simp only [Act.put, Pa, Pb, Pc]
      refine Tm 24 ?p24x1_2 ?v24x1_2 hHeld ?r24x1_2
      simp only [Act.put, Pa, Pb, Pc]
      refine Tm 25 ?p25x1_2 ?v25x1_2 hHeld ?r25x1_2
      simp only [Act.put, Pa, Pb, Pc]
      refine Ts 26 ?p26x1_2 hHeld ?r26x1_2
      simp only [Act.put, Pa, Pb, Pc]
      refine Ts 27 ?p27x1_2 hHeld ?r27x1_2
      simp only [Act.put, Pa, Pb, Pc]
      refine Ts 28 ?p28x1_2 hHeld ?r28x1_2
      simp only [Act.put, Pa, Pb, Pc]
      refine Tm 29 ?p29x1_2 ?v29x1_2 hHeld ?r29x1_2
      simp only [Act.put, Pa, Pb, Pc]
      refine Tm 30 ?p30x1_2 ?v30x1_2 hHeld ?r30x1_2
      simp only [Act.put, Pa, Pb, Pc]
      refine Ts 31 ?p31x1_2 hHeld ?r31x1_2
      simp only [Act.put, Pa, Pb, Pc]
      refine Ts 32 ?p32x1_2 hHeld ?r32x1_2
      simp only [Act.put, Pa, Pb, Pc]
      refine Ts 33 ?p33x1_2 hHeld ?r33x1_2
      simp only [Act.put, Pa, Pb, Pc]
      refine Ts 34 ?p34x1_2 hHeld ?r34x1_2
      simp only [Act.put, Pa, Pb, Pc]
      refine Ts 35 ?p35x1_2 hHeld ?r35x1_2
      simp only [Act.put, Pa, Pb, Pc]
      refine Ts 36 ?p36x1_2 hHeld ?r36x1_2
      simp only [Act.put, Pa, Pb, Pc]
      refine Tm 37 ?p37x1_2 ?v37x1_2 hHeld ?r37x1_2
      simp only [Act.put, Pa, Pb, Pc]
      refine wpAnyH_done (by kernel_rfl) ?_ _
      have HC := Hid_of hc2
      clear hc2 hHeld hBwd HS
      go_wp2_with fail
      go_meet
      case rel => exact ⟨rfl, HC.out⟩
    case rest =>
    obtain ⟨rfl, hb⟩ := hcut
    obtain ⟨x0, x1, x2, x3, x4, x5⟩ := HS.out _ hb
    have HBX := Hid_of hb
    have HBC := Hid_of (bel_up HB1.out hb (Nat.le_refl _))
    clear hb
    go_wp2
    go_ret
    exact ⟨by rw [HR.out]; rfl, HBC.out⟩
  have d1 : decide ((64 : Int) < (s.sp.length : Int)) = false := decide_eq_false (by omega)
  have hg8 := hg.1
  clear h64 HG hg
  by_cases hap : Mb.Ap (s.l ++ s.sp)
  case neg =>
    have HA := Hid_of (Mb.apB_no hap)
    have HR : Hid (rm s = false) := Hid_of (rm_no fun e => hap e.1.2)
    clear hap hg8 HMB HFL
    go_enter Try.func55, Try.ntmps55
    go_upto_region 1 with fail
    rw [HW1.out]
    clear HW1 x0 x1 x2 x3 x4 x5
    go_cut [40] from 3 to 40 (fun u wx => u = .bool true ∧ Below W1.heap.size W1 wx)
    case first =>
      refine wp_region_held_drew (S := fun wq => Below (W1).heap.size (W1) wq) (by kernel_rfl) (Below.drew (Below.refl _ _)) (fun hHeld => ?_)
      obtain ⟨wdx2, hwdx2⟩ : ∃ wd, W1.drew = wd := ⟨_, rfl⟩
      have hBwd : Below W1.heap.size W1 wdx2 := by rw [← hwdx2]; exact Below.drew (Below.refl _ _)
      rw [hwdx2] at hHeld ⊢
      clear hwdx2
      refine Tm 0 ?p0x2 ?v0x2 hHeld ?r0x2
      simp only [Act.put, Pa, Pb, Pc]
      refine Tk 1 ?p1x2 ?v1x2 ?y1x2 hHeld ?r1x2
      case y1x2 => intro wq hq; obtain ⟨x0, x1, x2, x3, x4, x5⟩ := HS.out wq hq; go_simp; try with_reducible rfl
      simp only [Act.put, Pa, Pb, Pc]
      refine Rd 2 ?p2x2 ?s2x2
      intro K hK
      go_simp
      refine (HGR.out _ hBwd).mono ?_
      rintro e v2 ⟨rfl, hb2⟩
      have hc2 := bel_up hBwd hb2 (Nat.le_refl _)
      clear hb2
      obtain ⟨a3, c3, w3, a4, c4, w4, r1, r2, o4, b4, b3⟩ := copy2A v2 aL cL s.l aS cS s.sp (HX.out.keep hc2).xl.at' (HX.out.keep hc2).xs.at' (by have := HM.out; omega)
      obtain ⟨a5, c5, h5, hx5, -⟩ := o4.at
      simp only [Value.slice.injEq, true_and] at h5
      obtain ⟨rfl, rfl⟩ := h5
      have hap := refApart_any a4 c4 (s.l ++ s.sp) w4 (by have := HM.out; rw [List.length_append]; omega) hx5.le hx5.at'
      rw [HA.out] at hap
      obtain ⟨nl, hnl⟩ : ∃ nl, (s.l ++ s.sp).length = nl := ⟨_, rfl⟩
      rw [hnl] at r2 hap
      have R1 := Hid_of r1
      have R2 := Hid_of r2
      have HAP := Hid_of hap
      have hc3 := bel_up hc2 b3 (Nat.le_refl _)
      have hc4 := bel_up hc2 b4 (Nat.le_refl _)
      clear r1 r2 o4 b4 b3 hx5 hnl hap
      refine hK.out _ _ hc2 (fun hHeld => ?_)
      clear hK K
      refine Tm 3 ?p3x2_2 ?v3x2_2 hHeld ?r3x2_2
      simp only [Act.put, Pa, Pb, Pc]
      refine Tm 4 ?p4x2_2 ?v4x2_2 hHeld ?r4x2_2
      simp only [Act.put, Pa, Pb, Pc]
      refine Tm 5 ?p5x2_2 ?v5x2_2 hHeld ?r5x2_2
      simp only [Act.put, Pa, Pb, Pc]
      refine Tk 6 ?p6x2_2 ?v6x2_2 ?y6x2_2 hHeld ?r6x2_2
      case y6x2_2 => intro wq hq; obtain ⟨x0, x1, x2, x3, x4, x5⟩ := HS.out wq hq; go_simp; try with_reducible rfl
      simp only [Act.put, Pa, Pb, Pc]
      refine Tm 7 ?p7x2_2 ?v7x2_2 hHeld ?r7x2_2
      simp only [Act.put, Pa, Pb, Pc]
      refine Tm 8 ?p8x2_2 ?v8x2_2 hHeld ?r8x2_2
      simp only [Act.put, Pa, Pb, Pc]
      refine Tm 9 ?p9x2_2 ?v9x2_2 hHeld ?r9x2_2
      simp only [Act.put, Pa, Pb, Pc]
      refine Tm 10 ?p10x2_2 ?v10x2_2 hHeld ?r10x2_2
      simp only [Act.put, Pa, Pb, Pc]
      refine Tm 11 ?p11x2_2 ?v11x2_2 hHeld ?r11x2_2
      simp only [Act.put, Pa, Pb, Pc]
      refine Tk 12 ?p12x2_2 ?v12x2_2 ?y12x2_2 hHeld ?r12x2_2
      case y12x2_2 => intro wq hq; obtain ⟨x0, x1, x2, x3, x4, x5⟩ := HS.out wq hq; go_simp; try with_reducible rfl
      simp only [Act.put, Pa, Pb, Pc]
      refine Tm 14 ?p14x2_2 ?v14x2_2 hHeld ?r14x2_2
      simp only [Act.put, Pa, Pb, Pc]
      refine Tk 15 ?p15x2_2 ?v15x2_2 ?y15x2_2 hHeld ?r15x2_2
      case y15x2_2 => intro wq hq; obtain ⟨x0, x1, x2, x3, x4, x5⟩ := HS.out wq hq; go_simp; try with_reducible rfl
      simp only [Act.put, Pa, Pb, Pc]
      refine Rd 13 ?p13x2_2 ?s13x2_2
      intro K hK
      refine step_append_guarded (by rfl) _ _ 22 rfl _ _ rfl rfl _ _ (R1.out _) ?_
      refine hK.out _ _ hc3 (fun hHeld => ?_)
      clear hK K
      refine Rd 16 ?p16x2_2_13 ?s16x2_2_13
      intro K hK
      refine step_append_guarded (by rfl) _ _ 22 rfl _ _ rfl rfl _ _ (R2.out _) ?_
      refine hK.out _ _ hc4 (fun hHeld => ?_)
      clear hK K
      refine Rd 17 ?p17x2_2_13_16 ?s17x2_2_13_16
      intro K hK
      go_simp
      refine HAP.out.mono ?_
      rintro e v17 ⟨rfl, hb17⟩
      have hc17 := bel_up hc4 hb17 (Nat.le_refl _)
      clear hb17
      refine hK.out _ _ hc17 (fun hHeld => ?_)
      clear hK K
      refine Tm 18 ?p18x2_2_13_16_17 ?v18x2_2_13_16_17 hHeld ?r18x2_2_13_16_17
      simp only [Act.put, Pa, Pb, Pc]
      refine Tm 19 ?p19x2_2_13_16_17 ?v19x2_2_13_16_17 hHeld ?r19x2_2_13_16_17
      simp only [Act.put, Pa, Pb, Pc]
      refine Tm 20 ?p20x2_2_13_16_17 ?v20x2_2_13_16_17 hHeld ?r20x2_2_13_16_17
      simp only [Act.put, Pa, Pb, Pc]
      refine Ts 21 ?p21x2_2_13_16_17 hHeld ?r21x2_2_13_16_17
      simp only [Act.put, Pa, Pb, Pc]
      refine Ts 22 ?p22x2_2_13_16_17 hHeld ?r22x2_2_13_16_17
      simp only [Act.put, Pa, Pb, Pc]
      refine Ts 23 ?p23x2_2_13_16_17 hHeld ?r23x2_2_13_16_17
      simp only [Act.put, Pa, Pb, Pc]
      refine Tm 24 ?p24x2_2_13_16_17 ?v24x2_2_13_16_17 hHeld ?r24x2_2_13_16_17
      simp only [Act.put, Pa, Pb, Pc]
      refine Tm 25 ?p25x2_2_13_16_17 ?v25x2_2_13_16_17 hHeld ?r25x2_2_13_16_17
      simp only [Act.put, Pa, Pb, Pc]
      refine Ts 26 ?p26x2_2_13_16_17 hHeld ?r26x2_2_13_16_17
      simp only [Act.put, Pa, Pb, Pc]
      refine Ts 27 ?p27x2_2_13_16_17 hHeld ?r27x2_2_13_16_17
      simp only [Act.put, Pa, Pb, Pc]
      refine Ts 28 ?p28x2_2_13_16_17 hHeld ?r28x2_2_13_16_17
      simp only [Act.put, Pa, Pb, Pc]
      refine Tm 29 ?p29x2_2_13_16_17 ?v29x2_2_13_16_17 hHeld ?r29x2_2_13_16_17
      simp only [Act.put, Pa, Pb, Pc]
      refine Tm 30 ?p30x2_2_13_16_17 ?v30x2_2_13_16_17 hHeld ?r30x2_2_13_16_17
      simp only [Act.put, Pa, Pb, Pc]
      refine Ts 31 ?p31x2_2_13_16_17 hHeld ?r31x2_2_13_16_17
      simp only [Act.put, Pa, Pb, Pc]
      refine Ts 32 ?p32x2_2_13_16_17 hHeld ?r32x2_2_13_16_17
      simp only [Act.put, Pa, Pb, Pc]
      refine Ts 33 ?p33x2_2_13_16_17 hHeld ?r33x2_2_13_16_17
      simp only [Act.put, Pa, Pb, Pc]
      refine Ts 34 ?p34x2_2_13_16_17 hHeld ?r34x2_2_13_16_17
      simp only [Act.put, Pa, Pb, Pc]
      refine Ts 35 ?p35x2_2_13_16_17 hHeld ?r35x2_2_13_16_17
      simp only [Act.put, Pa, Pb, Pc]
      refine Ts 36 ?p36x2_2_13_16_17 hHeld ?r36x2_2_13_16_17
      simp only [Act.put, Pa, Pb, Pc]
      refine Tm 37 ?p37x2_2_13_16_17 ?v37x2_2_13_16_17 hHeld ?r37x2_2_13_16_17
      simp only [Act.put, Pa, Pb, Pc]
      refine wpAnyH_done (by kernel_rfl) ?_ _
      have HC := Hid_of hc17
      clear hc17 hHeld hBwd HS
      go_wp2_with fail
      go_meet
      case rel => exact ⟨rfl, HC.out⟩
    case rest =>
    obtain ⟨rfl, hb⟩ := hcut
    obtain ⟨x0, x1, x2, x3, x4, x5⟩ := HS.out _ hb
    have HBX := Hid_of hb
    have HBC := Hid_of (bel_up HB1.out hb (Nat.le_refl _))
    clear hb
    go_wp2
    go_ret
    exact ⟨by rw [HR.out]; rfl, HBC.out⟩
  case pos =>
  have HA := Hid_of (Mb.apB_eq.2 hap)
  have HRM : Hid (rm s = Mb.mb s) := Hid_of (by unfold rm; rw [decide_eq_true hg8, HA.out]; rfl)
  by_cases h1 : s.ep < 1
  · have HR : Hid (rm s = false) := Hid_of (by rw [HRM.out]; unfold Mb.mb; rw [if_pos h1])
    have d2 : decide (s.ep < 1) = true := decide_eq_true h1
    clear hap hg8 HMB HFL HRM h1
    go_enter Try.func55, Try.ntmps55
    go_upto_region 1 with fail
    rw [HW1.out]
    clear HW1 x0 x1 x2 x3 x4 x5
    go_cut [40] from 3 to 40 (fun u wx => u = .bool true ∧ Below W1.heap.size W1 wx)
    case first =>
      refine wp_region_held_drew (S := fun wq => Below (W1).heap.size (W1) wq) (by kernel_rfl) (Below.drew (Below.refl _ _)) (fun hHeld => ?_)
      obtain ⟨wdx3, hwdx3⟩ : ∃ wd, W1.drew = wd := ⟨_, rfl⟩
      have hBwd : Below W1.heap.size W1 wdx3 := by rw [← hwdx3]; exact Below.drew (Below.refl _ _)
      rw [hwdx3] at hHeld ⊢
      clear hwdx3
      refine Tm 0 ?p0x3 ?v0x3 hHeld ?r0x3
      simp only [Act.put, Pa, Pb, Pc]
      refine Tk 1 ?p1x3 ?v1x3 ?y1x3 hHeld ?r1x3
      case y1x3 => intro wq hq; obtain ⟨x0, x1, x2, x3, x4, x5⟩ := HS.out wq hq; go_simp; try with_reducible rfl
      simp only [Act.put, Pa, Pb, Pc]
      refine Rd 2 ?p2x3 ?s2x3
      intro K hK
      go_simp
      refine (HGR.out _ hBwd).mono ?_
      rintro e v2 ⟨rfl, hb2⟩
      have hc2 := bel_up hBwd hb2 (Nat.le_refl _)
      clear hb2
      obtain ⟨a3, c3, w3, a4, c4, w4, r1, r2, o4, b4, b3⟩ := copy2A v2 aL cL s.l aS cS s.sp (HX.out.keep hc2).xl.at' (HX.out.keep hc2).xs.at' (by have := HM.out; omega)
      obtain ⟨a5, c5, h5, hx5, -⟩ := o4.at
      simp only [Value.slice.injEq, true_and] at h5
      obtain ⟨rfl, rfl⟩ := h5
      have hap := refApart_any a4 c4 (s.l ++ s.sp) w4 (by have := HM.out; rw [List.length_append]; omega) hx5.le hx5.at'
      rw [HA.out] at hap
      obtain ⟨nl, hnl⟩ : ∃ nl, (s.l ++ s.sp).length = nl := ⟨_, rfl⟩
      rw [hnl] at r2 hap
      have R1 := Hid_of r1
      have R2 := Hid_of r2
      have HAP := Hid_of hap
      have hc3 := bel_up hc2 b3 (Nat.le_refl _)
      have hc4 := bel_up hc2 b4 (Nat.le_refl _)
      clear r1 r2 o4 b4 b3 hx5 hnl hap
      refine hK.out _ _ hc2 (fun hHeld => ?_)
      clear hK K
      refine Tm 3 ?p3x3_2 ?v3x3_2 hHeld ?r3x3_2
      simp only [Act.put, Pa, Pb, Pc]
      refine Tm 4 ?p4x3_2 ?v4x3_2 hHeld ?r4x3_2
      simp only [Act.put, Pa, Pb, Pc]
      refine Tm 5 ?p5x3_2 ?v5x3_2 hHeld ?r5x3_2
      simp only [Act.put, Pa, Pb, Pc]
      refine Tk 6 ?p6x3_2 ?v6x3_2 ?y6x3_2 hHeld ?r6x3_2
      case y6x3_2 => intro wq hq; obtain ⟨x0, x1, x2, x3, x4, x5⟩ := HS.out wq hq; go_simp; try with_reducible rfl
      simp only [Act.put, Pa, Pb, Pc]
      refine Tm 7 ?p7x3_2 ?v7x3_2 hHeld ?r7x3_2
      simp only [Act.put, Pa, Pb, Pc]
      refine Tm 8 ?p8x3_2 ?v8x3_2 hHeld ?r8x3_2
      simp only [Act.put, Pa, Pb, Pc]
      refine Tm 9 ?p9x3_2 ?v9x3_2 hHeld ?r9x3_2
      simp only [Act.put, Pa, Pb, Pc]
      refine Tm 10 ?p10x3_2 ?v10x3_2 hHeld ?r10x3_2
      simp only [Act.put, Pa, Pb, Pc]
      refine Tm 11 ?p11x3_2 ?v11x3_2 hHeld ?r11x3_2
      simp only [Act.put, Pa, Pb, Pc]
      refine Tk 12 ?p12x3_2 ?v12x3_2 ?y12x3_2 hHeld ?r12x3_2
      case y12x3_2 => intro wq hq; obtain ⟨x0, x1, x2, x3, x4, x5⟩ := HS.out wq hq; go_simp; try with_reducible rfl
      simp only [Act.put, Pa, Pb, Pc]
      refine Tm 14 ?p14x3_2 ?v14x3_2 hHeld ?r14x3_2
      simp only [Act.put, Pa, Pb, Pc]
      refine Tk 15 ?p15x3_2 ?v15x3_2 ?y15x3_2 hHeld ?r15x3_2
      case y15x3_2 => intro wq hq; obtain ⟨x0, x1, x2, x3, x4, x5⟩ := HS.out wq hq; go_simp; try with_reducible rfl
      simp only [Act.put, Pa, Pb, Pc]
      refine Rd 13 ?p13x3_2 ?s13x3_2
      intro K hK
      refine step_append_guarded (by rfl) _ _ 22 rfl _ _ rfl rfl _ _ (R1.out _) ?_
      refine hK.out _ _ hc3 (fun hHeld => ?_)
      clear hK K
      refine Rd 16 ?p16x3_2_13 ?s16x3_2_13
      intro K hK
      refine step_append_guarded (by rfl) _ _ 22 rfl _ _ rfl rfl _ _ (R2.out _) ?_
      refine hK.out _ _ hc4 (fun hHeld => ?_)
      clear hK K
      refine Rd 17 ?p17x3_2_13_16 ?s17x3_2_13_16
      intro K hK
      go_simp
      refine HAP.out.mono ?_
      rintro e v17 ⟨rfl, hb17⟩
      have hc17 := bel_up hc4 hb17 (Nat.le_refl _)
      clear hb17
      refine hK.out _ _ hc17 (fun hHeld => ?_)
      clear hK K
      refine Tm 18 ?p18x3_2_13_16_17 ?v18x3_2_13_16_17 hHeld ?r18x3_2_13_16_17
      simp only [Act.put, Pa, Pb, Pc]
      refine Tm 19 ?p19x3_2_13_16_17 ?v19x3_2_13_16_17 hHeld ?r19x3_2_13_16_17
      simp only [Act.put, Pa, Pb, Pc]
      refine Tm 20 ?p20x3_2_13_16_17 ?v20x3_2_13_16_17 hHeld ?r20x3_2_13_16_17
      simp only [Act.put, Pa, Pb, Pc]
      refine Tm 21 ?p21x3_2_13_16_17 ?v21x3_2_13_16_17 hHeld ?r21x3_2_13_16_17
      simp only [Act.put, Pa, Pb, Pc]
      refine Tk 22 ?p22x3_2_13_16_17 ?v22x3_2_13_16_17 ?y22x3_2_13_16_17 hHeld ?r22x3_2_13_16_17
      case y22x3_2_13_16_17 => intro wq hq; obtain ⟨x0, x1, x2, x3, x4, x5⟩ := HS.out wq hq; go_simp; try with_reducible rfl
      simp only [Act.put, Pa, Pb, Pc]
      refine Tm 23 ?p23x3_2_13_16_17 ?v23x3_2_13_16_17 hHeld ?r23x3_2_13_16_17
      simp only [Act.put, Pa, Pb, Pc]
      refine Tm 24 ?p24x3_2_13_16_17 ?v24x3_2_13_16_17 hHeld ?r24x3_2_13_16_17
      simp only [Act.put, Pa, Pb, Pc]
      refine Tm 25 ?p25x3_2_13_16_17 ?v25x3_2_13_16_17 hHeld ?r25x3_2_13_16_17
      simp only [Act.put, Pa, Pb, Pc]
      refine Ts 26 ?p26x3_2_13_16_17 hHeld ?r26x3_2_13_16_17
      simp only [Act.put, Pa, Pb, Pc]
      refine Ts 27 ?p27x3_2_13_16_17 hHeld ?r27x3_2_13_16_17
      simp only [Act.put, Pa, Pb, Pc]
      refine Ts 28 ?p28x3_2_13_16_17 hHeld ?r28x3_2_13_16_17
      simp only [Act.put, Pa, Pb, Pc]
      refine Tm 29 ?p29x3_2_13_16_17 ?v29x3_2_13_16_17 hHeld ?r29x3_2_13_16_17
      simp only [Act.put, Pa, Pb, Pc]
      refine Tm 30 ?p30x3_2_13_16_17 ?v30x3_2_13_16_17 hHeld ?r30x3_2_13_16_17
      simp only [Act.put, Pa, Pb, Pc]
      refine Ts 31 ?p31x3_2_13_16_17 hHeld ?r31x3_2_13_16_17
      simp only [Act.put, Pa, Pb, Pc]
      refine Ts 32 ?p32x3_2_13_16_17 hHeld ?r32x3_2_13_16_17
      simp only [Act.put, Pa, Pb, Pc]
      refine Ts 33 ?p33x3_2_13_16_17 hHeld ?r33x3_2_13_16_17
      simp only [Act.put, Pa, Pb, Pc]
      refine Ts 34 ?p34x3_2_13_16_17 hHeld ?r34x3_2_13_16_17
      simp only [Act.put, Pa, Pb, Pc]
      refine Ts 35 ?p35x3_2_13_16_17 hHeld ?r35x3_2_13_16_17
      simp only [Act.put, Pa, Pb, Pc]
      refine Ts 36 ?p36x3_2_13_16_17 hHeld ?r36x3_2_13_16_17
      simp only [Act.put, Pa, Pb, Pc]
      refine Tm 37 ?p37x3_2_13_16_17 ?v37x3_2_13_16_17 hHeld ?r37x3_2_13_16_17
      simp only [Act.put, Pa, Pb, Pc]
      refine wpAnyH_done (by kernel_rfl) ?_ _
      have HC := Hid_of hc17
      clear hc17 hHeld hBwd HS
      go_wp2_with fail
      go_meet
      case rel => exact ⟨rfl, HC.out⟩
    case rest =>
    obtain ⟨rfl, hb⟩ := hcut
    obtain ⟨x0, x1, x2, x3, x4, x5⟩ := HS.out _ hb
    have HBX := Hid_of hb
    have HBC := Hid_of (bel_up HB1.out hb (Nat.le_refl _))
    clear hb
    go_wp2
    go_ret
    exact ⟨by rw [HR.out]; rfl, HBC.out⟩
  have d2 : decide (s.ep < 1) = false := decide_eq_false h1
  by_cases h2 : s.hole < -1
  · have HR : Hid (rm s = false) := Hid_of (by rw [HRM.out]; unfold Mb.mb; rw [if_neg h1, if_neg (by omega), if_pos (.inl (by omega))])
    have d3 : decide (s.hole < -1) = true := decide_eq_true h2
    clear hap hg8 HMB HFL HRM h1 h2
    go_enter Try.func55, Try.ntmps55
    go_upto_region 1 with fail
    rw [HW1.out]
    clear HW1 x0 x1 x2 x3 x4 x5
    go_cut [40] from 3 to 40 (fun u wx => u = .bool true ∧ Below W1.heap.size W1 wx)
    case first =>
      refine wp_region_held_drew (S := fun wq => Below (W1).heap.size (W1) wq) (by kernel_rfl) (Below.drew (Below.refl _ _)) (fun hHeld => ?_)
      obtain ⟨wdx4, hwdx4⟩ : ∃ wd, W1.drew = wd := ⟨_, rfl⟩
      have hBwd : Below W1.heap.size W1 wdx4 := by rw [← hwdx4]; exact Below.drew (Below.refl _ _)
      rw [hwdx4] at hHeld ⊢
      clear hwdx4
      refine Tm 0 ?p0x4 ?v0x4 hHeld ?r0x4
      simp only [Act.put, Pa, Pb, Pc]
      refine Tk 1 ?p1x4 ?v1x4 ?y1x4 hHeld ?r1x4
      case y1x4 => intro wq hq; obtain ⟨x0, x1, x2, x3, x4, x5⟩ := HS.out wq hq; go_simp; try with_reducible rfl
      simp only [Act.put, Pa, Pb, Pc]
      refine Rd 2 ?p2x4 ?s2x4
      intro K hK
      go_simp
      refine (HGR.out _ hBwd).mono ?_
      rintro e v2 ⟨rfl, hb2⟩
      have hc2 := bel_up hBwd hb2 (Nat.le_refl _)
      clear hb2
      obtain ⟨a3, c3, w3, a4, c4, w4, r1, r2, o4, b4, b3⟩ := copy2A v2 aL cL s.l aS cS s.sp (HX.out.keep hc2).xl.at' (HX.out.keep hc2).xs.at' (by have := HM.out; omega)
      obtain ⟨a5, c5, h5, hx5, -⟩ := o4.at
      simp only [Value.slice.injEq, true_and] at h5
      obtain ⟨rfl, rfl⟩ := h5
      have hap := refApart_any a4 c4 (s.l ++ s.sp) w4 (by have := HM.out; rw [List.length_append]; omega) hx5.le hx5.at'
      rw [HA.out] at hap
      obtain ⟨nl, hnl⟩ : ∃ nl, (s.l ++ s.sp).length = nl := ⟨_, rfl⟩
      rw [hnl] at r2 hap
      have R1 := Hid_of r1
      have R2 := Hid_of r2
      have HAP := Hid_of hap
      have hc3 := bel_up hc2 b3 (Nat.le_refl _)
      have hc4 := bel_up hc2 b4 (Nat.le_refl _)
      clear r1 r2 o4 b4 b3 hx5 hnl hap
      refine hK.out _ _ hc2 (fun hHeld => ?_)
      clear hK K
      refine Tm 3 ?p3x4_2 ?v3x4_2 hHeld ?r3x4_2
      simp only [Act.put, Pa, Pb, Pc]
      refine Tm 4 ?p4x4_2 ?v4x4_2 hHeld ?r4x4_2
      simp only [Act.put, Pa, Pb, Pc]
      refine Tm 5 ?p5x4_2 ?v5x4_2 hHeld ?r5x4_2
      simp only [Act.put, Pa, Pb, Pc]
      refine Tk 6 ?p6x4_2 ?v6x4_2 ?y6x4_2 hHeld ?r6x4_2
      case y6x4_2 => intro wq hq; obtain ⟨x0, x1, x2, x3, x4, x5⟩ := HS.out wq hq; go_simp; try with_reducible rfl
      simp only [Act.put, Pa, Pb, Pc]
      refine Tm 7 ?p7x4_2 ?v7x4_2 hHeld ?r7x4_2
      simp only [Act.put, Pa, Pb, Pc]
      refine Tm 8 ?p8x4_2 ?v8x4_2 hHeld ?r8x4_2
      simp only [Act.put, Pa, Pb, Pc]
      refine Tm 9 ?p9x4_2 ?v9x4_2 hHeld ?r9x4_2
      simp only [Act.put, Pa, Pb, Pc]
      refine Tm 10 ?p10x4_2 ?v10x4_2 hHeld ?r10x4_2
      simp only [Act.put, Pa, Pb, Pc]
      refine Tm 11 ?p11x4_2 ?v11x4_2 hHeld ?r11x4_2
      simp only [Act.put, Pa, Pb, Pc]
      refine Tk 12 ?p12x4_2 ?v12x4_2 ?y12x4_2 hHeld ?r12x4_2
      case y12x4_2 => intro wq hq; obtain ⟨x0, x1, x2, x3, x4, x5⟩ := HS.out wq hq; go_simp; try with_reducible rfl
      simp only [Act.put, Pa, Pb, Pc]
      refine Tm 14 ?p14x4_2 ?v14x4_2 hHeld ?r14x4_2
      simp only [Act.put, Pa, Pb, Pc]
      refine Tk 15 ?p15x4_2 ?v15x4_2 ?y15x4_2 hHeld ?r15x4_2
      case y15x4_2 => intro wq hq; obtain ⟨x0, x1, x2, x3, x4, x5⟩ := HS.out wq hq; go_simp; try with_reducible rfl
      simp only [Act.put, Pa, Pb, Pc]
      refine Rd 13 ?p13x4_2 ?s13x4_2
      intro K hK
      refine step_append_guarded (by rfl) _ _ 22 rfl _ _ rfl rfl _ _ (R1.out _) ?_
      refine hK.out _ _ hc3 (fun hHeld => ?_)
      clear hK K
      refine Rd 16 ?p16x4_2_13 ?s16x4_2_13
      intro K hK
      refine step_append_guarded (by rfl) _ _ 22 rfl _ _ rfl rfl _ _ (R2.out _) ?_
      refine hK.out _ _ hc4 (fun hHeld => ?_)
      clear hK K
      refine Rd 17 ?p17x4_2_13_16 ?s17x4_2_13_16
      intro K hK
      go_simp
      refine HAP.out.mono ?_
      rintro e v17 ⟨rfl, hb17⟩
      have hc17 := bel_up hc4 hb17 (Nat.le_refl _)
      clear hb17
      refine hK.out _ _ hc17 (fun hHeld => ?_)
      clear hK K
      refine Tm 18 ?p18x4_2_13_16_17 ?v18x4_2_13_16_17 hHeld ?r18x4_2_13_16_17
      simp only [Act.put, Pa, Pb, Pc]
      refine Tm 19 ?p19x4_2_13_16_17 ?v19x4_2_13_16_17 hHeld ?r19x4_2_13_16_17
      simp only [Act.put, Pa, Pb, Pc]
      refine Tm 20 ?p20x4_2_13_16_17 ?v20x4_2_13_16_17 hHeld ?r20x4_2_13_16_17
      simp only [Act.put, Pa, Pb, Pc]
      refine Tm 21 ?p21x4_2_13_16_17 ?v21x4_2_13_16_17 hHeld ?r21x4_2_13_16_17
      simp only [Act.put, Pa, Pb, Pc]
      refine Tk 22 ?p22x4_2_13_16_17 ?v22x4_2_13_16_17 ?y22x4_2_13_16_17 hHeld ?r22x4_2_13_16_17
      case y22x4_2_13_16_17 => intro wq hq; obtain ⟨x0, x1, x2, x3, x4, x5⟩ := HS.out wq hq; go_simp; try with_reducible rfl
      simp only [Act.put, Pa, Pb, Pc]
      refine Tm 23 ?p23x4_2_13_16_17 ?v23x4_2_13_16_17 hHeld ?r23x4_2_13_16_17
      simp only [Act.put, Pa, Pb, Pc]
      refine Tm 24 ?p24x4_2_13_16_17 ?v24x4_2_13_16_17 hHeld ?r24x4_2_13_16_17
      simp only [Act.put, Pa, Pb, Pc]
      refine Tm 25 ?p25x4_2_13_16_17 ?v25x4_2_13_16_17 hHeld ?r25x4_2_13_16_17
      simp only [Act.put, Pa, Pb, Pc]
      refine Tm 26 ?p26x4_2_13_16_17 ?v26x4_2_13_16_17 hHeld ?r26x4_2_13_16_17
      simp only [Act.put, Pa, Pb, Pc]
      refine Tk 27 ?p27x4_2_13_16_17 ?v27x4_2_13_16_17 ?y27x4_2_13_16_17 hHeld ?r27x4_2_13_16_17
      case y27x4_2_13_16_17 => intro wq hq; obtain ⟨x0, x1, x2, x3, x4, x5⟩ := HS.out wq hq; go_simp; try with_reducible rfl
      simp only [Act.put, Pa, Pb, Pc]
      refine Tm 28 ?p28x4_2_13_16_17 ?v28x4_2_13_16_17 hHeld ?r28x4_2_13_16_17
      simp only [Act.put, Pa, Pb, Pc]
      refine Tm 29 ?p29x4_2_13_16_17 ?v29x4_2_13_16_17 hHeld ?r29x4_2_13_16_17
      simp only [Act.put, Pa, Pb, Pc]
      refine Tm 30 ?p30x4_2_13_16_17 ?v30x4_2_13_16_17 hHeld ?r30x4_2_13_16_17
      simp only [Act.put, Pa, Pb, Pc]
      refine Ts 31 ?p31x4_2_13_16_17 hHeld ?r31x4_2_13_16_17
      simp only [Act.put, Pa, Pb, Pc]
      refine Ts 32 ?p32x4_2_13_16_17 hHeld ?r32x4_2_13_16_17
      simp only [Act.put, Pa, Pb, Pc]
      refine Ts 33 ?p33x4_2_13_16_17 hHeld ?r33x4_2_13_16_17
      simp only [Act.put, Pa, Pb, Pc]
      refine Ts 34 ?p34x4_2_13_16_17 hHeld ?r34x4_2_13_16_17
      simp only [Act.put, Pa, Pb, Pc]
      refine Ts 35 ?p35x4_2_13_16_17 hHeld ?r35x4_2_13_16_17
      simp only [Act.put, Pa, Pb, Pc]
      refine Ts 36 ?p36x4_2_13_16_17 hHeld ?r36x4_2_13_16_17
      simp only [Act.put, Pa, Pb, Pc]
      refine Tm 37 ?p37x4_2_13_16_17 ?v37x4_2_13_16_17 hHeld ?r37x4_2_13_16_17
      simp only [Act.put, Pa, Pb, Pc]
      refine wpAnyH_done (by kernel_rfl) ?_ _
      have HC := Hid_of hc17
      clear hc17 hHeld hBwd HS
      go_wp2_with fail
      go_meet
      case rel => exact ⟨rfl, HC.out⟩
    case rest =>
    obtain ⟨rfl, hb⟩ := hcut
    obtain ⟨x0, x1, x2, x3, x4, x5⟩ := HS.out _ hb
    have HBX := Hid_of hb
    have HBC := Hid_of (bel_up HB1.out hb (Nat.le_refl _))
    clear hb
    go_wp2
    go_ret
    exact ⟨by rw [HR.out]; rfl, HBC.out⟩
  have d3 : decide (s.hole < -1) = false := decide_eq_false h2
  by_cases h3 : (s.l.length : Int) ≤ s.hole
  · have HR : Hid (rm s = false) := Hid_of (by rw [HRM.out]; unfold Mb.mb; rw [if_neg h1, if_neg (by omega), if_pos (.inr h3)])
    have d4 : decide ((s.l.length : Int) ≤ s.hole) = true := decide_eq_true h3
    clear hap hg8 HMB HFL HRM h1 h2 h3
    go_enter Try.func55, Try.ntmps55
    go_upto_region 1 with fail
    rw [HW1.out]
    clear HW1 x0 x1 x2 x3 x4 x5
    go_cut [40] from 3 to 40 (fun u wx => u = .bool true ∧ Below W1.heap.size W1 wx)
    case first =>
      refine wp_region_held_drew (S := fun wq => Below (W1).heap.size (W1) wq) (by kernel_rfl) (Below.drew (Below.refl _ _)) (fun hHeld => ?_)
      obtain ⟨wdx5, hwdx5⟩ : ∃ wd, W1.drew = wd := ⟨_, rfl⟩
      have hBwd : Below W1.heap.size W1 wdx5 := by rw [← hwdx5]; exact Below.drew (Below.refl _ _)
      rw [hwdx5] at hHeld ⊢
      clear hwdx5
      refine Tm 0 ?p0x5 ?v0x5 hHeld ?r0x5
      simp only [Act.put, Pa, Pb, Pc]
      refine Tk 1 ?p1x5 ?v1x5 ?y1x5 hHeld ?r1x5
      case y1x5 => intro wq hq; obtain ⟨x0, x1, x2, x3, x4, x5⟩ := HS.out wq hq; go_simp; try with_reducible rfl
      simp only [Act.put, Pa, Pb, Pc]
      refine Rd 2 ?p2x5 ?s2x5
      intro K hK
      go_simp
      refine (HGR.out _ hBwd).mono ?_
      rintro e v2 ⟨rfl, hb2⟩
      have hc2 := bel_up hBwd hb2 (Nat.le_refl _)
      clear hb2
      obtain ⟨a3, c3, w3, a4, c4, w4, r1, r2, o4, b4, b3⟩ := copy2A v2 aL cL s.l aS cS s.sp (HX.out.keep hc2).xl.at' (HX.out.keep hc2).xs.at' (by have := HM.out; omega)
      obtain ⟨a5, c5, h5, hx5, -⟩ := o4.at
      simp only [Value.slice.injEq, true_and] at h5
      obtain ⟨rfl, rfl⟩ := h5
      have hap := refApart_any a4 c4 (s.l ++ s.sp) w4 (by have := HM.out; rw [List.length_append]; omega) hx5.le hx5.at'
      rw [HA.out] at hap
      obtain ⟨nl, hnl⟩ : ∃ nl, (s.l ++ s.sp).length = nl := ⟨_, rfl⟩
      rw [hnl] at r2 hap
      have R1 := Hid_of r1
      have R2 := Hid_of r2
      have HAP := Hid_of hap
      have hc3 := bel_up hc2 b3 (Nat.le_refl _)
      have hc4 := bel_up hc2 b4 (Nat.le_refl _)
      clear r1 r2 o4 b4 b3 hx5 hnl hap
      refine hK.out _ _ hc2 (fun hHeld => ?_)
      clear hK K
      refine Tm 3 ?p3x5_2 ?v3x5_2 hHeld ?r3x5_2
      simp only [Act.put, Pa, Pb, Pc]
      refine Tm 4 ?p4x5_2 ?v4x5_2 hHeld ?r4x5_2
      simp only [Act.put, Pa, Pb, Pc]
      refine Tm 5 ?p5x5_2 ?v5x5_2 hHeld ?r5x5_2
      simp only [Act.put, Pa, Pb, Pc]
      refine Tk 6 ?p6x5_2 ?v6x5_2 ?y6x5_2 hHeld ?r6x5_2
      case y6x5_2 => intro wq hq; obtain ⟨x0, x1, x2, x3, x4, x5⟩ := HS.out wq hq; go_simp; try with_reducible rfl
      simp only [Act.put, Pa, Pb, Pc]
      refine Tm 7 ?p7x5_2 ?v7x5_2 hHeld ?r7x5_2
      simp only [Act.put, Pa, Pb, Pc]
      refine Tm 8 ?p8x5_2 ?v8x5_2 hHeld ?r8x5_2
      simp only [Act.put, Pa, Pb, Pc]
      refine Tm 9 ?p9x5_2 ?v9x5_2 hHeld ?r9x5_2
      simp only [Act.put, Pa, Pb, Pc]
      refine Tm 10 ?p10x5_2 ?v10x5_2 hHeld ?r10x5_2
      simp only [Act.put, Pa, Pb, Pc]
      refine Tm 11 ?p11x5_2 ?v11x5_2 hHeld ?r11x5_2
      simp only [Act.put, Pa, Pb, Pc]
      refine Tk 12 ?p12x5_2 ?v12x5_2 ?y12x5_2 hHeld ?r12x5_2
      case y12x5_2 => intro wq hq; obtain ⟨x0, x1, x2, x3, x4, x5⟩ := HS.out wq hq; go_simp; try with_reducible rfl
      simp only [Act.put, Pa, Pb, Pc]
      refine Tm 14 ?p14x5_2 ?v14x5_2 hHeld ?r14x5_2
      simp only [Act.put, Pa, Pb, Pc]
      refine Tk 15 ?p15x5_2 ?v15x5_2 ?y15x5_2 hHeld ?r15x5_2
      case y15x5_2 => intro wq hq; obtain ⟨x0, x1, x2, x3, x4, x5⟩ := HS.out wq hq; go_simp; try with_reducible rfl
      simp only [Act.put, Pa, Pb, Pc]
      refine Rd 13 ?p13x5_2 ?s13x5_2
      intro K hK
      refine step_append_guarded (by rfl) _ _ 22 rfl _ _ rfl rfl _ _ (R1.out _) ?_
      refine hK.out _ _ hc3 (fun hHeld => ?_)
      clear hK K
      refine Rd 16 ?p16x5_2_13 ?s16x5_2_13
      intro K hK
      refine step_append_guarded (by rfl) _ _ 22 rfl _ _ rfl rfl _ _ (R2.out _) ?_
      refine hK.out _ _ hc4 (fun hHeld => ?_)
      clear hK K
      refine Rd 17 ?p17x5_2_13_16 ?s17x5_2_13_16
      intro K hK
      go_simp
      refine HAP.out.mono ?_
      rintro e v17 ⟨rfl, hb17⟩
      have hc17 := bel_up hc4 hb17 (Nat.le_refl _)
      clear hb17
      refine hK.out _ _ hc17 (fun hHeld => ?_)
      clear hK K
      refine Tm 18 ?p18x5_2_13_16_17 ?v18x5_2_13_16_17 hHeld ?r18x5_2_13_16_17
      simp only [Act.put, Pa, Pb, Pc]
      refine Tm 19 ?p19x5_2_13_16_17 ?v19x5_2_13_16_17 hHeld ?r19x5_2_13_16_17
      simp only [Act.put, Pa, Pb, Pc]
      refine Tm 20 ?p20x5_2_13_16_17 ?v20x5_2_13_16_17 hHeld ?r20x5_2_13_16_17
      simp only [Act.put, Pa, Pb, Pc]
      refine Tm 21 ?p21x5_2_13_16_17 ?v21x5_2_13_16_17 hHeld ?r21x5_2_13_16_17
      simp only [Act.put, Pa, Pb, Pc]
      refine Tk 22 ?p22x5_2_13_16_17 ?v22x5_2_13_16_17 ?y22x5_2_13_16_17 hHeld ?r22x5_2_13_16_17
      case y22x5_2_13_16_17 => intro wq hq; obtain ⟨x0, x1, x2, x3, x4, x5⟩ := HS.out wq hq; go_simp; try with_reducible rfl
      simp only [Act.put, Pa, Pb, Pc]
      refine Tm 23 ?p23x5_2_13_16_17 ?v23x5_2_13_16_17 hHeld ?r23x5_2_13_16_17
      simp only [Act.put, Pa, Pb, Pc]
      refine Tm 24 ?p24x5_2_13_16_17 ?v24x5_2_13_16_17 hHeld ?r24x5_2_13_16_17
      simp only [Act.put, Pa, Pb, Pc]
      refine Tm 25 ?p25x5_2_13_16_17 ?v25x5_2_13_16_17 hHeld ?r25x5_2_13_16_17
      simp only [Act.put, Pa, Pb, Pc]
      refine Tm 26 ?p26x5_2_13_16_17 ?v26x5_2_13_16_17 hHeld ?r26x5_2_13_16_17
      simp only [Act.put, Pa, Pb, Pc]
      refine Tk 27 ?p27x5_2_13_16_17 ?v27x5_2_13_16_17 ?y27x5_2_13_16_17 hHeld ?r27x5_2_13_16_17
      case y27x5_2_13_16_17 => intro wq hq; obtain ⟨x0, x1, x2, x3, x4, x5⟩ := HS.out wq hq; go_simp; try with_reducible rfl
      simp only [Act.put, Pa, Pb, Pc]
      refine Tm 28 ?p28x5_2_13_16_17 ?v28x5_2_13_16_17 hHeld ?r28x5_2_13_16_17
      simp only [Act.put, Pa, Pb, Pc]
      refine Tm 29 ?p29x5_2_13_16_17 ?v29x5_2_13_16_17 hHeld ?r29x5_2_13_16_17
      simp only [Act.put, Pa, Pb, Pc]
      refine Tm 30 ?p30x5_2_13_16_17 ?v30x5_2_13_16_17 hHeld ?r30x5_2_13_16_17
      simp only [Act.put, Pa, Pb, Pc]
      refine Tm 31 ?p31x5_2_13_16_17 ?v31x5_2_13_16_17 hHeld ?r31x5_2_13_16_17
      simp only [Act.put, Pa, Pb, Pc]
      refine Tk 32 ?p32x5_2_13_16_17 ?v32x5_2_13_16_17 ?y32x5_2_13_16_17 hHeld ?r32x5_2_13_16_17
      case y32x5_2_13_16_17 => intro wq hq; obtain ⟨x0, x1, x2, x3, x4, x5⟩ := HS.out wq hq; go_simp; try with_reducible rfl
      simp only [Act.put, Pa, Pb, Pc]
      refine Tm 33 ?p33x5_2_13_16_17 ?v33x5_2_13_16_17 hHeld ?r33x5_2_13_16_17
      simp only [Act.put, Pa, Pb, Pc]
      refine Tk 34 ?p34x5_2_13_16_17 ?v34x5_2_13_16_17 ?y34x5_2_13_16_17 hHeld ?r34x5_2_13_16_17
      case y34x5_2_13_16_17 => intro wq hq; obtain ⟨x0, x1, x2, x3, x4, x5⟩ := HS.out wq hq; go_simp; try with_reducible rfl
      simp only [Act.put, Pa, Pb, Pc]
      refine Tm 35 ?p35x5_2_13_16_17 ?v35x5_2_13_16_17 hHeld ?r35x5_2_13_16_17
      simp only [Act.put, Pa, Pb, Pc]
      refine Tm 36 ?p36x5_2_13_16_17 ?v36x5_2_13_16_17 hHeld ?r36x5_2_13_16_17
      simp only [Act.put, Pa, Pb, Pc]
      refine Tm 37 ?p37x5_2_13_16_17 ?v37x5_2_13_16_17 hHeld ?r37x5_2_13_16_17
      simp only [Act.put, Pa, Pb, Pc]
      refine wpAnyH_done (by kernel_rfl) ?_ _
      have HC := Hid_of hc17
      clear hc17 hHeld hBwd HS
      go_wp2_with fail
      go_meet
      case rel => exact ⟨rfl, HC.out⟩
    case rest =>
    obtain ⟨rfl, hb⟩ := hcut
    obtain ⟨x0, x1, x2, x3, x4, x5⟩ := HS.out _ hb
    have HBX := Hid_of hb
    have HBC := Hid_of (bel_up HB1.out hb (Nat.le_refl _))
    clear hb
    go_wp2
    go_ret
    exact ⟨by rw [HR.out]; rfl, HBC.out⟩
  have d4 : decide ((s.l.length : Int) ≤ s.hole) = false := decide_eq_false h3
  have HN := Hid_of (show ¬ s.ep < 1 ∧ ¬ s.hole < -1 ∧ ¬ (s.l.length : Int) ≤ s.hole from ⟨h1, h2, h3⟩)
  have HAPP := Hid_of hap
  clear hap hg8 h1 h2 h3 HMB
  go_enter Try.func55, Try.ntmps55
  go_upto_region 1 with fail
  rw [HW1.out]
  clear HW1 x0 x1 x2 x3 x4 x5
  go_cut [40] from 3 to 40 (fun u wx => u = .bool false ∧ Below W1.heap.size W1 wx)
  case first =>
    refine wp_region_held_drew (S := fun wq => Below (W1).heap.size (W1) wq) (by kernel_rfl) (Below.drew (Below.refl _ _)) (fun hHeld => ?_)
    obtain ⟨wdx6, hwdx6⟩ : ∃ wd, W1.drew = wd := ⟨_, rfl⟩
    have hBwd : Below W1.heap.size W1 wdx6 := by rw [← hwdx6]; exact Below.drew (Below.refl _ _)
    rw [hwdx6] at hHeld ⊢
    clear hwdx6
    refine Tm 0 ?p0x6 ?v0x6 hHeld ?r0x6
    simp only [Act.put, Pa, Pb, Pc]
    refine Tk 1 ?p1x6 ?v1x6 ?y1x6 hHeld ?r1x6
    case y1x6 => intro wq hq; obtain ⟨x0, x1, x2, x3, x4, x5⟩ := HS.out wq hq; go_simp; try with_reducible rfl
    simp only [Act.put, Pa, Pb, Pc]
    refine Rd 2 ?p2x6 ?s2x6
    intro K hK
    go_simp
    refine (HGR.out _ hBwd).mono ?_
    rintro e v2 ⟨rfl, hb2⟩
    have hc2 := bel_up hBwd hb2 (Nat.le_refl _)
    clear hb2
    obtain ⟨a3, c3, w3, a4, c4, w4, r1, r2, o4, b4, b3⟩ := copy2A v2 aL cL s.l aS cS s.sp (HX.out.keep hc2).xl.at' (HX.out.keep hc2).xs.at' (by have := HM.out; omega)
    obtain ⟨a5, c5, h5, hx5, -⟩ := o4.at
    simp only [Value.slice.injEq, true_and] at h5
    obtain ⟨rfl, rfl⟩ := h5
    have hap := refApart_any a4 c4 (s.l ++ s.sp) w4 (by have := HM.out; rw [List.length_append]; omega) hx5.le hx5.at'
    rw [HA.out] at hap
    obtain ⟨nl, hnl⟩ : ∃ nl, (s.l ++ s.sp).length = nl := ⟨_, rfl⟩
    rw [hnl] at r2 hap
    have R1 := Hid_of r1
    have R2 := Hid_of r2
    have HAP := Hid_of hap
    have hc3 := bel_up hc2 b3 (Nat.le_refl _)
    have hc4 := bel_up hc2 b4 (Nat.le_refl _)
    clear r1 r2 o4 b4 b3 hx5 hnl hap
    refine hK.out _ _ hc2 (fun hHeld => ?_)
    clear hK K
    refine Tm 3 ?p3x6_2 ?v3x6_2 hHeld ?r3x6_2
    simp only [Act.put, Pa, Pb, Pc]
    refine Tm 4 ?p4x6_2 ?v4x6_2 hHeld ?r4x6_2
    simp only [Act.put, Pa, Pb, Pc]
    refine Tm 5 ?p5x6_2 ?v5x6_2 hHeld ?r5x6_2
    simp only [Act.put, Pa, Pb, Pc]
    refine Tk 6 ?p6x6_2 ?v6x6_2 ?y6x6_2 hHeld ?r6x6_2
    case y6x6_2 => intro wq hq; obtain ⟨x0, x1, x2, x3, x4, x5⟩ := HS.out wq hq; go_simp; try with_reducible rfl
    simp only [Act.put, Pa, Pb, Pc]
    refine Tm 7 ?p7x6_2 ?v7x6_2 hHeld ?r7x6_2
    simp only [Act.put, Pa, Pb, Pc]
    refine Tm 8 ?p8x6_2 ?v8x6_2 hHeld ?r8x6_2
    simp only [Act.put, Pa, Pb, Pc]
    refine Tm 9 ?p9x6_2 ?v9x6_2 hHeld ?r9x6_2
    simp only [Act.put, Pa, Pb, Pc]
    refine Tm 10 ?p10x6_2 ?v10x6_2 hHeld ?r10x6_2
    simp only [Act.put, Pa, Pb, Pc]
    refine Tm 11 ?p11x6_2 ?v11x6_2 hHeld ?r11x6_2
    simp only [Act.put, Pa, Pb, Pc]
    refine Tk 12 ?p12x6_2 ?v12x6_2 ?y12x6_2 hHeld ?r12x6_2
    case y12x6_2 => intro wq hq; obtain ⟨x0, x1, x2, x3, x4, x5⟩ := HS.out wq hq; go_simp; try with_reducible rfl
    simp only [Act.put, Pa, Pb, Pc]
    refine Tm 14 ?p14x6_2 ?v14x6_2 hHeld ?r14x6_2
    simp only [Act.put, Pa, Pb, Pc]
    refine Tk 15 ?p15x6_2 ?v15x6_2 ?y15x6_2 hHeld ?r15x6_2
    case y15x6_2 => intro wq hq; obtain ⟨x0, x1, x2, x3, x4, x5⟩ := HS.out wq hq; go_simp; try with_reducible rfl
    simp only [Act.put, Pa, Pb, Pc]
    refine Rd 13 ?p13x6_2 ?s13x6_2
    intro K hK
    refine step_append_guarded (by rfl) _ _ 22 rfl _ _ rfl rfl _ _ (R1.out _) ?_
    refine hK.out _ _ hc3 (fun hHeld => ?_)
    clear hK K
    refine Rd 16 ?p16x6_2_13 ?s16x6_2_13
    intro K hK
    refine step_append_guarded (by rfl) _ _ 22 rfl _ _ rfl rfl _ _ (R2.out _) ?_
    refine hK.out _ _ hc4 (fun hHeld => ?_)
    clear hK K
    refine Rd 17 ?p17x6_2_13_16 ?s17x6_2_13_16
    intro K hK
    go_simp
    refine HAP.out.mono ?_
    rintro e v17 ⟨rfl, hb17⟩
    have hc17 := bel_up hc4 hb17 (Nat.le_refl _)
    clear hb17
    refine hK.out _ _ hc17 (fun hHeld => ?_)
    clear hK K
    refine Tm 18 ?p18x6_2_13_16_17 ?v18x6_2_13_16_17 hHeld ?r18x6_2_13_16_17
    simp only [Act.put, Pa, Pb, Pc]
    refine Tm 19 ?p19x6_2_13_16_17 ?v19x6_2_13_16_17 hHeld ?r19x6_2_13_16_17
    simp only [Act.put, Pa, Pb, Pc]
    refine Tm 20 ?p20x6_2_13_16_17 ?v20x6_2_13_16_17 hHeld ?r20x6_2_13_16_17
    simp only [Act.put, Pa, Pb, Pc]
    refine Tm 21 ?p21x6_2_13_16_17 ?v21x6_2_13_16_17 hHeld ?r21x6_2_13_16_17
    simp only [Act.put, Pa, Pb, Pc]
    refine Tk 22 ?p22x6_2_13_16_17 ?v22x6_2_13_16_17 ?y22x6_2_13_16_17 hHeld ?r22x6_2_13_16_17
    case y22x6_2_13_16_17 => intro wq hq; obtain ⟨x0, x1, x2, x3, x4, x5⟩ := HS.out wq hq; go_simp; try with_reducible rfl
    simp only [Act.put, Pa, Pb, Pc]
    refine Tm 23 ?p23x6_2_13_16_17 ?v23x6_2_13_16_17 hHeld ?r23x6_2_13_16_17
    simp only [Act.put, Pa, Pb, Pc]
    refine Tm 24 ?p24x6_2_13_16_17 ?v24x6_2_13_16_17 hHeld ?r24x6_2_13_16_17
    simp only [Act.put, Pa, Pb, Pc]
    refine Tm 25 ?p25x6_2_13_16_17 ?v25x6_2_13_16_17 hHeld ?r25x6_2_13_16_17
    simp only [Act.put, Pa, Pb, Pc]
    refine Tm 26 ?p26x6_2_13_16_17 ?v26x6_2_13_16_17 hHeld ?r26x6_2_13_16_17
    simp only [Act.put, Pa, Pb, Pc]
    refine Tk 27 ?p27x6_2_13_16_17 ?v27x6_2_13_16_17 ?y27x6_2_13_16_17 hHeld ?r27x6_2_13_16_17
    case y27x6_2_13_16_17 => intro wq hq; obtain ⟨x0, x1, x2, x3, x4, x5⟩ := HS.out wq hq; go_simp; try with_reducible rfl
    simp only [Act.put, Pa, Pb, Pc]
    refine Tm 28 ?p28x6_2_13_16_17 ?v28x6_2_13_16_17 hHeld ?r28x6_2_13_16_17
    simp only [Act.put, Pa, Pb, Pc]
    refine Tm 29 ?p29x6_2_13_16_17 ?v29x6_2_13_16_17 hHeld ?r29x6_2_13_16_17
    simp only [Act.put, Pa, Pb, Pc]
    refine Tm 30 ?p30x6_2_13_16_17 ?v30x6_2_13_16_17 hHeld ?r30x6_2_13_16_17
    simp only [Act.put, Pa, Pb, Pc]
    refine Tm 31 ?p31x6_2_13_16_17 ?v31x6_2_13_16_17 hHeld ?r31x6_2_13_16_17
    simp only [Act.put, Pa, Pb, Pc]
    refine Tk 32 ?p32x6_2_13_16_17 ?v32x6_2_13_16_17 ?y32x6_2_13_16_17 hHeld ?r32x6_2_13_16_17
    case y32x6_2_13_16_17 => intro wq hq; obtain ⟨x0, x1, x2, x3, x4, x5⟩ := HS.out wq hq; go_simp; try with_reducible rfl
    simp only [Act.put, Pa, Pb, Pc]
    refine Tm 33 ?p33x6_2_13_16_17 ?v33x6_2_13_16_17 hHeld ?r33x6_2_13_16_17
    simp only [Act.put, Pa, Pb, Pc]
    refine Tk 34 ?p34x6_2_13_16_17 ?v34x6_2_13_16_17 ?y34x6_2_13_16_17 hHeld ?r34x6_2_13_16_17
    case y34x6_2_13_16_17 => intro wq hq; obtain ⟨x0, x1, x2, x3, x4, x5⟩ := HS.out wq hq; go_simp; try with_reducible rfl
    simp only [Act.put, Pa, Pb, Pc]
    refine Tm 35 ?p35x6_2_13_16_17 ?v35x6_2_13_16_17 hHeld ?r35x6_2_13_16_17
    simp only [Act.put, Pa, Pb, Pc]
    refine Tm 36 ?p36x6_2_13_16_17 ?v36x6_2_13_16_17 hHeld ?r36x6_2_13_16_17
    simp only [Act.put, Pa, Pb, Pc]
    refine Tm 37 ?p37x6_2_13_16_17 ?v37x6_2_13_16_17 hHeld ?r37x6_2_13_16_17
    simp only [Act.put, Pa, Pb, Pc]
    refine wpAnyH_done (by kernel_rfl) ?_ _
    have HC := Hid_of hc17
    clear hc17 hHeld hBwd HS
    go_wp2_with fail
    go_meet
    case rel => exact ⟨rfl, HC.out⟩
  case rest =>
  obtain ⟨rfl, hb⟩ := hcut
  obtain ⟨x0, x1, x2, x3, x4, x5⟩ := HS.out _ hb
  have HBX := Hid_of hb
  have HBC := Hid_of (bel_up HB1.out hb (Nat.le_refl _))
  clear hb
  clear HGR HA d1 d2 d3 d4
  by_cases h4 : s.hole = -1
  · have d5 : decide (s.hole < 0) = true := decide_eq_true (by omega)
    have HR : Hid (rm s = (!q && s.gone == -1)) := Hid_of (by rw [HRM.out]; unfold Mb.mb; rw [if_neg HN.out.1, if_pos h4, HFL.out])
    clear h4 HRM HN HFL HX HM HAPP HS
    cases q with
    | true =>
      go_wp2
      go_ret
      exact ⟨by rw [HR.out]; rfl, HBC.out⟩
    | false =>
      go_wp2
      go_ret
      exact ⟨by rw [HR.out]; rfl, HBC.out⟩
  have d5 : decide (s.hole < 0) = false := decide_eq_false (by have := HN.out.2.1; omega)
  obtain ⟨i, hi⟩ : ∃ i : Nat, s.hole = i := Int.eq_ofNat_of_zero_le (by have := HN.out.2.1; omega)
  have hil : i < s.l.length := by have := HN.out.2.2; omega
  cases q with
  | false =>
    obtain ⟨g, off, hal, cc⟩ := (HX.out.keep HBX.out).xl.at'.getI i hil
    have HR : Hid (rm s = (s.gone == s.l[i])) := Hid_of (by rw [HRM.out]; unfold Mb.mb; rw [if_neg HN.out.1, if_neg h4, if_neg (by have := HN.out; omega), HFL.out, hi]; simp [hil])
    have HD : Hid (∀ n, Below w.heap.size w (wc.drewN n)) := Hid_of fun n => below_drewN HBC.out n
    subst hal
    rw [hi] at x3 d5
    have hii : (i : Int) < (s.l.length : Int) := by omega
    generalize s.l[i] = x at *
    clear HRM HN HFL HX HM HAPP HS h4 hi
    go_wp2_with fail
    go_quiet (fail)
    go_wp2
    go_ret
    exact ⟨by rw [HR.out]; rfl, HD.out _⟩
  | true =>
    have HR : Hid (rm s = Mb.apB (s.l ++ (s.sp ++ [s.gone]))) := Hid_of (by rw [HRM.out]; unfold Mb.mb; rw [if_neg HN.out.1, if_neg h4, if_neg (by have := HN.out; omega), HFL.out]; rfl)
    have HA1 := Hid_of (refAt_any aL cL s.l s.gone wc (by have := HM.out; omega) (HX.out.keep HBX.out).xl.at')
    have HA2 := Hid_of (refAt_any aS cS s.sp s.gone wc (by have := HM.out; omega) (HX.out.keep HBX.out).xs.at')
    clear HRM HN HFL HX HS h4 hi hil HM
    by_cases k1 : 0 ≤ s.gone
    case neg =>
      have e1 : decide (0 ≤ s.gone) = false := decide_eq_false k1
      have HZ : Hid (Mb.apB (s.l ++ (s.sp ++ [s.gone])) = false) := Hid_of (Mb.apB_no fun e => k1 (e.1 _ (by simp)).1)
      clear k1 HA1 HA2 HAPP
      go_wp2
      go_ret
      exact ⟨by rw [HR.out, HZ.out]; rfl, HBC.out⟩
    case pos =>
    have e1 : decide (0 ≤ s.gone) = true := decide_eq_true k1
    by_cases k2 : s.gone ≤ 63
    case neg =>
      have e2 : decide (s.gone ≤ 63) = false := decide_eq_false k2
      have HZ : Hid (Mb.apB (s.l ++ (s.sp ++ [s.gone])) = false) := Hid_of (Mb.apB_no fun e => k2 (e.1 _ (by simp)).2)
      clear k1 k2 HA1 HA2 HAPP
      go_wp2
      go_ret
      exact ⟨by rw [HR.out, HZ.out]; rfl, HBC.out⟩
    case pos =>
    have e2 : decide (s.gone ≤ 63) = true := decide_eq_true k2
    have HAP3 := Hid_of (Mb.ap3 HAPP.out ⟨k1, k2⟩)
    have ha1 := HA1.out
    by_cases k3 : Mb.pl s.l s.gone < 0
    case neg =>
      have e3 : decide (Mb.pl s.l s.gone < 0) = false := decide_eq_false k3
      have HZ : Hid (Mb.apB (s.l ++ (s.sp ++ [s.gone])) = false) := Hid_of (Mb.apB_no fun e => k3 (Mb.pl_neg.2 (HAP3.out.1 e).1))
      clear k1 k2 k3 HA1 HA2 HAPP HAP3
      generalize Mb.pl s.l s.gone = p at *
      go_wp2_with fail
      refine ha1.mono ?_
      rintro e w2 ⟨rfl, hw⟩
      subst w2
      clear ha1
      go_wp2
      go_ret
      exact ⟨by rw [HR.out, HZ.out]; rfl, HBC.out⟩
    case pos =>
    have e3 : decide (Mb.pl s.l s.gone < 0) = true := decide_eq_true k3
    have K3 := Hid_of (Mb.pl_neg.1 k3)
    have ha2 := HA2.out
    by_cases k4 : Mb.pl s.sp s.gone < 0
    case neg =>
      have e4 : decide (Mb.pl s.sp s.gone < 0) = false := decide_eq_false k4
      have HZ : Hid (Mb.apB (s.l ++ (s.sp ++ [s.gone])) = false) := Hid_of (Mb.apB_no fun e => k4 (Mb.pl_neg.2 (HAP3.out.1 e).2))
      clear k1 k2 k3 k4 HA1 HA2 HAPP HAP3 K3
      generalize Mb.pl s.l s.gone = p at *
      generalize Mb.pl s.sp s.gone = p2 at *
      go_wp2_with fail
      refine ha1.mono ?_
      rintro e w2 ⟨rfl, hw⟩
      subst w2
      clear ha1
      go_wp2_with fail
      refine ha2.mono ?_
      rintro e w2 ⟨rfl, hw⟩
      subst w2
      clear ha2
      go_wp2
      go_ret
      exact ⟨by rw [HR.out, HZ.out]; rfl, HBC.out⟩
    case pos =>
    have e4 : decide (Mb.pl s.sp s.gone < 0) = true := decide_eq_true k4
    have HZ : Hid (Mb.apB (s.l ++ (s.sp ++ [s.gone])) = true) := Hid_of (Mb.apB_eq.2 (HAP3.out.2 ⟨K3.out, Mb.pl_neg.1 k4⟩))
    clear k1 k2 k3 k4 HA1 HA2 HAPP HAP3 K3
    generalize Mb.pl s.l s.gone = p at *
    generalize Mb.pl s.sp s.gone = p2 at *
    go_wp2_with fail
    refine ha1.mono ?_
    rintro e w2 ⟨rfl, hw⟩
    subst w2
    clear ha1
    go_wp2_with fail
    refine ha2.mono ?_
    rintro e w2 ⟨rfl, hw⟩
    subst w2
    clear ha2
    go_wp2
    go_ret
    exact ⟨by rw [HR.out, HZ.out]; rfl, HBC.out⟩
end
end Go.Proofs.Ytacfndfkoiifhaa
