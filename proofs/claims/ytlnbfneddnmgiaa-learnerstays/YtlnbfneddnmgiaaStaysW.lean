/-
  The law LearnerStays, walked.
-/
import Derived.Test.YtlnbfneddnmgiaaDD
import Derived.Test.YtlnbfneddnmgiaaSM
namespace Go.Proofs.Ytlnbfneddnmgiaa
open Go.RowKit Go.Maps
set_option linter.unusedVariables false
open M (E V W fup)

set_option maxRecDepth 100000 in
set_option maxHeartbeats 8000000 in
theorem stays_walk (n : Int) (a : Option Addr) (cap : Nat) (l : List D) (w : World) (hl : l.length ≤ maxLen) (hd : AtL dl w a l) (hok : ∀ d ∈ l, DOk d) :
    Calls Try.prog 4 #[.int .i64 n, .slice a l.length cap] w fun e w' => e = .returned (.bool true) ∧ Below w.heap.size w w' := by
  have hm' : l.length ≤ 9223372036854775807 := by unfold maxLen at hl; omega
  have cf := few_any a cap l w hl hd hok
  have HD := Hid_of hd
  have HOK := Hid_of hok
  clear hd hok hl
  go_enter Try.func4, Try.ntmps4
  go_wp2_with fail
  refine cf.mono ?_
  clear cf
  rintro e w0 ⟨fb, rfl, hfew, hw0⟩
  obtain rfl := hw0.symm
  clear hw0
  cases fb with
  | false =>
    clear hfew
    go_wp2_with fail
    refine (awake_any _).mono ?_
    rintro e w2 ⟨rfl, hb⟩
    go_wp2
    go_ret
    exact ⟨rfl, hb⟩
  | true =>
    obtain ⟨h60, hfd⟩ := hfew rfl
    have HFW := Hid_of hfd
    clear hfew hfd
    go_wp2_with fail
    refine (newS_any w w (Below.refl _ _) n).mono ?_
    rintro e w1 (⟨h0, rfl, rfl⟩ | ⟨hnd, b, F, rfl, h1, hb1, hF1⟩)
    · clear h0
      go_wp2_with fail
      refine (awake_any _).mono ?_
      rintro e w2 ⟨rfl, hb⟩
      go_wp2
      go_ret
      exact ⟨rfl, hb⟩
    · have HL1 := Hid_of h1
      clear h1 hb1 hF1 hnd
      go_wp2_with fail
      go_loopw [6] (fun i wr => ∃ (k : Nat) (F : Nat → Prop) (s : M.S), k ≤ l.length ∧ i = .int .i64 k ∧ LS w wr F b s ∧ s.c ≤ 2 * k) (fun i _ => l.length - (intOf i).toNat)
      case atStart => exact ⟨0, F, M.s0 n, by omega, rfl, HL1.out, Nat.le_refl _⟩
      case round =>
        obtain ⟨k, F, s, hk, rfl, hL, hc⟩ := hrel
        by_cases hlt : k < l.length
        · have hki : (k : Int) < (l.length : Int) := by omega
          obtain ⟨b1, o1, rfl, -⟩ := HD.out.getD k hlt
          have hdk := HOK.out _ (List.getElem_mem hlt)
          have HS0 : Hid (∀ wq, Below w.heap.size w wq → wq.cell? ⟨b1, o1 + k * 6, none⟩ = some (.int .i64 l[k].k) ∧ wq.cell? ⟨b1, o1 + k * 6 + 1, none⟩ = some (.int .i64 l[k].fr) ∧ wq.cell? ⟨b1, o1 + k * 6 + 2, none⟩ = some (.int .i64 l[k].v.s) ∧ wq.cell? ⟨b1, o1 + k * 6 + 3, none⟩ = some (.int .i64 l[k].v.b.i) ∧ wq.cell? ⟨b1, o1 + k * 6 + 4, none⟩ = some (.int .i64 l[k].v.b.t) ∧ wq.cell? ⟨b1, o1 + k * 6 + 5, none⟩ = some (.string l[k].v.v)) := Hid_of (fun wq hq => by
            obtain ⟨b1', o1', e1, q0⟩ := (HD.out.keep hq).getD k hlt
            cases e1
            exact q0)
          have HWF := Hid_of hdk.wf
          obtain ⟨⟨dk, df, ⟨ds, ⟨di, dt⟩, dv⟩⟩, HDK⟩ : ∃ d, Hid (l[k] = d) := ⟨_, Hid_of rfl⟩
          rw [HDK.out] at HS0 HWF
          simp only at HS0 HWF
          have HS : Hid (∀ wq, Below w.heap.size w wq → wq.cell? ⟨b1, o1 + k * 6, none⟩ = some (.int .i64 dk) ∧ wq.cell? ⟨b1, o1 + k * 6 + 1, none⟩ = some (.int .i64 df) ∧ wq.cell? ⟨b1, o1 + k * 6 + 2, none⟩ = some (.int .i64 ds) ∧ wq.cell? ⟨b1, o1 + k * 6 + 3, none⟩ = some (.int .i64 di) ∧ wq.cell? ⟨b1, o1 + k * 6 + 4, none⟩ = some (.int .i64 dt) ∧ wq.cell? ⟨b1, o1 + k * 6 + 5, none⟩ = some (.string dv)) := HS0
          have hc9 : s.c ≤ 900000 := by omega
          have HC := Hid_of hc
          have HKL : Hid (k + 1 ≤ l.length ∧ l.length ≤ 60) := Hid_of ⟨hlt, h60⟩
          obtain ⟨W2, HW2⟩ : ∃ W2, Hid (wr.alloc (.cells #[.int .i64 ds, .int .i64 di, .int .i64 dt, .string dv] 36) = W2) := ⟨_, Hid_of rfl⟩
          have hb2 : Below wr.heap.size wr W2 := by rw [← HW2.out]; exact bel1 wr _
          have hr2 : W2.heap[wr.heap.size]? = some (.cells #[.int .i64 ds, .int .i64 di, .int .i64 dt, .string dv] 36 (0, 0)) := by rw [← HW2.out]; exact heap_alloc_last wr _
          have hmn := hL.mine
          have HL2 := Hid_of (hL.keep hb2)
          have HX2 : Hid (BX W2 F wr.heap.size (.cells #[.int .i64 ds, .int .i64 di, .int .i64 dt, .string dv] 36 (0, 0))) := Hid_of ⟨hr2, fun e => by have := (hmn _ e).2; omega⟩
          obtain ⟨⟨x0, x1, x2, x3⟩, -⟩ := row4 hr2
          obtain ⟨gv, HGV⟩ : ∃ gv, Hid (wr.heap.size = gv) := ⟨_, Hid_of rfl⟩
          rw [HGV.out] at HX2 x0 x1 x2 x3
          have c1 := HL2.out.told ds HWF.out
          obtain ⟨a0, a1, a2, a3, a4, a5⟩ := HS.out _ hL.bel
          clear hL hc hdk HDK HS0 hlt hb2 hr2 hmn
          cases hT : s.td ds with
          | none =>
            rw [hT] at c1
            simp only [Option.getD_none, Option.isSome_none] at c1
            clear hT
            go_upto_region 10 with fail
            rw [HW2.out, HGV.out]
            clear HW2 a0 a1 a2 a3 a4 a5
            go_wp2_with fail
            refine c1.mono ?_
            rintro e wy ⟨rfl, hby⟩
            have HLy := Hid_of (HL2.out.keep hby)
            have HXy := Hid_of (HX2.out.up hby)
            obtain ⟨a0, a1, a2, a3, a4, a5⟩ := HS.out _ HLy.out.bel
            have HS13 : Hid (∀ wq, (fun wq : World => Below w.heap.size w wq ∧ wq.heap[gv]? = some (.cells #[.int .i64 ds, .int .i64 di, .int .i64 dt, .string dv] 36 (0, 0))) wq → (wq.cell? ⟨b1, o1 + k * 6, none⟩ = some (.int .i64 dk) ∧ wq.cell? ⟨b1, o1 + k * 6 + 1, none⟩ = some (.int .i64 df) ∧ wq.cell? ⟨b1, o1 + k * 6 + 2, none⟩ = some (.int .i64 ds) ∧ wq.cell? ⟨b1, o1 + k * 6 + 3, none⟩ = some (.int .i64 di) ∧ wq.cell? ⟨b1, o1 + k * 6 + 4, none⟩ = some (.int .i64 dt) ∧ wq.cell? ⟨b1, o1 + k * 6 + 5, none⟩ = some (.string dv)) ∧ (wq.cell? ⟨gv, 0, none⟩ = some (.int .i64 ds) ∧ wq.cell? ⟨gv, 1, none⟩ = some (.int .i64 di) ∧ wq.cell? ⟨gv, 2, none⟩ = some (.int .i64 dt) ∧ wq.cell? ⟨gv, 3, none⟩ = some (.string dv))) := Hid_of (fun wq hq => ⟨HS.out wq hq.1, (row4 hq.2).1⟩)
            clear c1 hby HL2 HX2 x0 x1 x2 x3 HGV
            by_cases e0 : dk = 0
            · as_aux_lemma =>
                subst e0
                have HI13 : Hid ((fun wq : World => Below w.heap.size w wq ∧ wq.heap[gv]? = some (.cells #[.int .i64 ds, .int .i64 di, .int .i64 dt, .string dv] 36 (0, 0))) wy.drew) := Hid_of ⟨HLy.out.bel.drew, HXy.out.row⟩
                have ch := fun wq (hq : Below wy.heap.size wy wq) => (HLy.out.keep hq).hear df ⟨ds, ⟨di, dt⟩, dv⟩ HWF.out hc9
                obtain ⟨HSY, hcz⟩ := M.Sy.hear s df ⟨ds, ⟨di, dt⟩, dv⟩
                obtain ⟨s', HS'⟩ : ∃ s', Hid (M.hs s df ⟨ds, ⟨di, dt⟩, dv⟩ = s') := ⟨_, Hid_of rfl⟩
                obtain ⟨bh, HBH⟩ : ∃ bh, Hid (M.hb s df ⟨ds, ⟨di, dt⟩, dv⟩ = bh) := ⟨_, Hid_of rfl⟩
                rw [HS'.out] at ch HSY hcz
                rw [HBH.out] at ch
                have HCH := Hid_of ch
                have HSY := Hid_of HSY
                have HCz : Hid (s'.c ≤ 2 * (k + 1)) := Hid_of (by have := HC.out; omega)
                clear HS' HBH hcz hc9 ch
                go_wp2_with fail
                refine wp_region_held_drew (S := fun wq : World => Below w.heap.size w wq ∧ wq.heap[gv]? = some (.cells #[.int .i64 ds, .int .i64 di, .int .i64 dt, .string dv] 36 (0, 0))) (by kernel_rfl) HI13.out (fun hHeld => ?_)
                obtain ⟨wdh0o, hwdh0o⟩ : ∃ wd, wy.drew = wd := ⟨_, rfl⟩
                have hBwd : Below wy.heap.size wy wdh0o := by rw [← hwdh0o]; exact Below.drew (Below.refl _ _)
                rw [hwdh0o] at hHeld ⊢
                clear hwdh0o
                refine Tm 0 ?p0h0o ?v0h0o hHeld ?r0h0o
                simp only [Act.put, Pa, Pb, Pc]
                refine Tm 1 ?p1h0o ?v1h0o hHeld ?r1h0o
                simp only [Act.put, Pa, Pb, Pc]
                refine Tm 2 ?p2h0o ?v2h0o hHeld ?r2h0o
                simp only [Act.put, Pa, Pb, Pc]
                refine Tm 3 ?p3h0o ?v3h0o hHeld ?r3h0o
                simp only [Act.put, Pa, Pb, Pc]
                refine Tm 4 ?p4h0o ?v4h0o hHeld ?r4h0o
                simp only [Act.put, Pa, Pb, Pc]
                refine Tk 5 ?p5h0o ?v5h0o ?y5h0o hHeld ?r5h0o
                case y5h0o => intro wq hq; obtain ⟨⟨a0, a1, a2, a3, a4, a5⟩, ⟨b0, b1, b2, b3⟩⟩ := HS13.out wq hq; go_simp; try with_reducible rfl
                simp only [Act.put, Pa, Pb, Pc]
                refine Tk 6 ?p6h0o ?v6h0o ?y6h0o hHeld ?r6h0o
                case y6h0o => intro wq hq; obtain ⟨⟨a0, a1, a2, a3, a4, a5⟩, ⟨b0, b1, b2, b3⟩⟩ := HS13.out wq hq; go_simp; try with_reducible rfl
                simp only [Act.put, Pa, Pb, Pc]
                refine Rd 7 ?p7h0o ?s7h0o
                intro K hK
                go_simp
                refine (HCH.out _ hBwd).mono ?_
                rintro e wz ⟨G, rfl, hL2, hF2⟩
                have HXz := Hid_of ((HXy.out.up hBwd).step hF2)
                have HLz := Hid_of hL2
                clear hL2 hF2
                refine hK.out _ _ ⟨HLz.out.bel, HXz.out.row⟩ (fun hHeld => ?_)
                clear hK K
                refine wpAnyH_done (by kernel_rfl) ?_ _
                clear hBwd hHeld
                obtain ⟨⟨q0, q1, q2, q3⟩, -⟩ := row4 HXz.out.row
                have c2 := HLz.out.told ds HWF.out
                obtain ⟨ou, hou⟩ : ∃ ou, s'.td ds = ou := ⟨_, rfl⟩
                rw [hou] at c2
                clear hou
                generalize ou.getD ⟨#[]⟩ = uv at *
                generalize ou.isSome = ub at *
                go_wp2_with fail
                refine c2.mono ?_
                rintro e wk ⟨rfl, hbk⟩
                have HLk := Hid_of (HLz.out.keep hbk)
                have HXk := Hid_of (HXz.out.up hbk)
                have HI19 : Hid ((fun wq : World => wq.heap[gv]? = some (.cells #[.int .i64 ds, .int .i64 di, .int .i64 dt, .string dv] 36 (0, 0))) wk.drew) := Hid_of HXk.out.row
                have HS19 : Hid (∀ wq, (fun wq : World => wq.heap[gv]? = some (.cells #[.int .i64 ds, .int .i64 di, .int .i64 dt, .string dv] 36 (0, 0))) wq → wq.cell? ⟨gv, 0, none⟩ = some (.int .i64 ds) ∧ wq.cell? ⟨gv, 1, none⟩ = some (.int .i64 di)) := Hid_of (fun wq hq => ⟨(row4 hq).1.1, (row4 hq).1.2.1⟩)
                clear c2 hbk q0 q1 q2 q3
                go_wp2_with fail
                refine wp_region_held_drew (S := fun wq : World => wq.heap[gv]? = some (.cells #[.int .i64 ds, .int .i64 di, .int .i64 dt, .string dv] 36 (0, 0))) (by kernel_rfl) HI19.out (fun hHeld => ?_)
                obtain ⟨wdn0o, hwdn0o⟩ : ∃ wd, wk.drew = wd := ⟨_, rfl⟩
                have hBwd : Below wk.heap.size wk wdn0o := by rw [← hwdn0o]; exact Below.drew (Below.refl _ _)
                rw [hwdn0o] at hHeld ⊢
                clear hwdn0o
                refine Tm 0 ?p0n0o ?v0n0o hHeld ?r0n0o
                simp only [Act.put, Pa, Pb, Pc]
                refine Tm 1 ?p1n0o ?v1n0o hHeld ?r1n0o
                simp only [Act.put, Pa, Pb, Pc]
                refine Ts 2 ?p2n0o hHeld ?r2n0o
                simp only [Act.put, Pa, Pb, Pc]
                refine Tm 3 ?p3n0o ?v3n0o hHeld ?r3n0o
                simp only [Act.put, Pa, Pb, Pc]
                refine Tm 4 ?p4n0o ?v4n0o hHeld ?r4n0o
                simp only [Act.put, Pa, Pb, Pc]
                refine Ts 5 ?p5n0o hHeld ?r5n0o
                simp only [Act.put, Pa, Pb, Pc]
                refine Ts 6 ?p6n0o hHeld ?r6n0o
                simp only [Act.put, Pa, Pb, Pc]
                refine Ts 7 ?p7n0o hHeld ?r7n0o
                simp only [Act.put, Pa, Pb, Pc]
                refine Tm 8 ?p8n0o ?v8n0o hHeld ?r8n0o
                simp only [Act.put, Pa, Pb, Pc]
                refine Tm 9 ?p9n0o ?v9n0o hHeld ?r9n0o
                simp only [Act.put, Pa, Pb, Pc]
                refine Tm 10 ?p10n0o ?v10n0o hHeld ?r10n0o
                simp only [Act.put, Pa, Pb, Pc]
                refine Tm 11 ?p11n0o ?v11n0o hHeld ?r11n0o
                simp only [Act.put, Pa, Pb, Pc]
                refine Ts 12 ?p12n0o hHeld ?r12n0o
                simp only [Act.put, Pa, Pb, Pc]
                refine Ts 13 ?p13n0o hHeld ?r13n0o
                simp only [Act.put, Pa, Pb, Pc]
                refine Tm 14 ?p14n0o ?v14n0o hHeld ?r14n0o
                simp only [Act.put, Pa, Pb, Pc]
                refine Tm 15 ?p15n0o ?v15n0o hHeld ?r15n0o
                simp only [Act.put, Pa, Pb, Pc]
                refine Ts 16 ?p16n0o hHeld ?r16n0o
                simp only [Act.put, Pa, Pb, Pc]
                refine Ts 17 ?p17n0o hHeld ?r17n0o
                simp only [Act.put, Pa, Pb, Pc]
                refine Ts 18 ?p18n0o hHeld ?r18n0o
                simp only [Act.put, Pa, Pb, Pc]
                refine Ts 19 ?p19n0o hHeld ?r19n0o
                simp only [Act.put, Pa, Pb, Pc]
                refine Ts 20 ?p20n0o hHeld ?r20n0o
                simp only [Act.put, Pa, Pb, Pc]
                refine Tm 21 ?p21n0o ?v21n0o hHeld ?r21n0o
                simp only [Act.put, Pa, Pb, Pc]
                refine Tm 22 ?p22n0o ?v22n0o hHeld ?r22n0o
                simp only [Act.put, Pa, Pb, Pc]
                refine wpAnyH_done (by kernel_rfl) ?_ _
                have HLr := Hid_of (HLk.out.keep hBwd)
                clear hHeld hBwd
                go_wp2
                go_roundw
                case rel => exact ⟨k + 1, G, s', HKL.out.1, by go_num, HLr.out, HCz.out⟩
                case measure => have := HKL.out.1; simp [intOf]; omega
            · skip
              by_cases e1 : dk = 1
              · as_aux_lemma =>
                  subst e1
                  obtain ⟨⟨b0, b1, b2, b3⟩, -⟩ := row4 HXy.out.row
                  go_wp2_with fail
                  refine (HLy.out.tell ds dv HWF.out hc9).mono ?_
                  rintro e wz ⟨G, rfl, hL2, hF2⟩
                  have HXz := Hid_of (HXy.out.step hF2)
                  have HLz := Hid_of hL2
                  clear hL2 hF2 b0 b1 b2 b3
                  obtain ⟨HSY, hcz⟩ := M.Sy.tell s ds dv
                  obtain ⟨s', HS'⟩ : ∃ s', Hid (M.ts s ds dv = s') := ⟨_, Hid_of rfl⟩
                  rw [HS'.out] at HLz HSY hcz
                  have HSY := Hid_of HSY
                  have HCz : Hid (s'.c ≤ 2 * (k + 1)) := Hid_of (by have := HC.out; omega)
                  clear HS' hcz hc9
                  obtain ⟨⟨q0, q1, q2, q3⟩, -⟩ := row4 HXz.out.row
                  have c2 := HLz.out.told ds HWF.out
                  obtain ⟨ou, hou⟩ : ∃ ou, s'.td ds = ou := ⟨_, rfl⟩
                  rw [hou] at c2
                  clear hou
                  generalize ou.getD ⟨#[]⟩ = uv at *
                  generalize ou.isSome = ub at *
                  go_wp2_with fail
                  refine c2.mono ?_
                  rintro e wk ⟨rfl, hbk⟩
                  have HLk := Hid_of (HLz.out.keep hbk)
                  have HXk := Hid_of (HXz.out.up hbk)
                  have HI19 : Hid ((fun wq : World => wq.heap[gv]? = some (.cells #[.int .i64 ds, .int .i64 di, .int .i64 dt, .string dv] 36 (0, 0))) wk.drew) := Hid_of HXk.out.row
                  have HS19 : Hid (∀ wq, (fun wq : World => wq.heap[gv]? = some (.cells #[.int .i64 ds, .int .i64 di, .int .i64 dt, .string dv] 36 (0, 0))) wq → wq.cell? ⟨gv, 0, none⟩ = some (.int .i64 ds) ∧ wq.cell? ⟨gv, 1, none⟩ = some (.int .i64 di)) := Hid_of (fun wq hq => ⟨(row4 hq).1.1, (row4 hq).1.2.1⟩)
                  clear c2 hbk q0 q1 q2 q3
                  go_wp2_with fail
                  refine wp_region_held_drew (S := fun wq : World => wq.heap[gv]? = some (.cells #[.int .i64 ds, .int .i64 di, .int .i64 dt, .string dv] 36 (0, 0))) (by kernel_rfl) HI19.out (fun hHeld => ?_)
                  obtain ⟨wdn1o, hwdn1o⟩ : ∃ wd, wk.drew = wd := ⟨_, rfl⟩
                  have hBwd : Below wk.heap.size wk wdn1o := by rw [← hwdn1o]; exact Below.drew (Below.refl _ _)
                  rw [hwdn1o] at hHeld ⊢
                  clear hwdn1o
                  refine Tm 0 ?p0n1o ?v0n1o hHeld ?r0n1o
                  simp only [Act.put, Pa, Pb, Pc]
                  refine Tm 1 ?p1n1o ?v1n1o hHeld ?r1n1o
                  simp only [Act.put, Pa, Pb, Pc]
                  refine Ts 2 ?p2n1o hHeld ?r2n1o
                  simp only [Act.put, Pa, Pb, Pc]
                  refine Tm 3 ?p3n1o ?v3n1o hHeld ?r3n1o
                  simp only [Act.put, Pa, Pb, Pc]
                  refine Tm 4 ?p4n1o ?v4n1o hHeld ?r4n1o
                  simp only [Act.put, Pa, Pb, Pc]
                  refine Ts 5 ?p5n1o hHeld ?r5n1o
                  simp only [Act.put, Pa, Pb, Pc]
                  refine Ts 6 ?p6n1o hHeld ?r6n1o
                  simp only [Act.put, Pa, Pb, Pc]
                  refine Ts 7 ?p7n1o hHeld ?r7n1o
                  simp only [Act.put, Pa, Pb, Pc]
                  refine Tm 8 ?p8n1o ?v8n1o hHeld ?r8n1o
                  simp only [Act.put, Pa, Pb, Pc]
                  refine Tm 9 ?p9n1o ?v9n1o hHeld ?r9n1o
                  simp only [Act.put, Pa, Pb, Pc]
                  refine Tm 10 ?p10n1o ?v10n1o hHeld ?r10n1o
                  simp only [Act.put, Pa, Pb, Pc]
                  refine Tm 11 ?p11n1o ?v11n1o hHeld ?r11n1o
                  simp only [Act.put, Pa, Pb, Pc]
                  refine Ts 12 ?p12n1o hHeld ?r12n1o
                  simp only [Act.put, Pa, Pb, Pc]
                  refine Ts 13 ?p13n1o hHeld ?r13n1o
                  simp only [Act.put, Pa, Pb, Pc]
                  refine Tm 14 ?p14n1o ?v14n1o hHeld ?r14n1o
                  simp only [Act.put, Pa, Pb, Pc]
                  refine Tm 15 ?p15n1o ?v15n1o hHeld ?r15n1o
                  simp only [Act.put, Pa, Pb, Pc]
                  refine Ts 16 ?p16n1o hHeld ?r16n1o
                  simp only [Act.put, Pa, Pb, Pc]
                  refine Ts 17 ?p17n1o hHeld ?r17n1o
                  simp only [Act.put, Pa, Pb, Pc]
                  refine Ts 18 ?p18n1o hHeld ?r18n1o
                  simp only [Act.put, Pa, Pb, Pc]
                  refine Ts 19 ?p19n1o hHeld ?r19n1o
                  simp only [Act.put, Pa, Pb, Pc]
                  refine Ts 20 ?p20n1o hHeld ?r20n1o
                  simp only [Act.put, Pa, Pb, Pc]
                  refine Tm 21 ?p21n1o ?v21n1o hHeld ?r21n1o
                  simp only [Act.put, Pa, Pb, Pc]
                  refine Tm 22 ?p22n1o ?v22n1o hHeld ?r22n1o
                  simp only [Act.put, Pa, Pb, Pc]
                  refine wpAnyH_done (by kernel_rfl) ?_ _
                  have HLr := Hid_of (HLk.out.keep hBwd)
                  clear hHeld hBwd
                  go_wp2
                  go_roundw
                  case rel => exact ⟨k + 1, G, s', HKL.out.1, by go_num, HLr.out, HCz.out⟩
                  case measure => have := HKL.out.1; simp [intOf]; omega
              · skip
                by_cases e2 : dk = 2
                · as_aux_lemma =>
                    subst e2
                    obtain ⟨⟨b0, b1, b2, b3⟩, -⟩ := row4 HXy.out.row
                    go_wp2_with fail
                    refine (HLy.out.trim ds).mono ?_
                    rintro e wz ⟨G, rfl, hL2, hF2⟩
                    have HXz := Hid_of (HXy.out.step hF2)
                    have HLz := Hid_of hL2
                    clear hL2 hF2 b0 b1 b2 b3
                    obtain ⟨HSY, hcz⟩ := M.Sy.trim s ds
                    obtain ⟨s', HS'⟩ : ∃ s', Hid (M.tr s ds = s') := ⟨_, Hid_of rfl⟩
                    rw [HS'.out] at HLz HSY hcz
                    have HSY := Hid_of HSY
                    have HCz : Hid (s'.c ≤ 2 * (k + 1)) := Hid_of (by have := HC.out; omega)
                    clear HS' hcz hc9
                    obtain ⟨⟨q0, q1, q2, q3⟩, -⟩ := row4 HXz.out.row
                    have c2 := HLz.out.told ds HWF.out
                    obtain ⟨ou, hou⟩ : ∃ ou, s'.td ds = ou := ⟨_, rfl⟩
                    rw [hou] at c2
                    clear hou
                    generalize ou.getD ⟨#[]⟩ = uv at *
                    generalize ou.isSome = ub at *
                    go_wp2_with fail
                    refine c2.mono ?_
                    rintro e wk ⟨rfl, hbk⟩
                    have HLk := Hid_of (HLz.out.keep hbk)
                    have HXk := Hid_of (HXz.out.up hbk)
                    have HI19 : Hid ((fun wq : World => wq.heap[gv]? = some (.cells #[.int .i64 ds, .int .i64 di, .int .i64 dt, .string dv] 36 (0, 0))) wk.drew) := Hid_of HXk.out.row
                    have HS19 : Hid (∀ wq, (fun wq : World => wq.heap[gv]? = some (.cells #[.int .i64 ds, .int .i64 di, .int .i64 dt, .string dv] 36 (0, 0))) wq → wq.cell? ⟨gv, 0, none⟩ = some (.int .i64 ds) ∧ wq.cell? ⟨gv, 1, none⟩ = some (.int .i64 di)) := Hid_of (fun wq hq => ⟨(row4 hq).1.1, (row4 hq).1.2.1⟩)
                    clear c2 hbk q0 q1 q2 q3
                    go_wp2_with fail
                    refine wp_region_held_drew (S := fun wq : World => wq.heap[gv]? = some (.cells #[.int .i64 ds, .int .i64 di, .int .i64 dt, .string dv] 36 (0, 0))) (by kernel_rfl) HI19.out (fun hHeld => ?_)
                    obtain ⟨wdn2o, hwdn2o⟩ : ∃ wd, wk.drew = wd := ⟨_, rfl⟩
                    have hBwd : Below wk.heap.size wk wdn2o := by rw [← hwdn2o]; exact Below.drew (Below.refl _ _)
                    rw [hwdn2o] at hHeld ⊢
                    clear hwdn2o
                    refine Tm 0 ?p0n2o ?v0n2o hHeld ?r0n2o
                    simp only [Act.put, Pa, Pb, Pc]
                    refine Tm 1 ?p1n2o ?v1n2o hHeld ?r1n2o
                    simp only [Act.put, Pa, Pb, Pc]
                    refine Ts 2 ?p2n2o hHeld ?r2n2o
                    simp only [Act.put, Pa, Pb, Pc]
                    refine Tm 3 ?p3n2o ?v3n2o hHeld ?r3n2o
                    simp only [Act.put, Pa, Pb, Pc]
                    refine Tm 4 ?p4n2o ?v4n2o hHeld ?r4n2o
                    simp only [Act.put, Pa, Pb, Pc]
                    refine Ts 5 ?p5n2o hHeld ?r5n2o
                    simp only [Act.put, Pa, Pb, Pc]
                    refine Ts 6 ?p6n2o hHeld ?r6n2o
                    simp only [Act.put, Pa, Pb, Pc]
                    refine Ts 7 ?p7n2o hHeld ?r7n2o
                    simp only [Act.put, Pa, Pb, Pc]
                    refine Tm 8 ?p8n2o ?v8n2o hHeld ?r8n2o
                    simp only [Act.put, Pa, Pb, Pc]
                    refine Tm 9 ?p9n2o ?v9n2o hHeld ?r9n2o
                    simp only [Act.put, Pa, Pb, Pc]
                    refine Tm 10 ?p10n2o ?v10n2o hHeld ?r10n2o
                    simp only [Act.put, Pa, Pb, Pc]
                    refine Tm 11 ?p11n2o ?v11n2o hHeld ?r11n2o
                    simp only [Act.put, Pa, Pb, Pc]
                    refine Ts 12 ?p12n2o hHeld ?r12n2o
                    simp only [Act.put, Pa, Pb, Pc]
                    refine Ts 13 ?p13n2o hHeld ?r13n2o
                    simp only [Act.put, Pa, Pb, Pc]
                    refine Tm 14 ?p14n2o ?v14n2o hHeld ?r14n2o
                    simp only [Act.put, Pa, Pb, Pc]
                    refine Tm 15 ?p15n2o ?v15n2o hHeld ?r15n2o
                    simp only [Act.put, Pa, Pb, Pc]
                    refine Ts 16 ?p16n2o hHeld ?r16n2o
                    simp only [Act.put, Pa, Pb, Pc]
                    refine Ts 17 ?p17n2o hHeld ?r17n2o
                    simp only [Act.put, Pa, Pb, Pc]
                    refine Ts 18 ?p18n2o hHeld ?r18n2o
                    simp only [Act.put, Pa, Pb, Pc]
                    refine Ts 19 ?p19n2o hHeld ?r19n2o
                    simp only [Act.put, Pa, Pb, Pc]
                    refine Ts 20 ?p20n2o hHeld ?r20n2o
                    simp only [Act.put, Pa, Pb, Pc]
                    refine Tm 21 ?p21n2o ?v21n2o hHeld ?r21n2o
                    simp only [Act.put, Pa, Pb, Pc]
                    refine Tm 22 ?p22n2o ?v22n2o hHeld ?r22n2o
                    simp only [Act.put, Pa, Pb, Pc]
                    refine wpAnyH_done (by kernel_rfl) ?_ _
                    have HLr := Hid_of (HLk.out.keep hBwd)
                    clear hHeld hBwd
                    go_wp2
                    go_roundw
                    case rel => exact ⟨k + 1, G, s', HKL.out.1, by go_num, HLr.out, HCz.out⟩
                    case measure => have := HKL.out.1; simp [intOf]; omega
                · skip
                  as_aux_lemma =>
                    have HXz := HXy
                    have HLz := HLy
                    obtain ⟨G, HGG⟩ : ∃ G, G = F := ⟨_, rfl⟩
                    rw [← HGG] at HXz HLz
                    obtain ⟨s', HS'⟩ : ∃ s', s' = s := ⟨_, rfl⟩
                    have HSY : Hid (M.Sy s s') := Hid_of (by rw [HS']; exact M.Sy.refl s)
                    have HCz : Hid (s'.c ≤ 2 * (k + 1)) := Hid_of (by rw [HS']; have := HC.out; omega)
                    rw [← HS'] at HLz
                    clear HS' HGG hc9 HLy HXy
                    obtain ⟨⟨q0, q1, q2, q3⟩, -⟩ := row4 HXz.out.row
                    have c2 := HLz.out.told ds HWF.out
                    obtain ⟨ou, hou⟩ : ∃ ou, s'.td ds = ou := ⟨_, rfl⟩
                    rw [hou] at c2
                    clear hou
                    generalize ou.getD ⟨#[]⟩ = uv at *
                    generalize ou.isSome = ub at *
                    go_wp2_with fail
                    refine c2.mono ?_
                    rintro e wk ⟨rfl, hbk⟩
                    have HLk := Hid_of (HLz.out.keep hbk)
                    have HXk := Hid_of (HXz.out.up hbk)
                    have HI19 : Hid ((fun wq : World => wq.heap[gv]? = some (.cells #[.int .i64 ds, .int .i64 di, .int .i64 dt, .string dv] 36 (0, 0))) wk.drew) := Hid_of HXk.out.row
                    have HS19 : Hid (∀ wq, (fun wq : World => wq.heap[gv]? = some (.cells #[.int .i64 ds, .int .i64 di, .int .i64 dt, .string dv] 36 (0, 0))) wq → wq.cell? ⟨gv, 0, none⟩ = some (.int .i64 ds) ∧ wq.cell? ⟨gv, 1, none⟩ = some (.int .i64 di)) := Hid_of (fun wq hq => ⟨(row4 hq).1.1, (row4 hq).1.2.1⟩)
                    clear c2 hbk q0 q1 q2 q3
                    go_wp2_with fail
                    refine wp_region_held_drew (S := fun wq : World => wq.heap[gv]? = some (.cells #[.int .i64 ds, .int .i64 di, .int .i64 dt, .string dv] 36 (0, 0))) (by kernel_rfl) HI19.out (fun hHeld => ?_)
                    obtain ⟨wdndo, hwdndo⟩ : ∃ wd, wk.drew = wd := ⟨_, rfl⟩
                    have hBwd : Below wk.heap.size wk wdndo := by rw [← hwdndo]; exact Below.drew (Below.refl _ _)
                    rw [hwdndo] at hHeld ⊢
                    clear hwdndo
                    refine Tm 0 ?p0ndo ?v0ndo hHeld ?r0ndo
                    simp only [Act.put, Pa, Pb, Pc]
                    refine Tm 1 ?p1ndo ?v1ndo hHeld ?r1ndo
                    simp only [Act.put, Pa, Pb, Pc]
                    refine Ts 2 ?p2ndo hHeld ?r2ndo
                    simp only [Act.put, Pa, Pb, Pc]
                    refine Tm 3 ?p3ndo ?v3ndo hHeld ?r3ndo
                    simp only [Act.put, Pa, Pb, Pc]
                    refine Tm 4 ?p4ndo ?v4ndo hHeld ?r4ndo
                    simp only [Act.put, Pa, Pb, Pc]
                    refine Ts 5 ?p5ndo hHeld ?r5ndo
                    simp only [Act.put, Pa, Pb, Pc]
                    refine Ts 6 ?p6ndo hHeld ?r6ndo
                    simp only [Act.put, Pa, Pb, Pc]
                    refine Ts 7 ?p7ndo hHeld ?r7ndo
                    simp only [Act.put, Pa, Pb, Pc]
                    refine Tm 8 ?p8ndo ?v8ndo hHeld ?r8ndo
                    simp only [Act.put, Pa, Pb, Pc]
                    refine Tm 9 ?p9ndo ?v9ndo hHeld ?r9ndo
                    simp only [Act.put, Pa, Pb, Pc]
                    refine Tm 10 ?p10ndo ?v10ndo hHeld ?r10ndo
                    simp only [Act.put, Pa, Pb, Pc]
                    refine Tm 11 ?p11ndo ?v11ndo hHeld ?r11ndo
                    simp only [Act.put, Pa, Pb, Pc]
                    refine Ts 12 ?p12ndo hHeld ?r12ndo
                    simp only [Act.put, Pa, Pb, Pc]
                    refine Ts 13 ?p13ndo hHeld ?r13ndo
                    simp only [Act.put, Pa, Pb, Pc]
                    refine Tm 14 ?p14ndo ?v14ndo hHeld ?r14ndo
                    simp only [Act.put, Pa, Pb, Pc]
                    refine Tm 15 ?p15ndo ?v15ndo hHeld ?r15ndo
                    simp only [Act.put, Pa, Pb, Pc]
                    refine Ts 16 ?p16ndo hHeld ?r16ndo
                    simp only [Act.put, Pa, Pb, Pc]
                    refine Ts 17 ?p17ndo hHeld ?r17ndo
                    simp only [Act.put, Pa, Pb, Pc]
                    refine Ts 18 ?p18ndo hHeld ?r18ndo
                    simp only [Act.put, Pa, Pb, Pc]
                    refine Ts 19 ?p19ndo hHeld ?r19ndo
                    simp only [Act.put, Pa, Pb, Pc]
                    refine Ts 20 ?p20ndo hHeld ?r20ndo
                    simp only [Act.put, Pa, Pb, Pc]
                    refine Tm 21 ?p21ndo ?v21ndo hHeld ?r21ndo
                    simp only [Act.put, Pa, Pb, Pc]
                    refine Tm 22 ?p22ndo ?v22ndo hHeld ?r22ndo
                    simp only [Act.put, Pa, Pb, Pc]
                    refine wpAnyH_done (by kernel_rfl) ?_ _
                    have HLr := Hid_of (HLk.out.keep hBwd)
                    clear hHeld hBwd
                    go_wp2
                    go_roundw
                    case rel => exact ⟨k + 1, G, s', HKL.out.1, by go_num, HLr.out, HCz.out⟩
                    case measure => have := HKL.out.1; simp [intOf]; omega
          | some u =>
            have HT : Hid (s.td ds = some u) := Hid_of hT
            rw [hT] at c1
            simp only [Option.getD_some, Option.isSome_some] at c1
            clear hT
            go_upto_region 10 with fail
            rw [HW2.out, HGV.out]
            clear HW2 a0 a1 a2 a3 a4 a5
            go_wp2_with fail
            refine c1.mono ?_
            rintro e wy ⟨rfl, hby⟩
            have HLy := Hid_of (HL2.out.keep hby)
            have HXy := Hid_of (HX2.out.up hby)
            obtain ⟨a0, a1, a2, a3, a4, a5⟩ := HS.out _ HLy.out.bel
            have HS13 : Hid (∀ wq, (fun wq : World => Below w.heap.size w wq ∧ wq.heap[gv]? = some (.cells #[.int .i64 ds, .int .i64 di, .int .i64 dt, .string dv] 36 (0, 0))) wq → (wq.cell? ⟨b1, o1 + k * 6, none⟩ = some (.int .i64 dk) ∧ wq.cell? ⟨b1, o1 + k * 6 + 1, none⟩ = some (.int .i64 df) ∧ wq.cell? ⟨b1, o1 + k * 6 + 2, none⟩ = some (.int .i64 ds) ∧ wq.cell? ⟨b1, o1 + k * 6 + 3, none⟩ = some (.int .i64 di) ∧ wq.cell? ⟨b1, o1 + k * 6 + 4, none⟩ = some (.int .i64 dt) ∧ wq.cell? ⟨b1, o1 + k * 6 + 5, none⟩ = some (.string dv)) ∧ (wq.cell? ⟨gv, 0, none⟩ = some (.int .i64 ds) ∧ wq.cell? ⟨gv, 1, none⟩ = some (.int .i64 di) ∧ wq.cell? ⟨gv, 2, none⟩ = some (.int .i64 dt) ∧ wq.cell? ⟨gv, 3, none⟩ = some (.string dv))) := Hid_of (fun wq hq => ⟨HS.out wq hq.1, (row4 hq.2).1⟩)
            clear c1 hby HL2 HX2 x0 x1 x2 x3 HGV
            by_cases e0 : dk = 0
            · as_aux_lemma =>
                subst e0
                have HI13 : Hid ((fun wq : World => Below w.heap.size w wq ∧ wq.heap[gv]? = some (.cells #[.int .i64 ds, .int .i64 di, .int .i64 dt, .string dv] 36 (0, 0))) wy.drew) := Hid_of ⟨HLy.out.bel.drew, HXy.out.row⟩
                have ch := fun wq (hq : Below wy.heap.size wy wq) => (HLy.out.keep hq).hear df ⟨ds, ⟨di, dt⟩, dv⟩ HWF.out hc9
                obtain ⟨HSY, hcz⟩ := M.Sy.hear s df ⟨ds, ⟨di, dt⟩, dv⟩
                obtain ⟨s', HS'⟩ : ∃ s', Hid (M.hs s df ⟨ds, ⟨di, dt⟩, dv⟩ = s') := ⟨_, Hid_of rfl⟩
                obtain ⟨bh, HBH⟩ : ∃ bh, Hid (M.hb s df ⟨ds, ⟨di, dt⟩, dv⟩ = bh) := ⟨_, Hid_of rfl⟩
                rw [HS'.out] at ch HSY hcz
                rw [HBH.out] at ch
                have HCH := Hid_of ch
                have HSY := Hid_of HSY
                have HCz : Hid (s'.c ≤ 2 * (k + 1)) := Hid_of (by have := HC.out; omega)
                clear HS' HBH hcz hc9 ch
                go_wp2_with fail
                refine wp_region_held_drew (S := fun wq : World => Below w.heap.size w wq ∧ wq.heap[gv]? = some (.cells #[.int .i64 ds, .int .i64 di, .int .i64 dt, .string dv] 36 (0, 0))) (by kernel_rfl) HI13.out (fun hHeld => ?_)
                obtain ⟨wdh0s, hwdh0s⟩ : ∃ wd, wy.drew = wd := ⟨_, rfl⟩
                have hBwd : Below wy.heap.size wy wdh0s := by rw [← hwdh0s]; exact Below.drew (Below.refl _ _)
                rw [hwdh0s] at hHeld ⊢
                clear hwdh0s
                refine Tm 0 ?p0h0s ?v0h0s hHeld ?r0h0s
                simp only [Act.put, Pa, Pb, Pc]
                refine Tm 1 ?p1h0s ?v1h0s hHeld ?r1h0s
                simp only [Act.put, Pa, Pb, Pc]
                refine Tm 2 ?p2h0s ?v2h0s hHeld ?r2h0s
                simp only [Act.put, Pa, Pb, Pc]
                refine Tm 3 ?p3h0s ?v3h0s hHeld ?r3h0s
                simp only [Act.put, Pa, Pb, Pc]
                refine Tm 4 ?p4h0s ?v4h0s hHeld ?r4h0s
                simp only [Act.put, Pa, Pb, Pc]
                refine Tk 5 ?p5h0s ?v5h0s ?y5h0s hHeld ?r5h0s
                case y5h0s => intro wq hq; obtain ⟨⟨a0, a1, a2, a3, a4, a5⟩, ⟨b0, b1, b2, b3⟩⟩ := HS13.out wq hq; go_simp; try with_reducible rfl
                simp only [Act.put, Pa, Pb, Pc]
                refine Tk 6 ?p6h0s ?v6h0s ?y6h0s hHeld ?r6h0s
                case y6h0s => intro wq hq; obtain ⟨⟨a0, a1, a2, a3, a4, a5⟩, ⟨b0, b1, b2, b3⟩⟩ := HS13.out wq hq; go_simp; try with_reducible rfl
                simp only [Act.put, Pa, Pb, Pc]
                refine Rd 7 ?p7h0s ?s7h0s
                intro K hK
                go_simp
                refine (HCH.out _ hBwd).mono ?_
                rintro e wz ⟨G, rfl, hL2, hF2⟩
                have HXz := Hid_of ((HXy.out.up hBwd).step hF2)
                have HLz := Hid_of hL2
                clear hL2 hF2
                refine hK.out _ _ ⟨HLz.out.bel, HXz.out.row⟩ (fun hHeld => ?_)
                clear hK K
                refine wpAnyH_done (by kernel_rfl) ?_ _
                clear hBwd hHeld
                obtain ⟨⟨q0, q1, q2, q3⟩, -⟩ := row4 HXz.out.row
                have c2 := HLz.out.told ds HWF.out
                rcases HSY.out ds u HT.out with hy | ⟨hy, hlt2⟩
                · rw [hy] at c2
                  clear hy
                  simp only [Option.getD_some, Option.isSome_some] at c2
                  go_wp2_with fail
                  refine c2.mono ?_
                  rintro e wk ⟨rfl, hbk⟩
                  have HLk := Hid_of (HLz.out.keep hbk)
                  have HXk := Hid_of (HXz.out.up hbk)
                  have HI19 : Hid ((fun wq : World => wq.heap[gv]? = some (.cells #[.int .i64 ds, .int .i64 di, .int .i64 dt, .string dv] 36 (0, 0))) wk.drew) := Hid_of HXk.out.row
                  have HS19 : Hid (∀ wq, (fun wq : World => wq.heap[gv]? = some (.cells #[.int .i64 ds, .int .i64 di, .int .i64 dt, .string dv] 36 (0, 0))) wq → wq.cell? ⟨gv, 0, none⟩ = some (.int .i64 ds) ∧ wq.cell? ⟨gv, 1, none⟩ = some (.int .i64 di)) := Hid_of (fun wq hq => ⟨(row4 hq).1.1, (row4 hq).1.2.1⟩)
                  clear c2 hbk q0 q1 q2 q3
                  go_wp2_with fail
                  refine wp_region_held_drew (S := fun wq : World => wq.heap[gv]? = some (.cells #[.int .i64 ds, .int .i64 di, .int .i64 dt, .string dv] 36 (0, 0))) (by kernel_rfl) HI19.out (fun hHeld => ?_)
                  obtain ⟨wdb0s, hwdb0s⟩ : ∃ wd, wk.drew = wd := ⟨_, rfl⟩
                  have hBwd : Below wk.heap.size wk wdb0s := by rw [← hwdb0s]; exact Below.drew (Below.refl _ _)
                  rw [hwdb0s] at hHeld ⊢
                  clear hwdb0s
                  refine Tm 0 ?p0b0s ?v0b0s hHeld ?r0b0s
                  simp only [Act.put, Pa, Pb, Pc]
                  refine Tm 1 ?p1b0s ?v1b0s hHeld ?r1b0s
                  simp only [Act.put, Pa, Pb, Pc]
                  refine Tm 2 ?p2b0s ?v2b0s hHeld ?r2b0s
                  simp only [Act.put, Pa, Pb, Pc]
                  refine Tm 3 ?p3b0s ?v3b0s hHeld ?r3b0s
                  simp only [Act.put, Pa, Pb, Pc]
                  refine Tm 4 ?p4b0s ?v4b0s hHeld ?r4b0s
                  simp only [Act.put, Pa, Pb, Pc]
                  refine Tm 5 ?p5b0s ?v5b0s hHeld ?r5b0s
                  simp only [Act.put, Pa, Pb, Pc]
                  refine Tm 6 ?p6b0s ?v6b0s hHeld ?r6b0s
                  simp only [Act.put, Pa, Pb, Pc]
                  refine Tm 7 ?p7b0s ?v7b0s hHeld ?r7b0s
                  simp only [Act.put, Pa, Pb, Pc]
                  refine Tm 8 ?p8b0s ?v8b0s hHeld ?r8b0s
                  simp only [Act.put, Pa, Pb, Pc]
                  refine Tm 9 ?p9b0s ?v9b0s hHeld ?r9b0s
                  simp only [Act.put, Pa, Pb, Pc]
                  refine Tm 10 ?p10b0s ?v10b0s hHeld ?r10b0s
                  simp only [Act.put, Pa, Pb, Pc]
                  refine Tm 11 ?p11b0s ?v11b0s hHeld ?r11b0s
                  simp only [Act.put, Pa, Pb, Pc]
                  refine Tm 12 ?p12b0s ?v12b0s hHeld ?r12b0s
                  simp only [Act.put, Pa, Pb, Pc]
                  refine Tm 13 ?p13b0s ?v13b0s hHeld ?r13b0s
                  simp only [Act.put, Pa, Pb, Pc]
                  refine Tm 14 ?p14b0s ?v14b0s hHeld ?r14b0s
                  simp only [Act.put, Pa, Pb, Pc]
                  refine Tm 15 ?p15b0s ?v15b0s hHeld ?r15b0s
                  simp only [Act.put, Pa, Pb, Pc]
                  refine Ts 16 ?p16b0s hHeld ?r16b0s
                  simp only [Act.put, Pa, Pb, Pc]
                  refine Ts 17 ?p17b0s hHeld ?r17b0s
                  simp only [Act.put, Pa, Pb, Pc]
                  refine Ts 18 ?p18b0s hHeld ?r18b0s
                  simp only [Act.put, Pa, Pb, Pc]
                  refine Ts 19 ?p19b0s hHeld ?r19b0s
                  simp only [Act.put, Pa, Pb, Pc]
                  refine Ts 20 ?p20b0s hHeld ?r20b0s
                  simp only [Act.put, Pa, Pb, Pc]
                  refine Tm 21 ?p21b0s ?v21b0s hHeld ?r21b0s
                  simp only [Act.put, Pa, Pb, Pc]
                  refine Tm 22 ?p22b0s ?v22b0s hHeld ?r22b0s
                  simp only [Act.put, Pa, Pb, Pc]
                  refine wpAnyH_done (by kernel_rfl) ?_ _
                  have HLr := Hid_of (HLk.out.keep hBwd)
                  clear hHeld hBwd
                  go_wp2
                  go_roundw
                  case rel => exact ⟨k + 1, G, s', HKL.out.1, by go_num, HLr.out, HCz.out⟩
                  case measure => have := HKL.out.1; simp [intOf]; omega
                · rw [hy] at c2
                  clear hy
                  simp only [Option.getD_none, Option.isSome_none] at c2
                  have hdb : decide (s'.base ≤ ds) = false := decide_eq_false (by omega)
                  go_wp2_with fail
                  refine c2.mono ?_
                  rintro e wk ⟨rfl, hbk⟩
                  have HLk := Hid_of (HLz.out.keep hbk)
                  have HXk := Hid_of (HXz.out.up hbk)
                  have HI19 : Hid ((fun wq : World => wq.heap[gv]? = some (.cells #[.int .i64 ds, .int .i64 di, .int .i64 dt, .string dv] 36 (0, 0))) wk.drew) := Hid_of HXk.out.row
                  have HS19 : Hid (∀ wq, (fun wq : World => wq.heap[gv]? = some (.cells #[.int .i64 ds, .int .i64 di, .int .i64 dt, .string dv] 36 (0, 0))) wq → wq.cell? ⟨gv, 0, none⟩ = some (.int .i64 ds) ∧ wq.cell? ⟨gv, 1, none⟩ = some (.int .i64 di)) := Hid_of (fun wq hq => ⟨(row4 hq).1.1, (row4 hq).1.2.1⟩)
                  clear c2 hbk q0 q1 q2 q3
                  have cb := fun wq (hq : Below wk.heap.size wk wq) => (HLk.out.keep hq).base
                  go_wp2_with fail
                  refine wp_region_held_drew (S := fun wq : World => wq.heap[gv]? = some (.cells #[.int .i64 ds, .int .i64 di, .int .i64 dt, .string dv] 36 (0, 0))) (by kernel_rfl) HI19.out (fun hHeld => ?_)
                  obtain ⟨wdg0s, hwdg0s⟩ : ∃ wd, wk.drew = wd := ⟨_, rfl⟩
                  have hBwd : Below wk.heap.size wk wdg0s := by rw [← hwdg0s]; exact Below.drew (Below.refl _ _)
                  rw [hwdg0s] at hHeld ⊢
                  clear hwdg0s
                  refine Tm 0 ?p0g0s ?v0g0s hHeld ?r0g0s
                  simp only [Act.put, Pa, Pb, Pc]
                  refine Tm 1 ?p1g0s ?v1g0s hHeld ?r1g0s
                  simp only [Act.put, Pa, Pb, Pc]
                  refine Tm 2 ?p2g0s ?v2g0s hHeld ?r2g0s
                  simp only [Act.put, Pa, Pb, Pc]
                  refine Tm 3 ?p3g0s ?v3g0s hHeld ?r3g0s
                  simp only [Act.put, Pa, Pb, Pc]
                  refine Tm 4 ?p4g0s ?v4g0s hHeld ?r4g0s
                  simp only [Act.put, Pa, Pb, Pc]
                  refine Ts 5 ?p5g0s hHeld ?r5g0s
                  simp only [Act.put, Pa, Pb, Pc]
                  refine Ts 6 ?p6g0s hHeld ?r6g0s
                  simp only [Act.put, Pa, Pb, Pc]
                  refine Ts 7 ?p7g0s hHeld ?r7g0s
                  simp only [Act.put, Pa, Pb, Pc]
                  refine Tm 8 ?p8g0s ?v8g0s hHeld ?r8g0s
                  simp only [Act.put, Pa, Pb, Pc]
                  refine Tm 9 ?p9g0s ?v9g0s hHeld ?r9g0s
                  simp only [Act.put, Pa, Pb, Pc]
                  refine Tm 10 ?p10g0s ?v10g0s hHeld ?r10g0s
                  simp only [Act.put, Pa, Pb, Pc]
                  refine Tm 11 ?p11g0s ?v11g0s hHeld ?r11g0s
                  simp only [Act.put, Pa, Pb, Pc]
                  refine Tm 12 ?p12g0s ?v12g0s hHeld ?r12g0s
                  simp only [Act.put, Pa, Pb, Pc]
                  refine Tm 13 ?p13g0s ?v13g0s hHeld ?r13g0s
                  simp only [Act.put, Pa, Pb, Pc]
                  refine Tm 14 ?p14g0s ?v14g0s hHeld ?r14g0s
                  simp only [Act.put, Pa, Pb, Pc]
                  refine Tm 15 ?p15g0s ?v15g0s hHeld ?r15g0s
                  simp only [Act.put, Pa, Pb, Pc]
                  refine Tm 16 ?p16g0s ?v16g0s hHeld ?r16g0s
                  simp only [Act.put, Pa, Pb, Pc]
                  refine Tm 18 ?p18g0s ?v18g0s hHeld ?r18g0s
                  simp only [Act.put, Pa, Pb, Pc]
                  refine Tk 19 ?p19g0s ?v19g0s ?y19g0s hHeld ?r19g0s
                  case y19g0s => intro wq hq; obtain ⟨q0, q1⟩ := HS19.out wq hq; go_simp; try with_reducible rfl
                  simp only [Act.put, Pa, Pb, Pc]
                  refine Rd 17 ?p17g0s ?s17g0s
                  intro K hK
                  go_simp
                  refine (cb _ hBwd).mono ?_
                  rintro e v17 ⟨rfl, rfl⟩
                  have B17 := hHeld
                  refine hK.out _ _ B17 (fun hHeld => ?_)
                  clear hK K
                  refine Tm 20 ?p20g0s_17 ?v20g0s_17 hHeld ?r20g0s_17
                  simp only [Act.put, Pa, Pb, Pc]
                  refine Tm 21 ?p21g0s_17 ?v21g0s_17 hHeld ?r21g0s_17
                  simp only [Act.put, Pa, Pb, Pc]
                  refine Tm 22 ?p22g0s_17 ?v22g0s_17 hHeld ?r22g0s_17
                  simp only [Act.put, Pa, Pb, Pc]
                  refine wpAnyH_done (by kernel_rfl) ?_ _
                  have HLr := Hid_of (HLk.out.keep hBwd)
                  clear hHeld hBwd
                  go_wp2
                  go_roundw
                  case rel => exact ⟨k + 1, G, s', HKL.out.1, by go_num, HLr.out, HCz.out⟩
                  case measure => have := HKL.out.1; simp [intOf]; omega
            · skip
              by_cases e1 : dk = 1
              · as_aux_lemma =>
                  subst e1
                  obtain ⟨⟨b0, b1, b2, b3⟩, -⟩ := row4 HXy.out.row
                  go_wp2_with fail
                  refine (HLy.out.tell ds dv HWF.out hc9).mono ?_
                  rintro e wz ⟨G, rfl, hL2, hF2⟩
                  have HXz := Hid_of (HXy.out.step hF2)
                  have HLz := Hid_of hL2
                  clear hL2 hF2 b0 b1 b2 b3
                  obtain ⟨HSY, hcz⟩ := M.Sy.tell s ds dv
                  obtain ⟨s', HS'⟩ : ∃ s', Hid (M.ts s ds dv = s') := ⟨_, Hid_of rfl⟩
                  rw [HS'.out] at HLz HSY hcz
                  have HSY := Hid_of HSY
                  have HCz : Hid (s'.c ≤ 2 * (k + 1)) := Hid_of (by have := HC.out; omega)
                  clear HS' hcz hc9
                  obtain ⟨⟨q0, q1, q2, q3⟩, -⟩ := row4 HXz.out.row
                  have c2 := HLz.out.told ds HWF.out
                  rcases HSY.out ds u HT.out with hy | ⟨hy, hlt2⟩
                  · rw [hy] at c2
                    clear hy
                    simp only [Option.getD_some, Option.isSome_some] at c2
                    go_wp2_with fail
                    refine c2.mono ?_
                    rintro e wk ⟨rfl, hbk⟩
                    have HLk := Hid_of (HLz.out.keep hbk)
                    have HXk := Hid_of (HXz.out.up hbk)
                    have HI19 : Hid ((fun wq : World => wq.heap[gv]? = some (.cells #[.int .i64 ds, .int .i64 di, .int .i64 dt, .string dv] 36 (0, 0))) wk.drew) := Hid_of HXk.out.row
                    have HS19 : Hid (∀ wq, (fun wq : World => wq.heap[gv]? = some (.cells #[.int .i64 ds, .int .i64 di, .int .i64 dt, .string dv] 36 (0, 0))) wq → wq.cell? ⟨gv, 0, none⟩ = some (.int .i64 ds) ∧ wq.cell? ⟨gv, 1, none⟩ = some (.int .i64 di)) := Hid_of (fun wq hq => ⟨(row4 hq).1.1, (row4 hq).1.2.1⟩)
                    clear c2 hbk q0 q1 q2 q3
                    go_wp2_with fail
                    refine wp_region_held_drew (S := fun wq : World => wq.heap[gv]? = some (.cells #[.int .i64 ds, .int .i64 di, .int .i64 dt, .string dv] 36 (0, 0))) (by kernel_rfl) HI19.out (fun hHeld => ?_)
                    obtain ⟨wdb1s, hwdb1s⟩ : ∃ wd, wk.drew = wd := ⟨_, rfl⟩
                    have hBwd : Below wk.heap.size wk wdb1s := by rw [← hwdb1s]; exact Below.drew (Below.refl _ _)
                    rw [hwdb1s] at hHeld ⊢
                    clear hwdb1s
                    refine Tm 0 ?p0b1s ?v0b1s hHeld ?r0b1s
                    simp only [Act.put, Pa, Pb, Pc]
                    refine Tm 1 ?p1b1s ?v1b1s hHeld ?r1b1s
                    simp only [Act.put, Pa, Pb, Pc]
                    refine Tm 2 ?p2b1s ?v2b1s hHeld ?r2b1s
                    simp only [Act.put, Pa, Pb, Pc]
                    refine Tm 3 ?p3b1s ?v3b1s hHeld ?r3b1s
                    simp only [Act.put, Pa, Pb, Pc]
                    refine Tm 4 ?p4b1s ?v4b1s hHeld ?r4b1s
                    simp only [Act.put, Pa, Pb, Pc]
                    refine Tm 5 ?p5b1s ?v5b1s hHeld ?r5b1s
                    simp only [Act.put, Pa, Pb, Pc]
                    refine Tm 6 ?p6b1s ?v6b1s hHeld ?r6b1s
                    simp only [Act.put, Pa, Pb, Pc]
                    refine Tm 7 ?p7b1s ?v7b1s hHeld ?r7b1s
                    simp only [Act.put, Pa, Pb, Pc]
                    refine Tm 8 ?p8b1s ?v8b1s hHeld ?r8b1s
                    simp only [Act.put, Pa, Pb, Pc]
                    refine Tm 9 ?p9b1s ?v9b1s hHeld ?r9b1s
                    simp only [Act.put, Pa, Pb, Pc]
                    refine Tm 10 ?p10b1s ?v10b1s hHeld ?r10b1s
                    simp only [Act.put, Pa, Pb, Pc]
                    refine Tm 11 ?p11b1s ?v11b1s hHeld ?r11b1s
                    simp only [Act.put, Pa, Pb, Pc]
                    refine Tm 12 ?p12b1s ?v12b1s hHeld ?r12b1s
                    simp only [Act.put, Pa, Pb, Pc]
                    refine Tm 13 ?p13b1s ?v13b1s hHeld ?r13b1s
                    simp only [Act.put, Pa, Pb, Pc]
                    refine Tm 14 ?p14b1s ?v14b1s hHeld ?r14b1s
                    simp only [Act.put, Pa, Pb, Pc]
                    refine Tm 15 ?p15b1s ?v15b1s hHeld ?r15b1s
                    simp only [Act.put, Pa, Pb, Pc]
                    refine Ts 16 ?p16b1s hHeld ?r16b1s
                    simp only [Act.put, Pa, Pb, Pc]
                    refine Ts 17 ?p17b1s hHeld ?r17b1s
                    simp only [Act.put, Pa, Pb, Pc]
                    refine Ts 18 ?p18b1s hHeld ?r18b1s
                    simp only [Act.put, Pa, Pb, Pc]
                    refine Ts 19 ?p19b1s hHeld ?r19b1s
                    simp only [Act.put, Pa, Pb, Pc]
                    refine Ts 20 ?p20b1s hHeld ?r20b1s
                    simp only [Act.put, Pa, Pb, Pc]
                    refine Tm 21 ?p21b1s ?v21b1s hHeld ?r21b1s
                    simp only [Act.put, Pa, Pb, Pc]
                    refine Tm 22 ?p22b1s ?v22b1s hHeld ?r22b1s
                    simp only [Act.put, Pa, Pb, Pc]
                    refine wpAnyH_done (by kernel_rfl) ?_ _
                    have HLr := Hid_of (HLk.out.keep hBwd)
                    clear hHeld hBwd
                    go_wp2
                    go_roundw
                    case rel => exact ⟨k + 1, G, s', HKL.out.1, by go_num, HLr.out, HCz.out⟩
                    case measure => have := HKL.out.1; simp [intOf]; omega
                  · rw [hy] at c2
                    clear hy
                    simp only [Option.getD_none, Option.isSome_none] at c2
                    have hdb : decide (s'.base ≤ ds) = false := decide_eq_false (by omega)
                    go_wp2_with fail
                    refine c2.mono ?_
                    rintro e wk ⟨rfl, hbk⟩
                    have HLk := Hid_of (HLz.out.keep hbk)
                    have HXk := Hid_of (HXz.out.up hbk)
                    have HI19 : Hid ((fun wq : World => wq.heap[gv]? = some (.cells #[.int .i64 ds, .int .i64 di, .int .i64 dt, .string dv] 36 (0, 0))) wk.drew) := Hid_of HXk.out.row
                    have HS19 : Hid (∀ wq, (fun wq : World => wq.heap[gv]? = some (.cells #[.int .i64 ds, .int .i64 di, .int .i64 dt, .string dv] 36 (0, 0))) wq → wq.cell? ⟨gv, 0, none⟩ = some (.int .i64 ds) ∧ wq.cell? ⟨gv, 1, none⟩ = some (.int .i64 di)) := Hid_of (fun wq hq => ⟨(row4 hq).1.1, (row4 hq).1.2.1⟩)
                    clear c2 hbk q0 q1 q2 q3
                    have cb := fun wq (hq : Below wk.heap.size wk wq) => (HLk.out.keep hq).base
                    go_wp2_with fail
                    refine wp_region_held_drew (S := fun wq : World => wq.heap[gv]? = some (.cells #[.int .i64 ds, .int .i64 di, .int .i64 dt, .string dv] 36 (0, 0))) (by kernel_rfl) HI19.out (fun hHeld => ?_)
                    obtain ⟨wdg1s, hwdg1s⟩ : ∃ wd, wk.drew = wd := ⟨_, rfl⟩
                    have hBwd : Below wk.heap.size wk wdg1s := by rw [← hwdg1s]; exact Below.drew (Below.refl _ _)
                    rw [hwdg1s] at hHeld ⊢
                    clear hwdg1s
                    refine Tm 0 ?p0g1s ?v0g1s hHeld ?r0g1s
                    simp only [Act.put, Pa, Pb, Pc]
                    refine Tm 1 ?p1g1s ?v1g1s hHeld ?r1g1s
                    simp only [Act.put, Pa, Pb, Pc]
                    refine Tm 2 ?p2g1s ?v2g1s hHeld ?r2g1s
                    simp only [Act.put, Pa, Pb, Pc]
                    refine Tm 3 ?p3g1s ?v3g1s hHeld ?r3g1s
                    simp only [Act.put, Pa, Pb, Pc]
                    refine Tm 4 ?p4g1s ?v4g1s hHeld ?r4g1s
                    simp only [Act.put, Pa, Pb, Pc]
                    refine Ts 5 ?p5g1s hHeld ?r5g1s
                    simp only [Act.put, Pa, Pb, Pc]
                    refine Ts 6 ?p6g1s hHeld ?r6g1s
                    simp only [Act.put, Pa, Pb, Pc]
                    refine Ts 7 ?p7g1s hHeld ?r7g1s
                    simp only [Act.put, Pa, Pb, Pc]
                    refine Tm 8 ?p8g1s ?v8g1s hHeld ?r8g1s
                    simp only [Act.put, Pa, Pb, Pc]
                    refine Tm 9 ?p9g1s ?v9g1s hHeld ?r9g1s
                    simp only [Act.put, Pa, Pb, Pc]
                    refine Tm 10 ?p10g1s ?v10g1s hHeld ?r10g1s
                    simp only [Act.put, Pa, Pb, Pc]
                    refine Tm 11 ?p11g1s ?v11g1s hHeld ?r11g1s
                    simp only [Act.put, Pa, Pb, Pc]
                    refine Tm 12 ?p12g1s ?v12g1s hHeld ?r12g1s
                    simp only [Act.put, Pa, Pb, Pc]
                    refine Tm 13 ?p13g1s ?v13g1s hHeld ?r13g1s
                    simp only [Act.put, Pa, Pb, Pc]
                    refine Tm 14 ?p14g1s ?v14g1s hHeld ?r14g1s
                    simp only [Act.put, Pa, Pb, Pc]
                    refine Tm 15 ?p15g1s ?v15g1s hHeld ?r15g1s
                    simp only [Act.put, Pa, Pb, Pc]
                    refine Tm 16 ?p16g1s ?v16g1s hHeld ?r16g1s
                    simp only [Act.put, Pa, Pb, Pc]
                    refine Tm 18 ?p18g1s ?v18g1s hHeld ?r18g1s
                    simp only [Act.put, Pa, Pb, Pc]
                    refine Tk 19 ?p19g1s ?v19g1s ?y19g1s hHeld ?r19g1s
                    case y19g1s => intro wq hq; obtain ⟨q0, q1⟩ := HS19.out wq hq; go_simp; try with_reducible rfl
                    simp only [Act.put, Pa, Pb, Pc]
                    refine Rd 17 ?p17g1s ?s17g1s
                    intro K hK
                    go_simp
                    refine (cb _ hBwd).mono ?_
                    rintro e v17 ⟨rfl, rfl⟩
                    have B17 := hHeld
                    refine hK.out _ _ B17 (fun hHeld => ?_)
                    clear hK K
                    refine Tm 20 ?p20g1s_17 ?v20g1s_17 hHeld ?r20g1s_17
                    simp only [Act.put, Pa, Pb, Pc]
                    refine Tm 21 ?p21g1s_17 ?v21g1s_17 hHeld ?r21g1s_17
                    simp only [Act.put, Pa, Pb, Pc]
                    refine Tm 22 ?p22g1s_17 ?v22g1s_17 hHeld ?r22g1s_17
                    simp only [Act.put, Pa, Pb, Pc]
                    refine wpAnyH_done (by kernel_rfl) ?_ _
                    have HLr := Hid_of (HLk.out.keep hBwd)
                    clear hHeld hBwd
                    go_wp2
                    go_roundw
                    case rel => exact ⟨k + 1, G, s', HKL.out.1, by go_num, HLr.out, HCz.out⟩
                    case measure => have := HKL.out.1; simp [intOf]; omega
              · skip
                by_cases e2 : dk = 2
                · as_aux_lemma =>
                    subst e2
                    obtain ⟨⟨b0, b1, b2, b3⟩, -⟩ := row4 HXy.out.row
                    go_wp2_with fail
                    refine (HLy.out.trim ds).mono ?_
                    rintro e wz ⟨G, rfl, hL2, hF2⟩
                    have HXz := Hid_of (HXy.out.step hF2)
                    have HLz := Hid_of hL2
                    clear hL2 hF2 b0 b1 b2 b3
                    obtain ⟨HSY, hcz⟩ := M.Sy.trim s ds
                    obtain ⟨s', HS'⟩ : ∃ s', Hid (M.tr s ds = s') := ⟨_, Hid_of rfl⟩
                    rw [HS'.out] at HLz HSY hcz
                    have HSY := Hid_of HSY
                    have HCz : Hid (s'.c ≤ 2 * (k + 1)) := Hid_of (by have := HC.out; omega)
                    clear HS' hcz hc9
                    obtain ⟨⟨q0, q1, q2, q3⟩, -⟩ := row4 HXz.out.row
                    have c2 := HLz.out.told ds HWF.out
                    rcases HSY.out ds u HT.out with hy | ⟨hy, hlt2⟩
                    · rw [hy] at c2
                      clear hy
                      simp only [Option.getD_some, Option.isSome_some] at c2
                      go_wp2_with fail
                      refine c2.mono ?_
                      rintro e wk ⟨rfl, hbk⟩
                      have HLk := Hid_of (HLz.out.keep hbk)
                      have HXk := Hid_of (HXz.out.up hbk)
                      have HI19 : Hid ((fun wq : World => wq.heap[gv]? = some (.cells #[.int .i64 ds, .int .i64 di, .int .i64 dt, .string dv] 36 (0, 0))) wk.drew) := Hid_of HXk.out.row
                      have HS19 : Hid (∀ wq, (fun wq : World => wq.heap[gv]? = some (.cells #[.int .i64 ds, .int .i64 di, .int .i64 dt, .string dv] 36 (0, 0))) wq → wq.cell? ⟨gv, 0, none⟩ = some (.int .i64 ds) ∧ wq.cell? ⟨gv, 1, none⟩ = some (.int .i64 di)) := Hid_of (fun wq hq => ⟨(row4 hq).1.1, (row4 hq).1.2.1⟩)
                      clear c2 hbk q0 q1 q2 q3
                      go_wp2_with fail
                      refine wp_region_held_drew (S := fun wq : World => wq.heap[gv]? = some (.cells #[.int .i64 ds, .int .i64 di, .int .i64 dt, .string dv] 36 (0, 0))) (by kernel_rfl) HI19.out (fun hHeld => ?_)
                      obtain ⟨wdb2s, hwdb2s⟩ : ∃ wd, wk.drew = wd := ⟨_, rfl⟩
                      have hBwd : Below wk.heap.size wk wdb2s := by rw [← hwdb2s]; exact Below.drew (Below.refl _ _)
                      rw [hwdb2s] at hHeld ⊢
                      clear hwdb2s
                      refine Tm 0 ?p0b2s ?v0b2s hHeld ?r0b2s
                      simp only [Act.put, Pa, Pb, Pc]
                      refine Tm 1 ?p1b2s ?v1b2s hHeld ?r1b2s
                      simp only [Act.put, Pa, Pb, Pc]
                      refine Tm 2 ?p2b2s ?v2b2s hHeld ?r2b2s
                      simp only [Act.put, Pa, Pb, Pc]
                      refine Tm 3 ?p3b2s ?v3b2s hHeld ?r3b2s
                      simp only [Act.put, Pa, Pb, Pc]
                      refine Tm 4 ?p4b2s ?v4b2s hHeld ?r4b2s
                      simp only [Act.put, Pa, Pb, Pc]
                      refine Tm 5 ?p5b2s ?v5b2s hHeld ?r5b2s
                      simp only [Act.put, Pa, Pb, Pc]
                      refine Tm 6 ?p6b2s ?v6b2s hHeld ?r6b2s
                      simp only [Act.put, Pa, Pb, Pc]
                      refine Tm 7 ?p7b2s ?v7b2s hHeld ?r7b2s
                      simp only [Act.put, Pa, Pb, Pc]
                      refine Tm 8 ?p8b2s ?v8b2s hHeld ?r8b2s
                      simp only [Act.put, Pa, Pb, Pc]
                      refine Tm 9 ?p9b2s ?v9b2s hHeld ?r9b2s
                      simp only [Act.put, Pa, Pb, Pc]
                      refine Tm 10 ?p10b2s ?v10b2s hHeld ?r10b2s
                      simp only [Act.put, Pa, Pb, Pc]
                      refine Tm 11 ?p11b2s ?v11b2s hHeld ?r11b2s
                      simp only [Act.put, Pa, Pb, Pc]
                      refine Tm 12 ?p12b2s ?v12b2s hHeld ?r12b2s
                      simp only [Act.put, Pa, Pb, Pc]
                      refine Tm 13 ?p13b2s ?v13b2s hHeld ?r13b2s
                      simp only [Act.put, Pa, Pb, Pc]
                      refine Tm 14 ?p14b2s ?v14b2s hHeld ?r14b2s
                      simp only [Act.put, Pa, Pb, Pc]
                      refine Tm 15 ?p15b2s ?v15b2s hHeld ?r15b2s
                      simp only [Act.put, Pa, Pb, Pc]
                      refine Ts 16 ?p16b2s hHeld ?r16b2s
                      simp only [Act.put, Pa, Pb, Pc]
                      refine Ts 17 ?p17b2s hHeld ?r17b2s
                      simp only [Act.put, Pa, Pb, Pc]
                      refine Ts 18 ?p18b2s hHeld ?r18b2s
                      simp only [Act.put, Pa, Pb, Pc]
                      refine Ts 19 ?p19b2s hHeld ?r19b2s
                      simp only [Act.put, Pa, Pb, Pc]
                      refine Ts 20 ?p20b2s hHeld ?r20b2s
                      simp only [Act.put, Pa, Pb, Pc]
                      refine Tm 21 ?p21b2s ?v21b2s hHeld ?r21b2s
                      simp only [Act.put, Pa, Pb, Pc]
                      refine Tm 22 ?p22b2s ?v22b2s hHeld ?r22b2s
                      simp only [Act.put, Pa, Pb, Pc]
                      refine wpAnyH_done (by kernel_rfl) ?_ _
                      have HLr := Hid_of (HLk.out.keep hBwd)
                      clear hHeld hBwd
                      go_wp2
                      go_roundw
                      case rel => exact ⟨k + 1, G, s', HKL.out.1, by go_num, HLr.out, HCz.out⟩
                      case measure => have := HKL.out.1; simp [intOf]; omega
                    · rw [hy] at c2
                      clear hy
                      simp only [Option.getD_none, Option.isSome_none] at c2
                      have hdb : decide (s'.base ≤ ds) = false := decide_eq_false (by omega)
                      go_wp2_with fail
                      refine c2.mono ?_
                      rintro e wk ⟨rfl, hbk⟩
                      have HLk := Hid_of (HLz.out.keep hbk)
                      have HXk := Hid_of (HXz.out.up hbk)
                      have HI19 : Hid ((fun wq : World => wq.heap[gv]? = some (.cells #[.int .i64 ds, .int .i64 di, .int .i64 dt, .string dv] 36 (0, 0))) wk.drew) := Hid_of HXk.out.row
                      have HS19 : Hid (∀ wq, (fun wq : World => wq.heap[gv]? = some (.cells #[.int .i64 ds, .int .i64 di, .int .i64 dt, .string dv] 36 (0, 0))) wq → wq.cell? ⟨gv, 0, none⟩ = some (.int .i64 ds) ∧ wq.cell? ⟨gv, 1, none⟩ = some (.int .i64 di)) := Hid_of (fun wq hq => ⟨(row4 hq).1.1, (row4 hq).1.2.1⟩)
                      clear c2 hbk q0 q1 q2 q3
                      have cb := fun wq (hq : Below wk.heap.size wk wq) => (HLk.out.keep hq).base
                      go_wp2_with fail
                      refine wp_region_held_drew (S := fun wq : World => wq.heap[gv]? = some (.cells #[.int .i64 ds, .int .i64 di, .int .i64 dt, .string dv] 36 (0, 0))) (by kernel_rfl) HI19.out (fun hHeld => ?_)
                      obtain ⟨wdg2s, hwdg2s⟩ : ∃ wd, wk.drew = wd := ⟨_, rfl⟩
                      have hBwd : Below wk.heap.size wk wdg2s := by rw [← hwdg2s]; exact Below.drew (Below.refl _ _)
                      rw [hwdg2s] at hHeld ⊢
                      clear hwdg2s
                      refine Tm 0 ?p0g2s ?v0g2s hHeld ?r0g2s
                      simp only [Act.put, Pa, Pb, Pc]
                      refine Tm 1 ?p1g2s ?v1g2s hHeld ?r1g2s
                      simp only [Act.put, Pa, Pb, Pc]
                      refine Tm 2 ?p2g2s ?v2g2s hHeld ?r2g2s
                      simp only [Act.put, Pa, Pb, Pc]
                      refine Tm 3 ?p3g2s ?v3g2s hHeld ?r3g2s
                      simp only [Act.put, Pa, Pb, Pc]
                      refine Tm 4 ?p4g2s ?v4g2s hHeld ?r4g2s
                      simp only [Act.put, Pa, Pb, Pc]
                      refine Ts 5 ?p5g2s hHeld ?r5g2s
                      simp only [Act.put, Pa, Pb, Pc]
                      refine Ts 6 ?p6g2s hHeld ?r6g2s
                      simp only [Act.put, Pa, Pb, Pc]
                      refine Ts 7 ?p7g2s hHeld ?r7g2s
                      simp only [Act.put, Pa, Pb, Pc]
                      refine Tm 8 ?p8g2s ?v8g2s hHeld ?r8g2s
                      simp only [Act.put, Pa, Pb, Pc]
                      refine Tm 9 ?p9g2s ?v9g2s hHeld ?r9g2s
                      simp only [Act.put, Pa, Pb, Pc]
                      refine Tm 10 ?p10g2s ?v10g2s hHeld ?r10g2s
                      simp only [Act.put, Pa, Pb, Pc]
                      refine Tm 11 ?p11g2s ?v11g2s hHeld ?r11g2s
                      simp only [Act.put, Pa, Pb, Pc]
                      refine Tm 12 ?p12g2s ?v12g2s hHeld ?r12g2s
                      simp only [Act.put, Pa, Pb, Pc]
                      refine Tm 13 ?p13g2s ?v13g2s hHeld ?r13g2s
                      simp only [Act.put, Pa, Pb, Pc]
                      refine Tm 14 ?p14g2s ?v14g2s hHeld ?r14g2s
                      simp only [Act.put, Pa, Pb, Pc]
                      refine Tm 15 ?p15g2s ?v15g2s hHeld ?r15g2s
                      simp only [Act.put, Pa, Pb, Pc]
                      refine Tm 16 ?p16g2s ?v16g2s hHeld ?r16g2s
                      simp only [Act.put, Pa, Pb, Pc]
                      refine Tm 18 ?p18g2s ?v18g2s hHeld ?r18g2s
                      simp only [Act.put, Pa, Pb, Pc]
                      refine Tk 19 ?p19g2s ?v19g2s ?y19g2s hHeld ?r19g2s
                      case y19g2s => intro wq hq; obtain ⟨q0, q1⟩ := HS19.out wq hq; go_simp; try with_reducible rfl
                      simp only [Act.put, Pa, Pb, Pc]
                      refine Rd 17 ?p17g2s ?s17g2s
                      intro K hK
                      go_simp
                      refine (cb _ hBwd).mono ?_
                      rintro e v17 ⟨rfl, rfl⟩
                      have B17 := hHeld
                      refine hK.out _ _ B17 (fun hHeld => ?_)
                      clear hK K
                      refine Tm 20 ?p20g2s_17 ?v20g2s_17 hHeld ?r20g2s_17
                      simp only [Act.put, Pa, Pb, Pc]
                      refine Tm 21 ?p21g2s_17 ?v21g2s_17 hHeld ?r21g2s_17
                      simp only [Act.put, Pa, Pb, Pc]
                      refine Tm 22 ?p22g2s_17 ?v22g2s_17 hHeld ?r22g2s_17
                      simp only [Act.put, Pa, Pb, Pc]
                      refine wpAnyH_done (by kernel_rfl) ?_ _
                      have HLr := Hid_of (HLk.out.keep hBwd)
                      clear hHeld hBwd
                      go_wp2
                      go_roundw
                      case rel => exact ⟨k + 1, G, s', HKL.out.1, by go_num, HLr.out, HCz.out⟩
                      case measure => have := HKL.out.1; simp [intOf]; omega
                · skip
                  as_aux_lemma =>
                    have HXz := HXy
                    have HLz := HLy
                    obtain ⟨G, HGG⟩ : ∃ G, G = F := ⟨_, rfl⟩
                    rw [← HGG] at HXz HLz
                    obtain ⟨s', HS'⟩ : ∃ s', s' = s := ⟨_, rfl⟩
                    have HSY : Hid (M.Sy s s') := Hid_of (by rw [HS']; exact M.Sy.refl s)
                    have HCz : Hid (s'.c ≤ 2 * (k + 1)) := Hid_of (by rw [HS']; have := HC.out; omega)
                    rw [← HS'] at HLz
                    clear HS' HGG hc9 HLy HXy
                    obtain ⟨⟨q0, q1, q2, q3⟩, -⟩ := row4 HXz.out.row
                    have c2 := HLz.out.told ds HWF.out
                    rcases HSY.out ds u HT.out with hy | ⟨hy, hlt2⟩
                    · rw [hy] at c2
                      clear hy
                      simp only [Option.getD_some, Option.isSome_some] at c2
                      go_wp2_with fail
                      refine c2.mono ?_
                      rintro e wk ⟨rfl, hbk⟩
                      have HLk := Hid_of (HLz.out.keep hbk)
                      have HXk := Hid_of (HXz.out.up hbk)
                      have HI19 : Hid ((fun wq : World => wq.heap[gv]? = some (.cells #[.int .i64 ds, .int .i64 di, .int .i64 dt, .string dv] 36 (0, 0))) wk.drew) := Hid_of HXk.out.row
                      have HS19 : Hid (∀ wq, (fun wq : World => wq.heap[gv]? = some (.cells #[.int .i64 ds, .int .i64 di, .int .i64 dt, .string dv] 36 (0, 0))) wq → wq.cell? ⟨gv, 0, none⟩ = some (.int .i64 ds) ∧ wq.cell? ⟨gv, 1, none⟩ = some (.int .i64 di)) := Hid_of (fun wq hq => ⟨(row4 hq).1.1, (row4 hq).1.2.1⟩)
                      clear c2 hbk q0 q1 q2 q3
                      go_wp2_with fail
                      refine wp_region_held_drew (S := fun wq : World => wq.heap[gv]? = some (.cells #[.int .i64 ds, .int .i64 di, .int .i64 dt, .string dv] 36 (0, 0))) (by kernel_rfl) HI19.out (fun hHeld => ?_)
                      obtain ⟨wdbds, hwdbds⟩ : ∃ wd, wk.drew = wd := ⟨_, rfl⟩
                      have hBwd : Below wk.heap.size wk wdbds := by rw [← hwdbds]; exact Below.drew (Below.refl _ _)
                      rw [hwdbds] at hHeld ⊢
                      clear hwdbds
                      refine Tm 0 ?p0bds ?v0bds hHeld ?r0bds
                      simp only [Act.put, Pa, Pb, Pc]
                      refine Tm 1 ?p1bds ?v1bds hHeld ?r1bds
                      simp only [Act.put, Pa, Pb, Pc]
                      refine Tm 2 ?p2bds ?v2bds hHeld ?r2bds
                      simp only [Act.put, Pa, Pb, Pc]
                      refine Tm 3 ?p3bds ?v3bds hHeld ?r3bds
                      simp only [Act.put, Pa, Pb, Pc]
                      refine Tm 4 ?p4bds ?v4bds hHeld ?r4bds
                      simp only [Act.put, Pa, Pb, Pc]
                      refine Tm 5 ?p5bds ?v5bds hHeld ?r5bds
                      simp only [Act.put, Pa, Pb, Pc]
                      refine Tm 6 ?p6bds ?v6bds hHeld ?r6bds
                      simp only [Act.put, Pa, Pb, Pc]
                      refine Tm 7 ?p7bds ?v7bds hHeld ?r7bds
                      simp only [Act.put, Pa, Pb, Pc]
                      refine Tm 8 ?p8bds ?v8bds hHeld ?r8bds
                      simp only [Act.put, Pa, Pb, Pc]
                      refine Tm 9 ?p9bds ?v9bds hHeld ?r9bds
                      simp only [Act.put, Pa, Pb, Pc]
                      refine Tm 10 ?p10bds ?v10bds hHeld ?r10bds
                      simp only [Act.put, Pa, Pb, Pc]
                      refine Tm 11 ?p11bds ?v11bds hHeld ?r11bds
                      simp only [Act.put, Pa, Pb, Pc]
                      refine Tm 12 ?p12bds ?v12bds hHeld ?r12bds
                      simp only [Act.put, Pa, Pb, Pc]
                      refine Tm 13 ?p13bds ?v13bds hHeld ?r13bds
                      simp only [Act.put, Pa, Pb, Pc]
                      refine Tm 14 ?p14bds ?v14bds hHeld ?r14bds
                      simp only [Act.put, Pa, Pb, Pc]
                      refine Tm 15 ?p15bds ?v15bds hHeld ?r15bds
                      simp only [Act.put, Pa, Pb, Pc]
                      refine Ts 16 ?p16bds hHeld ?r16bds
                      simp only [Act.put, Pa, Pb, Pc]
                      refine Ts 17 ?p17bds hHeld ?r17bds
                      simp only [Act.put, Pa, Pb, Pc]
                      refine Ts 18 ?p18bds hHeld ?r18bds
                      simp only [Act.put, Pa, Pb, Pc]
                      refine Ts 19 ?p19bds hHeld ?r19bds
                      simp only [Act.put, Pa, Pb, Pc]
                      refine Ts 20 ?p20bds hHeld ?r20bds
                      simp only [Act.put, Pa, Pb, Pc]
                      refine Tm 21 ?p21bds ?v21bds hHeld ?r21bds
                      simp only [Act.put, Pa, Pb, Pc]
                      refine Tm 22 ?p22bds ?v22bds hHeld ?r22bds
                      simp only [Act.put, Pa, Pb, Pc]
                      refine wpAnyH_done (by kernel_rfl) ?_ _
                      have HLr := Hid_of (HLk.out.keep hBwd)
                      clear hHeld hBwd
                      go_wp2
                      go_roundw
                      case rel => exact ⟨k + 1, G, s', HKL.out.1, by go_num, HLr.out, HCz.out⟩
                      case measure => have := HKL.out.1; simp [intOf]; omega
                    · rw [hy] at c2
                      clear hy
                      simp only [Option.getD_none, Option.isSome_none] at c2
                      have hdb : decide (s'.base ≤ ds) = false := decide_eq_false (by omega)
                      go_wp2_with fail
                      refine c2.mono ?_
                      rintro e wk ⟨rfl, hbk⟩
                      have HLk := Hid_of (HLz.out.keep hbk)
                      have HXk := Hid_of (HXz.out.up hbk)
                      have HI19 : Hid ((fun wq : World => wq.heap[gv]? = some (.cells #[.int .i64 ds, .int .i64 di, .int .i64 dt, .string dv] 36 (0, 0))) wk.drew) := Hid_of HXk.out.row
                      have HS19 : Hid (∀ wq, (fun wq : World => wq.heap[gv]? = some (.cells #[.int .i64 ds, .int .i64 di, .int .i64 dt, .string dv] 36 (0, 0))) wq → wq.cell? ⟨gv, 0, none⟩ = some (.int .i64 ds) ∧ wq.cell? ⟨gv, 1, none⟩ = some (.int .i64 di)) := Hid_of (fun wq hq => ⟨(row4 hq).1.1, (row4 hq).1.2.1⟩)
                      clear c2 hbk q0 q1 q2 q3
                      have cb := fun wq (hq : Below wk.heap.size wk wq) => (HLk.out.keep hq).base
                      go_wp2_with fail
                      refine wp_region_held_drew (S := fun wq : World => wq.heap[gv]? = some (.cells #[.int .i64 ds, .int .i64 di, .int .i64 dt, .string dv] 36 (0, 0))) (by kernel_rfl) HI19.out (fun hHeld => ?_)
                      obtain ⟨wdgds, hwdgds⟩ : ∃ wd, wk.drew = wd := ⟨_, rfl⟩
                      have hBwd : Below wk.heap.size wk wdgds := by rw [← hwdgds]; exact Below.drew (Below.refl _ _)
                      rw [hwdgds] at hHeld ⊢
                      clear hwdgds
                      refine Tm 0 ?p0gds ?v0gds hHeld ?r0gds
                      simp only [Act.put, Pa, Pb, Pc]
                      refine Tm 1 ?p1gds ?v1gds hHeld ?r1gds
                      simp only [Act.put, Pa, Pb, Pc]
                      refine Tm 2 ?p2gds ?v2gds hHeld ?r2gds
                      simp only [Act.put, Pa, Pb, Pc]
                      refine Tm 3 ?p3gds ?v3gds hHeld ?r3gds
                      simp only [Act.put, Pa, Pb, Pc]
                      refine Tm 4 ?p4gds ?v4gds hHeld ?r4gds
                      simp only [Act.put, Pa, Pb, Pc]
                      refine Ts 5 ?p5gds hHeld ?r5gds
                      simp only [Act.put, Pa, Pb, Pc]
                      refine Ts 6 ?p6gds hHeld ?r6gds
                      simp only [Act.put, Pa, Pb, Pc]
                      refine Ts 7 ?p7gds hHeld ?r7gds
                      simp only [Act.put, Pa, Pb, Pc]
                      refine Tm 8 ?p8gds ?v8gds hHeld ?r8gds
                      simp only [Act.put, Pa, Pb, Pc]
                      refine Tm 9 ?p9gds ?v9gds hHeld ?r9gds
                      simp only [Act.put, Pa, Pb, Pc]
                      refine Tm 10 ?p10gds ?v10gds hHeld ?r10gds
                      simp only [Act.put, Pa, Pb, Pc]
                      refine Tm 11 ?p11gds ?v11gds hHeld ?r11gds
                      simp only [Act.put, Pa, Pb, Pc]
                      refine Tm 12 ?p12gds ?v12gds hHeld ?r12gds
                      simp only [Act.put, Pa, Pb, Pc]
                      refine Tm 13 ?p13gds ?v13gds hHeld ?r13gds
                      simp only [Act.put, Pa, Pb, Pc]
                      refine Tm 14 ?p14gds ?v14gds hHeld ?r14gds
                      simp only [Act.put, Pa, Pb, Pc]
                      refine Tm 15 ?p15gds ?v15gds hHeld ?r15gds
                      simp only [Act.put, Pa, Pb, Pc]
                      refine Tm 16 ?p16gds ?v16gds hHeld ?r16gds
                      simp only [Act.put, Pa, Pb, Pc]
                      refine Tm 18 ?p18gds ?v18gds hHeld ?r18gds
                      simp only [Act.put, Pa, Pb, Pc]
                      refine Tk 19 ?p19gds ?v19gds ?y19gds hHeld ?r19gds
                      case y19gds => intro wq hq; obtain ⟨q0, q1⟩ := HS19.out wq hq; go_simp; try with_reducible rfl
                      simp only [Act.put, Pa, Pb, Pc]
                      refine Rd 17 ?p17gds ?s17gds
                      intro K hK
                      go_simp
                      refine (cb _ hBwd).mono ?_
                      rintro e v17 ⟨rfl, rfl⟩
                      have B17 := hHeld
                      refine hK.out _ _ B17 (fun hHeld => ?_)
                      clear hK K
                      refine Tm 20 ?p20gds_17 ?v20gds_17 hHeld ?r20gds_17
                      simp only [Act.put, Pa, Pb, Pc]
                      refine Tm 21 ?p21gds_17 ?v21gds_17 hHeld ?r21gds_17
                      simp only [Act.put, Pa, Pb, Pc]
                      refine Tm 22 ?p22gds_17 ?v22gds_17 hHeld ?r22gds_17
                      simp only [Act.put, Pa, Pb, Pc]
                      refine wpAnyH_done (by kernel_rfl) ?_ _
                      have HLr := Hid_of (HLk.out.keep hBwd)
                      clear hHeld hBwd
                      go_wp2
                      go_roundw
                      case rel => exact ⟨k + 1, G, s', HKL.out.1, by go_num, HLr.out, HCz.out⟩
                      case measure => have := HKL.out.1; simp [intOf]; omega
        · skip
          obtain rfl : k = l.length := by omega
          have cl := hL.log 0
          obtain ⟨hnx, hlg⟩ := hL.ok.log
          have hb0 := hL.ok.base
          have HOKS := Hid_of hL.ok
          have hnl : (M.lgs s 0).length ≤ 1024 := by have := hL.ok.nx.2.2.2; omega
          have HNX := Hid_of hnx
          have HLG := Hid_of hlg
          have HL0 := Hid_of hL
          clear hL hc hnx hlg
          obtain ⟨lg, HLGS⟩ : ∃ lg, Hid (M.lgs s 0 = lg) := ⟨_, Hid_of rfl⟩
          rw [HLGS.out] at cl HNX HLG hnl
          clear HLGS
          go_wp2_with fail
          refine cl.mono ?_
          rintro e w4 ⟨ad, c, rfl, hx, -, hb4⟩
          have HL4 := Hid_of (HL0.out.keep hb4)
          have HX4 := Hid_of hx
          clear cl hx hb4 HL0
          go_wp2_with fail
          go_loopw [13] (fun i wq => ∃ j : Nat, j ≤ lg.length ∧ i = .int .i64 j ∧ Hid (Below w4.heap.size w4 wq)) (fun i _ => lg.length - (intOf i).toNat)
          case atStart => exact ⟨0, Nat.zero_le _, rfl, Below.refl _ _⟩
          case round =>
            obtain ⟨j, hj, rfl, HBj⟩ := hrel
            have HLj := Hid_of (HL4.out.keep HBj.out)
            by_cases hjl : j < lg.length
            · have hji : (j : Int) < (lg.length : Int) := by omega
              have cb := HLj.out.base
              have htd := HLG.out j hjl
              have HTK := fun wq (hq : Below w4.heap.size w4 wq) => (HL4.out.keep hq).told (s.base + (j : Int)) (wf_small (by omega) (by omega))
              rw [htd] at HTK
              simp only [Option.getD_some, Option.isSome_some] at HTK
              have HAT : Hid (∀ wq, Below w4.heap.size w4 wq → ∃ b off, ad = some ⟨b, off, none⟩ ∧ wq.cell? ⟨b, off + j, none⟩ = some (.string lg[j])) := Hid_of (fun wq hq => (HX4.out.keep hq).at'.getT j hjl)
              obtain ⟨x, HX⟩ : ∃ x, Hid (lg[j] = x) := ⟨_, Hid_of rfl⟩
              rw [HX.out] at HTK HAT
              have HTK := Hid_of HTK
              have HJ : Hid (j + 1 ≤ lg.length) := Hid_of hjl
              clear htd HX hjl
              go_wp2_with fail
              refine cb.mono ?_
              rintro e w5 ⟨rfl, rfl⟩
              have ck := HTK.out _ HBj.out
              clear cb HTK
              go_wp2_with fail
              refine ck.mono ?_
              rintro e w6 ⟨rfl, hb6⟩
              have HB6 := Hid_of (bel_up HBj.out hb6 (Nat.le_refl _))
              obtain ⟨b2, o2, rfl, g0⟩ := HAT.out _ HB6.out
              clear ck hb6 HAT HBj
              go_wp2
              go_roundw
              case rel => exact ⟨j + 1, HJ.out, by go_num, HB6⟩
              case measure => have := HJ.out; simp [intOf]; omega
            · obtain rfl : j = lg.length := by omega
              have cn := HLj.out.next
              have cb := HLj.out.base
              rw [HNX.out] at cn
              clear HLG HNX
              go_wp2_with fail
              refine cn.mono ?_
              rintro e w5 ⟨rfl, rfl⟩
              clear cn
              go_wp2_with fail
              refine cb.mono ?_
              rintro e w6 ⟨rfl, rfl⟩
              clear cb
              go_wp2_with fail
              refine (awake_any _).mono ?_
              rintro e w7 ⟨rfl, hb7⟩
              have HB7 := Hid_of (bel_up HLj.out.bel hb7 (Nat.le_refl _))
              clear hb7
              go_wp2
              go_ret
              exact ⟨rfl, HB7.out⟩

end Go.Proofs.Ytlnbfneddnmgiaa
