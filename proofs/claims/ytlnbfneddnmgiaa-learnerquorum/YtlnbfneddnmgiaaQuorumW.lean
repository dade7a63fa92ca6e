/-
  The law LearnerQuorum, walked.
-/
import Derived.Test.YtlnbfneddnmgiaaDD
import Derived.Test.YtlnbfneddnmgiaaQM
namespace Go.Proofs.Ytlnbfneddnmgiaa
open Go.RowKit Go.Maps
set_option linter.unusedVariables false
open M (E V W fup)

set_option maxRecDepth 100000 in
set_option maxHeartbeats 1000000 in
theorem quorum_walk (n : Int) (a : Option Addr) (cap : Nat) (l : List D) (w : World) (hl : l.length ≤ maxLen) (hd : AtL dl w a l) (hok : ∀ d ∈ l, DOk d) :
    Calls Try.prog 5 #[.int .i64 n, .slice a l.length cap] w fun e w' => e = .returned (.bool true) ∧ Below w.heap.size w w' := by
  have hm' : l.length ≤ 9223372036854775807 := by unfold maxLen at hl; omega
  have cf := few_any a cap l w hl hd hok
  have cq := rquorum_any n
  have HD := Hid_of hd
  have HOK := Hid_of hok
  clear hd hok hl
  go_enter Try.func5, Try.ntmps5
  go_wp2_with fail
  refine cf.mono ?_
  clear cf
  rintro e w0 ⟨fb, rfl, hfew, hw0⟩
  obtain rfl := hw0.symm
  clear hw0
  cases fb with
  | false =>
    clear hfew cq
    go_wp2_with fail
    refine (awake_any _).mono ?_
    rintro e w2 ⟨rfl, hb⟩
    go_wp2
    go_ret
    exact ⟨rfl, hb⟩
  | true =>
    obtain ⟨h60, hfd⟩ := hfew rfl
    have HFW := Hid_of hfd
    clear hfew hfd
    by_cases hq : M.quo n = 0
    · rw [hq] at cq
      clear hq
      go_wp2_with fail
      refine (cq _).mono ?_
      rintro e w2 ⟨rfl, rfl⟩
      clear cq
      go_wp2_with fail
      refine (awake_any _).mono ?_
      rintro e w2 ⟨rfl, hb⟩
      go_wp2
      go_ret
      exact ⟨rfl, hb⟩
    · obtain ⟨q, hqq, hn1, hn7, hq1, hq7⟩ : ∃ q : Nat, M.quo n = (q : Int) ∧ 1 ≤ n ∧ n ≤ 7 ∧ 1 ≤ q ∧ q ≤ 7 := by
        have hn : ¬ (n < 1 ∨ 7 < n) := fun h => hq (by unfold M.quo; rw [if_pos h])
        refine ⟨(M.quo n).toNat, ?_⟩
        unfold M.quo
        rw [if_neg hn]
        omega
      have HQQ := Hid_of hqq
      have hqne : ¬ ((q : Int) = 0) := by omega
      rw [hqq] at cq
      have HNDE : Hid (M.nde n = true) := Hid_of (by unfold M.nde; simp; omega)
      clear hq hqq
      go_wp2_with fail
      refine (cq _).mono ?_
      rintro e w2 ⟨rfl, rfl⟩
      go_wp2_with fail
      refine (newS_any w2 w2 (Below.refl _ _) n).mono ?_
      rintro e w1 (⟨h0, -, -⟩ | ⟨hnd, b, F, rfl, h1, hb1, hF1⟩)
      · rw [HNDE.out] at h0
        cases h0
      · have HL1 := Hid_of h1
        clear h1 hb1 hF1 hnd HNDE hqne
        go_wp2_with fail
        go_loopw [6] (fun i wr => ∃ (k : Nat) (F : Nat → Prop) (s : M.S), k ≤ l.length ∧ i = .int .i64 k ∧ LS w2 wr F b s ∧ M.Qm (q - 1) s ∧ s.n = n ∧ s.c ≤ k) (fun i _ => l.length - (intOf i).toNat)
        case atStart => exact ⟨0, F, M.s0 n, by omega, rfl, HL1.out, M.Qm.zero _ _, rfl, Nat.le_refl _⟩
        case round =>
          obtain ⟨k, F, s, hk, rfl, hL, hQ, hsn, hc⟩ := hrel
          by_cases hlt : k < l.length
          · have hki : (k : Int) < (l.length : Int) := by omega
            have HL0 := Hid_of hL
            have HB0 := Hid_of hL.bel
            obtain ⟨b1, o1, rfl, -⟩ := HD.out.getD k hlt
            have hdk := HOK.out _ (List.getElem_mem hlt)
            have HS0 : Hid (∀ wq, Below w2.heap.size w2 wq → wq.cell? ⟨b1, o1 + k * 6, none⟩ = some (.int .i64 l[k].k) ∧ wq.cell? ⟨b1, o1 + k * 6 + 1, none⟩ = some (.int .i64 l[k].fr) ∧ wq.cell? ⟨b1, o1 + k * 6 + 2, none⟩ = some (.int .i64 l[k].v.s) ∧ wq.cell? ⟨b1, o1 + k * 6 + 3, none⟩ = some (.int .i64 l[k].v.b.i) ∧ wq.cell? ⟨b1, o1 + k * 6 + 4, none⟩ = some (.int .i64 l[k].v.b.t) ∧ wq.cell? ⟨b1, o1 + k * 6 + 5, none⟩ = some (.string l[k].v.v)) := Hid_of (fun wq hq => by
              obtain ⟨b1', o1', e1, q0⟩ := (HD.out.keep hq).getD k hlt
              cases e1
              exact q0)
            have HWF := Hid_of hdk.wf
            have hbd := hQ.hear (by rw [hsn, HQQ.out]; omega) l[k].fr l[k].v
            obtain ⟨⟨dk, df, ⟨ds, ⟨di, dt⟩, dv⟩⟩, HDK⟩ : ∃ d, Hid (l[k] = d) := ⟨_, Hid_of rfl⟩
            rw [HDK.out] at HS0 HWF hbd
            simp only at HS0 HWF hbd
            have HS : Hid (∀ wq, Below w2.heap.size w2 wq → wq.cell? ⟨b1, o1 + k * 6, none⟩ = some (.int .i64 dk) ∧ wq.cell? ⟨b1, o1 + k * 6 + 1, none⟩ = some (.int .i64 df) ∧ wq.cell? ⟨b1, o1 + k * 6 + 2, none⟩ = some (.int .i64 ds) ∧ wq.cell? ⟨b1, o1 + k * 6 + 3, none⟩ = some (.int .i64 di) ∧ wq.cell? ⟨b1, o1 + k * 6 + 4, none⟩ = some (.int .i64 dt) ∧ wq.cell? ⟨b1, o1 + k * 6 + 5, none⟩ = some (.string dv)) := HS0
            have hc9 : s.c ≤ 900000 := by omega
            have HC := Hid_of hc
            have HSN := Hid_of hsn
            have HQM := Hid_of hQ
            have HKL : Hid (k + 1 ≤ l.length ∧ l.length ≤ 60) := Hid_of ⟨hlt, h60⟩
            have hwq : IntKind.i64.wrap ((q : Int) - 1) = (q : Int) - 1 := by rw [IntKind.wrap_i64]; omega
            by_cases hf : df < (q : Int) - 1
            · have hdf : decide (df < (q : Int) - 1) = true := decide_eq_true hf
              obtain ⟨e1, e2, e3, e4⟩ := hbd (by omega)
              have HHB := Hid_of e1
              have HN2 := Hid_of e2
              have HE := Hid_of (And.intro e3 e4)
              clear hL hQ hsn hc hdk HDK HS0 hbd e1 e2 e3 e4 hf hlt
              go_wp2_with fail
              refine wp_region_held_drew (S := fun wq : World => Below w2.heap.size w2 wq) (by kernel_rfl) HB0.out.drew (fun hHeld => ?_)
              obtain ⟨wda, hwda⟩ : ∃ wd, wr.drew = wd := ⟨_, rfl⟩
              have hBwd : Below wr.heap.size wr wda := by rw [← hwda]; exact Below.drew (Below.refl _ _)
              rw [hwda] at hHeld ⊢
              clear hwda
              refine Tm 0 ?p0a ?v0a hHeld ?r0a
              simp only [Act.put, Pa, Pb, Pc]
              refine Tm 1 ?p1a ?v1a hHeld ?r1a
              simp only [Act.put, Pa, Pb, Pc]
              refine Tm 2 ?p2a ?v2a hHeld ?r2a
              simp only [Act.put, Pa, Pb, Pc]
              refine Tm 3 ?p3a ?v3a hHeld ?r3a
              simp only [Act.put, Pa, Pb, Pc]
              refine Tk 4 ?p4a ?v4a ?y4a hHeld ?r4a
              case y4a => intro wq hq; obtain ⟨a0, a1, a2, a3, a4, a5⟩ := HS.out wq hq; go_simp; try with_reducible rfl
              simp only [Act.put, Pa, Pb, Pc]
              refine Tm 5 ?p5a ?v5a hHeld ?r5a
              simp only [Act.put, Pa, Pb, Pc]
              refine Rd 6 ?p6a ?s6a
              intro K hK
              go_simp
              refine (cq _).mono ?_
              rintro e v6 ⟨rfl, rfl⟩
              have B6 := hHeld
              refine hK.out _ _ B6 (fun hHeld => ?_)
              clear hK K
              refine Tm 7 ?p7a_6 ?v7a_6 hHeld ?r7a_6
              simp only [Act.put, Pa, Pb, Pc]
              refine Tm 8 ?p8a_6 ?v8a_6 hHeld ?r8a_6
              simp only [Act.put, Pa, Pb, Pc]
              refine Tm 9 ?p9a_6 ?v9a_6 hHeld ?r9a_6
              simp only [Act.put, Pa, Pb, Pc]
              refine Tm 10 ?p10a_6 ?v10a_6 hHeld ?r10a_6
              simp only [Act.put, Pa, Pb, Pc]
              refine Tm 11 ?p11a_6 ?v11a_6 hHeld ?r11a_6
              simp only [Act.put, Pa, Pb, Pc]
              refine Tm 12 ?p12a_6 ?v12a_6 hHeld ?r12a_6
              simp only [Act.put, Pa, Pb, Pc]
              refine Tm 13 ?p13a_6 ?v13a_6 hHeld ?r13a_6
              simp only [Act.put, Pa, Pb, Pc]
              refine Tm 14 ?p14a_6 ?v14a_6 hHeld ?r14a_6
              simp only [Act.put, Pa, Pb, Pc]
              refine Tk 15 ?p15a_6 ?v15a_6 ?y15a_6 hHeld ?r15a_6
              case y15a_6 => intro wq hq; obtain ⟨a0, a1, a2, a3, a4, a5⟩ := HS.out wq hq; go_simp; try with_reducible rfl
              simp only [Act.put, Pa, Pb, Pc]
              refine Tm 16 ?p16a_6 ?v16a_6 hHeld ?r16a_6
              simp only [Act.put, Pa, Pb, Pc]
              refine Tm 17 ?p17a_6 ?v17a_6 hHeld ?r17a_6
              simp only [Act.put, Pa, Pb, Pc]
              refine Tm 18 ?p18a_6 ?v18a_6 hHeld ?r18a_6
              simp only [Act.put, Pa, Pb, Pc]
              refine Tm 19 ?p19a_6 ?v19a_6 hHeld ?r19a_6
              simp only [Act.put, Pa, Pb, Pc]
              refine Tk 20 ?p20a_6 ?v20a_6 ?y20a_6 hHeld ?r20a_6
              case y20a_6 => intro wq hq; obtain ⟨a0, a1, a2, a3, a4, a5⟩ := HS.out wq hq; go_simp; try with_reducible rfl
              simp only [Act.put, Pa, Pb, Pc]
              refine Rd 21 ?p21a_6 ?s21a_6
              intro K hK
              go_simp
              have ch := (HL0.out.keep hBwd).hear df ⟨ds, ⟨di, dt⟩, dv⟩ HWF.out hc9
              rw [HHB.out] at ch
              refine ch.mono ?_
              rintro e v21 ⟨G, rfl, hL2, -⟩
              have HL2 := Hid_of hL2
              clear hL2 ch
              refine hK.out _ _ HL2.out.bel (fun hHeld => ?_)
              clear hK K
              refine Tm 22 ?p22a_6_21 ?v22a_6_21 hHeld ?r22a_6_21
              simp only [Act.put, Pa, Pb, Pc]
              refine wpAnyH_done (by kernel_rfl) ?_ _
              clear hc9
              go_wp2
              go_roundw
              case rel => exact ⟨k + 1, G, _, HKL.out.1, by go_num, HL2.out, HN2.out, by rw [HE.out.1]; exact HSN.out, by have := HE.out.2; have := HC.out; omega⟩
              case measure => have := HKL.out.1; simp [intOf]; omega
            · have hdf : decide (df < (q : Int) - 1) = false := decide_eq_false hf
              clear hL hQ hsn hc hdk HDK HS0 hbd hf hlt hc9
              go_wp2_with fail
              refine wp_region_held_drew (S := fun wq : World => Below w2.heap.size w2 wq) (by kernel_rfl) HB0.out.drew (fun hHeld => ?_)
              obtain ⟨wdb, hwdb⟩ : ∃ wd, wr.drew = wd := ⟨_, rfl⟩
              have hBwd : Below wr.heap.size wr wdb := by rw [← hwdb]; exact Below.drew (Below.refl _ _)
              rw [hwdb] at hHeld ⊢
              clear hwdb
              refine Tm 0 ?p0b ?v0b hHeld ?r0b
              simp only [Act.put, Pa, Pb, Pc]
              refine Tm 1 ?p1b ?v1b hHeld ?r1b
              simp only [Act.put, Pa, Pb, Pc]
              refine Tm 2 ?p2b ?v2b hHeld ?r2b
              simp only [Act.put, Pa, Pb, Pc]
              refine Tm 3 ?p3b ?v3b hHeld ?r3b
              simp only [Act.put, Pa, Pb, Pc]
              refine Tk 4 ?p4b ?v4b ?y4b hHeld ?r4b
              case y4b => intro wq hq; obtain ⟨a0, a1, a2, a3, a4, a5⟩ := HS.out wq hq; go_simp; try with_reducible rfl
              simp only [Act.put, Pa, Pb, Pc]
              refine Tm 5 ?p5b ?v5b hHeld ?r5b
              simp only [Act.put, Pa, Pb, Pc]
              refine Rd 6 ?p6b ?s6b
              intro K hK
              go_simp
              refine (cq _).mono ?_
              rintro e v6 ⟨rfl, rfl⟩
              have B6 := hHeld
              refine hK.out _ _ B6 (fun hHeld => ?_)
              clear hK K
              refine Tm 7 ?p7b_6 ?v7b_6 hHeld ?r7b_6
              simp only [Act.put, Pa, Pb, Pc]
              refine Tm 8 ?p8b_6 ?v8b_6 hHeld ?r8b_6
              simp only [Act.put, Pa, Pb, Pc]
              refine Tm 9 ?p9b_6 ?v9b_6 hHeld ?r9b_6
              simp only [Act.put, Pa, Pb, Pc]
              refine Ts 10 ?p10b_6 hHeld ?r10b_6
              simp only [Act.put, Pa, Pb, Pc]
              refine Ts 11 ?p11b_6 hHeld ?r11b_6
              simp only [Act.put, Pa, Pb, Pc]
              refine Ts 12 ?p12b_6 hHeld ?r12b_6
              simp only [Act.put, Pa, Pb, Pc]
              refine Ts 13 ?p13b_6 hHeld ?r13b_6
              simp only [Act.put, Pa, Pb, Pc]
              refine Ts 14 ?p14b_6 hHeld ?r14b_6
              simp only [Act.put, Pa, Pb, Pc]
              refine Ts 15 ?p15b_6 hHeld ?r15b_6
              simp only [Act.put, Pa, Pb, Pc]
              refine Ts 16 ?p16b_6 hHeld ?r16b_6
              simp only [Act.put, Pa, Pb, Pc]
              refine Ts 17 ?p17b_6 hHeld ?r17b_6
              simp only [Act.put, Pa, Pb, Pc]
              refine Ts 18 ?p18b_6 hHeld ?r18b_6
              simp only [Act.put, Pa, Pb, Pc]
              refine Ts 19 ?p19b_6 hHeld ?r19b_6
              simp only [Act.put, Pa, Pb, Pc]
              refine Ts 20 ?p20b_6 hHeld ?r20b_6
              simp only [Act.put, Pa, Pb, Pc]
              refine Ts 21 ?p21b_6 hHeld ?r21b_6
              simp only [Act.put, Pa, Pb, Pc]
              refine Tm 22 ?p22b_6 ?v22b_6 hHeld ?r22b_6
              simp only [Act.put, Pa, Pb, Pc]
              refine wpAnyH_done (by kernel_rfl) ?_ _
              have HL2 := Hid_of (HL0.out.keep hBwd)
              go_wp2
              go_roundw
              case rel => exact ⟨k + 1, F, s, HKL.out.1, by go_num, HL2.out, HQM.out, HSN.out, by have := HC.out; omega⟩
              case measure => have := HKL.out.1; simp [intOf]; omega
          · obtain rfl : k = l.length := by omega
            have HL0 := Hid_of hL
            have cn := hL.next
            have cl := hL.log 0
            rw [hQ.nx hL.ok] at cn
            rw [hQ.lgs hL.ok] at cl
            clear hL hQ hsn hc cq
            go_wp2_with fail
            refine cn.mono ?_
            rintro e w3 ⟨rfl, rfl⟩
            clear cn
            go_wp2_with fail
            refine cl.mono ?_
            rintro e w4 ⟨ad, c, rfl, -, -, hb4⟩
            have HB4 := Hid_of (bel_up HL0.out.bel hb4 (Nat.le_refl _))
            clear cl hb4
            go_wp2_with fail
            refine (awake_any _).mono ?_
            rintro e w5 ⟨rfl, hb5⟩
            have HB5 := Hid_of (bel_up HB4.out hb5 (Nat.le_refl _))
            clear hb5
            go_wp2
            go_ret
            exact ⟨rfl, HB5.out⟩

end Go.Proofs.Ytlnbfneddnmgiaa
