/-
  The law ProposerSafe, walked.
-/
import Derived.Test.YtpolmfgklgggcaaOnceW
import Derived.Test.YtpolmfgklgggcaaSM
namespace Go.Proofs.Ytpolmfgklgggcaa
open Go.RowKit Go.Maps
set_option linter.unusedVariables false
open M (E V fup)

set_option maxRecDepth 100000 in
set_option maxHeartbeats 8000000 in
theorem safe_walk (n me : Int) (a : Option Addr) (cap : Nat) (l : List Q) (w : World) (hl : l.length ≤ maxLen) (hd : AtL ql w a l) (hok : ∀ d ∈ l, (AtL vl w d.a d.l ∧ d.l.length ≤ maxLen ∧ ∀ x ∈ d.l, x.v.size ≤ maxLen)) :
    Calls Try.prog 5 #[.int .i64 n, .int .i64 me, .slice a l.length cap] w fun e w' => e = .returned (.bool true) ∧ Below w.heap.size w w' := by
  have hm' : l.length ≤ 9223372036854775807 := by unfold maxLen at hl; omega
  have HL := Hid_of hd
  have HOK := Hid_of hok
  have cq := rquorum_any n
  clear hd hok hl
  by_cases h7 : 7 < l.length
  · have d7 : decide ((7 : Int) < (l.length : Int)) = true := decide_eq_true (by omega)
    clear cq
    go_enter Try.func5, Try.ntmps5
    as_aux_lemma =>
      go_wp2_with fail
      refine (awake_any _).mono ?_
      rintro e wz ⟨rfl, hbz⟩
      have HBZ := Hid_of (hbz)
      clear hbz
      go_wp2
      go_ret
      exact ⟨rfl, HBZ.out⟩
  · have d7 : decide ((7 : Int) < (l.length : Int)) = false := decide_eq_false (by omega)
    by_cases h8 : (l.length : Int) < M.quo n
    · have d8 : decide ((l.length : Int) < M.quo n) = true := decide_eq_true h8
      generalize M.quo n = qn at *
      go_enter Try.func5, Try.ntmps5
      go_wp2_with fail
      refine (cq _).mono ?_
      clear cq
      rintro e w1 ⟨rfl, hw1⟩
      obtain rfl := hw1.symm
      clear hw1
      as_aux_lemma =>
        go_wp2_with fail
        refine (awake_any _).mono ?_
        rintro e wz ⟨rfl, hbz⟩
        have HBZ := Hid_of (hbz)
        clear hbz
        go_wp2
        go_ret
        exact ⟨rfl, HBZ.out⟩
    · have d8 : decide ((l.length : Int) < M.quo n) = false := decide_eq_false h8
      by_cases h9 : M.quo n = 0
      · rw [h9] at cq d8
        clear h8 h9
        go_enter Try.func5, Try.ntmps5
        go_wp2_with fail
        refine (cq _).mono ?_
        rintro e w1 ⟨rfl, hw1⟩
        obtain rfl := hw1.symm
        clear hw1
        go_wp2_with fail
        refine (cq _).mono ?_
        clear cq
        rintro e w2 ⟨rfl, hw2⟩
        obtain rfl := hw2.symm
        clear hw2
        as_aux_lemma =>
          go_wp2_with fail
          refine (awake_any _).mono ?_
          rintro e wz ⟨rfl, hbz⟩
          have HBZ := Hid_of (hbz)
          clear hbz
          go_wp2
          go_ret
          exact ⟨rfl, HBZ.out⟩
      · obtain ⟨Q, HQ⟩ : ∃ Q : Nat, Hid (M.quo n = Q) := ⟨(M.quo n).toNat, Hid_of (by unfold M.quo at h9 ⊢; split at h9 <;> omega)⟩
        rw [HQ.out] at cq d8 h8 h9
        have hQ0 : Q ≠ 0 := by omega
        have d9 : ((Q : Int) == 0) = false := by simpa using hQ0
        obtain ⟨hn1, hn7, hQ4, hQn⟩ := M.quo_le HQ.out hQ0
        have hQl : Q ≤ l.length := by omega
        clear h8 h9
        go_enter Try.func5, Try.ntmps5
        go_wp2_with fail
        refine (cq _).mono ?_
        rintro e w1 ⟨rfl, hw1⟩
        obtain rfl := hw1.symm
        clear hw1
        go_wp2_with fail
        refine (cq _).mono ?_
        clear cq
        rintro e w2 ⟨rfl, hw2⟩
        obtain rfl := hw2.symm
        clear hw2
        go_wp2_with fail
        refine (newS_any w w (Below.refl _ _) n me).mono ?_
        rintro e w1 (⟨-, rfl, rfl⟩ | ⟨hnd, b, F, rfl, h1, hb1, hF1⟩)
        · skip
          as_aux_lemma =>
            go_wp2_with fail
            refine (awake_any _).mono ?_
            rintro e wz ⟨rfl, hbz⟩
            have HBZ := Hid_of (hbz)
            clear hbz
            go_wp2
            go_ret
            exact ⟨rfl, HBZ.out⟩
        · obtain ⟨hs1, hs2⟩ := M.safe_lead n me hnd
          have HS0 := Hid_of (M.Saf.zero n me hnd (Nat.pos_of_ne_zero hQ0))
          have cl := h1.lead ⟨9, 0⟩ 0
          obtain ⟨bb, HBE⟩ : ∃ bb : E, Hid (bb = ⟨10, me⟩) := ⟨_, Hid_of rfl⟩
          have HBB : Hid (bb.i = 10 ∧ bb.t = me) := Hid_of (by rw [HBE.out]; exact ⟨rfl, rfl⟩)
          rw [hs1, hs2, ← HBE.out] at cl
          clear h1 hb1 hF1 hs1 hs2 HBE
          go_wp2_with fail
          refine cl.mono ?_
          clear cl
          rintro e w3 ⟨F3, rfl, h3, hf3⟩
          obtain ⟨s3, HS3⟩ : ∃ s3, Hid (M.lds (M.S0 n me) ⟨9, 0⟩ 0 = s3) := ⟨_, Hid_of rfl⟩
          rw [HS3.out] at h3 HS0
          obtain ⟨W4, HW4⟩ : ∃ W4, Hid (w3.alloc (.cells #[.int .i64 bb.i, .int .i64 bb.t] 28) = W4) := ⟨_, Hid_of rfl⟩
          have hb4 : Below w3.heap.size w3 W4 := by rw [← HW4.out]; exact bel1 w3 _
          have hr4 : W4.heap[w3.heap.size]? = some (.cells #[.int .i64 bb.i, .int .i64 bb.t] 28 (0, 0)) := by rw [← HW4.out]; exact heap_alloc_last w3 _
          obtain ⟨B8, HB8⟩ : ∃ B8, Hid (w3.heap.size = B8) := ⟨_, Hid_of rfl⟩
          rw [HB8.out] at hr4
          have hol0 : OL w W4 F3 b B8 (.slice none 0 0) s3 bb [] := ⟨h3.keep hb4, OwnL.nil _ _ _, (fun k hk => by simp [Value.ownBlock] at hk), hr4, (fun e => by have := (h3.mine _ e).2; rw [HB8.out] at this; omega), by rw [← HB8.out]; exact h3.bel.size⟩
          have HOL0 := Hid_of hol0
          clear h3 hf3 hb4 hr4 hol0 hnd HS3
          go_upto_region 7 with fail
          rw [HW4.out, HB8.out]
          clear HW4 HB8
          go_wp2_with fail
          go_loopw [10, 11] (fun v i wr => ∃ (k : Nat) (F : Nat → Prop) (s : M.S) (all : List V), k ≤ Q ∧ i = .int .i64 k ∧ OL w wr F b B8 v s bb all ∧ M.Saf n me Q k s all ∧ all.length ≤ 20 * k) (fun v i _ => Q - (intOf i).toNat)
          case atStart => exact ⟨0, F3, _, [], by omega, rfl, HOL0.out, HS0.out, Nat.le_refl _⟩
          case round =>
            clear HOL0 HS0
            obtain ⟨k, F, s, all, hk, rfl, hol, hsf, hln⟩ := hrel
            by_cases hkQ' : k < Q
            · have hlt : k < l.length := by omega
              as_aux_lemma =>
                have hki : (k : Int) < (l.length : Int) := by omega
                have hkQ : (k : Int) < (Q : Int) := by omega
                have hbw := hol.ps.bel
                have HSF := Hid_of hsf
                obtain ⟨bl, ol, ea, z0⟩ := (HL.out.keep hbw).getQ k hlt
                have HDk := Hid_of (HOK.out _ (List.getElem_mem hlt))
                obtain ⟨d, HDD⟩ : ∃ d, Hid (l[k] = d) := ⟨_, Hid_of rfl⟩
                rw [HDD.out] at z0 HDk
                have hdl : d.l.length ≤ 9223372036854775807 := by have := HDk.out.2.1; unfold maxLen at this; omega
                have cq := rquorum_any n
                rw [HQ.out] at cq
                subst ea
                by_cases hd20 : 20 < d.l.length
                · have d20 : decide ((20 : Int) < (d.l.length : Int)) = true := decide_eq_true (by omega)
                  have HBW := Hid_of hbw
                  clear hol hsf hbw
                  go_wp2_with fail
                  refine (cq _).mono ?_
                  clear cq
                  rintro e w5 ⟨rfl, hw5⟩
                  obtain rfl := hw5.symm
                  clear hw5
                  go_wp2_with fail
                  refine (awake_any _).mono ?_
                  rintro e wz ⟨rfl, hbz⟩
                  have HBZ := Hid_of (bel_up HBW.out hbz (Nat.le_refl _))
                  clear hbz
                  go_wp2
                  go_ret
                  exact ⟨rfl, HBZ.out⟩
                · have d20 : decide ((20 : Int) < (d.l.length : Int)) = false := decide_eq_false (by omega)
                  have HSF7 := Hid_of (hsf.promise hol.ps.ok HQ.out (by omega) bb HBB.out d.l (by omega))
                  obtain ⟨s', HS7⟩ : ∃ s', Hid (M.prs s (k : Int) bb d.l = s') := ⟨_, Hid_of rfl⟩
                  rw [HS7.out] at HSF7
                  have HS15 : Hid (∀ wq, (fun wq : World => wq.heap[B8]? = some (.cells #[.int .i64 bb.i, .int .i64 bb.t] 28 (0, 0)) ∧ wq.cell? ⟨bl, ol + k, none⟩ = some (.slice d.a d.l.length d.c)) wq → wq.cell? ⟨B8, 0, none⟩ = some (.int .i64 bb.i) ∧ wq.cell? ⟨B8, 1, none⟩ = some (.int .i64 bb.t) ∧ wq.cell? ⟨bl, ol + k, none⟩ = some (.slice d.a d.l.length d.c)) := fun wq hq => ⟨(row2 hq.1).1.1, (row2 hq.1).1.2, hq.2⟩
                  clear hsf
                  go_wp2_with fail
                  refine (cq _).mono ?_
                  clear cq
                  rintro e w5 ⟨rfl, hw5⟩
                  obtain rfl := hw5.symm
                  clear hw5
                  go_upto_region 15 with fail
                  refine wp_region_held_drew (S := fun wq : World => wq.heap[B8]? = some (.cells #[.int .i64 bb.i, .int .i64 bb.t] 28 (0, 0)) ∧ wq.cell? ⟨bl, ol + k, none⟩ = some (.slice d.a d.l.length d.c)) (by kernel_rfl) ⟨hol.bx, z0⟩ (fun hHeld => ?_)
                  obtain ⟨wda, hwda⟩ : ∃ wd, wr.drew = wd := ⟨_, rfl⟩
                  have hBwd : Below wr.heap.size wr wda := by rw [← hwda]; exact Below.drew (Below.refl _ _)
                  rw [hwda] at hHeld ⊢
                  clear hwda
                  refine Tm 0 ?p0a ?v0a hHeld ?r0a
                  refine Tm 1 ?p1a ?v1a hHeld ?r1a
                  refine Tk 2 ?p2a ?v2a ?y2a hHeld ?r2a
                  case y2a => intro wq hq; obtain ⟨q0, q1, q2⟩ := HS15.out wq hq; go_simp; try with_reducible rfl
                  refine Tm 3 ?p3a ?v3a hHeld ?r3a
                  refine Tm 4 ?p4a ?v4a hHeld ?r4a
                  refine Tm 5 ?p5a ?v5a hHeld ?r5a
                  refine Tk 6 ?p6a ?v6a ?y6a hHeld ?r6a
                  case y6a => intro wq hq; obtain ⟨q0, q1, q2⟩ := HS15.out wq hq; go_simp; try with_reducible rfl
                  simp only [Act.put, Pa, Pb, Pc]
                  refine Rd 7 ?p7a ?s7a
                  intro K hK
                  go_simp
                  have hold := hol.keep hBwd
                  refine (hold.ps.promise (k : Int) bb d.a d.c d.l (HDk.out.1.keep hold.ps.bel) (fun hl0 j hj hF => by
                    have h1 := HDk.out.1.lt hl0 j hj
                    have h2 := (hold.ps.mine j hF).1
                    omega) (by have := HSF.out.c; omega)).mono ?_
                  rintro e v7 ⟨G7, rfl, h7, hf7⟩
                  have hol7 := hold.did hf7 h7
                  have hcl : v7.cell? ⟨bl, ol + k, none⟩ = some (.slice d.a d.l.length d.c) := by
                    obtain ⟨b', o', e', c'⟩ := (HL.out.keep h7.bel).getQ k hlt
                    cases e'
                    rw [HDD.out] at c'
                    exact c'
                  have B7 : v7.heap[B8]? = some (.cells #[.int .i64 bb.i, .int .i64 bb.t] 28 (0, 0)) ∧ v7.cell? ⟨bl, ol + k, none⟩ = some (.slice d.a d.l.length d.c) := ⟨hol7.bx, hcl⟩
                  clear hold h7 hf7 hcl
                  refine hK.out _ _ B7 (fun hHeld => ?_)
                  clear hK K
                  refine wpAnyH_done (by kernel_rfl) ?_ _
                  rw [HS7.out] at hol7
                  clear HS7
                  as_aux_lemma =>
                    have HOLs := Hid_of hol7
                    clear HS15 hol hHeld hBwd B7 z0
                    go_wp2_with fail
                    go_loopw [10, 12] (fun v i wx => ∃ q : Nat, q ≤ d.l.length ∧ i = .int .i64 q ∧ OL w wx G7 b B8 v s' bb (all ++ (d.l.take q).filter (M.may 0))) (fun v i _ => d.l.length - (intOf i).toNat)
                    case atStart => exact ⟨0, by omega, rfl, by rw [List.take_zero, List.filter_nil, List.append_nil]; exact HOLs.out⟩
                    case round =>
                      obtain ⟨q, hq, rfl, hol7⟩ := hrel
                      rename World => wx
                      by_cases hlq : q < d.l.length
                      · have hqi : (q : Int) < (d.l.length : Int) := by omega
                        obtain ⟨bv, ov, ea, x0, x1, x2, x3⟩ := (HDk.out.1.keep hol7.ps.bel).getV q hlq
                        obtain ⟨b', o', e', z0⟩ := (HL.out.keep hol7.ps.bel).getQ k hlt
                        cases e'
                        rw [HDD.out] at z0
                        have HFT := Hid_of (M.filter_take d.l q hlq)
                        have hsv : d.l[q].v.size ≤ 9223372036854775807 := by have := HDk.out.2.2 _ (List.getElem_mem hlq); unfold maxLen at this; omega
                        obtain ⟨v, HV⟩ : ∃ v, Hid (d.l[q] = v) := ⟨_, Hid_of rfl⟩
                        rw [HV.out] at x0 x1 x2 x3 HFT hsv
                        clear HV
                        obtain ⟨W7, HW7⟩ : ∃ W7, Hid (wx.alloc (.cells #[.int .i64 v.s, .int .i64 v.b.i, .int .i64 v.b.t, .string v.v] 36) = W7) := ⟨_, Hid_of rfl⟩
                        have hb7 : Below wx.heap.size wx W7 := by rw [← HW7.out]; exact bel1 wx _
                        have hr7 : W7.heap[wx.heap.size]? = some (.cells #[.int .i64 v.s, .int .i64 v.b.i, .int .i64 v.b.t, .string v.v] 36 (0, 0)) := by rw [← HW7.out]; exact heap_alloc_last wx _
                        have HOL7 := Hid_of (hol7.keep hb7)
                        have HR7 := Hid_of hr7
                        obtain ⟨⟨y0, y1, y2, y3⟩, -⟩ := row4 hr7
                        have cv := rvalid_any v.b
                        obtain ⟨da, dc, dll⟩ := d
                        simp only at ea z0 HFT ⊢ hqi hlq HDk HDD hd20 HOL7
                        subst ea
                        obtain ⟨al, HAL⟩ : ∃ al, Hid (all ++ (dll.take q).filter (M.may 0) = al) := ⟨_, Hid_of rfl⟩
                        rw [HAL.out] at HOL7
                        have hal : al.length ≤ 20 * k + 20 := by rw [← HAL.out, List.length_append]; have := List.length_filter_le (M.may 0) (dll.take q); rw [List.length_take] at this; omega
                        clear hol7 hb7 hr7
                        by_cases h0 : 0 ≤ v.s
                        · have d0 : decide (0 ≤ v.s) = true := decide_eq_true h0
                          by_cases h1 : v.s < 1024
                          · have d1 : decide (v.s < 1024) = true := decide_eq_true h1
                            cases hv2 : M.vld v.b with
                            | false =>
                              have HMY : Hid (M.may 0 v = false) := Hid_of (by unfold M.may; rw [hv2, Bool.and_false]; rfl)
                              rw [hv2] at cv
                              clear hv2 h0 h1
                              as_aux_lemma =>
                                go_upto_region 20 with fail
                                rw [HW7.out]
                                clear HW7 x0 x1 x2 x3 z0
                                go_wp2_with fail
                                refine (cv _).mono ?_
                                clear cv
                                rintro e w8 ⟨rfl, hb8⟩
                                have hol8 := HOL7.out.keep hb8
                                obtain ⟨⟨r0, r1, r2, r3⟩, -⟩ := row4 (bel_row HR7.out hb8)
                                clear hb8 y0 y1 y2 y3
                                have HOL9 := Hid_of hol8
                                clear hol8
                                have HRR : Hid (all ++ (dll.take (q + 1)).filter (M.may 0) = al) := Hid_of (by rw [HFT.out, HMY.out, if_neg (by simp), List.append_nil]; exact HAL.out)
                                go_wp2
                                go_roundw
                                case rel => exact ⟨q + 1, by omega, by go_num, by rw [HRR.out]; exact HOL9.out⟩
                                case measure => simp [intOf]; omega
                            | true =>
                              rw [hv2] at cv
                              by_cases h3 : v.v.size ≤ 4096
                              · have d3 : decide ((v.v.size : Int) ≤ 4096) = true := decide_eq_true (by omega)
                                have HMY : Hid (M.may 0 v = true) := Hid_of (by unfold M.may M.slot; rw [hv2, d0, d1, decide_eq_true h3]; rfl)
                                clear hv2 h0 h1 h3
                                as_aux_lemma =>
                                  go_upto_region 20 with fail
                                  rw [HW7.out]
                                  clear HW7 x0 x1 x2 x3 z0
                                  go_wp2_with fail
                                  refine (cv _).mono ?_
                                  clear cv
                                  rintro e w8 ⟨rfl, hb8⟩
                                  have hol8 := HOL7.out.keep hb8
                                  obtain ⟨⟨r0, r1, r2, r3⟩, -⟩ := row4 (bel_row HR7.out hb8)
                                  clear hb8 y0 y1 y2 y3
                                  obtain ⟨a', c', w9, hrun, ho9, hr9⟩ := app1 v hol8.ro hol8.ps.bel.size (by omega)
                                  have hol9 := hol8.app hr9 ho9
                                  obtain ⟨q8, n8, hv8, -⟩ := hol8.ro.at
                                  subst hv8
                                  have HRR : Hid (all ++ (dll.take (q + 1)).filter (M.may 0) = al ++ [v]) := Hid_of (by rw [HFT.out, HMY.out, if_pos rfl, ← List.append_assoc, HAL.out])
                                  have HOL9 := Hid_of hol9
                                  clear hol8 hol9 ho9 hr9
                                  go_wp2_with (at_builtin; refine wpList_append_known rfl _ _ 30 rfl _ _ rfl rfl _ _ (hrun _) ?_)
                                  go_roundw
                                  case rel => exact ⟨q + 1, by omega, by go_num, by rw [HRR.out]; exact HOL9.out⟩
                                  case measure => simp [intOf]; omega
                              · have d3 : decide ((v.v.size : Int) ≤ 4096) = false := decide_eq_false (by omega)
                                have HMY : Hid (M.may 0 v = false) := Hid_of (by unfold M.may; rw [decide_eq_false h3, Bool.and_false])
                                clear hv2 h0 h1 h3
                                as_aux_lemma =>
                                  go_upto_region 20 with fail
                                  rw [HW7.out]
                                  clear HW7 x0 x1 x2 x3 z0
                                  go_wp2_with fail
                                  refine (cv _).mono ?_
                                  clear cv
                                  rintro e w8 ⟨rfl, hb8⟩
                                  have hol8 := HOL7.out.keep hb8
                                  obtain ⟨⟨r0, r1, r2, r3⟩, -⟩ := row4 (bel_row HR7.out hb8)
                                  clear hb8 y0 y1 y2 y3
                                  have HOL9 := Hid_of hol8
                                  clear hol8
                                  have HRR : Hid (all ++ (dll.take (q + 1)).filter (M.may 0) = al) := Hid_of (by rw [HFT.out, HMY.out, if_neg (by simp), List.append_nil]; exact HAL.out)
                                  go_wp2
                                  go_roundw
                                  case rel => exact ⟨q + 1, by omega, by go_num, by rw [HRR.out]; exact HOL9.out⟩
                                  case measure => simp [intOf]; omega
                          · have d1 : decide (v.s < 1024) = false := decide_eq_false h1
                            have HMY : Hid (M.may 0 v = false) := Hid_of (by unfold M.may M.slot; rw [d1, Bool.and_false, Bool.and_false]; rfl)
                            clear h0 h1 cv
                            as_aux_lemma =>
                              go_upto_region 20 with fail
                              rw [HW7.out]
                              clear HW7 x0 x1 x2 x3 z0
                              have HOL9 := Hid_of HOL7.out
                              have HRR : Hid (all ++ (dll.take (q + 1)).filter (M.may 0) = al) := Hid_of (by rw [HFT.out, HMY.out, if_neg (by simp), List.append_nil]; exact HAL.out)
                              go_wp2
                              go_roundw
                              case rel => exact ⟨q + 1, by omega, by go_num, by rw [HRR.out]; exact HOL9.out⟩
                              case measure => simp [intOf]; omega
                        · have d0 : decide (0 ≤ v.s) = false := decide_eq_false h0
                          have HMY : Hid (M.may 0 v = false) := Hid_of (by unfold M.may; rw [d0]; rfl)
                          clear h0 cv
                          as_aux_lemma =>
                            go_upto_region 20 with fail
                            rw [HW7.out]
                            clear HW7 x0 x1 x2 x3 z0
                            have HOL9 := Hid_of HOL7.out
                            have HRR : Hid (all ++ (dll.take (q + 1)).filter (M.may 0) = al) := Hid_of (by rw [HFT.out, HMY.out, if_neg (by simp), List.append_nil]; exact HAL.out)
                            go_wp2
                            go_roundw
                            case rel => exact ⟨q + 1, by omega, by go_num, by rw [HRR.out]; exact HOL9.out⟩
                            case measure => simp [intOf]; omega
                      · obtain rfl : q = d.l.length := by omega
                        rw [List.take_of_length_le (Nat.le_refl _)] at hol7
                        have HOL8 := Hid_of hol7
                        obtain ⟨b', o', e', z0⟩ := (HL.out.keep hol7.ps.bel).getQ k hlt
                        cases e'
                        rw [HDD.out] at z0
                        have HLN : Hid ((all ++ d.l.filter (M.may 0)).length ≤ 20 * (k + 1)) := Hid_of (by rw [List.length_append]; have := List.length_filter_le (M.may 0) d.l; omega)
                        clear hol7
                        go_wp2
                        go_roundw
                        case rel => exact ⟨k + 1, G7, s', _, by omega, by go_num, HOL8.out, HSF7.out, HLN.out⟩
                        case measure => simp [intOf]; omega
            · clear HL HOK
              obtain rfl : k = Q := by omega
              have HSQ := Hid_of hsf
              have cq := rquorum_any n
              rw [HQ.out] at cq
              have cl := hol.ps.leads
              rw [decide_eq_true hsf.fill.2] at cl
              have cf := hol.ps.fill
              obtain ⟨out, HOU⟩ : ∃ out, Hid (M.flo s = out) := ⟨_, Hid_of rfl⟩
              have HOUT : Hid (∀ j (h : j < out.length), out[j].s = j ∧ out[j].b.i = bb.i ∧ out[j].b.t = bb.t) := fun j hj => by
                have h1 := hsf.out j (by rw [HOU.out]; exact hj)
                have e : (M.flo s)[j]'(by rw [HOU.out]; exact hj) = out[j] := by simp only [HOU.out]
                rw [e] at h1
                have h2 := HBB.out
                exact ⟨h1.1, h1.2.1.trans h2.1.symm, h1.2.2.1.trans h2.2.symm⟩
              have HOV : Hid (∀ j (h : j < out.length), out[j].v = M.val (s.f j)) := fun j hj => by
                have h1 := hsf.out j (by rw [HOU.out]; exact hj)
                have e : (M.flo s)[j]'(by rw [HOU.out]; exact hj) = out[j] := by simp only [HOU.out]
                rw [e] at h1
                exact h1.2.2.2
              have hol_len := M.flo_len s hol.ps.ok
              rw [HOU.out] at cf hol_len
              have HOL : Hid ((M.flo s).length = out.length) := Hid_of (by rw [HOU.out])
              have hal : all.length ≤ 80 := by omega
              have HOLk := Hid_of hol
              clear hol hsf
              go_wp2_with fail
              refine (cq _).mono ?_
              clear cq
              rintro e w5 ⟨rfl, hw5⟩
              obtain rfl := hw5.symm
              clear hw5
              go_wp2_with fail
              refine cl.mono ?_
              clear cl
              rintro e w6 ⟨rfl, hw6⟩
              obtain rfl := hw6.symm
              clear hw6
              go_wp2_with fail
              refine cf.mono ?_
              clear cf
              rintro e wo ⟨G6, ad, c6, rfl, hxo, hbk, h6, hf6⟩
              have hol6 := HOLk.out.did hf6 h6
              obtain ⟨a10, c10, hv10, hxa, -⟩ := hol6.ro.at
              subst hv10
              have HXA := Hid_of hxa
              have HXO := Hid_of hxo
              have HBO := Hid_of h6.bel
              have HBX8 := Hid_of hol6.bx
              clear hxa hxo hbk h6 hf6 hol6 HOLk
              go_wp2_with fail
              go_loopw [15] (fun i wr => ∃ j : Nat, j ≤ out.length ∧ i = .int .i64 j ∧ Below wo.heap.size wo wr) (fun i _ => out.length - (intOf i).toNat)
              case atStart => exact ⟨0, by omega, rfl, Below.refl _ _⟩
              case round =>
                obtain ⟨j, hj, rfl, hbj⟩ := hrel
                by_cases hlj : j < out.length
                · have hji : (j : Int) < (out.length : Int) := by omega
                  have hxj := HXO.out.keep hbj
                  obtain ⟨bO, oO, eo, -⟩ := hxj.at'.getV j hlj
                  obtain ⟨g1, g2, g3⟩ := HOUT.out j hlj
                  have HS28 : Hid (∀ wq, Below wr.heap.size wr wq → (wq.cell? ⟨bO, oO + j * 4, none⟩ = some (.int .i64 (j : Int)) ∧ wq.cell? ⟨bO, oO + j * 4 + 1, none⟩ = some (.int .i64 bb.i) ∧ wq.cell? ⟨bO, oO + j * 4 + 2, none⟩ = some (.int .i64 bb.t)) ∧ (wq.cell? ⟨B8, 0, none⟩ = some (.int .i64 bb.i) ∧ wq.cell? ⟨B8, 1, none⟩ = some (.int .i64 bb.t))) := fun wq hwq => by
                    obtain ⟨b1, o1, e1, k0, k1, k2, k3⟩ := (hxj.keep hwq).at'.getV j hlj
                    rw [eo] at e1
                    cases e1
                    rw [g1] at k0
                    rw [g2] at k1
                    rw [g3] at k2
                    exact ⟨⟨k0, k1, k2⟩, (row2 (bel_row HBX8.out (bel_up hbj hwq (Nat.le_refl _)))).1⟩
                  subst eo
                  have hne : ((j : Int) != (j : Int)) = false := by simp
                  have he := ne28 bb.i bb.t bb.i bb.t
                  have het : (!(decide (bb.i = bb.i) && decide (bb.t = bb.t))) = false := by simp
                  rw [het] at he
                  have HBJ := Hid_of hbj
                  clear hxj hbj g1 g2 g3 het
                  go_upto_region 28 with fail
                  refine wp_region_held_drew (S := fun wq => Below (wr).heap.size (wr) wq) (by kernel_rfl) (Below.drew (Below.refl _ _)) (fun hHeld => ?_)
                  obtain ⟨wdb, hwdb⟩ : ∃ wd, wr.drew = wd := ⟨_, rfl⟩
                  have hBwd : Below wr.heap.size wr wdb := by rw [← hwdb]; exact Below.drew (Below.refl _ _)
                  rw [hwdb] at hHeld ⊢
                  clear hwdb
                  refine Tm 0 ?p0b ?v0b hHeld ?r0b
                  simp only [Act.put, Pa, Pb, Pc]
                  refine Tm 1 ?p1b ?v1b hHeld ?r1b
                  simp only [Act.put, Pa, Pb, Pc]
                  refine Tm 2 ?p2b ?v2b hHeld ?r2b
                  simp only [Act.put, Pa, Pb, Pc]
                  refine Tm 3 ?p3b ?v3b hHeld ?r3b
                  simp only [Act.put, Pa, Pb, Pc]
                  refine Tk 4 ?p4b ?v4b ?y4b hHeld ?r4b
                  case y4b => intro wq hq; obtain ⟨⟨o0, o1, o2⟩, ⟨p0, p1⟩⟩ := HS28.out wq hq; go_simp; try with_reducible rfl
                  simp only [Act.put, Pa, Pb, Pc]
                  refine Tm 5 ?p5b ?v5b hHeld ?r5b
                  simp only [Act.put, Pa, Pb, Pc]
                  refine Tm 6 ?p6b ?v6b hHeld ?r6b
                  simp only [Act.put, Pa, Pb, Pc]
                  refine Tm 7 ?p7b ?v7b hHeld ?r7b
                  simp only [Act.put, Pa, Pb, Pc]
                  refine Tm 8 ?p8b ?v8b hHeld ?r8b
                  simp only [Act.put, Pa, Pb, Pc]
                  refine Tm 9 ?p9b ?v9b hHeld ?r9b
                  simp only [Act.put, Pa, Pb, Pc]
                  refine Tm 10 ?p10b ?v10b hHeld ?r10b
                  simp only [Act.put, Pa, Pb, Pc]
                  refine Tm 11 ?p11b ?v11b hHeld ?r11b
                  simp only [Act.put, Pa, Pb, Pc]
                  refine Tk 12 ?p12b ?v12b ?y12b hHeld ?r12b
                  case y12b => intro wq hq; obtain ⟨⟨o0, o1, o2⟩, ⟨p0, p1⟩⟩ := HS28.out wq hq; go_simp; try with_reducible rfl
                  simp only [Act.put, Pa, Pb, Pc]
                  refine Tk 13 ?p13b ?v13b ?y13b hHeld ?r13b
                  case y13b => intro wq hq; obtain ⟨⟨o0, o1, o2⟩, ⟨p0, p1⟩⟩ := HS28.out wq hq; go_simp; try with_reducible rfl
                  simp only [Act.put, Pa, Pb, Pc]
                  refine Tm 14 ?p14b ?v14b hHeld ?r14b
                  simp only [Act.put, Pa, Pb, Pc]
                  refine Tm 15 ?p15b ?v15b hHeld ?r15b
                  simp only [Act.put, Pa, Pb, Pc]
                  refine wpAnyH_done (by kernel_rfl) ?_ _
                  have HBF := Hid_of (bel_up HBJ.out hHeld (Nat.le_refl _))
                  clear hHeld hBwd
                  go_wp2
                  go_roundw
                  case rel => exact ⟨j + 1, by omega, by go_num, HBF.out⟩
                  case measure => simp [intOf]; omega
                · obtain rfl : j = out.length := by omega
                  have HBJ := Hid_of hbj
                  clear hbj HOUT HBX8
                  rename World => wj
                  go_wp2_with fail
                  go_loopw [16] (fun i wx => ∃ p : Nat, p ≤ all.length ∧ i = .int .i64 p ∧ Below wo.heap.size wo wx) (fun i _ => all.length - (intOf i).toNat)
                  case atStart => exact ⟨0, by omega, rfl, HBJ.out⟩
                  case round =>
                    as_aux_lemma =>
                      obtain ⟨p, hp, rfl, hbp⟩ := hrel
                      rename World => wp
                      by_cases hlp : p < all.length
                      · have hpi : (p : Int) < (all.length : Int) := by omega
                        have hxp := HXA.out.keep hbp
                        obtain ⟨bA, oA, ea, x0, x1, x2, x3⟩ := hxp.at'.getV p hlp
                        obtain ⟨v0, HV0⟩ : ∃ v0, Hid (all[p] = v0) := ⟨_, Hid_of rfl⟩
                        have hv0 : v0 ∈ all := by rw [← HV0.out]; exact List.getElem_mem _
                        rw [HV0.out] at x0 x1 x2 x3
                        have HBST := Hid_of (HSQ.out.best v0 hv0)
                        obtain ⟨s0, HS0⟩ : ∃ s0, Hid (v0.s = s0) := ⟨_, Hid_of rfl⟩
                        rw [HS0.out] at HBST
                        obtain ⟨W4, HW4⟩ : ∃ W4, Hid (wp.alloc (.cells #[.int .i64 v0.s, .int .i64 v0.b.i, .int .i64 v0.b.t, .string v0.v] 36) = W4) := ⟨_, Hid_of rfl⟩
                        have hb4 : Below wp.heap.size wp W4 := by rw [← HW4.out]; exact bel1 wp _
                        have hr4 : W4.heap[wp.heap.size]? = some (.cells #[.int .i64 v0.s, .int .i64 v0.b.i, .int .i64 v0.b.t, .string v0.v] 36 (0, 0)) := by rw [← HW4.out]; exact heap_alloc_last wp _
                        have hr4' := hr4
                        rw [HS0.out] at x0
                        have HW4' := Hid_of (bel_up hbp hb4 (Nat.le_refl _))
                        have HR4 := Hid_of hr4
                        have HB4 := Hid_of hb4
                        have HV0M := Hid_of hv0
                        have hlit : (.cells #[.int .i64 s0, .int .i64 v0.b.i, .int .i64 v0.b.t, .string v0.v] 36 : Obj) = .cells #[.int .i64 v0.s, .int .i64 v0.b.i, .int .i64 v0.b.t, .string v0.v] 36 := by rw [HS0.out]
                        have HW4 : Hid (wp.alloc (.cells #[.int .i64 s0, .int .i64 v0.b.i, .int .i64 v0.b.t, .string v0.v] 36) = W4) := Hid_of (by rw [hlit]; exact HW4.out)
                        subst ea
                        clear hxp hb4 hr4 hr4' hv0 HV0 hlit
                        go_upto_region 35 with fail
                        rw [HW4.out]
                        clear HW4 x0 x1 x2 x3
                        have HW4 := HW4'
                        have HBP := Hid_of hbp
                        clear hbp HW4'
                        go_wp2_with fail
                        go_loopw [19] (fun i wx => ∃ (q : Nat) (best : V), q ≤ all.length ∧ i = .int .i64 q ∧ wx.heap[wp.heap.size]? = some (.cells #[.int .i64 best.s, .int .i64 best.b.i, .int .i64 best.b.t, .string best.v] 36 (0, 0)) ∧ Below wp.heap.size wp wx ∧ best ∈ all ∧ best.s = s0 ∧ ∀ j (h : j < all.length), j < q → all[j].s = s0 → M.cmpE all[j].b best.b ≤ 0) (fun i _ => all.length - (intOf i).toNat)
                        case atStart => exact ⟨0, v0, by omega, rfl, HR4.out, HB4.out, HV0M.out, HS0.out, fun j h hj => by omega⟩
                        case round =>
                          obtain ⟨q, best, hq, rfl, hrb, hbx, hbm, hbs, hbq⟩ := hrel
                          rename World => wx
                          have HBX := Hid_of hbx
                          have HRB := Hid_of hrb
                          have HBM := Hid_of hbm
                          have HBS := Hid_of hbs
                          by_cases hlq : q < all.length
                          · skip
                            as_aux_lemma =>
                              have hqi : (q : Int) < (all.length : Int) := by omega
                              obtain ⟨v, HV⟩ : ∃ v, Hid (all[q] = v) := ⟨_, Hid_of rfl⟩
                              have hvm : v ∈ all := by rw [← HV.out]; exact List.getElem_mem _
                              have HNX : Hid (∀ bs : V, (v.s = s0 → M.cmpE v.b bs.b ≤ 0) → (∀ j (h : j < all.length), j < q → all[j].s = s0 → M.cmpE all[j].b bs.b ≤ 0) → ∀ j (h : j < all.length), j < q + 1 → all[j].s = s0 → M.cmpE all[j].b bs.b ≤ 0) := fun bs h1 h2 j hj hjq hjs => by
                                rcases Nat.lt_or_ge j q with h' | h'
                                · exact h2 j hj h' hjs
                                · obtain rfl : j = q := by omega
                                  rw [HV.out] at hjs ⊢
                                  exact h1 hjs
                              have hxa := HXA.out.keep (bel_up HBP.out hbx (Nat.le_refl _))
                              obtain ⟨bA', oA', ea, -⟩ := hxa.at'.getV q hlq
                              cases ea
                              have HS38 : Hid (∀ wq, Below wx.heap.size wx wq → (wq.cell? ⟨bA, oA + q * 4, none⟩ = some (.int .i64 v.s) ∧ wq.cell? ⟨bA, oA + q * 4 + 1, none⟩ = some (.int .i64 v.b.i) ∧ wq.cell? ⟨bA, oA + q * 4 + 2, none⟩ = some (.int .i64 v.b.t) ∧ wq.cell? ⟨bA, oA + q * 4 + 3, none⟩ = some (.string v.v)) ∧ (wq.cell? ⟨wp.heap.size, 0, none⟩ = some (.int .i64 best.s) ∧ wq.cell? ⟨wp.heap.size, 1, none⟩ = some (.int .i64 best.b.i) ∧ wq.cell? ⟨wp.heap.size, 2, none⟩ = some (.int .i64 best.b.t) ∧ wq.cell? ⟨wp.heap.size, 3, none⟩ = some (.string best.v))) := fun wq hwq => by
                                obtain ⟨b1, o1, e1, g1⟩ := (hxa.keep hwq).at'.getV q hlq
                                cases e1
                                rw [HV.out] at g1
                                exact ⟨g1, (row4 (bel_row hrb hwq)).1⟩
                              have HQ5 := Hid_of hbq
                              clear hxa hbx hrb hbm hbs hbq HV
                              by_cases hvs : v.s = s0
                              · have ds : (v.s == s0) = true := by simpa using hvs
                                have cr := rcmp_any v.b best.b
                                by_cases hgt : 0 < M.cmpE v.b best.b
                                · have dg : decide (0 < M.cmpE v.b best.b) = true := decide_eq_true hgt
                                  have HBQ : Hid (∀ j (h : j < all.length), j < q + 1 → all[j].s = s0 → M.cmpE all[j].b v.b ≤ 0) := Hid_of (HNX.out v (fun _ => by rw [M.cmp_le]; omega) (fun j hj hjq hjs => by
                                    have h1 := HQ5.out j hj hjq hjs
                                    rw [M.cmp_le] at h1 ⊢
                                    rw [M.cmp_lt'] at hgt
                                    omega))
                                  have HVS := Hid_of hvs
                                  have HVM := Hid_of hvm
                                  generalize M.cmpE v.b best.b = r at *
                                  clear hvs hgt HNX HQ5 hvm
                                  go_upto_region 38 with fail
                                  refine wp_region_held_drew (S := fun wq => Below (wx).heap.size (wx) wq) (by kernel_rfl) (Below.drew (Below.refl _ _)) (fun hHeld => ?_)
                                  obtain ⟨wdc, hwdc⟩ : ∃ wd, wx.drew = wd := ⟨_, rfl⟩
                                  have hBwd : Below wx.heap.size wx wdc := by rw [← hwdc]; exact Below.drew (Below.refl _ _)
                                  rw [hwdc] at hHeld ⊢
                                  clear hwdc
                                  refine Tm 0 ?p0c ?v0c hHeld ?r0c
                                  simp only [Act.put, Pa, Pb, Pc]
                                  refine Tm 1 ?p1c ?v1c hHeld ?r1c
                                  simp only [Act.put, Pa, Pb, Pc]
                                  refine Tm 2 ?p2c ?v2c hHeld ?r2c
                                  simp only [Act.put, Pa, Pb, Pc]
                                  refine Tm 3 ?p3c ?v3c hHeld ?r3c
                                  simp only [Act.put, Pa, Pb, Pc]
                                  refine Tk 4 ?p4c ?v4c ?y4c hHeld ?r4c
                                  case y4c => intro wq hq; obtain ⟨⟨q0, q1, q2, q3⟩, ⟨r0, r1, r2, r3⟩⟩ := HS38.out wq hq; go_simp; try with_reducible rfl
                                  simp only [Act.put, Pa, Pb, Pc]
                                  refine Tm 5 ?p5c ?v5c hHeld ?r5c
                                  simp only [Act.put, Pa, Pb, Pc]
                                  refine Tm 6 ?p6c ?v6c hHeld ?r6c
                                  simp only [Act.put, Pa, Pb, Pc]
                                  refine Tm 7 ?p7c ?v7c hHeld ?r7c
                                  simp only [Act.put, Pa, Pb, Pc]
                                  refine Tm 8 ?p8c ?v8c hHeld ?r8c
                                  simp only [Act.put, Pa, Pb, Pc]
                                  refine Tm 9 ?p9c ?v9c hHeld ?r9c
                                  simp only [Act.put, Pa, Pb, Pc]
                                  refine Tm 10 ?p10c ?v10c hHeld ?r10c
                                  simp only [Act.put, Pa, Pb, Pc]
                                  refine Tm 11 ?p11c ?v11c hHeld ?r11c
                                  simp only [Act.put, Pa, Pb, Pc]
                                  refine Tk 12 ?p12c ?v12c ?y12c hHeld ?r12c
                                  case y12c => intro wq hq; obtain ⟨⟨q0, q1, q2, q3⟩, ⟨r0, r1, r2, r3⟩⟩ := HS38.out wq hq; go_simp; try with_reducible rfl
                                  simp only [Act.put, Pa, Pb, Pc]
                                  refine Tm 13 ?p13c ?v13c hHeld ?r13c
                                  simp only [Act.put, Pa, Pb, Pc]
                                  refine Tk 14 ?p14c ?v14c ?y14c hHeld ?r14c
                                  case y14c => intro wq hq; obtain ⟨⟨q0, q1, q2, q3⟩, ⟨r0, r1, r2, r3⟩⟩ := HS38.out wq hq; go_simp; try with_reducible rfl
                                  simp only [Act.put, Pa, Pb, Pc]
                                  refine Rd 15 ?p15c ?s15c
                                  intro K hK
                                  go_simp
                                  refine (cr _).mono ?_
                                  rintro e w15 ⟨rfl, hb15⟩
                                  have B15 : Below wx.heap.size wx w15 := hHeld.trans (hb15.mono hHeld.size)
                                  refine hK.out _ _ B15 (fun hHeld => ?_)
                                  clear hK K
                                  refine Tm 16 ?p16c_15 ?v16c_15 hHeld ?r16c_15
                                  simp only [Act.put, Pa, Pb, Pc]
                                  refine Tm 17 ?p17c_15 ?v17c_15 hHeld ?r17c_15
                                  simp only [Act.put, Pa, Pb, Pc]
                                  refine wpAnyH_done (by kernel_rfl) ?_ _
                                  have hbb := bel_row HRB.out hHeld
                                  obtain ⟨⟨g0, g1, g2, g3⟩, -⟩ := HS38.out _ hHeld
                                  obtain ⟨⟨k0, k1, k2, k3⟩, kf⟩ := row4 hbb
                                  have kf0 := kf 0
                                  have kf1 := kf 1
                                  have kf2 := kf 2
                                  have kf3 := kf 3
                                  have HBF := Hid_of (put4_bel (bel_up HBX.out hHeld (Nat.le_refl _)) (Nat.le_refl _) (.int .i64 v.s) (.int .i64 v.b.i) (.int .i64 v.b.t) (.string v.v))
                                  have HRF := Hid_of (put4_row hbb (.int .i64 v.s) (.int .i64 v.b.i) (.int .i64 v.b.t) (.string v.v))
                                  clear hbb hHeld hBwd kf cr hb15 B15
                                  go_wp2
                                  go_roundw
                                  case rel => exact ⟨q + 1, v, by omega, by go_num, HRF.out, HBF.out, HVM.out, HVS.out, HBQ.out⟩
                                  case measure => simp [intOf]; omega
                                · have dg : decide (0 < M.cmpE v.b best.b) = false := decide_eq_false hgt
                                  have HBQ := Hid_of (HNX.out best (fun _ => by omega) HQ5.out)
                                  generalize M.cmpE v.b best.b = r at *
                                  clear hvs hgt HNX HQ5 hvm
                                  go_upto_region 38 with fail
                                  refine wp_region_held_drew (S := fun wq => Below (wx).heap.size (wx) wq) (by kernel_rfl) (Below.drew (Below.refl _ _)) (fun hHeld => ?_)
                                  obtain ⟨wdd, hwdd⟩ : ∃ wd, wx.drew = wd := ⟨_, rfl⟩
                                  have hBwd : Below wx.heap.size wx wdd := by rw [← hwdd]; exact Below.drew (Below.refl _ _)
                                  rw [hwdd] at hHeld ⊢
                                  clear hwdd
                                  refine Tm 0 ?p0d ?v0d hHeld ?r0d
                                  simp only [Act.put, Pa, Pb, Pc]
                                  refine Tm 1 ?p1d ?v1d hHeld ?r1d
                                  simp only [Act.put, Pa, Pb, Pc]
                                  refine Tm 2 ?p2d ?v2d hHeld ?r2d
                                  simp only [Act.put, Pa, Pb, Pc]
                                  refine Tm 3 ?p3d ?v3d hHeld ?r3d
                                  simp only [Act.put, Pa, Pb, Pc]
                                  refine Tk 4 ?p4d ?v4d ?y4d hHeld ?r4d
                                  case y4d => intro wq hq; obtain ⟨⟨q0, q1, q2, q3⟩, ⟨r0, r1, r2, r3⟩⟩ := HS38.out wq hq; go_simp; try with_reducible rfl
                                  simp only [Act.put, Pa, Pb, Pc]
                                  refine Tm 5 ?p5d ?v5d hHeld ?r5d
                                  simp only [Act.put, Pa, Pb, Pc]
                                  refine Tm 6 ?p6d ?v6d hHeld ?r6d
                                  simp only [Act.put, Pa, Pb, Pc]
                                  refine Tm 7 ?p7d ?v7d hHeld ?r7d
                                  simp only [Act.put, Pa, Pb, Pc]
                                  refine Tm 8 ?p8d ?v8d hHeld ?r8d
                                  simp only [Act.put, Pa, Pb, Pc]
                                  refine Tm 9 ?p9d ?v9d hHeld ?r9d
                                  simp only [Act.put, Pa, Pb, Pc]
                                  refine Tm 10 ?p10d ?v10d hHeld ?r10d
                                  simp only [Act.put, Pa, Pb, Pc]
                                  refine Tm 11 ?p11d ?v11d hHeld ?r11d
                                  simp only [Act.put, Pa, Pb, Pc]
                                  refine Tk 12 ?p12d ?v12d ?y12d hHeld ?r12d
                                  case y12d => intro wq hq; obtain ⟨⟨q0, q1, q2, q3⟩, ⟨r0, r1, r2, r3⟩⟩ := HS38.out wq hq; go_simp; try with_reducible rfl
                                  simp only [Act.put, Pa, Pb, Pc]
                                  refine Tm 13 ?p13d ?v13d hHeld ?r13d
                                  simp only [Act.put, Pa, Pb, Pc]
                                  refine Tk 14 ?p14d ?v14d ?y14d hHeld ?r14d
                                  case y14d => intro wq hq; obtain ⟨⟨q0, q1, q2, q3⟩, ⟨r0, r1, r2, r3⟩⟩ := HS38.out wq hq; go_simp; try with_reducible rfl
                                  simp only [Act.put, Pa, Pb, Pc]
                                  refine Rd 15 ?p15d ?s15d
                                  intro K hK
                                  go_simp
                                  refine (cr _).mono ?_
                                  rintro e w15 ⟨rfl, hb15⟩
                                  have B15 : Below wx.heap.size wx w15 := hHeld.trans (hb15.mono hHeld.size)
                                  refine hK.out _ _ B15 (fun hHeld => ?_)
                                  clear hK K
                                  refine Tm 16 ?p16d_15 ?v16d_15 hHeld ?r16d_15
                                  simp only [Act.put, Pa, Pb, Pc]
                                  refine Tm 17 ?p17d_15 ?v17d_15 hHeld ?r17d_15
                                  simp only [Act.put, Pa, Pb, Pc]
                                  refine wpAnyH_done (by kernel_rfl) ?_ _
                                  have hbb := bel_row HRB.out hHeld
                                  have HBF := Hid_of (bel_up HBX.out hHeld (Nat.le_refl _))
                                  have HRF := Hid_of hbb
                                  clear hbb hHeld hBwd
                                  go_wp2
                                  go_roundw
                                  case rel => exact ⟨q + 1, best, by omega, by go_num, HRF.out, HBF.out, HBM.out, HBS.out, HBQ.out⟩
                                  case measure => simp [intOf]; omega
                              · have ds : (v.s == s0) = false := by simpa using hvs
                                have HBQ := Hid_of (HNX.out best (fun h => absurd h hvs) HQ5.out)
                                clear hvs HNX HQ5 hvm
                                go_upto_region 38 with fail
                                refine wp_region_held_drew (S := fun wq => Below (wx).heap.size (wx) wq) (by kernel_rfl) (Below.drew (Below.refl _ _)) (fun hHeld => ?_)
                                obtain ⟨wde, hwde⟩ : ∃ wd, wx.drew = wd := ⟨_, rfl⟩
                                have hBwd : Below wx.heap.size wx wde := by rw [← hwde]; exact Below.drew (Below.refl _ _)
                                rw [hwde] at hHeld ⊢
                                clear hwde
                                refine Tm 0 ?p0e ?v0e hHeld ?r0e
                                simp only [Act.put, Pa, Pb, Pc]
                                refine Tm 1 ?p1e ?v1e hHeld ?r1e
                                simp only [Act.put, Pa, Pb, Pc]
                                refine Tm 2 ?p2e ?v2e hHeld ?r2e
                                simp only [Act.put, Pa, Pb, Pc]
                                refine Tm 3 ?p3e ?v3e hHeld ?r3e
                                simp only [Act.put, Pa, Pb, Pc]
                                refine Tk 4 ?p4e ?v4e ?y4e hHeld ?r4e
                                case y4e => intro wq hq; obtain ⟨⟨q0, q1, q2, q3⟩, ⟨r0, r1, r2, r3⟩⟩ := HS38.out wq hq; go_simp; try with_reducible rfl
                                simp only [Act.put, Pa, Pb, Pc]
                                refine Tm 5 ?p5e ?v5e hHeld ?r5e
                                simp only [Act.put, Pa, Pb, Pc]
                                refine Tm 6 ?p6e ?v6e hHeld ?r6e
                                simp only [Act.put, Pa, Pb, Pc]
                                refine Tm 7 ?p7e ?v7e hHeld ?r7e
                                simp only [Act.put, Pa, Pb, Pc]
                                refine Ts 8 ?p8e hHeld ?r8e
                                simp only [Act.put, Pa, Pb, Pc]
                                refine Ts 9 ?p9e hHeld ?r9e
                                simp only [Act.put, Pa, Pb, Pc]
                                refine Ts 10 ?p10e hHeld ?r10e
                                simp only [Act.put, Pa, Pb, Pc]
                                refine Ts 11 ?p11e hHeld ?r11e
                                simp only [Act.put, Pa, Pb, Pc]
                                refine Ts 12 ?p12e hHeld ?r12e
                                simp only [Act.put, Pa, Pb, Pc]
                                refine Ts 13 ?p13e hHeld ?r13e
                                simp only [Act.put, Pa, Pb, Pc]
                                refine Ts 14 ?p14e hHeld ?r14e
                                simp only [Act.put, Pa, Pb, Pc]
                                refine Ts 15 ?p15e hHeld ?r15e
                                simp only [Act.put, Pa, Pb, Pc]
                                refine Ts 16 ?p16e hHeld ?r16e
                                simp only [Act.put, Pa, Pb, Pc]
                                refine Tm 17 ?p17e ?v17e hHeld ?r17e
                                simp only [Act.put, Pa, Pb, Pc]
                                refine wpAnyH_done (by kernel_rfl) ?_ _
                                have hbb := bel_row HRB.out hHeld
                                have HBF := Hid_of (bel_up HBX.out hHeld (Nat.le_refl _))
                                have HRF := Hid_of hbb
                                clear hbb hHeld hBwd
                                go_wp2
                                go_roundw
                                case rel => exact ⟨q + 1, best, by omega, by go_num, HRF.out, HBF.out, HBM.out, HBS.out, HBQ.out⟩
                                case measure => simp [intOf]; omega
                          · obtain rfl : q = all.length := by omega
                            obtain ⟨b0, b1, kw, hkw, hkb1, hkb2, hkb3⟩ := HBST.out
                            obtain ⟨sN, rfl⟩ : ∃ sN : Nat, s0 = sN := ⟨s0.toNat, by omega⟩
                            have hsN : sN < out.length := by rw [HOL.out] at b1; omega
                            have hgeq : decide ((out.length : Int) ≤ (sN : Int)) = false := decide_eq_false (by omega)
                            have HKW : Hid (all[kw].s = (sN : Int) ∧ all[kw].b.i = best.b.i ∧ all[kw].b.t = best.b.t ∧ all[kw].v = out[sN].v) := by
                              refine ⟨hkb1, ?_⟩
                              have h1 := hkb3 best hbm hbs
                              have h2 := hbq kw hkw hkw hkb1
                              rw [M.cmp_le] at h1 h2
                              have h3 := HOV.out sN hsN
                              refine ⟨by omega, by omega, ?_⟩
                              rw [h3, hkb2]
                            have HW6 := Hid_of (bel_up HBP.out hbx (Nat.le_refl _))
                            have HRB6 := Hid_of hrb
                            have HW46 := HW6
                            have hsi : (sN : Int) < (out.length : Int) := by omega
                            clear hbx hrb hbm hbs hbq hkb1 hkb2 hkb3 HBST b0 b1 HBX HRB HBM HBS HR4 HB4 HV0M hlq
                            rename World => wv
                            go_wp2_with fail
                            go_loopw [20, 21] (fun t i wx => ∃ (q : Nat) (o : Bool), q ≤ all.length ∧ i = .int .i64 q ∧ t = .bool o ∧ Below wv.heap.size wv wx ∧ (kw < q → o = true)) (fun t i _ => all.length - (intOf i).toNat)
                            case atStart => exact ⟨0, false, by omega, rfl, rfl, Below.refl _ _, fun h => by omega⟩
                            case round =>
                              as_aux_lemma =>
                                obtain ⟨q, o, hq, rfl, rfl, hbx, hoo⟩ := hrel
                                rename World => wx
                                have HBX := Hid_of hbx
                                have HOO := Hid_of hoo
                                by_cases hlq : q < all.length
                                · have hqi : (q : Int) < (all.length : Int) := by omega
                                  obtain ⟨v, HV⟩ : ∃ v, Hid (all[q] = v) := ⟨_, Hid_of rfl⟩
                                  have HKV : Hid (kw = q → v.s = (sN : Int) ∧ v.b.i = best.b.i ∧ v.b.t = best.b.t ∧ v.v = out[sN].v) := fun e => by
                                    subst e
                                    rw [← HV.out]
                                    exact HKW.out
                                  have hxa := HXA.out.keep (bel_up HW6.out hbx (Nat.le_refl _))
                                  have hxo := HXO.out.keep (bel_up HW6.out hbx (Nat.le_refl _))
                                  obtain ⟨bA', oA', ea, -⟩ := hxa.at'.getV q hlq
                                  cases ea
                                  obtain ⟨bO, oO, eo, -⟩ := hxo.at'.getV sN hsN
                                  have HS46 : Hid (∀ wq, Below wx.heap.size wx wq → (wq.cell? ⟨bA, oA + q * 4, none⟩ = some (.int .i64 v.s) ∧ wq.cell? ⟨bA, oA + q * 4 + 1, none⟩ = some (.int .i64 v.b.i) ∧ wq.cell? ⟨bA, oA + q * 4 + 2, none⟩ = some (.int .i64 v.b.t) ∧ wq.cell? ⟨bA, oA + q * 4 + 3, none⟩ = some (.string v.v)) ∧ (wq.cell? ⟨wp.heap.size, 0, none⟩ = some (.int .i64 best.s) ∧ wq.cell? ⟨wp.heap.size, 1, none⟩ = some (.int .i64 best.b.i) ∧ wq.cell? ⟨wp.heap.size, 2, none⟩ = some (.int .i64 best.b.t) ∧ wq.cell? ⟨wp.heap.size, 3, none⟩ = some (.string best.v)) ∧ wq.cell? ⟨bO, oO + sN * 4 + 3, none⟩ = some (.string out[sN].v)) := fun wq hwq => by
                                    obtain ⟨b1, o1, e1, g1⟩ := (hxa.keep hwq).at'.getV q hlq
                                    obtain ⟨b2, o2, e2, g2⟩ := (hxo.keep hwq).at'.getV sN hsN
                                    rw [eo] at e2
                                    cases e1
                                    cases e2
                                    rw [HV.out] at g1
                                    exact ⟨g1, (row4 (bel_row HRB6.out (bel_up hbx hwq (Nat.le_refl _)))).1, g2.2.2.2⟩
                                  subst eo
                                  have he := eq28 v.b.i v.b.t best.b.i best.b.t
                                  obtain ⟨ov, HOV⟩ : ∃ ov, Hid (out[sN].v = ov) := ⟨_, Hid_of rfl⟩
                                  rw [HOV.out] at HS46 HKV
                                  clear hxa hxo hbx hoo HV HOV
                                  cases o with
                                  | true =>
                                    have HN : Hid (kw < q + 1 → true = true) := fun _ => rfl
                                    as_aux_lemma =>
                                      go_upto_region 46 with fail
                                      refine wp_region_held_drew (S := fun wq => Below (wx).heap.size (wx) wq) (by kernel_rfl) (Below.drew (Below.refl _ _)) (fun hHeld => ?_)
                                      obtain ⟨wdf, hwdf⟩ : ∃ wd, wx.drew = wd := ⟨_, rfl⟩
                                      have hBwd : Below wx.heap.size wx wdf := by rw [← hwdf]; exact Below.drew (Below.refl _ _)
                                      rw [hwdf] at hHeld ⊢
                                      clear hwdf
                                      refine Tm 0 ?p0f ?v0f hHeld ?r0f
                                      simp only [Act.put, Pa, Pb, Pc]
                                      refine Tm 1 ?p1f ?v1f hHeld ?r1f
                                      simp only [Act.put, Pa, Pb, Pc]
                                      refine Ts 2 ?p2f hHeld ?r2f
                                      simp only [Act.put, Pa, Pb, Pc]
                                      refine Ts 3 ?p3f hHeld ?r3f
                                      simp only [Act.put, Pa, Pb, Pc]
                                      refine Ts 4 ?p4f hHeld ?r4f
                                      simp only [Act.put, Pa, Pb, Pc]
                                      refine Ts 5 ?p5f hHeld ?r5f
                                      simp only [Act.put, Pa, Pb, Pc]
                                      refine Ts 6 ?p6f hHeld ?r6f
                                      simp only [Act.put, Pa, Pb, Pc]
                                      refine Ts 7 ?p7f hHeld ?r7f
                                      simp only [Act.put, Pa, Pb, Pc]
                                      refine Ts 8 ?p8f hHeld ?r8f
                                      simp only [Act.put, Pa, Pb, Pc]
                                      refine Ts 9 ?p9f hHeld ?r9f
                                      simp only [Act.put, Pa, Pb, Pc]
                                      refine Ts 10 ?p10f hHeld ?r10f
                                      simp only [Act.put, Pa, Pb, Pc]
                                      refine Ts 11 ?p11f hHeld ?r11f
                                      simp only [Act.put, Pa, Pb, Pc]
                                      refine Ts 12 ?p12f hHeld ?r12f
                                      simp only [Act.put, Pa, Pb, Pc]
                                      refine Ts 13 ?p13f hHeld ?r13f
                                      simp only [Act.put, Pa, Pb, Pc]
                                      refine Ts 14 ?p14f hHeld ?r14f
                                      simp only [Act.put, Pa, Pb, Pc]
                                      refine Ts 15 ?p15f hHeld ?r15f
                                      simp only [Act.put, Pa, Pb, Pc]
                                      refine Ts 16 ?p16f hHeld ?r16f
                                      simp only [Act.put, Pa, Pb, Pc]
                                      refine Ts 17 ?p17f hHeld ?r17f
                                      simp only [Act.put, Pa, Pb, Pc]
                                      refine Ts 18 ?p18f hHeld ?r18f
                                      simp only [Act.put, Pa, Pb, Pc]
                                      refine Ts 19 ?p19f hHeld ?r19f
                                      simp only [Act.put, Pa, Pb, Pc]
                                      refine Ts 20 ?p20f hHeld ?r20f
                                      simp only [Act.put, Pa, Pb, Pc]
                                      refine Ts 21 ?p21f hHeld ?r21f
                                      simp only [Act.put, Pa, Pb, Pc]
                                      refine Ts 22 ?p22f hHeld ?r22f
                                      simp only [Act.put, Pa, Pb, Pc]
                                      refine Ts 23 ?p23f hHeld ?r23f
                                      simp only [Act.put, Pa, Pb, Pc]
                                      refine Ts 24 ?p24f hHeld ?r24f
                                      simp only [Act.put, Pa, Pb, Pc]
                                      refine Ts 25 ?p25f hHeld ?r25f
                                      simp only [Act.put, Pa, Pb, Pc]
                                      refine Ts 26 ?p26f hHeld ?r26f
                                      simp only [Act.put, Pa, Pb, Pc]
                                      refine Ts 27 ?p27f hHeld ?r27f
                                      simp only [Act.put, Pa, Pb, Pc]
                                      refine Ts 28 ?p28f hHeld ?r28f
                                      simp only [Act.put, Pa, Pb, Pc]
                                      refine Ts 29 ?p29f hHeld ?r29f
                                      simp only [Act.put, Pa, Pb, Pc]
                                      refine Ts 30 ?p30f hHeld ?r30f
                                      simp only [Act.put, Pa, Pb, Pc]
                                      refine Ts 31 ?p31f hHeld ?r31f
                                      simp only [Act.put, Pa, Pb, Pc]
                                      refine Tm 32 ?p32f ?v32f hHeld ?r32f
                                      simp only [Act.put, Pa, Pb, Pc]
                                      refine Tm 33 ?p33f ?v33f hHeld ?r33f
                                      simp only [Act.put, Pa, Pb, Pc]
                                      refine wpAnyH_done (by kernel_rfl) ?_ _
                                      have HBF := Hid_of (bel_up HBX.out hHeld (Nat.le_refl _))
                                      clear hHeld hBwd
                                      go_wp2
                                      go_roundw
                                      case rel => exact ⟨q + 1, true, by omega, by go_num, rfl, HBF.out, HN.out⟩
                                      case measure => simp [intOf]; omega
                                  | false =>
                                    have hkq : ¬ kw < q := fun h => by have := HOO.out h; cases this
                                    by_cases hvs : v.s = (sN : Int)
                                    · have ds : (v.s == (sN : Int)) = true := by simpa using hvs
                                      cases hbe : (decide (v.b.i = best.b.i) && decide (v.b.t = best.b.t)) with
                                      | true =>
                                        rw [hbe] at he
                                        have HN : Hid (kw < q + 1 → (v.v.toList == ov.toList) = true) := fun h => by
                                          have := (HKV.out (by omega)).2.2.2
                                          rw [this]
                                          simp
                                        clear hbe hvs
                                        as_aux_lemma =>
                                          go_upto_region 46 with fail
                                          refine wp_region_held_drew (S := fun wq => Below (wx).heap.size (wx) wq) (by kernel_rfl) (Below.drew (Below.refl _ _)) (fun hHeld => ?_)
                                          obtain ⟨wdh, hwdh⟩ : ∃ wd, wx.drew = wd := ⟨_, rfl⟩
                                          have hBwd : Below wx.heap.size wx wdh := by rw [← hwdh]; exact Below.drew (Below.refl _ _)
                                          rw [hwdh] at hHeld ⊢
                                          clear hwdh
                                          refine Tm 0 ?p0h ?v0h hHeld ?r0h
                                          simp only [Act.put, Pa, Pb, Pc]
                                          refine Tm 1 ?p1h ?v1h hHeld ?r1h
                                          simp only [Act.put, Pa, Pb, Pc]
                                          refine Tm 2 ?p2h ?v2h hHeld ?r2h
                                          simp only [Act.put, Pa, Pb, Pc]
                                          refine Tm 3 ?p3h ?v3h hHeld ?r3h
                                          simp only [Act.put, Pa, Pb, Pc]
                                          refine Tm 4 ?p4h ?v4h hHeld ?r4h
                                          simp only [Act.put, Pa, Pb, Pc]
                                          refine Tm 5 ?p5h ?v5h hHeld ?r5h
                                          simp only [Act.put, Pa, Pb, Pc]
                                          refine Tk 6 ?p6h ?v6h ?y6h hHeld ?r6h
                                          case y6h => intro wq hq; obtain ⟨⟨q0, q1, q2, q3⟩, ⟨r0, r1, r2, r3⟩, u3⟩ := HS46.out wq hq; go_simp; try with_reducible rfl
                                          simp only [Act.put, Pa, Pb, Pc]
                                          refine Tm 7 ?p7h ?v7h hHeld ?r7h
                                          simp only [Act.put, Pa, Pb, Pc]
                                          refine Tm 8 ?p8h ?v8h hHeld ?r8h
                                          simp only [Act.put, Pa, Pb, Pc]
                                          refine Tm 9 ?p9h ?v9h hHeld ?r9h
                                          simp only [Act.put, Pa, Pb, Pc]
                                          refine Tm 10 ?p10h ?v10h hHeld ?r10h
                                          simp only [Act.put, Pa, Pb, Pc]
                                          refine Tm 11 ?p11h ?v11h hHeld ?r11h
                                          simp only [Act.put, Pa, Pb, Pc]
                                          refine Tm 12 ?p12h ?v12h hHeld ?r12h
                                          simp only [Act.put, Pa, Pb, Pc]
                                          refine Tm 13 ?p13h ?v13h hHeld ?r13h
                                          simp only [Act.put, Pa, Pb, Pc]
                                          refine Tk 14 ?p14h ?v14h ?y14h hHeld ?r14h
                                          case y14h => intro wq hq; obtain ⟨⟨q0, q1, q2, q3⟩, ⟨r0, r1, r2, r3⟩, u3⟩ := HS46.out wq hq; go_simp; try with_reducible rfl
                                          simp only [Act.put, Pa, Pb, Pc]
                                          refine Tm 15 ?p15h ?v15h hHeld ?r15h
                                          simp only [Act.put, Pa, Pb, Pc]
                                          refine Tk 16 ?p16h ?v16h ?y16h hHeld ?r16h
                                          case y16h => intro wq hq; obtain ⟨⟨q0, q1, q2, q3⟩, ⟨r0, r1, r2, r3⟩, u3⟩ := HS46.out wq hq; go_simp; try with_reducible rfl
                                          simp only [Act.put, Pa, Pb, Pc]
                                          refine Tm 17 ?p17h ?v17h hHeld ?r17h
                                          simp only [Act.put, Pa, Pb, Pc]
                                          refine Tm 18 ?p18h ?v18h hHeld ?r18h
                                          simp only [Act.put, Pa, Pb, Pc]
                                          refine Tm 19 ?p19h ?v19h hHeld ?r19h
                                          simp only [Act.put, Pa, Pb, Pc]
                                          refine Tm 20 ?p20h ?v20h hHeld ?r20h
                                          simp only [Act.put, Pa, Pb, Pc]
                                          refine Tm 21 ?p21h ?v21h hHeld ?r21h
                                          simp only [Act.put, Pa, Pb, Pc]
                                          refine Tm 22 ?p22h ?v22h hHeld ?r22h
                                          simp only [Act.put, Pa, Pb, Pc]
                                          refine Tm 23 ?p23h ?v23h hHeld ?r23h
                                          simp only [Act.put, Pa, Pb, Pc]
                                          refine Tk 24 ?p24h ?v24h ?y24h hHeld ?r24h
                                          case y24h => intro wq hq; obtain ⟨⟨q0, q1, q2, q3⟩, ⟨r0, r1, r2, r3⟩, u3⟩ := HS46.out wq hq; go_simp; try with_reducible rfl
                                          simp only [Act.put, Pa, Pb, Pc]
                                          refine Tm 25 ?p25h ?v25h hHeld ?r25h
                                          simp only [Act.put, Pa, Pb, Pc]
                                          refine Tm 26 ?p26h ?v26h hHeld ?r26h
                                          simp only [Act.put, Pa, Pb, Pc]
                                          refine Tm 27 ?p27h ?v27h hHeld ?r27h
                                          simp only [Act.put, Pa, Pb, Pc]
                                          refine Tm 28 ?p28h ?v28h hHeld ?r28h
                                          simp only [Act.put, Pa, Pb, Pc]
                                          refine Tk 29 ?p29h ?v29h ?y29h hHeld ?r29h
                                          case y29h => intro wq hq; obtain ⟨⟨q0, q1, q2, q3⟩, ⟨r0, r1, r2, r3⟩, u3⟩ := HS46.out wq hq; go_simp; try with_reducible rfl
                                          simp only [Act.put, Pa, Pb, Pc]
                                          refine Tm 30 ?p30h ?v30h hHeld ?r30h
                                          simp only [Act.put, Pa, Pb, Pc]
                                          refine Tm 31 ?p31h ?v31h hHeld ?r31h
                                          simp only [Act.put, Pa, Pb, Pc]
                                          refine Tm 32 ?p32h ?v32h hHeld ?r32h
                                          simp only [Act.put, Pa, Pb, Pc]
                                          refine Tm 33 ?p33h ?v33h hHeld ?r33h
                                          simp only [Act.put, Pa, Pb, Pc]
                                          refine wpAnyH_done (by kernel_rfl) ?_ _
                                          have HBF := Hid_of (bel_up HBX.out hHeld (Nat.le_refl _))
                                          clear hHeld hBwd
                                          go_wp2
                                          go_roundw
                                          case rel => exact ⟨q + 1, (v.v.toList == ov.toList), by omega, by go_num, rfl, HBF.out, HN.out⟩
                                          case measure => simp [intOf]; omega
                                      | false =>
                                        rw [hbe] at he
                                        have HN : Hid (kw < q + 1 → false = true) := fun h => by
                                          have := HKV.out (by omega)
                                          rw [decide_eq_true this.2.1, decide_eq_true this.2.2.1] at hbe
                                          cases hbe
                                        clear hbe hvs
                                        as_aux_lemma =>
                                          go_upto_region 46 with fail
                                          refine wp_region_held_drew (S := fun wq => Below (wx).heap.size (wx) wq) (by kernel_rfl) (Below.drew (Below.refl _ _)) (fun hHeld => ?_)
                                          obtain ⟨wdi, hwdi⟩ : ∃ wd, wx.drew = wd := ⟨_, rfl⟩
                                          have hBwd : Below wx.heap.size wx wdi := by rw [← hwdi]; exact Below.drew (Below.refl _ _)
                                          rw [hwdi] at hHeld ⊢
                                          clear hwdi
                                          refine Tm 0 ?p0i ?v0i hHeld ?r0i
                                          simp only [Act.put, Pa, Pb, Pc]
                                          refine Tm 1 ?p1i ?v1i hHeld ?r1i
                                          simp only [Act.put, Pa, Pb, Pc]
                                          refine Tm 2 ?p2i ?v2i hHeld ?r2i
                                          simp only [Act.put, Pa, Pb, Pc]
                                          refine Tm 3 ?p3i ?v3i hHeld ?r3i
                                          simp only [Act.put, Pa, Pb, Pc]
                                          refine Tm 4 ?p4i ?v4i hHeld ?r4i
                                          simp only [Act.put, Pa, Pb, Pc]
                                          refine Tm 5 ?p5i ?v5i hHeld ?r5i
                                          simp only [Act.put, Pa, Pb, Pc]
                                          refine Tk 6 ?p6i ?v6i ?y6i hHeld ?r6i
                                          case y6i => intro wq hq; obtain ⟨⟨q0, q1, q2, q3⟩, ⟨r0, r1, r2, r3⟩, u3⟩ := HS46.out wq hq; go_simp; try with_reducible rfl
                                          simp only [Act.put, Pa, Pb, Pc]
                                          refine Tm 7 ?p7i ?v7i hHeld ?r7i
                                          simp only [Act.put, Pa, Pb, Pc]
                                          refine Tm 8 ?p8i ?v8i hHeld ?r8i
                                          simp only [Act.put, Pa, Pb, Pc]
                                          refine Tm 9 ?p9i ?v9i hHeld ?r9i
                                          simp only [Act.put, Pa, Pb, Pc]
                                          refine Tm 10 ?p10i ?v10i hHeld ?r10i
                                          simp only [Act.put, Pa, Pb, Pc]
                                          refine Tm 11 ?p11i ?v11i hHeld ?r11i
                                          simp only [Act.put, Pa, Pb, Pc]
                                          refine Tm 12 ?p12i ?v12i hHeld ?r12i
                                          simp only [Act.put, Pa, Pb, Pc]
                                          refine Tm 13 ?p13i ?v13i hHeld ?r13i
                                          simp only [Act.put, Pa, Pb, Pc]
                                          refine Tk 14 ?p14i ?v14i ?y14i hHeld ?r14i
                                          case y14i => intro wq hq; obtain ⟨⟨q0, q1, q2, q3⟩, ⟨r0, r1, r2, r3⟩, u3⟩ := HS46.out wq hq; go_simp; try with_reducible rfl
                                          simp only [Act.put, Pa, Pb, Pc]
                                          refine Tm 15 ?p15i ?v15i hHeld ?r15i
                                          simp only [Act.put, Pa, Pb, Pc]
                                          refine Tk 16 ?p16i ?v16i ?y16i hHeld ?r16i
                                          case y16i => intro wq hq; obtain ⟨⟨q0, q1, q2, q3⟩, ⟨r0, r1, r2, r3⟩, u3⟩ := HS46.out wq hq; go_simp; try with_reducible rfl
                                          simp only [Act.put, Pa, Pb, Pc]
                                          refine Tm 17 ?p17i ?v17i hHeld ?r17i
                                          simp only [Act.put, Pa, Pb, Pc]
                                          refine Tm 18 ?p18i ?v18i hHeld ?r18i
                                          simp only [Act.put, Pa, Pb, Pc]
                                          refine Tm 19 ?p19i ?v19i hHeld ?r19i
                                          simp only [Act.put, Pa, Pb, Pc]
                                          refine Ts 20 ?p20i hHeld ?r20i
                                          simp only [Act.put, Pa, Pb, Pc]
                                          refine Ts 21 ?p21i hHeld ?r21i
                                          simp only [Act.put, Pa, Pb, Pc]
                                          refine Ts 22 ?p22i hHeld ?r22i
                                          simp only [Act.put, Pa, Pb, Pc]
                                          refine Ts 23 ?p23i hHeld ?r23i
                                          simp only [Act.put, Pa, Pb, Pc]
                                          refine Ts 24 ?p24i hHeld ?r24i
                                          simp only [Act.put, Pa, Pb, Pc]
                                          refine Ts 25 ?p25i hHeld ?r25i
                                          simp only [Act.put, Pa, Pb, Pc]
                                          refine Ts 26 ?p26i hHeld ?r26i
                                          simp only [Act.put, Pa, Pb, Pc]
                                          refine Ts 27 ?p27i hHeld ?r27i
                                          simp only [Act.put, Pa, Pb, Pc]
                                          refine Ts 28 ?p28i hHeld ?r28i
                                          simp only [Act.put, Pa, Pb, Pc]
                                          refine Ts 29 ?p29i hHeld ?r29i
                                          simp only [Act.put, Pa, Pb, Pc]
                                          refine Ts 30 ?p30i hHeld ?r30i
                                          simp only [Act.put, Pa, Pb, Pc]
                                          refine Tm 31 ?p31i ?v31i hHeld ?r31i
                                          simp only [Act.put, Pa, Pb, Pc]
                                          refine Tm 32 ?p32i ?v32i hHeld ?r32i
                                          simp only [Act.put, Pa, Pb, Pc]
                                          refine Tm 33 ?p33i ?v33i hHeld ?r33i
                                          simp only [Act.put, Pa, Pb, Pc]
                                          refine wpAnyH_done (by kernel_rfl) ?_ _
                                          have HBF := Hid_of (bel_up HBX.out hHeld (Nat.le_refl _))
                                          clear hHeld hBwd
                                          go_wp2
                                          go_roundw
                                          case rel => exact ⟨q + 1, false, by omega, by go_num, rfl, HBF.out, HN.out⟩
                                          case measure => simp [intOf]; omega
                                    · have ds : (v.s == (sN : Int)) = false := by simpa using hvs
                                      have HN : Hid (kw < q + 1 → false = true) := fun h => absurd (HKV.out (by omega)).1 hvs
                                      clear hvs
                                      as_aux_lemma =>
                                        go_upto_region 46 with fail
                                        refine wp_region_held_drew (S := fun wq => Below (wx).heap.size (wx) wq) (by kernel_rfl) (Below.drew (Below.refl _ _)) (fun hHeld => ?_)
                                        obtain ⟨wdj, hwdj⟩ : ∃ wd, wx.drew = wd := ⟨_, rfl⟩
                                        have hBwd : Below wx.heap.size wx wdj := by rw [← hwdj]; exact Below.drew (Below.refl _ _)
                                        rw [hwdj] at hHeld ⊢
                                        clear hwdj
                                        refine Tm 0 ?p0j ?v0j hHeld ?r0j
                                        simp only [Act.put, Pa, Pb, Pc]
                                        refine Tm 1 ?p1j ?v1j hHeld ?r1j
                                        simp only [Act.put, Pa, Pb, Pc]
                                        refine Tm 2 ?p2j ?v2j hHeld ?r2j
                                        simp only [Act.put, Pa, Pb, Pc]
                                        refine Tm 3 ?p3j ?v3j hHeld ?r3j
                                        simp only [Act.put, Pa, Pb, Pc]
                                        refine Tm 4 ?p4j ?v4j hHeld ?r4j
                                        simp only [Act.put, Pa, Pb, Pc]
                                        refine Tm 5 ?p5j ?v5j hHeld ?r5j
                                        simp only [Act.put, Pa, Pb, Pc]
                                        refine Tk 6 ?p6j ?v6j ?y6j hHeld ?r6j
                                        case y6j => intro wq hq; obtain ⟨⟨q0, q1, q2, q3⟩, ⟨r0, r1, r2, r3⟩, u3⟩ := HS46.out wq hq; go_simp; try with_reducible rfl
                                        simp only [Act.put, Pa, Pb, Pc]
                                        refine Tm 7 ?p7j ?v7j hHeld ?r7j
                                        simp only [Act.put, Pa, Pb, Pc]
                                        refine Tm 8 ?p8j ?v8j hHeld ?r8j
                                        simp only [Act.put, Pa, Pb, Pc]
                                        refine Tm 9 ?p9j ?v9j hHeld ?r9j
                                        simp only [Act.put, Pa, Pb, Pc]
                                        refine Ts 10 ?p10j hHeld ?r10j
                                        simp only [Act.put, Pa, Pb, Pc]
                                        refine Ts 11 ?p11j hHeld ?r11j
                                        simp only [Act.put, Pa, Pb, Pc]
                                        refine Ts 12 ?p12j hHeld ?r12j
                                        simp only [Act.put, Pa, Pb, Pc]
                                        refine Ts 13 ?p13j hHeld ?r13j
                                        simp only [Act.put, Pa, Pb, Pc]
                                        refine Ts 14 ?p14j hHeld ?r14j
                                        simp only [Act.put, Pa, Pb, Pc]
                                        refine Ts 15 ?p15j hHeld ?r15j
                                        simp only [Act.put, Pa, Pb, Pc]
                                        refine Ts 16 ?p16j hHeld ?r16j
                                        simp only [Act.put, Pa, Pb, Pc]
                                        refine Ts 17 ?p17j hHeld ?r17j
                                        simp only [Act.put, Pa, Pb, Pc]
                                        refine Tm 18 ?p18j ?v18j hHeld ?r18j
                                        simp only [Act.put, Pa, Pb, Pc]
                                        refine Tm 19 ?p19j ?v19j hHeld ?r19j
                                        simp only [Act.put, Pa, Pb, Pc]
                                        refine Ts 20 ?p20j hHeld ?r20j
                                        simp only [Act.put, Pa, Pb, Pc]
                                        refine Ts 21 ?p21j hHeld ?r21j
                                        simp only [Act.put, Pa, Pb, Pc]
                                        refine Ts 22 ?p22j hHeld ?r22j
                                        simp only [Act.put, Pa, Pb, Pc]
                                        refine Ts 23 ?p23j hHeld ?r23j
                                        simp only [Act.put, Pa, Pb, Pc]
                                        refine Ts 24 ?p24j hHeld ?r24j
                                        simp only [Act.put, Pa, Pb, Pc]
                                        refine Ts 25 ?p25j hHeld ?r25j
                                        simp only [Act.put, Pa, Pb, Pc]
                                        refine Ts 26 ?p26j hHeld ?r26j
                                        simp only [Act.put, Pa, Pb, Pc]
                                        refine Ts 27 ?p27j hHeld ?r27j
                                        simp only [Act.put, Pa, Pb, Pc]
                                        refine Ts 28 ?p28j hHeld ?r28j
                                        simp only [Act.put, Pa, Pb, Pc]
                                        refine Ts 29 ?p29j hHeld ?r29j
                                        simp only [Act.put, Pa, Pb, Pc]
                                        refine Ts 30 ?p30j hHeld ?r30j
                                        simp only [Act.put, Pa, Pb, Pc]
                                        refine Tm 31 ?p31j ?v31j hHeld ?r31j
                                        simp only [Act.put, Pa, Pb, Pc]
                                        refine Tm 32 ?p32j ?v32j hHeld ?r32j
                                        simp only [Act.put, Pa, Pb, Pc]
                                        refine Tm 33 ?p33j ?v33j hHeld ?r33j
                                        simp only [Act.put, Pa, Pb, Pc]
                                        refine wpAnyH_done (by kernel_rfl) ?_ _
                                        have HBF := Hid_of (bel_up HBX.out hHeld (Nat.le_refl _))
                                        clear hHeld hBwd
                                        go_wp2
                                        go_roundw
                                        case rel => exact ⟨q + 1, false, by omega, by go_num, rfl, HBF.out, HN.out⟩
                                        case measure => simp [intOf]; omega
                                · obtain rfl : q = all.length := by omega
                                  obtain rfl : o = true := HOO.out (by omega)
                                  have HBF := Hid_of (bel_up HW46.out hbx (Nat.le_refl _))
                                  clear hbx hoo
                                  go_wp2
                                  go_roundw
                                  case rel => exact ⟨p + 1, by omega, by go_num, HBF.out⟩
                                  case measure => simp [intOf]; omega
                      · obtain rfl : p = all.length := by omega
                        have HBF := Hid_of (bel_up HBO.out hbp (Nat.le_refl _))
                        clear hbp
                        go_wp2_with fail
                        refine (awake_any _).mono ?_
                        rintro e wz ⟨rfl, hbz⟩
                        have HBZ := Hid_of (bel_up HBF.out hbz (Nat.le_refl _))
                        clear hbz
                        go_wp2
                        go_ret
                        exact ⟨rfl, HBZ.out⟩

end Go.Proofs.Ytpolmfgklgggcaa
