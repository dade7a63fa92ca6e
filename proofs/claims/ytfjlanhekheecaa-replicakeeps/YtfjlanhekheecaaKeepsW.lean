/-
  The law ReplicaKeeps, walked.
-/
import Derived.Test.YtfjlanhekheecaaDD
namespace Go.Proofs.Ytfjlanhekheecaa
open Go.RowKit Go.Maps
set_option linter.unusedVariables false
open M (E V)
open Rm (NT R)


theorem keeps1 (n : Int) (v : V) (hq : M.quo n ≠ 0) (hv : M.vld v.b = true) (h0 : 0 ≤ v.s) (h1 : v.s < 1024) (h2 : v.v.size ≤ 4096) :
    Np.M.nde n 0 = true ∧ Rm.tkN (Rm.r0 n 0) ⟨3, 0, 0, 0, ⟨0, 0⟩, [v]⟩ = Rm.toE (Rm.r0 n 0) 4 v ∧ Rm.tkS (Rm.r0 n 0) ⟨3, 0, 0, 0, ⟨0, 0⟩, [v]⟩ = { Rm.r0 n 0 with p := Np.M.sts (Np.M.S0 n 0) v.b, a := ⟨v.b, 0, [v]⟩ } := by
  have hn : 1 ≤ n ∧ n ≤ 7 := by
    unfold M.quo at hq
    split at hq
    · exact absurd rfl hq
    · omega
  have hT : Rm.tkb (Rm.r0 n 0) ⟨3, 0, 0, 0, ⟨0, 0⟩, [v]⟩ = true := by
    unfold Rm.tkb Rm.isN Rm.r0
    simp
    omega
  have hm : Na.M.may Na.M.S0 v.b = true := by
    have h3 := M.cmpE_three v.b ⟨0, 0⟩
    unfold M.vld at hv
    simp only [Bool.and_eq_true, decide_eq_true_eq] at hv
    unfold Na.M.may
    rw [show M.vld v.b = true by unfold M.vld; simp only [Bool.and_eq_true, decide_eq_true_eq]; exact hv, Bool.true_and, decide_eq_true_eq]
    show 0 ≤ M.cmpE v.b ⟨0, 0⟩
    simp only at h3
    omega
  have hA : Na.M.acb Na.M.S0 v = true := by
    unfold Na.M.acb
    rw [hm, Bool.true_and, decide_eq_true h1, decide_eq_true h2, Bool.and_true, Bool.and_true]
    exact decide_eq_true h0
  refine ⟨by unfold Np.M.nde; simp only [Bool.and_eq_true, decide_eq_true_eq]; omega, ?_, ?_⟩
  · unfold Rm.tkN
    rw [hT, if_pos rfl]
    show Rm.q3N (Rm.r0 n 0) v = _
    unfold Rm.q3N
    rw [show (Rm.r0 n 0).a = Na.M.S0 from rfl, hA, if_pos rfl]
  · unfold Rm.tkS
    rw [hT, if_pos rfl]
    show Rm.q3S (Rm.r0 n 0) v = _
    unfold Rm.q3S
    rw [show (Rm.r0 n 0).a = Na.M.S0 from rfl, Na.M.acs_yes hA]
    rfl
theorem keeps2 (n : Int) (v : V) (b : E) (p : Np.M.S) (l : Nl.M.S) (hn : 1 ≤ n) (hb : M.vld b = true) (h0 : 0 ≤ v.s) :
    Rm.tkN ⟨n, 0, ⟨v.b, 0, [v]⟩, p, l⟩ ⟨1, 0, 0, 0, b, []⟩ = if M.cmpE b v.b < 0 then [] else [⟨2, 0, 0, 0, b, [v]⟩] := by
  have hT : Rm.tkb ⟨n, 0, ⟨v.b, 0, [v]⟩, p, l⟩ ⟨1, 0, 0, 0, b, []⟩ = true := by
    unfold Rm.tkb Rm.isN
    simp
    omega
  unfold Rm.tkN
  rw [hT, if_pos rfl]
  show Rm.q1N ⟨n, 0, ⟨v.b, 0, [v]⟩, p, l⟩ 0 b 0 = _
  have hP : Na.M.prb ⟨v.b, 0, [v]⟩ b 0 = decide (0 ≤ M.cmpE b v.b) := by
    unfold Na.M.prb Na.M.may
    rw [hb, Bool.true_and]
    simp
  unfold Rm.q1N Rm.q1b
  simp only
  rw [hP]
  by_cases hc : M.cmpE b v.b < 0
  · rw [if_pos hc, decide_eq_false (by omega), Bool.and_false]
    rfl
  · rw [if_neg hc, decide_eq_true (by omega)]
    have hpr : Na.M.prl ⟨v.b, 0, [v]⟩ b 0 = [v] := by
      unfold Na.M.prl
      rw [hP, decide_eq_true (by omega), if_pos rfl]
      exact Na.M.vts_all fun x hx => by simp at hx; subst hx; exact h0
    rw [hpr]
    rfl
set_option maxRecDepth 100000
set_option maxHeartbeats 2000000
theorem keeps_walk (n : Int) (x : V) (y : E) (w : World) (hsz : x.v.size ≤ maxLen) (hwf : (Lit.int .i64 x.s).wf = true) : Calls Try.prog 4 #[.int .i64 n, .agg #[.int .i64 x.s, .int .i64 x.b.i, .int .i64 x.b.t, .string x.v], .agg #[.int .i64 y.i, .int .i64 y.t]] w fun e w' => e = .returned (.bool true) ∧ Below w.heap.size w w' := by
  have HK1 := Hid_of (fun q hv h0 h1 h2 => keeps1 n x q hv h0 h1 h2)
  have HK2 := Hid_of (fun p l hn hb h0 => keeps2 n x y p l hn hb h0)
  have cv := rvalid_any x.b
  have cb := rvalid_any y
  have cc := rcmp_any y x.b
  have HNN : Hid (M.quo n ≠ 0 → 1 ≤ n ∧ n ≤ 7) := fun hq => by
    unfold M.quo at hq
    split at hq
    · exact absurd rfl hq
    · omega
  obtain ⟨s, ⟨i, t⟩, v⟩ := x
  obtain ⟨j, u⟩ := y
  simp only at cv cb cc hsz hwf
  obtain ⟨W1, HW1⟩ : ∃ W1, Hid ((w.alloc (.cells #[.int .i64 s, .int .i64 i, .int .i64 t, .string v] 42)).alloc (.cells #[.int .i64 j, .int .i64 u] 30) = W1) := ⟨_, Hid_of rfl⟩
  have hbb : Below w.heap.size w W1 := by rw [← HW1.out]; exact bel_up (bel1 w _) (bel1 _ _) (Nat.le_refl _)
  have hr0 : W1.heap[w.heap.size]? = some (.cells #[.int .i64 s, .int .i64 i, .int .i64 t, .string v] 42 (0, 0)) := by rw [← HW1.out]; exact heap_alloc2_old w _ _
  have hr1 : W1.heap[w.heap.size + 1]? = some (.cells #[.int .i64 j, .int .i64 u] 30 (0, 0)) := by rw [← HW1.out]; exact heap_alloc2_new w _ _
  obtain ⟨⟨x0, x1, x2, x3⟩, _⟩ := row4 hr0
  obtain ⟨⟨k0, k1⟩, _⟩ := row2 hr1
  have cq := rquorum_any n W1
  have HR0 := Hid_of hr0
  have HR1 := Hid_of hr1
  have HBB := Hid_of hbb
  have hmx : v.size ≤ 9223372036854775807 := by unfold maxLen at hsz; omega
  clear hbb hr0 hr1 hsz
  obtain ⟨q, hq⟩ : ∃ q, M.quo n = q := ⟨_, rfl⟩
  obtain ⟨bv, hbv⟩ : ∃ bv, M.vld ⟨i, t⟩ = bv := ⟨_, rfl⟩
  obtain ⟨bb, hbb⟩ : ∃ bb, M.vld ⟨j, u⟩ = bb := ⟨_, rfl⟩
  rw [hq] at cq
  rw [hbv] at cv
  rw [hbb] at cb
  have HQ := Hid_of hq
  have HV := Hid_of hbv
  have HVB := Hid_of hbb
  clear hq hbv hbb
  by_cases h1 : q = 0
  · subst h1
    go_enter Try.func4, Try.ntmps4
    go_upto_region 1 with fail
    rw [HW1.out]
    clear HW1
    go_wp2_with fail
    refine cq.mono ?_
    rintro e w1 ⟨rfl, hw1⟩
    subst hw1
    go_wp2_with fail
    refine (awake_any _).mono ?_
    rintro e w9 ⟨rfl, hb9⟩
    have HB9 := Hid_of (bel_up HBB.out (bel_up (Below.refl _ _) hb9 (Nat.le_refl _)) (Nat.le_refl _))
    clear hb9
    go_wp2
    go_ret
    exact ⟨rfl, HB9.out⟩
  have d1 : (q == 0) = false := by simpa using h1
  cases bv with
  | false =>
    go_enter Try.func4, Try.ntmps4
    go_upto_region 1 with fail
    rw [HW1.out]
    clear HW1
    go_wp2_with fail
    refine cq.mono ?_
    rintro e w1 ⟨rfl, hw1⟩
    subst hw1
    go_wp2_with fail
    refine (cv _).mono ?_
    rintro e w2 ⟨rfl, hb2⟩
    obtain ⟨⟨z0, z1, z2, z3⟩, _⟩ := row4 (bel_row HR0.out hb2)
    obtain ⟨⟨y0, y1⟩, _⟩ := row2 (bel_row HR1.out hb2)
    have HB2 := Hid_of hb2
    clear hb2 x0 x1 x2 x3 k0 k1
    go_wp2_with fail
    refine (awake_any _).mono ?_
    rintro e w9 ⟨rfl, hb9⟩
    have HB9 := Hid_of (bel_up HBB.out (bel_up HB2.out hb9 (Nat.le_refl _)) (Nat.le_refl _))
    clear hb9
    go_wp2
    go_ret
    exact ⟨rfl, HB9.out⟩
  | true =>
    cases bb with
    | false =>
      go_enter Try.func4, Try.ntmps4
      go_upto_region 1 with fail
      rw [HW1.out]
      clear HW1
      go_wp2_with fail
      refine cq.mono ?_
      rintro e w1 ⟨rfl, hw1⟩
      subst hw1
      go_wp2_with fail
      refine (cv _).mono ?_
      rintro e w2 ⟨rfl, hb2⟩
      obtain ⟨⟨z0, z1, z2, z3⟩, _⟩ := row4 (bel_row HR0.out hb2)
      obtain ⟨⟨y0, y1⟩, _⟩ := row2 (bel_row HR1.out hb2)
      have HB2 := Hid_of hb2
      clear hb2 x0 x1 x2 x3 k0 k1
      go_wp2_with fail
      refine (cb _).mono ?_
      rintro e w3 ⟨rfl, hb3⟩
      have HB3 := Hid_of (bel_up HB2.out hb3 (Nat.le_refl _))
      obtain ⟨⟨x0, x1, x2, x3⟩, _⟩ := row4 (bel_row HR0.out HB3.out)
      obtain ⟨⟨k0, k1⟩, _⟩ := row2 (bel_row HR1.out HB3.out)
      clear hb3 z0 z1 z2 z3 y0 y1
      go_wp2_with fail
      refine (awake_any _).mono ?_
      rintro e w9 ⟨rfl, hb9⟩
      have HB9 := Hid_of (bel_up HBB.out (bel_up HB3.out hb9 (Nat.le_refl _)) (Nat.le_refl _))
      clear hb9
      go_wp2
      go_ret
      exact ⟨rfl, HB9.out⟩
    | true =>
      by_cases h4 : s < 0
      · have d4 : decide (s < 0) = true := decide_eq_true h4
        go_enter Try.func4, Try.ntmps4
        go_upto_region 1 with fail
        rw [HW1.out]
        clear HW1
        go_wp2_with fail
        refine cq.mono ?_
        rintro e w1 ⟨rfl, hw1⟩
        subst hw1
        go_wp2_with fail
        refine (cv _).mono ?_
        rintro e w2 ⟨rfl, hb2⟩
        obtain ⟨⟨z0, z1, z2, z3⟩, _⟩ := row4 (bel_row HR0.out hb2)
        obtain ⟨⟨y0, y1⟩, _⟩ := row2 (bel_row HR1.out hb2)
        have HB2 := Hid_of hb2
        clear hb2 x0 x1 x2 x3 k0 k1
        go_wp2_with fail
        refine (cb _).mono ?_
        rintro e w3 ⟨rfl, hb3⟩
        have HB3 := Hid_of (bel_up HB2.out hb3 (Nat.le_refl _))
        obtain ⟨⟨x0, x1, x2, x3⟩, _⟩ := row4 (bel_row HR0.out HB3.out)
        obtain ⟨⟨k0, k1⟩, _⟩ := row2 (bel_row HR1.out HB3.out)
        clear hb3 z0 z1 z2 z3 y0 y1
        go_wp2_with fail
        refine (awake_any _).mono ?_
        rintro e w9 ⟨rfl, hb9⟩
        have HB9 := Hid_of (bel_up HBB.out (bel_up HB3.out hb9 (Nat.le_refl _)) (Nat.le_refl _))
        clear hb9
        go_wp2
        go_ret
        exact ⟨rfl, HB9.out⟩
      have d4 : decide (s < 0) = false := decide_eq_false h4
      by_cases h5 : 1024 ≤ s
      · have d5 : decide (1024 ≤ s) = true := decide_eq_true h5
        go_enter Try.func4, Try.ntmps4
        go_upto_region 1 with fail
        rw [HW1.out]
        clear HW1
        go_wp2_with fail
        refine cq.mono ?_
        rintro e w1 ⟨rfl, hw1⟩
        subst hw1
        go_wp2_with fail
        refine (cv _).mono ?_
        rintro e w2 ⟨rfl, hb2⟩
        obtain ⟨⟨z0, z1, z2, z3⟩, _⟩ := row4 (bel_row HR0.out hb2)
        obtain ⟨⟨y0, y1⟩, _⟩ := row2 (bel_row HR1.out hb2)
        have HB2 := Hid_of hb2
        clear hb2 x0 x1 x2 x3 k0 k1
        go_wp2_with fail
        refine (cb _).mono ?_
        rintro e w3 ⟨rfl, hb3⟩
        have HB3 := Hid_of (bel_up HB2.out hb3 (Nat.le_refl _))
        obtain ⟨⟨x0, x1, x2, x3⟩, _⟩ := row4 (bel_row HR0.out HB3.out)
        obtain ⟨⟨k0, k1⟩, _⟩ := row2 (bel_row HR1.out HB3.out)
        clear hb3 z0 z1 z2 z3 y0 y1
        go_wp2_with fail
        refine (awake_any _).mono ?_
        rintro e w9 ⟨rfl, hb9⟩
        have HB9 := Hid_of (bel_up HBB.out (bel_up HB3.out hb9 (Nat.le_refl _)) (Nat.le_refl _))
        clear hb9
        go_wp2
        go_ret
        exact ⟨rfl, HB9.out⟩
      have d5 : decide (1024 ≤ s) = false := decide_eq_false h5
      by_cases h6 : 4096 < v.size
      · have d6 : decide ((4096 : Int) < (v.size : Int)) = true := decide_eq_true (by omega)
        go_enter Try.func4, Try.ntmps4
        go_upto_region 1 with fail
        rw [HW1.out]
        clear HW1
        go_wp2_with fail
        refine cq.mono ?_
        rintro e w1 ⟨rfl, hw1⟩
        subst hw1
        go_wp2_with fail
        refine (cv _).mono ?_
        rintro e w2 ⟨rfl, hb2⟩
        obtain ⟨⟨z0, z1, z2, z3⟩, _⟩ := row4 (bel_row HR0.out hb2)
        obtain ⟨⟨y0, y1⟩, _⟩ := row2 (bel_row HR1.out hb2)
        have HB2 := Hid_of hb2
        clear hb2 x0 x1 x2 x3 k0 k1
        go_wp2_with fail
        refine (cb _).mono ?_
        rintro e w3 ⟨rfl, hb3⟩
        have HB3 := Hid_of (bel_up HB2.out hb3 (Nat.le_refl _))
        obtain ⟨⟨x0, x1, x2, x3⟩, _⟩ := row4 (bel_row HR0.out HB3.out)
        obtain ⟨⟨k0, k1⟩, _⟩ := row2 (bel_row HR1.out HB3.out)
        clear hb3 z0 z1 z2 z3 y0 y1
        go_wp2_with fail
        refine (awake_any _).mono ?_
        rintro e w9 ⟨rfl, hb9⟩
        have HB9 := Hid_of (bel_up HBB.out (bel_up HB3.out hb9 (Nat.le_refl _)) (Nat.le_refl _))
        clear hb9
        go_wp2
        go_ret
        exact ⟨rfl, HB9.out⟩
      have d6 : decide ((4096 : Int) < (v.size : Int)) = false := decide_eq_false (by omega)
      obtain ⟨e1, e2, e3⟩ := HK1.out (by rw [HQ.out]; exact h1) HV.out (by show 0 ≤ s; omega) (by show s < 1024; omega) (by show v.size ≤ 4096; omega)
      have hnn := HNN.out (by rw [HQ.out]; exact h1)
      have HE1 := Hid_of e1
      have HE2 := Hid_of e2
      have HE3 := Hid_of e3
      have HS0 : Hid (0 ≤ s) := Hid_of (by omega)
      clear h1 h4 h5 h6 e1 e2 e3
      go_enter Try.func4, Try.ntmps4
      go_upto_region 1 with fail
      rw [HW1.out]
      clear HW1
      go_wp2_with fail
      refine cq.mono ?_
      rintro e w1 ⟨rfl, hw1⟩
      subst hw1
      go_wp2_with fail
      refine (cv _).mono ?_
      rintro e w2 ⟨rfl, hb2⟩
      obtain ⟨⟨z0, z1, z2, z3⟩, _⟩ := row4 (bel_row HR0.out hb2)
      obtain ⟨⟨y0, y1⟩, _⟩ := row2 (bel_row HR1.out hb2)
      have HB2 := Hid_of hb2
      clear hb2 x0 x1 x2 x3 k0 k1
      go_wp2_with fail
      refine (cb _).mono ?_
      rintro e w3 ⟨rfl, hb3⟩
      have HB3 := Hid_of (bel_up HB2.out hb3 (Nat.le_refl _))
      obtain ⟨⟨x0, x1, x2, x3⟩, _⟩ := row4 (bel_row HR0.out HB3.out)
      obtain ⟨⟨k0, k1⟩, _⟩ := row2 (bel_row HR1.out HB3.out)
      clear hb3 z0 z1 z2 z3 y0 y1
      have c4 := new_any w3 w3 (Below.refl _ _) n 0
      go_wp2_with fail
      refine c4.mono ?_
      clear c4
      rintro e w4 (⟨hf, -, -⟩ | ⟨-, g, G, rfl, hr4, hb4, -⟩)
      · rw [HE1.out] at hf; cases hf
      obtain ⟨ba, bp, bl, Fa, Fp, Fl, rfl, hp⟩ := hr4
      obtain ⟨⟨z0, z1, z2, z3⟩, _⟩ := row4 (bel_row HR0.out (bel_up HB3.out hb4 (Nat.le_refl _)))
      obtain ⟨W5, HW5⟩ : ∃ W5, Hid (w4.alloc (.cells #[.int .i64 s, .int .i64 i, .int .i64 t, .string v] 42) = W5) := ⟨_, Hid_of rfl⟩
      have hb5 : Below w4.heap.size w4 W5 := by rw [← HW5.out]; exact bel1 w4 _
      have hr5 : W5.heap[w4.heap.size]? = some (.cells (vl.cells [⟨s, ⟨i, t⟩, v⟩]).toArray 42 (0, 0)) := by rw [← HW5.out]; exact heap_alloc_last w4 _
      have c6 := (hp.keep hb5).take ⟨⟨3, 0, 0, 0, ⟨0, 0⟩, [⟨s, ⟨i, t⟩, v⟩]⟩, some ⟨w4.heap.size, 0, none⟩, 1⟩ ⟨atL_one (t := 42) hr5, Nat.le_refl _, (show 1 ≤ maxLen by decide), fun e => by cases e⟩ (fun _ k hk => by
        obtain ⟨o, z, e⟩ := hk
        simp only [Option.some.injEq, Addr.mk.injEq] at e
        obtain ⟨rfl, -, -⟩ := e
        exact ⟨(Array.getElem?_eq_some_iff.1 hr5).1, fun e => by have := (hp.mine _ e).2; omega⟩) (by intro x hx; simp at hx; subst hx; exact hwf) (show 0 + 1 ≤ 900000 by decide) (show 0 + 1 ≤ 900000 by decide)
      simp only at c6
      rw [HE2.out, HE3.out] at c6
      simp only [nV, List.length_cons, List.length_nil, Nat.zero_add] at c6
      have HB5 := Hid_of (bel_up HB3.out (bel_up hb4 hb5 (Nat.le_refl _)) (Nat.le_refl _))
      clear hp hb4 hb5 hr5 x0 x1 x2 x3
      go_wp2_with fail
      rw [HW5.out]
      refine c6.mono ?_
      clear c6 HW5
      rintro e w6 ⟨u6, G6, rfl, hno6, hr6, hf6⟩
      obtain ⟨ba, bp, bl, Fa, Fp, Fl, rfl, hp⟩ := hr6
      have c7 := hp.crash
      obtain ⟨ad6, cc6, ys6, rfl, -, -⟩ := hno6.at
      have hlen6 : (Rm.toE (Rm.r0 n 0) 4 ⟨s, ⟨i, t⟩, v⟩).length = n.toNat := by show (Rm.toF _ _ _ _ _ _).length = _; rw [Rm.toF_len]; rfl
      rw [hlen6]
      have hbel6 : Below w3.heap.size w3 w6 := hp.bel
      have HB6 := Hid_of (bel_up HB3.out hbel6 (Nat.le_refl _))
      clear hno6 hf6 hp hlen6 z0 z1 z2 z3 HB5 k0 k1
      go_wp2_with fail
      refine c7.mono ?_
      clear c7
      rintro e w7 ⟨G7, rfl, hr7, hf7⟩
      obtain ⟨ba, bp, bl, Fa, Fp, Fl, rfl, hp⟩ := hr7
      have hc7 : (Rm.crS { Rm.r0 n 0 with p := Np.M.sts (Np.M.S0 n 0) ⟨i, t⟩, a := ⟨⟨i, t⟩, 0, [⟨s, ⟨i, t⟩, v⟩]⟩ }) = ⟨n, 0, ⟨⟨i, t⟩, 0, [⟨s, ⟨i, t⟩, v⟩]⟩, Np.M.S0 n 0, Rm.lf n 0⟩ := rfl
      rw [hc7] at hp
      have hbel7 : Below w3.heap.size w3 w7 := hp.bel
      have HB7 := Hid_of (bel_up HB3.out hbel7 (Nat.le_refl _))
      obtain ⟨⟨k0, k1⟩, _⟩ := row2 (bel_row HR1.out HB7.out)
      have c8 := hp.take ⟨⟨1, 0, 0, 0, ⟨j, u⟩, []⟩, none, 0⟩ (XL.emp _) (fun h => by simp at h) (by simp) (show 0 + 0 ≤ 900000 by decide) (show (Rm.lf n 0).c + 0 ≤ 900000 from Nat.le_trans (lfT_c n 0) (by decide))
      simp only at c8
      rw [HK2.out _ _ hnn.1 HVB.out HS0.out] at c8
      simp only [nV, List.length_nil] at c8
      clear hc7 hp hbel7 hf7 hbel6
      go_wp2_with fail
      refine c8.mono ?_
      clear c8
      rintro e w9 ⟨u9, G9, rfl, hno9, hr9, hf9⟩
      have HB9 : Hid (Below w1.heap.size w1 w9) := Hid_of (bel_up HB3.out hr9.bel (Nat.le_refl _))
      obtain ⟨⟨x0, x1, x2, x3⟩, _⟩ := row4 (bel_row HR0.out HB9.out)
      obtain ⟨⟨y0, y1⟩, _⟩ := row2 (bel_row HR1.out HB9.out)
      have hnt : ((n.toNat : Nat) : Int) = n := by omega
      have hnt2 : (((n.toNat : Nat) : Int) != n) = false := by simp [hnt]
      have hnt3 : (((n.toNat : Nat) : Int) == n) = true := by simp [hnt]
      obtain ⟨L, hL⟩ : ∃ L : Nat, n.toNat = L := ⟨_, rfl⟩
      rw [hL] at hnt hnt2 hnt3 ⊢
      clear hr9 hf9 k0 k1 hL
      by_cases hc : M.cmpE ⟨j, u⟩ ⟨i, t⟩ < 0
      · have dc : decide (M.cmpE ⟨j, u⟩ ⟨i, t⟩ < 0) = true := decide_eq_true hc
        rw [if_pos hc] at hno9
        obtain ⟨ad9, c9, ys9, rfl, -, -⟩ := hno9.at
        generalize M.cmpE ⟨j, u⟩ ⟨i, t⟩ = cm at *
        clear hno9
        simp only [List.length_nil]
        go_wp2_with fail
        refine (cc _).mono ?_
        rintro e w10 ⟨rfl, hb10⟩
        clear cc
        go_wp2_with fail
        refine (awake_any _).mono ?_
        rintro e w11 ⟨rfl, hb11⟩
        have HBX := Hid_of (bel_up (bel_up HBB.out HB9.out (Nat.le_refl _)) (bel_up hb10 hb11 (Nat.le_refl _)) (Nat.le_refl _))
        clear hb10 hb11
        go_wp2
        go_ret
        exact ⟨rfl, HBX.out⟩
      · have dc : decide (M.cmpE ⟨j, u⟩ ⟨i, t⟩ < 0) = false := decide_eq_false hc
        rw [if_neg hc] at hno9
        obtain ⟨ad9, c9, ys9, rfl, hm9, hx9⟩ := hno9.at
        obtain ⟨⟨yx, gad, gc⟩, rfl⟩ : ∃ y, ys9 = [y] := List.length_eq_one_iff.1 (by have := congrArg List.length hm9; simpa using this)
        simp only [List.map_cons, List.map_nil, List.cons.injEq, and_true] at hm9
        subst hm9
        generalize M.cmpE ⟨j, u⟩ ⟨i, t⟩ = cm at *
        have HX9 := Hid_of hx9
        clear hno9 hx9
        simp only [List.length_cons, List.length_nil, Nat.zero_add]
        go_wp2_with fail
        refine (cc _).mono ?_
        rintro e w10 ⟨rfl, hb10⟩
        have hx10 := HX9.out.keep hb10
        have HB10 := Hid_of (bel_up HB9.out hb10 (Nat.le_refl _))
        have HXN := Hid_of (hx10.all _ (List.mem_singleton.2 rfl)).xl
        obtain ⟨g0, o0, rfl, q0, q1, q2, q3, q4, q5, q6⟩ := AtL.getN hx10.xl.at' 0 (by simp)
        have heq : ∀ w, (binOp .eql 30 (.agg #[.int .i64 j, .int .i64 u]) (.agg #[.int .i64 j, .int .i64 u])).run Try.prog w = .ok (.bool true) w := fun w => by rw [eq30, decide_eq_true rfl, decide_eq_true rfl]; rfl
        simp only [Nat.zero_mul, Nat.add_zero, List.getElem_cons_zero, List.length_cons, List.length_nil, Nat.zero_add] at q0 q1 q2 q3 q4 q5 q6
        have HS : Hid (∀ wq, Below w10.heap.size w10 wq → (wq.cell? ⟨g0, o0, none⟩ = some (.int .i64 2) ∧ wq.cell? ⟨g0, o0 + 4, none⟩ = some (.int .i64 j) ∧ wq.cell? ⟨g0, o0 + 5, none⟩ = some (.int .i64 u) ∧ wq.cell? ⟨g0, o0 + 6, none⟩ = some (.slice gad 1 gc)) ∧ (wq.cell? ⟨w.heap.size, 0, none⟩ = some (.int .i64 s) ∧ wq.cell? ⟨w.heap.size, 1, none⟩ = some (.int .i64 i) ∧ wq.cell? ⟨w.heap.size, 2, none⟩ = some (.int .i64 t) ∧ wq.cell? ⟨w.heap.size, 3, none⟩ = some (.string v)) ∧ (wq.cell? ⟨w.heap.size + 1, 0, none⟩ = some (.int .i64 j) ∧ wq.cell? ⟨w.heap.size + 1, 1, none⟩ = some (.int .i64 u))) := fun wq hq => by
          have hk : ∀ o v, w10.cell? ⟨g0, o, none⟩ = some v → wq.cell? ⟨g0, o, none⟩ = some v := fun o v h => (World.cell?_of_block (w := w10) (a := ⟨g0, o, none⟩) (hq.block g0 (cell_lt h))).trans h
          exact ⟨⟨hk _ _ q0, hk _ _ q4, hk _ _ q5, hk _ _ q6⟩, (row4 (bel_row (bel_row HR0.out HB10.out) hq)).1, (row2 (bel_row (bel_row HR1.out HB10.out) hq)).1⟩
        clear cc hb10 hx10 q0 q1 q2 q3 q4 q5 q6 x0 x1 x2 x3 y0 y1
        go_upto_region 9 with fail
        refine wp_region_held_drew (S := fun wq => Below (w10).heap.size (w10) wq) (by kernel_rfl) (Below.drew (Below.refl _ _)) (fun hHeld => ?_)
        obtain ⟨wdx, hwdx⟩ : ∃ wd, w10.drew = wd := ⟨_, rfl⟩
        have hBwd : Below w10.heap.size w10 wdx := by rw [← hwdx]; exact Below.drew (Below.refl _ _)
        rw [hwdx] at hHeld ⊢
        clear hwdx
        refine Tm 0 ?p0x ?v0x hHeld ?r0x
        simp only [Act.put, Pa, Pb, Pc]
        refine Tm 1 ?p1x ?v1x hHeld ?r1x
        simp only [Act.put, Pa, Pb, Pc]
        refine Tm 2 ?p2x ?v2x hHeld ?r2x
        simp only [Act.put, Pa, Pb, Pc]
        refine Tm 3 ?p3x ?v3x hHeld ?r3x
        simp only [Act.put, Pa, Pb, Pc]
        refine Tm 4 ?p4x ?v4x hHeld ?r4x
        simp only [Act.put, Pa, Pb, Pc]
        refine Tm 5 ?p5x ?v5x hHeld ?r5x
        simp only [Act.put, Pa, Pb, Pc]
        refine Tm 6 ?p6x ?v6x hHeld ?r6x
        simp only [Act.put, Pa, Pb, Pc]
        refine Tk 7 ?p7x ?v7x ?y7x hHeld ?r7x
        case y7x => intro wq hq; obtain ⟨⟨p0, p4, p5, p6⟩, ⟨d0, d1, d2, d3⟩, ⟨e0, e1⟩⟩ := HS.out wq hq; go_simp; try with_reducible rfl
        simp only [Act.put, Pa, Pb, Pc]
        refine Tm 8 ?p8x ?v8x hHeld ?r8x
        simp only [Act.put, Pa, Pb, Pc]
        refine Tm 9 ?p9x ?v9x hHeld ?r9x
        simp only [Act.put, Pa, Pb, Pc]
        refine Tm 10 ?p10x ?v10x hHeld ?r10x
        simp only [Act.put, Pa, Pb, Pc]
        refine Tm 11 ?p11x ?v11x hHeld ?r11x
        simp only [Act.put, Pa, Pb, Pc]
        refine Tm 12 ?p12x ?v12x hHeld ?r12x
        simp only [Act.put, Pa, Pb, Pc]
        refine Tm 13 ?p13x ?v13x hHeld ?r13x
        simp only [Act.put, Pa, Pb, Pc]
        refine Tk 14 ?p14x ?v14x ?y14x hHeld ?r14x
        case y14x => intro wq hq; obtain ⟨⟨p0, p4, p5, p6⟩, ⟨d0, d1, d2, d3⟩, ⟨e0, e1⟩⟩ := HS.out wq hq; go_simp; try with_reducible rfl
        simp only [Act.put, Pa, Pb, Pc]
        refine Tk 15 ?p15x ?v15x ?y15x hHeld ?r15x
        case y15x => intro wq hq; obtain ⟨⟨p0, p4, p5, p6⟩, ⟨d0, d1, d2, d3⟩, ⟨e0, e1⟩⟩ := HS.out wq hq; go_simp; try with_reducible rfl
        simp only [Act.put, Pa, Pb, Pc]
        refine Tm 16 ?p16x ?v16x hHeld ?r16x
        simp only [Act.put, Pa, Pb, Pc]
        refine Tm 17 ?p17x ?v17x hHeld ?r17x
        simp only [Act.put, Pa, Pb, Pc]
        refine Tm 18 ?p18x ?v18x hHeld ?r18x
        simp only [Act.put, Pa, Pb, Pc]
        refine Tm 19 ?p19x ?v19x hHeld ?r19x
        simp only [Act.put, Pa, Pb, Pc]
        refine Tm 20 ?p20x ?v20x hHeld ?r20x
        simp only [Act.put, Pa, Pb, Pc]
        refine Tm 21 ?p21x ?v21x hHeld ?r21x
        simp only [Act.put, Pa, Pb, Pc]
        refine Tk 22 ?p22x ?v22x ?y22x hHeld ?r22x
        case y22x => intro wq hq; obtain ⟨⟨p0, p4, p5, p6⟩, ⟨d0, d1, d2, d3⟩, ⟨e0, e1⟩⟩ := HS.out wq hq; go_simp; try with_reducible rfl
        simp only [Act.put, Pa, Pb, Pc]
        refine Tk 23 ?p23x ?v23x ?y23x hHeld ?r23x
        case y23x => intro wq hq; obtain ⟨⟨p0, p4, p5, p6⟩, ⟨d0, d1, d2, d3⟩, ⟨e0, e1⟩⟩ := HS.out wq hq; go_simp; try with_reducible rfl
        simp only [Act.put, Pa, Pb, Pc]
        refine Rd 24 ?p24x ?s24x
        intro K hK
        go_simp
        obtain ⟨wv, hwv⟩ : ∃ wv, wdx.alloc (.cells #[.int .i64 s, .int .i64 i, .int .i64 t, .string v] 42) = wv := ⟨_, rfl⟩
        have hbv : Below wdx.heap.size wdx wv := by rw [← hwv]; exact bel1 _ _
        have hrv : wv.heap[wdx.heap.size]? = some (.cells (vl.cells [⟨s, ⟨i, t⟩, v⟩]).toArray 42 (0, 0)) := by rw [← hwv]; exact heap_alloc_last _ _
        obtain ⟨gv, hgv⟩ : ∃ gv, wdx.heap.size = gv := ⟨_, rfl⟩
        rw [hwv]
        rw [hgv] at hrv ⊢
        have hbv2 : Below w10.heap.size w10 wv := bel_up hBwd hbv (Nat.le_refl _)
        clear hwv hgv hbv
        refine hK.out _ _ hbv2 (fun hHeld => ?_)
        clear hK K
        refine Rd 25 ?p25x_24 ?s25x_24
        intro K hK
        go_simp
        have csm := Na.same_any gad gc (some ⟨gv, 0, none⟩) 1 [⟨s, ⟨i, t⟩, v⟩] wv (by simp) (HXN.out.keep hbv2).at' (atL_one (t := 42) hrv)
        simp only [List.length_cons, List.length_nil, Nat.zero_add] at csm
        refine csm.mono ?_
        clear csm
        rintro e v25 ⟨rfl, hb25⟩
        have hbv3 := bel_up hbv2 hb25 (Nat.le_refl _)
        clear hb25
        refine hK.out _ _ hbv3 (fun hHeld => ?_)
        clear hK K
        refine Tm 26 ?p26x_24_25 ?v26x_24_25 hHeld ?r26x_24_25
        simp only [Act.put, Pa, Pb, Pc]
        refine Tm 27 ?p27x_24_25 ?v27x_24_25 hHeld ?r27x_24_25
        simp only [Act.put, Pa, Pb, Pc]
        refine Rd 28 ?p28x_24_25 ?s28x_24_25
        intro K hK
        go_simp
        refine (awake_any _).mono ?_
        rintro e v28 ⟨rfl, hb28⟩
        have hbv4 := bel_up hbv3 hb28 (Nat.le_refl _)
        clear hb28
        refine hK.out _ _ hbv4 (fun hHeld => ?_)
        clear hK K
        refine Tm 29 ?p29x_24_25_28 ?v29x_24_25_28 hHeld ?r29x_24_25_28
        simp only [Act.put, Pa, Pb, Pc]
        refine Tm 30 ?p30x_24_25_28 ?v30x_24_25_28 hHeld ?r30x_24_25_28
        simp only [Act.put, Pa, Pb, Pc]
        refine wpAnyH_done (by kernel_rfl) ?_ _
        have HBX := Hid_of (bel_up (bel_up HBB.out HB10.out (Nat.le_refl _)) hbv4 (Nat.le_refl _))
        clear HS
        go_wp2
        go_ret
        exact ⟨rfl, HBX.out⟩
end Go.Proofs.Ytfjlanhekheecaa
