/-
  Anything done to any device.
-/
import Derived.Test.YtjbdicnenkganaaZ
import Derived.Deep.RegionHeld3
namespace Go.Proofs.Ytjbdicnenkganaa
open Go.RowKit
open M (DD RR)
set_option linter.unusedVariables false

theorem vals_eq {c : Nat} {P : List M.Pl} {lost : Bool} {D : DD} {h : Hd} (R : RR c P lost D) : h.vals D = #[.slice h.aN c h.cN, .slice h.aS c h.cS, .slice h.aL c h.cL, .bool lost] := by
  unfold Hd.vals
  rw [R.ok.l1, R.ok.l2, R.ok.l3, R.ls]
theorem wrv_eq {c : Nat} {P : List M.Pl} {lost : Bool} {D : DD} {h : Hd} {r : Int} (R : RR c P lost D) : wrV r (h.vals D) = .tuple #[.agg #[.slice h.aN c h.cN, .slice h.aS c h.cS, .slice h.aL c h.cL, .bool lost], .int .i64 r] := by
  rw [vals_eq R]
  rfl
/-- What is asked behind each deed. -/
theorem tail_facts {w0 w : World} {b : Nat} {F : Nat → Prop} {c : Nat} {P : List M.Pl} {lost : Bool} {kb : Nat} {h : Hd} {D : DD} (T : TW w0 w b F c P lost kb h D) (R : RR c P lost D) :
    (∀ w', Below w.heap.size w w' → w'.cell? ⟨kb, 0, none⟩ = some (.slice h.aN c h.cN) ∧ w'.cell? ⟨kb, 1, none⟩ = some (.slice h.aS c h.cS) ∧ w'.cell? ⟨kb, 2, none⟩ = some (.slice h.aL c h.cL) ∧ w'.cell? ⟨kb, 3, none⟩ = some (.bool lost)) ∧
    (∀ w', Below w.heap.size w w' → Calls Try.prog 23 #[.pointer (some ⟨b, 0, none⟩)] w' fun e w'' => ∃ a9 c9, e = .returned (.slice a9 (M.zs (M.lo P)).length c9) ∧ AtV w'' a9 (IC (M.zs (M.lo P))) ∧ Below w'.heap.size w' w'') ∧
    (∀ w', Below w.heap.size w w' → Calls Try.prog 24 #[.agg #[.slice h.aN c h.cN, .slice h.aS c h.cS, .slice h.aL c h.cL, .bool lost]] w' fun e w'' => ∃ a9 c9, e = .returned (.slice a9 (M.zs (M.lo P)).length c9) ∧ AtV w'' a9 (IC (M.zs (M.lo P))) ∧ Below w'.heap.size w' w'') ∧
    (∀ w', Below w.heap.size w w' → Calls Try.prog 25 #[.pointer (some ⟨b, 0, none⟩)] w' fun e w'' => e = .returned (.int .i64 c) ∧ w'' = w') ∧ (M.zs (M.lo P)).length ≤ 1000000 := by
  refine ⟨fun w' hb => ?_, fun w' hb => ?_, fun w' hb => ?_, fun w' hb => (T.keep hb).ds.sectors, ?_⟩
  · have hc := (T.keep hb).cells.1
    rw [R.ok.l1, R.ok.l2, R.ok.l3, R.ls] at hc
    exact hc
  · refine ((T.keep hb).ds.loose).mono fun e w'' ⟨a, cc, h1, h2, _, h3, _⟩ => ⟨a, cc, by rw [M.zs_len]; exact h1, h2.v, h3⟩
  · have hr := rloose_any h D w' (by have := R.ok.l3; have := R.ok.n1; omega) (T.keep hb).xd
    rw [vals_eq R, R.loose] at hr
    refine hr.mono fun e w'' ⟨v, h1, h2, h3⟩ => ?_
    obtain ⟨a, cc, rfl, hat, _⟩ := owns_at h2
    exact ⟨a, cc, h1, hat, h3⟩
  · rw [M.zs_len]
    have := M.lo_len P
    have := T.ds.ok.2
    omega
theorem TX.toTX {w0 w : World} {b : Nat} {F : Nat → Prop} {n : Nat} {P : List M.Pl} {lost : Bool} {kb : Nat} {h : Hd} {D : DD} {q : Nat} {d : Dd} (x : TX w0 w b F n P lost kb h D q d) : TX w0 w b F n P lost kb h D q d := x
set_option maxRecDepth 100000 in
set_option maxHeartbeats 16000000 in
theorem plays_walk (n : Int) (a : Option Addr) (cap : Nat) (l : List Dd) (w : World) (hl : l.length ≤ maxLen) (hd : Dds w a l) (hok : ∀ d ∈ l, d.ok) :
    Calls Try.prog 3 #[.int .i64 n, .slice a l.length cap] w fun e w' => e = .returned (.bool true) ∧ Below w.heap.size w w' := by
  go_enter Try.func3, Try.ntmps3
  go_wp2_with fail
  refine (few_any n a cap l w hl hd hok).mono ?_
  rintro x w1 ⟨bf, rfl, hfew, rfl⟩
  cases bf with
  | false =>
    clear hfew hd hok
    simp only [cond_false]
    go_wp2_with fail
    refine (awake_any _).mono ?_
    rintro x w2 ⟨rfl, hb⟩
    go_wp2
    go_ret
    exact ⟨rfl, hb⟩
  | true =>
    obtain ⟨hl40, _, hf3⟩ := hfew rfl
    have HF3 := Hid_of (And.intro hf3 hok)
    have HD := Hid_of hd
    clear hfew hok hf3 hd
    simp only [cond_true]
    go_wp2_with fail
    refine (newD n w1).mono ?_
    rintro x w2 ⟨b, F2, rfl, S2⟩
    obtain ⟨c, hc⟩ : ∃ c, cntOf n = c := ⟨_, rfl⟩
    rw [hc] at S2
    have hcn := S2.n1
    have HS2 := Hid_of S2
    clear S2
    go_wp2_with fail
    refine (rnew_any n w2).mono ?_
    rintro x w3 ⟨h3, rfl, xd3, bl3, b3⟩
    rw [hc] at xd3 ⊢
    have HR3 := Hid_of (newDD_rr c hcn)
    rw [vals_eq HR3.out]
    have HT0 : Hid (TW w1 (w3.alloc (.cells #[.slice h3.aN c h3.cN, .slice h3.aS c h3.cS, .slice h3.aL c h3.cL, .bool false] 30)) b F2 c (new c) false w3.heap.size h3 (newDD c)) := by
      have hS := HS2.out.keep b3
      refine ⟨hS.keep (bel1 w3 _), by rw [vals_eq HR3.out]; exact heap_alloc_last w3 _, xd3.keep (bel1 w3 _), fun e => ?_, fun k hk => ⟨fun e => ?_, ?_⟩, hS.bel.size⟩
      · have := (hS.own _ e).2; omega
      · have := (HS2.out.own k e).2; have := bl3 k hk; omega
      · have := xd3.lt k hk; omega
    clear HS2 xd3 bl3 b3 hc
    generalize hkb : w3.heap.size = kb at *
    go_wp2
    go_loopw [7] (fun i wr => ∃ (k : Nat) (F : Nat → Prop) (P : List M.Pl) (lost : Bool) (h : Hd) (D : M.DD), k ≤ l.length ∧ i = .int .i64 k ∧ TW w1 wr b F c P lost kb h D ∧ RR c P lost D) (fun i _ => l.length - (intOf i).toNat)
    case atStart => exact ⟨0, _, _, _, _, _, by omega, rfl, HT0.out, HR3.out⟩
    case round =>
      obtain ⟨k, F, P, lost, h, D, hk, rfl, T, R⟩ := hrel
      clear HT0 HR3
      have HR := Hid_of R
      clear R
      by_cases hlt : k < l.length
      · obtain ⟨bb, off, rfl, c0, c1, c2, c3, c4⟩ := (HD.out.keep T.ds.bel).get k hlt
        have hsz := HF3.out.1 l[k] (List.getElem_mem hlt)
        have hkp := (HF3.out.2 l[k] (List.getElem_mem hlt)).2.2
        have hdn := (HF3.out.2 l[k] (List.getElem_mem hlt)).1.2.2
        obtain ⟨d, hdd⟩ : ∃ d, l[k] = d := ⟨_, rfl⟩
        rw [hdd] at c0 c1 c2 c3 c4 hsz hkp hdn
        obtain ⟨W1, HW1⟩ : ∃ W1, Hid (wr.alloc (.cells #[.int .i64 d.k, .int .i64 d.at', .int .i64 d.n, .string d.txt, .int .u64 (d.keep : Int)] 34) = W1) := ⟨_, Hid_of rfl⟩
        obtain ⟨q, hq⟩ : ∃ q, wr.heap.size = q := ⟨_, rfl⟩
        have HX : Hid (TX w1 W1 b F c P lost kb h D q d) := by
          rw [← HW1.out, ← hq]
          exact T.deed d
        clear T HF3 HD hdd
        obtain ⟨⟨k0, k1, k2, k3⟩, _⟩ := TW.cells HX.out.toTW
        rw [HR.out.ok.l1] at k0
        rw [HR.out.ok.l2] at k1
        rw [HR.out.ok.l3] at k2
        rw [HR.out.ls] at k3
        rw [← HW1.out] at k0 k1 k2 k3
        obtain ⟨dk, HDt⟩ : ∃ x, Hid (d.k = x) := ⟨_, Hid_of rfl⟩
        obtain ⟨da, HDa⟩ : ∃ x, Hid (d.at' = x) := ⟨_, Hid_of rfl⟩
        obtain ⟨dn, HDn⟩ : ∃ x, Hid (d.n = x) := ⟨_, Hid_of rfl⟩
        obtain ⟨s, HDs⟩ : ∃ x, Hid (d.txt = x) := ⟨_, Hid_of rfl⟩
        obtain ⟨kp, HDk⟩ : ∃ x, Hid (d.keep = x) := ⟨_, Hid_of rfl⟩
        rw [HDt.out] at c0 HW1 k0 k1 k2 k3
        rw [HDa.out] at c1 HW1 k0 k1 k2 k3
        rw [HDn.out] at c2 HW1 hdn k0 k1 k2 k3
        rw [HDs.out] at c3 HW1 hsz k0 k1 k2 k3
        rw [HDk.out] at c4 HW1 hkp k0 k1 k2 k3
        by_cases hk0 : dk = 0
        · subst hk0
          have hdoc := rwrite_any h D c da s W1 HR.out.ok (by omega) HX.out.xd
          rw [HR.out.code, vals_eq HR.out] at hdoc
          have HR4 := Hid_of (HR.out.write da s)
          have hprog := fun W (X : TX w1 W b F c P lost kb h D q d) => True
          clear hprog
          go_wp2_with fail
          rw [HW1.out]
          refine hdoc.mono ?_
          rintro x w4 ⟨h4, rfl, xd4, bl4, b4⟩
          rw [wrv_eq HR4.out]
          have b4' : Below W1.heap.size W1 (w4.alloc (.cells #[.slice h4.aN c h4.cN, .slice h4.aS c h4.cS, .slice h4.aL c h4.cL, .bool lost] 30)) := bel_up b4 (bel1 w4 _) (Nat.le_refl _)
          obtain ⟨pb, X9⟩ := HX.out.lay b4' (xd4.keep (bel1 w4 _)) bl4
          rw [vals_eq HR.out] at pb
          obtain ⟨⟨m0, m1, m2, m3⟩, mf⟩ := row4 pb
          have mf0 := mf 0
          have mf1 := mf 1
          have mf2 := mf 2
          have mf3 := mf 3
          rw [HR4.out.ok.l1, HR4.out.ok.l2, HR4.out.ok.l3, HR4.out.ls] at X9
          obtain ⟨W9, HW9⟩ : ∃ W9, Hid (st4 (w4.alloc (.cells #[.slice h4.aN c h4.cN, .slice h4.aS c h4.cS, .slice h4.aL c h4.cL, .bool lost] 30)) kb (.slice h4.aN c h4.cN) (.slice h4.aS c h4.cS) (.slice h4.aL c h4.cL) (.bool lost) = W9) := ⟨_, Hid_of rfl⟩
          rw [HW9.out] at X9
          unfold st4 at HW9
          clear hdoc xd4 bl4 b4 b4' mf pb HX HW1 k0 k1 k2 k3
          have HX9 := Hid_of X9
          obtain ⟨r0, r1, r2, r3, r4⟩ := TX.cells X9
          rw [HDa.out] at r1
          rw [HDs.out] at r3
          have hprog := X9.ds.write da s (by omega)
          clear X9
          generalize M.wcode c lost da s = rc at *
          go_upto_region 13 with fail
          rw [HW9.out]
          clear HW9 m0 m1 m2 m3 mf0 mf1 mf2 mf3
          go_wp2_with fail
          refine hprog.mono ?_
          rintro x w6 ⟨F6, rfl, S6, C6⟩
          have HT := Hid_of (HX9.out.toTW.step S6 C6)
          clear hprog S6 C6 HX9 r0 r1 r2 r3 r4 HR
          generalize M.wrote c lost P da s = P6 at *
          generalize M.dwrote D da s = D6 at *
          obtain ⟨hS, hK1, hK2, hK4, hLm⟩ := tail_facts HT.out HR4.out
          have HS := Hid_of hS
          have HK1 := Hid_of hK1
          have HK2 := Hid_of hK2
          have HK4 := Hid_of hK4
          have HRL : Hid (∀ w', Below w6.heap.size w6 w' → ∃ (kk : Nat) (FF : Nat → Prop) (PP : List M.Pl) (ll : Bool) (hh : Hd) (DD : M.DD), kk ≤ l.length ∧ Value.int .i64 ((k : Int) + 1) = .int .i64 kk ∧ TW w1 w' b FF c PP ll kb hh DD ∧ RR c PP ll DD) := fun w' hb' => ⟨k + 1, F6, P6, lost, h4, D6, by omega, by go_num, HT.out.keep hb', HR4.out⟩
          have HLm := Hid_of hLm
          clear hS hK1 hK2 hK4 HT HR4 hLm
          generalize hLL : M.zs (M.lo P6) = L at *
          clear hLL
          go_wp2_with fail
          go_region_held3 (fun wq => wq.cell? ⟨kb, 0, none⟩ = some (.slice h4.aN c h4.cN) ∧ wq.cell? ⟨kb, 1, none⟩ = some (.slice h4.aS c h4.cS) ∧ wq.cell? ⟨kb, 2, none⟩ = some (.slice h4.aL c h4.cL) ∧ wq.cell? ⟨kb, 3, none⟩ = some (.bool lost)) (first | exact HS.out _ (Below.refl _ _) | exact HS.out _ (Below.drew (Below.refl _ _)) | exact HS.out _ (by assumption)) (first
            | (go_at_call 23; refine (HK1.out _ (Below.drew (Below.refl _ _))).mono ?_; rintro x w20 ⟨a20, c20, rfl, h20, b20⟩; have B20 : Below w6.heap.size w6 w20 := Below.trans (Below.drew (Below.refl _ _)) b20; clear b20)
            | (go_at_call 24; refine (HK2.out _ B20).mono ?_; rintro x w21 ⟨a21, c21, rfl, h21, b21⟩; have B21 : Below w6.heap.size w6 w21 := bel_up B20 b21 (Nat.le_refl _); have h20' := h20.keep b21; clear b21 h20)
            | (go_at_call 22; refine (ints_any _ _ _ _ L _ HLm.out h20' h21).mono ?_; rintro x w22 ⟨rfl, b22⟩; have B22 : Below w6.heap.size w6 w22 := bel_up B21 b22 (Nat.le_refl _); clear b22 h20' h21)
            | (go_at_call 25; refine (HK4.out _ B22).mono ?_; rintro x w23 ⟨rfl, rfl⟩))
          all_goals
            have HTF := Hid_of (HRL.out _ B22)
            clear HK1 HK2 HK4 HS B20 B21 B22 HRL HLm
            go_wp2
            go_roundw
            case rel => exact HTF.out
            case measure => simp [intOf]; omega
        · have e0 : (dk == 0) = false := by simpa using hk0
          by_cases hk1 : dk = 1
          · subst hk1
            have hprog := HX.out.ds.flush
            have HR4 := Hid_of (M.rr_flush HR.out)
            go_wp2_with fail
            rw [HW1.out]
            refine hprog.mono ?_
            rintro x w4 ⟨F4, rfl, S4, C4⟩
            have HX4 := Hid_of (HX.out.step S4 C4)
            obtain ⟨⟨k0, k1, k2, k3⟩, _⟩ := TW.cells HX4.out.toTW
            rw [HR.out.ok.l1] at k0
            rw [HR.out.ok.l2] at k1
            rw [HR.out.ok.l3] at k2
            rw [HR.out.ls] at k3
            obtain ⟨r0, r1, r2, r3, r4⟩ := TX.cells HX4.out
            rw [HDa.out] at r1
            rw [HDk.out] at r4
            have hdoc := rflush_any h D w4 (by have := HR.out.ok.l1; omega) HX4.out.xd
            rw [vals_eq HR.out] at hdoc
            clear hprog S4 C4 HX HW1
            go_wp2_with fail
            refine hdoc.mono ?_
            rintro x w5 ⟨h5, rfl, xd5, bl5, b5⟩
            rw [vals_eq HR4.out]
            obtain ⟨pb, X9⟩ := HX4.out.lay b5 xd5 bl5
            rw [vals_eq HR.out] at pb
            obtain ⟨⟨m0, m1, m2, m3⟩, mf⟩ := row4 pb
            have mf0 := mf 0
            have mf1 := mf 1
            have mf2 := mf 2
            have mf3 := mf 3
            rw [HR4.out.ok.l1, HR4.out.ok.l2, HR4.out.ok.l3, HR4.out.ls] at X9
            obtain ⟨W9, HW9⟩ : ∃ W9, Hid (st4 w5 kb (.slice h5.aN c h5.cN) (.slice h5.aS c h5.cS) (.slice h5.aL c h5.cL) (.bool lost) = W9) := ⟨_, Hid_of rfl⟩
            rw [HW9.out] at X9
            unfold st4 at HW9
            clear hdoc xd5 bl5 b5 mf pb HX4 k0 k1 k2 k3 r0 r1 r2 r3 r4 HR
            have HT := Hid_of X9.toTW
            clear X9
            go_upto_region 27 with fail
            rw [HW9.out]
            clear HW9 m0 m1 m2 m3 mf0 mf1 mf2 mf3
            generalize M.flush P = P6 at *
            generalize M.dflush D = D6 at *
            obtain ⟨hS, hK1, hK2, hK4, hLm⟩ := tail_facts HT.out HR4.out
            have HS := Hid_of hS
            have HK1 := Hid_of hK1
            have HK2 := Hid_of hK2
            have HK4 := Hid_of hK4
            have HRL : Hid (∀ w', Below W9.heap.size W9 w' → ∃ (kk : Nat) (FF : Nat → Prop) (PP : List M.Pl) (ll : Bool) (hh : Hd) (DD : M.DD), kk ≤ l.length ∧ Value.int .i64 ((k : Int) + 1) = .int .i64 kk ∧ TW w1 w' b FF c PP ll kb hh DD ∧ RR c PP ll DD) := fun w' hb' => ⟨k + 1, F4, P6, lost, h5, D6, by omega, by go_num, HT.out.keep hb', HR4.out⟩
            have HLm := Hid_of hLm
            clear hS hK1 hK2 hK4 HT HR4 hLm
            generalize hLL : M.zs (M.lo P6) = L at *
            clear hLL
            go_wp2_with fail
            go_region_held3 (fun wq => wq.cell? ⟨kb, 0, none⟩ = some (.slice h5.aN c h5.cN) ∧ wq.cell? ⟨kb, 1, none⟩ = some (.slice h5.aS c h5.cS) ∧ wq.cell? ⟨kb, 2, none⟩ = some (.slice h5.aL c h5.cL) ∧ wq.cell? ⟨kb, 3, none⟩ = some (.bool lost)) (first | exact HS.out _ (Below.refl _ _) | exact HS.out _ (Below.drew (Below.refl _ _)) | exact HS.out _ (by assumption)) (first
              | (go_at_call 23; refine (HK1.out _ (Below.drew (Below.refl _ _))).mono ?_; rintro x w20 ⟨a20, c20, rfl, h20, b20⟩; have B20 : Below W9.heap.size W9 w20 := Below.trans (Below.drew (Below.refl _ _)) b20; clear b20)
              | (go_at_call 24; refine (HK2.out _ B20).mono ?_; rintro x w21 ⟨a21, c21, rfl, h21, b21⟩; have B21 : Below W9.heap.size W9 w21 := bel_up B20 b21 (Nat.le_refl _); have h20' := h20.keep b21; clear b21 h20)
              | (go_at_call 22; refine (ints_any _ _ _ _ L _ HLm.out h20' h21).mono ?_; rintro x w22 ⟨rfl, b22⟩; have B22 : Below W9.heap.size W9 w22 := bel_up B21 b22 (Nat.le_refl _); clear b22 h20' h21)
              | (go_at_call 25; refine (HK4.out _ B22).mono ?_; rintro x w23 ⟨rfl, rfl⟩))
            all_goals
              have HTF := Hid_of (HRL.out _ B22)
              clear HK1 HK2 HK4 HS B20 B21 B22 HRL HLm
              go_wp2
              go_roundw
              case rel => exact HTF.out
              case measure => simp [intOf]; omega
          · have e1 : (dk == 1) = false := by simpa using hk1
            by_cases hk2 : dk = 2
            · subst hk2
              have hprog := HX.out.ds.crash kp da hkp
              have HR4 := Hid_of (M.rr_crash HR.out HX.out.ds.ok.1 kp da)
              go_wp2_with fail
              rw [HW1.out]
              refine hprog.mono ?_
              rintro x w4 ⟨F4, rfl, S4, C4⟩
              have HX4 := Hid_of (HX.out.step S4 C4)
              obtain ⟨⟨k0, k1, k2, k3⟩, _⟩ := TW.cells HX4.out.toTW
              rw [HR.out.ok.l1] at k0
              rw [HR.out.ok.l2] at k1
              rw [HR.out.ok.l3] at k2
              rw [HR.out.ls] at k3
              obtain ⟨r0, r1, r2, r3, r4⟩ := TX.cells HX4.out
              rw [HDa.out] at r1
              rw [HDk.out] at r4
              have hdoc := rcrash_any h D c kp da w4 HR.out.ok hkp HX4.out.xd
              rw [vals_eq HR.out] at hdoc
              clear hprog S4 C4 HX HW1
              go_wp2_with fail
              refine hdoc.mono ?_
              rintro x w5 ⟨h5, rfl, xd5, bl5, b5⟩
              rw [vals_eq HR4.out]
              obtain ⟨pb, X9⟩ := HX4.out.lay b5 xd5 bl5
              rw [vals_eq HR.out] at pb
              obtain ⟨⟨m0, m1, m2, m3⟩, mf⟩ := row4 pb
              have mf0 := mf 0
              have mf1 := mf 1
              have mf2 := mf 2
              have mf3 := mf 3
              rw [HR4.out.ok.l1, HR4.out.ok.l2, HR4.out.ok.l3, HR4.out.ls] at X9
              obtain ⟨W9, HW9⟩ : ∃ W9, Hid (st4 w5 kb (.slice h5.aN c h5.cN) (.slice h5.aS c h5.cS) (.slice h5.aL c h5.cL) (.bool lost) = W9) := ⟨_, Hid_of rfl⟩
              rw [HW9.out] at X9
              unfold st4 at HW9
              clear hdoc xd5 bl5 b5 mf pb HX4 k0 k1 k2 k3 r0 r1 r2 r3 r4 HR
              have HT := Hid_of X9.toTW
              clear X9
              go_upto_region 27 with fail
              rw [HW9.out]
              clear HW9 m0 m1 m2 m3 mf0 mf1 mf2 mf3
              generalize M.crash P kp da = P6 at *
              generalize M.dcrash D kp da = D6 at *
              obtain ⟨hS, hK1, hK2, hK4, hLm⟩ := tail_facts HT.out HR4.out
              have HS := Hid_of hS
              have HK1 := Hid_of hK1
              have HK2 := Hid_of hK2
              have HK4 := Hid_of hK4
              have HRL : Hid (∀ w', Below W9.heap.size W9 w' → ∃ (kk : Nat) (FF : Nat → Prop) (PP : List M.Pl) (ll : Bool) (hh : Hd) (DD : M.DD), kk ≤ l.length ∧ Value.int .i64 ((k : Int) + 1) = .int .i64 kk ∧ TW w1 w' b FF c PP ll kb hh DD ∧ RR c PP ll DD) := fun w' hb' => ⟨k + 1, F4, P6, lost, h5, D6, by omega, by go_num, HT.out.keep hb', HR4.out⟩
              have HLm := Hid_of hLm
              clear hS hK1 hK2 hK4 HT HR4 hLm
              generalize hLL : M.zs (M.lo P6) = L at *
              clear hLL
              go_wp2_with fail
              go_region_held3 (fun wq => wq.cell? ⟨kb, 0, none⟩ = some (.slice h5.aN c h5.cN) ∧ wq.cell? ⟨kb, 1, none⟩ = some (.slice h5.aS c h5.cS) ∧ wq.cell? ⟨kb, 2, none⟩ = some (.slice h5.aL c h5.cL) ∧ wq.cell? ⟨kb, 3, none⟩ = some (.bool lost)) (first | exact HS.out _ (Below.refl _ _) | exact HS.out _ (Below.drew (Below.refl _ _)) | exact HS.out _ (by assumption)) (first
                | (go_at_call 23; refine (HK1.out _ (Below.drew (Below.refl _ _))).mono ?_; rintro x w20 ⟨a20, c20, rfl, h20, b20⟩; have B20 : Below W9.heap.size W9 w20 := Below.trans (Below.drew (Below.refl _ _)) b20; clear b20)
                | (go_at_call 24; refine (HK2.out _ B20).mono ?_; rintro x w21 ⟨a21, c21, rfl, h21, b21⟩; have B21 : Below W9.heap.size W9 w21 := bel_up B20 b21 (Nat.le_refl _); have h20' := h20.keep b21; clear b21 h20)
                | (go_at_call 22; refine (ints_any _ _ _ _ L _ HLm.out h20' h21).mono ?_; rintro x w22 ⟨rfl, b22⟩; have B22 : Below W9.heap.size W9 w22 := bel_up B21 b22 (Nat.le_refl _); clear b22 h20' h21)
                | (go_at_call 25; refine (HK4.out _ B22).mono ?_; rintro x w23 ⟨rfl, rfl⟩))
              all_goals
                have HTF := Hid_of (HRL.out _ B22)
                clear HK1 HK2 HK4 HS B20 B21 B22 HRL HLm
                go_wp2
                go_roundw
                case rel => exact HTF.out
                case measure => simp [intOf]; omega
            · have e2 : (dk == 2) = false := by simpa using hk2
              by_cases hk3 : dk = 3
              · subst hk3
                have hdoc := rread_any h D da dn W1 (by have := HR.out.ok.l1; omega) HR.out.ok.s1 HX.out.xd
                unfold RdD at hdoc
                rw [HR.out.read, HR.out.ok.l1, HR.out.ls, vals_eq HR.out] at hdoc
                go_wp2_with fail
                rw [HW1.out]
                refine hdoc.mono ?_
                rintro x w4 ⟨rfl, b4⟩
                have HX4 := Hid_of (HX.out.keep b4)
                obtain ⟨r0, r1, r2, r3, r4⟩ := TX.cells HX4.out
                rw [HDa.out] at r1
                rw [HDn.out] at r2
                have hprog := HX4.out.ds.read da dn hdn
                clear hdoc b4 HX HW1 k0 k1 k2 k3
                generalize M.rtext c lost P da dn = tx at *
                generalize M.refused c lost da dn = rc at *
                go_wp2_with fail
                refine hprog.mono ?_
                rintro x w5 ⟨rfl, b5, _⟩
                have HT := Hid_of (HX4.out.keep b5).toTW
                clear hprog b5 HX4 r0 r1 r2 r3 r4
                obtain ⟨hS, hK1, hK2, hK4, hLm⟩ := tail_facts HT.out HR.out
                have HS := Hid_of hS
                have HK1 := Hid_of hK1
                have HK2 := Hid_of hK2
                have HK4 := Hid_of hK4
                have HRL : Hid (∀ w', Below w5.heap.size w5 w' → ∃ (kk : Nat) (FF : Nat → Prop) (PP : List M.Pl) (ll : Bool) (hh : Hd) (DD : M.DD), kk ≤ l.length ∧ Value.int .i64 ((k : Int) + 1) = .int .i64 kk ∧ TW w1 w' b FF c PP ll kb hh DD ∧ RR c PP ll DD) := fun w' hb' => ⟨k + 1, F, P, lost, h, D, by omega, by go_num, HT.out.keep hb', HR.out⟩
                have HLm := Hid_of hLm
                clear hS hK1 hK2 hK4 HT HR hLm
                generalize hLL : M.zs (M.lo P) = L at *
                clear hLL
                go_wp2_with fail
                go_region_held3 (fun wq => wq.cell? ⟨kb, 0, none⟩ = some (.slice h.aN c h.cN) ∧ wq.cell? ⟨kb, 1, none⟩ = some (.slice h.aS c h.cS) ∧ wq.cell? ⟨kb, 2, none⟩ = some (.slice h.aL c h.cL) ∧ wq.cell? ⟨kb, 3, none⟩ = some (.bool lost)) (first | exact HS.out _ (Below.refl _ _) | exact HS.out _ (Below.drew (Below.refl _ _)) | exact HS.out _ (by assumption)) (first
                  | (go_at_call 23; refine (HK1.out _ (Below.drew (Below.refl _ _))).mono ?_; rintro x w20 ⟨a20, c20, rfl, h20, b20⟩; have B20 : Below w5.heap.size w5 w20 := Below.trans (Below.drew (Below.refl _ _)) b20; clear b20)
                  | (go_at_call 24; refine (HK2.out _ B20).mono ?_; rintro x w21 ⟨a21, c21, rfl, h21, b21⟩; have B21 : Below w5.heap.size w5 w21 := bel_up B20 b21 (Nat.le_refl _); have h20' := h20.keep b21; clear b21 h20)
                  | (go_at_call 22; refine (ints_any _ _ _ _ L _ HLm.out h20' h21).mono ?_; rintro x w22 ⟨rfl, b22⟩; have B22 : Below w5.heap.size w5 w22 := bel_up B21 b22 (Nat.le_refl _); clear b22 h20' h21)
                  | (go_at_call 25; refine (HK4.out _ B22).mono ?_; rintro x w23 ⟨rfl, rfl⟩))
                all_goals
                  have HTF := Hid_of (HRL.out _ B22)
                  clear HK1 HK2 HK4 HS B20 B21 B22 HRL HLm
                  go_wp2
                  go_roundw
                  case rel => exact HTF.out
                  case measure => simp [intOf]; omega
              · have e3 : (dk == 3) = false := by simpa using hk3
                by_cases hk4 : dk = 4
                · subst hk4
                  have hprog := HX.out.ds.lose
                  have HR4 := Hid_of (HR.out.lose)
                  go_wp2_with fail
                  rw [HW1.out]
                  refine hprog.mono ?_
                  rintro x w4 ⟨F4, rfl, S4, C4⟩
                  have HX4 := Hid_of (HX.out.step S4 C4)
                  obtain ⟨⟨k0, k1, k2, k3⟩, _⟩ := TW.cells HX4.out.toTW
                  rw [HR.out.ok.l1] at k0
                  rw [HR.out.ok.l2] at k1
                  rw [HR.out.ok.l3] at k2
                  rw [HR.out.ls] at k3
                  obtain ⟨r0, r1, r2, r3, r4⟩ := TX.cells HX4.out
                  rw [HDa.out] at r1
                  rw [HDk.out] at r4
                  have hdoc := rlose_any h D w4 (by have := HR.out.ok.l1; omega) HX4.out.xd
                  rw [vals_eq HR.out] at hdoc
                  clear hprog S4 C4 HX HW1
                  go_wp2_with fail
                  refine hdoc.mono ?_
                  rintro x w5 ⟨h5, rfl, xd5, bl5, b5⟩
                  rw [vals_eq HR4.out]
                  obtain ⟨pb, X9⟩ := HX4.out.lay b5 xd5 bl5
                  rw [vals_eq HR.out] at pb
                  obtain ⟨⟨m0, m1, m2, m3⟩, mf⟩ := row4 pb
                  have mf0 := mf 0
                  have mf1 := mf 1
                  have mf2 := mf 2
                  have mf3 := mf 3
                  rw [HR4.out.ok.l1, HR4.out.ok.l2, HR4.out.ok.l3, HR4.out.ls] at X9
                  obtain ⟨W9, HW9⟩ : ∃ W9, Hid (st4 w5 kb (.slice h5.aN c h5.cN) (.slice h5.aS c h5.cS) (.slice h5.aL c h5.cL) (.bool true) = W9) := ⟨_, Hid_of rfl⟩
                  rw [HW9.out] at X9
                  unfold st4 at HW9
                  clear hdoc xd5 bl5 b5 mf pb HX4 k0 k1 k2 k3 r0 r1 r2 r3 r4 HR
                  have HT := Hid_of X9.toTW
                  clear X9
                  go_upto_region 27 with fail
                  rw [HW9.out]
                  clear HW9 m0 m1 m2 m3 mf0 mf1 mf2 mf3
                  generalize ([] : List M.Pl) = P6 at *
                  generalize M.dlose D = D6 at *
                  obtain ⟨hS, hK1, hK2, hK4, hLm⟩ := tail_facts HT.out HR4.out
                  have HS := Hid_of hS
                  have HK1 := Hid_of hK1
                  have HK2 := Hid_of hK2
                  have HK4 := Hid_of hK4
                  have HRL : Hid (∀ w', Below W9.heap.size W9 w' → ∃ (kk : Nat) (FF : Nat → Prop) (PP : List M.Pl) (ll : Bool) (hh : Hd) (DD : M.DD), kk ≤ l.length ∧ Value.int .i64 ((k : Int) + 1) = .int .i64 kk ∧ TW w1 w' b FF c PP ll kb hh DD ∧ RR c PP ll DD) := fun w' hb' => ⟨k + 1, F4, P6, true, h5, D6, by omega, by go_num, HT.out.keep hb', HR4.out⟩
                  have HLm := Hid_of hLm
                  clear hS hK1 hK2 hK4 HT HR4 hLm
                  generalize hLL : M.zs (M.lo P6) = L at *
                  clear hLL
                  go_wp2_with fail
                  go_region_held3 (fun wq => wq.cell? ⟨kb, 0, none⟩ = some (.slice h5.aN c h5.cN) ∧ wq.cell? ⟨kb, 1, none⟩ = some (.slice h5.aS c h5.cS) ∧ wq.cell? ⟨kb, 2, none⟩ = some (.slice h5.aL c h5.cL) ∧ wq.cell? ⟨kb, 3, none⟩ = some (.bool true)) (first | exact HS.out _ (Below.refl _ _) | exact HS.out _ (Below.drew (Below.refl _ _)) | exact HS.out _ (by assumption)) (first
                    | (go_at_call 23; refine (HK1.out _ (Below.drew (Below.refl _ _))).mono ?_; rintro x w20 ⟨a20, c20, rfl, h20, b20⟩; have B20 : Below W9.heap.size W9 w20 := Below.trans (Below.drew (Below.refl _ _)) b20; clear b20)
                    | (go_at_call 24; refine (HK2.out _ B20).mono ?_; rintro x w21 ⟨a21, c21, rfl, h21, b21⟩; have B21 : Below W9.heap.size W9 w21 := bel_up B20 b21 (Nat.le_refl _); have h20' := h20.keep b21; clear b21 h20)
                    | (go_at_call 22; refine (ints_any _ _ _ _ L _ HLm.out h20' h21).mono ?_; rintro x w22 ⟨rfl, b22⟩; have B22 : Below W9.heap.size W9 w22 := bel_up B21 b22 (Nat.le_refl _); clear b22 h20' h21)
                    | (go_at_call 25; refine (HK4.out _ B22).mono ?_; rintro x w23 ⟨rfl, rfl⟩))
                  all_goals
                    have HTF := Hid_of (HRL.out _ B22)
                    clear HK1 HK2 HK4 HS B20 B21 B22 HRL HLm
                    go_wp2
                    go_roundw
                    case rel => exact HTF.out
                    case measure => simp [intOf]; omega
                · have e4 : (dk == 4) = false := by simpa using hk4
                  have HT := Hid_of HX.out.toTW
                  clear k0 k1 k2 k3 HX
                  go_upto_region 27 with fail
                  rw [HW1.out]
                  clear HW1
                  obtain ⟨hS, hK1, hK2, hK4, hLm⟩ := tail_facts HT.out HR.out
                  have HS := Hid_of hS
                  have HK1 := Hid_of hK1
                  have HK2 := Hid_of hK2
                  have HK4 := Hid_of hK4
                  have HRL : Hid (∀ w', Below W1.heap.size W1 w' → ∃ (kk : Nat) (FF : Nat → Prop) (PP : List M.Pl) (ll : Bool) (hh : Hd) (DD : M.DD), kk ≤ l.length ∧ Value.int .i64 ((k : Int) + 1) = .int .i64 kk ∧ TW w1 w' b FF c PP ll kb hh DD ∧ RR c PP ll DD) := fun w' hb' => ⟨k + 1, F, P, lost, h, D, by omega, by go_num, HT.out.keep hb', HR.out⟩
                  have HLm := Hid_of hLm
                  clear hS hK1 hK2 hK4 HT HR hLm
                  generalize hLL : M.zs (M.lo P) = L at *
                  clear hLL
                  go_wp2_with fail
                  go_region_held3 (fun wq => wq.cell? ⟨kb, 0, none⟩ = some (.slice h.aN c h.cN) ∧ wq.cell? ⟨kb, 1, none⟩ = some (.slice h.aS c h.cS) ∧ wq.cell? ⟨kb, 2, none⟩ = some (.slice h.aL c h.cL) ∧ wq.cell? ⟨kb, 3, none⟩ = some (.bool lost)) (first | exact HS.out _ (Below.refl _ _) | exact HS.out _ (Below.drew (Below.refl _ _)) | exact HS.out _ (by assumption)) (first
                    | (go_at_call 23; refine (HK1.out _ (Below.drew (Below.refl _ _))).mono ?_; rintro x w20 ⟨a20, c20, rfl, h20, b20⟩; have B20 : Below W1.heap.size W1 w20 := Below.trans (Below.drew (Below.refl _ _)) b20; clear b20)
                    | (go_at_call 24; refine (HK2.out _ B20).mono ?_; rintro x w21 ⟨a21, c21, rfl, h21, b21⟩; have B21 : Below W1.heap.size W1 w21 := bel_up B20 b21 (Nat.le_refl _); have h20' := h20.keep b21; clear b21 h20)
                    | (go_at_call 22; refine (ints_any _ _ _ _ L _ HLm.out h20' h21).mono ?_; rintro x w22 ⟨rfl, b22⟩; have B22 : Below W1.heap.size W1 w22 := bel_up B21 b22 (Nat.le_refl _); clear b22 h20' h21)
                    | (go_at_call 25; refine (HK4.out _ B22).mono ?_; rintro x w23 ⟨rfl, rfl⟩))
                  all_goals
                    have HTF := Hid_of (HRL.out _ B22)
                    clear HK1 HK2 HK4 HS B20 B21 B22 HRL HLm
                    go_wp2
                    go_roundw
                    case rel => exact HTF.out
                    case measure => simp [intOf]; omega
      · obtain ⟨⟨k0, k1, k2, k3⟩, _⟩ := T.cells
        rw [HR.out.ok.l1] at k0
        rw [HR.out.ok.l2] at k1
        rw [HR.out.ok.l3] at k2
        rw [HR.out.ls] at k3
        have hdoc := rread_any h D 0 c wr (by have := HR.out.ok.l1; omega) HR.out.ok.s1 T.xd
        unfold RdD at hdoc
        rw [HR.out.read, HR.out.ok.l1, HR.out.ls, vals_eq HR.out] at hdoc
        have HT := Hid_of T
        clear T HF3 HD
        go_wp2_with fail
        refine hdoc.mono ?_
        rintro x w4 ⟨rfl, b4⟩
        have HT4 := Hid_of (HT.out.keep b4)
        have hsec := HT4.out.ds.sectors
        have hrd := HT4.out.ds.read 0 c (by omega)
        clear hdoc b4 HT k0 k1 k2 k3
        generalize M.rtext c lost P 0 c = tx at *
        generalize M.refused c lost 0 c = rc at *
        go_wp2_with fail
        refine hsec.mono ?_
        rintro x w5 ⟨rfl, rfl⟩
        go_wp2_with fail
        refine hrd.mono ?_
        rintro x w6 ⟨rfl, b6, _⟩
        have HB6 := Hid_of (HT4.out.keep b6).ds.bel
        clear hsec hrd b6 HT4 HR
        go_wp2_with fail
        refine (awake_any _).mono ?_
        rintro x w7 ⟨rfl, b7⟩
        have HQ := Hid_of (bel_up HB6.out b7 (Nat.le_refl _))
        clear b7 HB6
        go_wp2
        go_ret
        exact ⟨rfl, HQ.out⟩
end Go.Proofs.Ytjbdicnenkganaa
