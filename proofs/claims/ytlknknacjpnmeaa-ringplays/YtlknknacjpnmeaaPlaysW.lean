/-
  Anything done to any bounded row.
-/
import Derived.Test.YtlknknacjpnmeaaZ
import Derived.OpenShut
import Derived.Deep.RegionHeld3
namespace Go.Proofs.Ytlknknacjpnmeaa
open Go.ChangeShapes Go.WideShapes Go.ChangeAt Go.RowKit
set_option linter.unusedVariables false

set_option maxRecDepth 100000 in
set_option maxHeartbeats 16000000 in
theorem plays_walk (n : Int) (a : Option Addr) (cap : Nat) (l : List Dd) (w : World) (hl : l.length ≤ maxLen) (hd : Dds w a l) (hok : ∀ d ∈ l, d.ok) :
    Calls Try.prog 3 #[.int .i64 n, .slice a l.length cap] w fun e w' => e = .returned (.bool true) ∧ Below w.heap.size w w' := by
  go_enter Try.func3, Try.ntmps3
  go_wp2_with fail
  refine (few_any a cap l w hl hd hok).mono ?_
  rintro x w1 ⟨bf, rfl, hfew, rfl⟩
  cases bf with
  | false =>
    clear hfew hd hok
    go_wp2_with fail
    refine (awake_any _).mono ?_
    rintro x w2 ⟨rfl, hb⟩
    go_wp2
    go_ret
    exact ⟨rfl, hb⟩
  | true =>
    obtain ⟨hl80, hf7⟩ := hfew rfl
    have HF7 := Hid_of hf7
    clear hfew hok hf7
    go_wp2_with fail
    refine (newT n w1).mono ?_
    rintro x w2 ⟨b, rfl, S2⟩
    have HS2 := Hid_of S2
    clear S2
    go_wp2_with fail
    refine (rnew_any n w2).mono ?_
    rintro x w3 ⟨rfl, b3⟩
    obtain ⟨mo, hmo⟩ : ∃ mo, M.lim n = mo := ⟨_, rfl⟩
    rw [hmo] at HS2 ⊢
    have HT0 : Hid (TW w1 (w3.alloc (.cells #[.int .i64 mo, .slice none 0 0] 29)) b (.slice none 0 0) mo [] w3.heap.size none 0) := by
      have hS := HS2.out.keep b3
      exact ⟨hS.keep (bel1 w3 _), heap_alloc_last w3 _, XT.emp _, ⟨by have := hS.x.lt; omega, by simp [Value.ownBlock]⟩, (fun j hb => by obtain ⟨_, _, e⟩ := hb; cases e), hS.bel.size⟩
    clear HS2 b3 hmo
    generalize hkb : w3.heap.size = kb at *
    go_wp2
    go_loopw [7] (fun i wr => ∃ (k : Nat) (v : Value) (P : List ByteArray) (ax : Option Addr) (cx : Nat), k ≤ l.length ∧ i = .int .i64 k ∧ TW w1 wr b v mo P kb ax cx) (fun i _ => l.length - (intOf i).toNat)
    case atStart => exact ⟨0, _, [], none, 0, by omega, rfl, HT0.out⟩
    case round =>
      obtain ⟨k, v, P, ax, cx, hk, rfl, T⟩ := hrel
      clear HT0
      by_cases hlt : k < l.length
      · obtain ⟨bb, off, rfl, c0, c1, c2⟩ := (hd.keep T.ts.bel) k hlt
        have hsz7 := HF7.out l[k] (List.getElem_mem hlt)
        clear hd
        generalize l[k].val = s at *
        generalize l[k].k = dk at *
        generalize l[k].key = dn at *
        obtain ⟨W1, HW1⟩ : ∃ W1, Hid (wr.alloc (.cells #[.int .i64 dk, .int .i64 dn, .string s] 32) = W1) := ⟨_, rfl⟩
        obtain ⟨q, hq⟩ : ∃ q, wr.heap.size = q := ⟨_, rfl⟩
        have HX : Hid (TX w1 W1 b v mo P P kb ax cx q dk dn s) := by
          rw [← HW1.out, ← hq]
          exact T.deed dk dn s
        clear T
        have hPl : P.length ≤ 1000 := by have := HX.out.ts.n.1; omega
        obtain ⟨q0, q1, q2⟩ := row3 HX.out.deed
        obtain ⟨⟨k0, k1⟩, kf⟩ := row2 HX.out.box
        obtain ⟨ln, hln⟩ : ∃ ln, P.length = ln := ⟨_, rfl⟩
        have HLN := Hid_of hln
        rw [hln] at k1 hPl
        clear hln
        rw [← HW1.out] at k0 k1
        clear kf
        by_cases hk0 : dk = 0
        · subst hk0
          have hdoc := rput_any mo ax cx P s W1 (by unfold maxLen; omega) (by rw [HLN.out]; exact hPl) HX.out.xt
          rw [HLN.out] at hdoc
          go_wp2_with fail
          rw [HW1.out]
          refine hdoc.mono ?_
          rintro x w4 hx4
          obtain ⟨v4, rfl, xr4, b4⟩ := hx4
          obtain ⟨a4, c4, rfl⟩ := xr4.slice
          obtain ⟨⟨m0, m1⟩, mf, ⟨m2, m3⟩, X5⟩ := HX.out.lay b4 xr4 _ rfl
          have mf0 := mf 0
          have mf1 := mf 1
          rw [HLN.out] at m1
          obtain ⟨W5, HW5⟩ : ∃ W5, Hid (((w4.alloc (.cells #[.int .i64 mo, .slice a4 (M.put mo P s).length c4] 29)).setCell ⟨kb, 0, none⟩ (.int .i64 mo)).setCell ⟨kb, 1, none⟩ (.slice a4 (M.put mo P s).length c4) = W5) := ⟨_, rfl⟩
          rw [HW5.out] at X5
          have HX5 := Hid_of X5
          obtain ⟨r0, r1, r2⟩ := row3 X5.deed
          rw [← HW5.out] at r0 r1 r2
          have hprog := X5.ts.put s (by unfold maxLen; omega)
          clear hdoc xr4 b4 mf X5 HX q0 q1 q2 k0 k1
          generalize hPP : M.put mo P s = PP at *
          generalize hHH : M.ok mo P s = hh at *
          go_wp2_with fail
          rw [HW5.out]
          refine hprog.mono ?_
          rintro x w6 hx6
          obtain ⟨v6, rfl, S6, C6⟩ := hx6
          have HT := Hid_of (HX5.out.step S6 C6)
          clear hprog S6 C6 HX5 HW5 m0 m1 m2 m3 mf0 mf1 r0 r1 r2 HW1 hPP hHH HLN hPl
          have hPn : PP.length ≤ 64 := HT.out.ts.n.1
          have hmo := HT.out.ts.n.2
          obtain ⟨hm1, hm2, hm3⟩ := hmo
          have HS : Hid (∀ w', Below w6.heap.size w6 w' → w'.cell? ⟨kb, 0, none⟩ = some (.int .i64 mo) ∧ w'.cell? ⟨kb, 1, none⟩ = some (.slice a4 PP.length c4)) := fun w' hb' => (row2 (HT.out.keep hb').box).1
          have HK1 : Hid (∀ w', Below w6.heap.size w6 w' → Calls Try.prog 18 #[.pointer (some ⟨b, 0, none⟩)] w' fun e w'' => e = .returned (.int .i64 PP.length) ∧ w'' = w') := fun w' hb' => (HT.out.keep hb').ts.len
          have HK2 : Hid (∀ w', Below w6.heap.size w6 w' → Calls Try.prog 19 #[.pointer (some ⟨b, 0, none⟩)] w' fun e w'' => e = .returned (.int .i64 (mo - PP.length)) ∧ Below w'.heap.size w' w'') := fun w' hb' => ((HT.out.keep hb').ts.room).mono fun e w'' h => ⟨h.1, h.2.1⟩
          have HK3 : Hid (∀ w', Below w6.heap.size w6 w' → Calls Try.prog 21 #[.pointer (some ⟨b, 0, none⟩)] w' fun e w'' => ∃ a9 c9, e = .returned (.slice a9 PP.length c9) ∧ (Calls Try.prog 20 #[.slice a9 PP.length c9, .slice a4 PP.length c4] w'' fun e w3 => e = .returned (.bool true) ∧ Below w''.heap.size w'' w3) ∧ Below w'.heap.size w' w'') := fun w' hb' => ((HT.out.keep hb').ts.all).mono fun e w'' ⟨a9, c9, h1, h2, h3, h4, h5⟩ => ⟨a9, c9, h1, texts_any a9 c9 a4 c4 PP w'' (by omega) h2 ((HT.out.keep hb').keep h4).xt.at', h4⟩
          obtain ⟨s0, s1'⟩ := HS.out w6 (Below.refl _ _)
          have HRL : Hid (∀ w', Below w6.heap.size w6 w' → ∃ (kk : Nat) (vv : Value) (PP : List ByteArray) (aa : Option Addr) (cc : Nat), kk ≤ l.length ∧ Value.int .i64 ((k : Int) + 1) = .int .i64 kk ∧ TW w1 w' b vv mo PP kb aa cc) := fun w' hb' => ⟨k + 1, v6, PP, a4, c4, by omega, by go_num, (HT.out.keep hb').tw⟩
          clear HT
          generalize hpl : PP.length = pl at *
          clear hpl
          have hwr : IntKind.i64.wrap (mo - (pl : Int)) = mo - (pl : Int) := by rw [IntKind.wrap_i64]; omega
          go_wp2_with fail
          go_region_held3 (fun wq => wq.cell? ⟨kb, 0, none⟩ = some (.int .i64 mo) ∧ wq.cell? ⟨kb, 1, none⟩ = some (.slice a4 pl c4)) (first | exact HS.out _ (Below.refl _ _) | exact HS.out _ (Below.drew (Below.refl _ _)) | exact HS.out _ (by assumption)) (first
            | (go_at_call 18; refine (HK1.out _ (Below.drew (Below.refl _ _))).mono ?_; rintro x w10 ⟨rfl, rfl⟩; have B10 : Below w6.heap.size w6 w6.drew := Below.drew (Below.refl _ _))
            | (go_at_call 19; refine (HK2.out _ B10).mono ?_; rintro x w11 ⟨rfl, b11⟩; have B11 : Below w6.heap.size w6 w11 := Below.trans B10 b11; clear b11)
            | (go_at_call 21; refine (HK3.out _ B11).mono ?_; rintro x w12 ⟨a12, c12, rfl, htx, b12⟩; have B12 : Below w6.heap.size w6 w12 := bel_up B11 b12 (Nat.le_refl _); clear b12)
            | (go_at_call 20; refine htx.mono ?_; rintro x w13 ⟨rfl, b13⟩; have B13 : Below w6.heap.size w6 w13 := bel_up B12 b13 (Nat.le_refl _); clear b13 htx))
          all_goals
            have HTF := Hid_of (HRL.out _ B13)
            clear HK1 HK2 HK3 HS B10 B11 B12 B13 HRL s0 s1'
            go_wp2
            go_roundw
            case rel => exact HTF.out
            case measure => simp [intOf]; omega
        · have e0 : (dk == 0) = false := by simpa using hk0
          by_cases hk1 : dk = 1
          · subst hk1
            have hdp := rpeek_any mo ax cx P 0 W1 (by rw [HLN.out]; exact hPl) HX.out.xt
            unfold PkOut at hdp
            rw [HLN.out] at hdp
            go_wp2_with fail
            rw [HW1.out]
            refine hdp.mono ?_
            rintro x w3' ⟨rfl, b3'⟩
            have HX3 := Hid_of (HX.out.keep b3')
            clear hdp b3' q0 q1 q2 k0 k1 HX HW1
            obtain ⟨⟨g0, g1⟩, _⟩ := row2 HX3.out.box
            rw [HLN.out] at g1
            have hdoc := rdrop_any mo ax cx P 1 w3' (by rw [HLN.out]; exact hPl) HX3.out.xt
            rw [HLN.out] at hdoc
            go_wp2_with fail
            refine hdoc.mono ?_
            rintro x w4 hx4
            obtain ⟨v4, rfl, xr4, b4⟩ := hx4
            obtain ⟨a4, c4, rfl⟩ := xr4.slice
            obtain ⟨⟨m0, m1⟩, mf, ⟨m2, m3⟩, X5⟩ := HX3.out.lay b4 xr4 _ rfl
            have mf0 := mf 0
            have mf1 := mf 1
            rw [HLN.out] at m1
            obtain ⟨W5, HW5⟩ : ∃ W5, Hid (((w4.alloc (.cells #[.int .i64 mo, .slice a4 (P.drop (M.cut P 1)).length c4] 29)).setCell ⟨kb, 0, none⟩ (.int .i64 mo)).setCell ⟨kb, 1, none⟩ (.slice a4 (P.drop (M.cut P 1)).length c4) = W5) := ⟨_, rfl⟩
            rw [HW5.out] at X5
            have HX5 := Hid_of X5
            obtain ⟨r0, r1, r2⟩ := row3 X5.deed
            rw [← HW5.out] at r0 r1 r2
            have hprog := X5.ts.take
            clear hdoc xr4 b4 mf X5 HX3 g0 g1
            generalize hPP : P.drop (M.cut P 1) = PP at *
            generalize hHH : M.has P 0 = hh at *
            generalize hVV : M.peek P 0 = vv at *
            generalize hCC : M.cut P 1 = cc at *
            go_wp2_with fail
            rw [HW5.out]
            refine hprog.mono ?_
            rintro x w6 hx6
            obtain ⟨v6, rfl, S6, C6⟩ := hx6
            have HT := Hid_of (HX5.out.step S6 C6)
            clear hprog S6 C6 HX5 HW5 m0 m1 m2 m3 mf0 mf1 r0 r1 r2 hPP hHH hVV hCC HLN hPl
            have hPn : PP.length ≤ 64 := HT.out.ts.n.1
            have hmo := HT.out.ts.n.2
            obtain ⟨hm1, hm2, hm3⟩ := hmo
            have HS : Hid (∀ w', Below w6.heap.size w6 w' → w'.cell? ⟨kb, 0, none⟩ = some (.int .i64 mo) ∧ w'.cell? ⟨kb, 1, none⟩ = some (.slice a4 PP.length c4)) := fun w' hb' => (row2 (HT.out.keep hb').box).1
            have HK1 : Hid (∀ w', Below w6.heap.size w6 w' → Calls Try.prog 18 #[.pointer (some ⟨b, 0, none⟩)] w' fun e w'' => e = .returned (.int .i64 PP.length) ∧ w'' = w') := fun w' hb' => (HT.out.keep hb').ts.len
            have HK2 : Hid (∀ w', Below w6.heap.size w6 w' → Calls Try.prog 19 #[.pointer (some ⟨b, 0, none⟩)] w' fun e w'' => e = .returned (.int .i64 (mo - PP.length)) ∧ Below w'.heap.size w' w'') := fun w' hb' => ((HT.out.keep hb').ts.room).mono fun e w'' h => ⟨h.1, h.2.1⟩
            have HK3 : Hid (∀ w', Below w6.heap.size w6 w' → Calls Try.prog 21 #[.pointer (some ⟨b, 0, none⟩)] w' fun e w'' => ∃ a9 c9, e = .returned (.slice a9 PP.length c9) ∧ (Calls Try.prog 20 #[.slice a9 PP.length c9, .slice a4 PP.length c4] w'' fun e w3 => e = .returned (.bool true) ∧ Below w''.heap.size w'' w3) ∧ Below w'.heap.size w' w'') := fun w' hb' => ((HT.out.keep hb').ts.all).mono fun e w'' ⟨a9, c9, h1, h2, h3, h4, h5⟩ => ⟨a9, c9, h1, texts_any a9 c9 a4 c4 PP w'' (by omega) h2 ((HT.out.keep hb').keep h4).xt.at', h4⟩
            obtain ⟨s0, s1'⟩ := HS.out w6 (Below.refl _ _)
            have HRL : Hid (∀ w', Below w6.heap.size w6 w' → ∃ (kk : Nat) (vv : Value) (PP : List ByteArray) (aa : Option Addr) (cc : Nat), kk ≤ l.length ∧ Value.int .i64 ((k : Int) + 1) = .int .i64 kk ∧ TW w1 w' b vv mo PP kb aa cc) := fun w' hb' => ⟨k + 1, v6, PP, a4, c4, by omega, by go_num, (HT.out.keep hb').tw⟩
            clear HT
            generalize hpl : PP.length = pl at *
            clear hpl
            have hwr : IntKind.i64.wrap (mo - (pl : Int)) = mo - (pl : Int) := by rw [IntKind.wrap_i64]; omega
            go_wp2_with fail
            go_region_held3 (fun wq => wq.cell? ⟨kb, 0, none⟩ = some (.int .i64 mo) ∧ wq.cell? ⟨kb, 1, none⟩ = some (.slice a4 pl c4)) (first | exact HS.out _ (Below.refl _ _) | exact HS.out _ (Below.drew (Below.refl _ _)) | exact HS.out _ (by assumption)) (first
              | (go_at_call 18; refine (HK1.out _ (Below.drew (Below.refl _ _))).mono ?_; rintro x w10 ⟨rfl, rfl⟩; have B10 : Below w6.heap.size w6 w6.drew := Below.drew (Below.refl _ _))
              | (go_at_call 19; refine (HK2.out _ B10).mono ?_; rintro x w11 ⟨rfl, b11⟩; have B11 : Below w6.heap.size w6 w11 := Below.trans B10 b11; clear b11)
              | (go_at_call 21; refine (HK3.out _ B11).mono ?_; rintro x w12 ⟨a12, c12, rfl, htx, b12⟩; have B12 : Below w6.heap.size w6 w12 := bel_up B11 b12 (Nat.le_refl _); clear b12)
              | (go_at_call 20; refine htx.mono ?_; rintro x w13 ⟨rfl, b13⟩; have B13 : Below w6.heap.size w6 w13 := bel_up B12 b13 (Nat.le_refl _); clear b13 htx))
            all_goals
              have HTF := Hid_of (HRL.out _ B13)
              clear HK1 HK2 HK3 HS B10 B11 B12 B13 HRL s0 s1'
              go_wp2
              go_roundw
              case rel => exact HTF.out
              case measure => simp [intOf]; omega
          · have e1 : (dk == 1) = false := by simpa using hk1
            by_cases hk2 : dk = 2
            · subst hk2
              have hdoc := rdrop_any mo ax cx P dn W1 (by rw [HLN.out]; exact hPl) HX.out.xt
              rw [HLN.out] at hdoc
              go_wp2_with fail
              rw [HW1.out]
              refine hdoc.mono ?_
              rintro x w4 hx4
              obtain ⟨v4, rfl, xr4, b4⟩ := hx4
              obtain ⟨a4, c4, rfl⟩ := xr4.slice
              obtain ⟨⟨m0, m1⟩, mf, ⟨m2, m3⟩, X5⟩ := HX.out.lay b4 xr4 _ rfl
              have mf0 := mf 0
              have mf1 := mf 1
              rw [HLN.out] at m1
              obtain ⟨W5, HW5⟩ : ∃ W5, Hid (((w4.alloc (.cells #[.int .i64 mo, .slice a4 (P.drop (M.cut P dn)).length c4] 29)).setCell ⟨kb, 0, none⟩ (.int .i64 mo)).setCell ⟨kb, 1, none⟩ (.slice a4 (P.drop (M.cut P dn)).length c4) = W5) := ⟨_, rfl⟩
              rw [HW5.out] at X5
              have HX5 := Hid_of X5
              obtain ⟨r0, r1, r2⟩ := row3 X5.deed
              rw [← HW5.out] at r0 r1 r2
              have hprog := X5.ts.drop dn
              clear hdoc xr4 b4 mf X5 HX q0 q1 q2 k0 k1
              generalize hPP : P.drop (M.cut P dn) = PP at *
              generalize hCC : M.cut P dn = cc at *
              go_wp2_with fail
              rw [HW5.out]
              refine hprog.mono ?_
              rintro x w6 hx6
              obtain ⟨v6, rfl, S6, C6⟩ := hx6
              have HT := Hid_of (HX5.out.step S6 C6)
              clear hprog S6 C6 HX5 HW5 m0 m1 m2 m3 mf0 mf1 r0 r1 r2 HW1 hPP hCC HLN hPl
              have hPn : PP.length ≤ 64 := HT.out.ts.n.1
              have hmo := HT.out.ts.n.2
              obtain ⟨hm1, hm2, hm3⟩ := hmo
              have HS : Hid (∀ w', Below w6.heap.size w6 w' → w'.cell? ⟨kb, 0, none⟩ = some (.int .i64 mo) ∧ w'.cell? ⟨kb, 1, none⟩ = some (.slice a4 PP.length c4)) := fun w' hb' => (row2 (HT.out.keep hb').box).1
              have HK1 : Hid (∀ w', Below w6.heap.size w6 w' → Calls Try.prog 18 #[.pointer (some ⟨b, 0, none⟩)] w' fun e w'' => e = .returned (.int .i64 PP.length) ∧ w'' = w') := fun w' hb' => (HT.out.keep hb').ts.len
              have HK2 : Hid (∀ w', Below w6.heap.size w6 w' → Calls Try.prog 19 #[.pointer (some ⟨b, 0, none⟩)] w' fun e w'' => e = .returned (.int .i64 (mo - PP.length)) ∧ Below w'.heap.size w' w'') := fun w' hb' => ((HT.out.keep hb').ts.room).mono fun e w'' h => ⟨h.1, h.2.1⟩
              have HK3 : Hid (∀ w', Below w6.heap.size w6 w' → Calls Try.prog 21 #[.pointer (some ⟨b, 0, none⟩)] w' fun e w'' => ∃ a9 c9, e = .returned (.slice a9 PP.length c9) ∧ (Calls Try.prog 20 #[.slice a9 PP.length c9, .slice a4 PP.length c4] w'' fun e w3 => e = .returned (.bool true) ∧ Below w''.heap.size w'' w3) ∧ Below w'.heap.size w' w'') := fun w' hb' => ((HT.out.keep hb').ts.all).mono fun e w'' ⟨a9, c9, h1, h2, h3, h4, h5⟩ => ⟨a9, c9, h1, texts_any a9 c9 a4 c4 PP w'' (by omega) h2 ((HT.out.keep hb').keep h4).xt.at', h4⟩
              obtain ⟨s0, s1'⟩ := HS.out w6 (Below.refl _ _)
              have HRL : Hid (∀ w', Below w6.heap.size w6 w' → ∃ (kk : Nat) (vv : Value) (PP : List ByteArray) (aa : Option Addr) (cc : Nat), kk ≤ l.length ∧ Value.int .i64 ((k : Int) + 1) = .int .i64 kk ∧ TW w1 w' b vv mo PP kb aa cc) := fun w' hb' => ⟨k + 1, v6, PP, a4, c4, by omega, by go_num, (HT.out.keep hb').tw⟩
              clear HT
              generalize hpl : PP.length = pl at *
              clear hpl
              have hwr : IntKind.i64.wrap (mo - (pl : Int)) = mo - (pl : Int) := by rw [IntKind.wrap_i64]; omega
              go_wp2_with fail
              go_region_held3 (fun wq => wq.cell? ⟨kb, 0, none⟩ = some (.int .i64 mo) ∧ wq.cell? ⟨kb, 1, none⟩ = some (.slice a4 pl c4)) (first | exact HS.out _ (Below.refl _ _) | exact HS.out _ (Below.drew (Below.refl _ _)) | exact HS.out _ (by assumption)) (first
                | (go_at_call 18; refine (HK1.out _ (Below.drew (Below.refl _ _))).mono ?_; rintro x w10 ⟨rfl, rfl⟩; have B10 : Below w6.heap.size w6 w6.drew := Below.drew (Below.refl _ _))
                | (go_at_call 19; refine (HK2.out _ B10).mono ?_; rintro x w11 ⟨rfl, b11⟩; have B11 : Below w6.heap.size w6 w11 := Below.trans B10 b11; clear b11)
                | (go_at_call 21; refine (HK3.out _ B11).mono ?_; rintro x w12 ⟨a12, c12, rfl, htx, b12⟩; have B12 : Below w6.heap.size w6 w12 := bel_up B11 b12 (Nat.le_refl _); clear b12)
                | (go_at_call 20; refine htx.mono ?_; rintro x w13 ⟨rfl, b13⟩; have B13 : Below w6.heap.size w6 w13 := bel_up B12 b13 (Nat.le_refl _); clear b13 htx))
              all_goals
                have HTF := Hid_of (HRL.out _ B13)
                clear HK1 HK2 HK3 HS B10 B11 B12 B13 HRL s0 s1'
                go_wp2
                go_roundw
                case rel => exact HTF.out
                case measure => simp [intOf]; omega
            · have e2 : (dk == 2) = false := by simpa using hk2
              by_cases hk3 : dk = 3
              · subst hk3
                have hdp := rpeek_any mo ax cx P dn W1 (by rw [HLN.out]; exact hPl) HX.out.xt
                unfold PkOut at hdp
                rw [HLN.out] at hdp
                go_wp2_with fail
                rw [HW1.out]
                refine hdp.mono ?_
                rintro x w4 ⟨rfl, b4⟩
                have HX4 := Hid_of (HX.out.keep b4)
                clear hdp b4 q0 q1 q2 k0 k1 HX HW1
                obtain ⟨r0, r1, r2⟩ := row3 HX4.out.deed
                have hprog := HX4.out.ts.peek dn
                generalize hHH : M.has P dn = hh at *
                generalize hVV : M.peek P dn = vv at *
                go_wp2_with fail
                refine hprog.mono ?_
                rintro x w6 ⟨rfl, b6, _⟩
                have HT := Hid_of (HX4.out.keep b6)
                clear hprog b6 HX4 r0 r1 r2 hHH hVV HLN hPl
                have hPn : P.length ≤ 64 := HT.out.ts.n.1
                have hmo := HT.out.ts.n.2
                obtain ⟨hm1, hm2, hm3⟩ := hmo
                have HS : Hid (∀ w', Below w6.heap.size w6 w' → w'.cell? ⟨kb, 0, none⟩ = some (.int .i64 mo) ∧ w'.cell? ⟨kb, 1, none⟩ = some (.slice ax P.length cx)) := fun w' hb' => (row2 (HT.out.keep hb').box).1
                have HK1 : Hid (∀ w', Below w6.heap.size w6 w' → Calls Try.prog 18 #[.pointer (some ⟨b, 0, none⟩)] w' fun e w'' => e = .returned (.int .i64 P.length) ∧ w'' = w') := fun w' hb' => (HT.out.keep hb').ts.len
                have HK2 : Hid (∀ w', Below w6.heap.size w6 w' → Calls Try.prog 19 #[.pointer (some ⟨b, 0, none⟩)] w' fun e w'' => e = .returned (.int .i64 (mo - P.length)) ∧ Below w'.heap.size w' w'') := fun w' hb' => ((HT.out.keep hb').ts.room).mono fun e w'' h => ⟨h.1, h.2.1⟩
                have HK3 : Hid (∀ w', Below w6.heap.size w6 w' → Calls Try.prog 21 #[.pointer (some ⟨b, 0, none⟩)] w' fun e w'' => ∃ a9 c9, e = .returned (.slice a9 P.length c9) ∧ (Calls Try.prog 20 #[.slice a9 P.length c9, .slice ax P.length cx] w'' fun e w3 => e = .returned (.bool true) ∧ Below w''.heap.size w'' w3) ∧ Below w'.heap.size w' w'') := fun w' hb' => ((HT.out.keep hb').ts.all).mono fun e w'' ⟨a9, c9, h1, h2, h3, h4, h5⟩ => ⟨a9, c9, h1, texts_any a9 c9 ax cx P w'' (by omega) h2 ((HT.out.keep hb').keep h4).xt.at', h4⟩
                obtain ⟨s0, s1'⟩ := HS.out w6 (Below.refl _ _)
                have HRL : Hid (∀ w', Below w6.heap.size w6 w' → ∃ (kk : Nat) (vv : Value) (PP : List ByteArray) (aa : Option Addr) (cc : Nat), kk ≤ l.length ∧ Value.int .i64 ((k : Int) + 1) = .int .i64 kk ∧ TW w1 w' b vv mo PP kb aa cc) := fun w' hb' => ⟨k + 1, v, P, ax, cx, by omega, by go_num, (HT.out.keep hb').tw⟩
                clear HT
                generalize hpl : P.length = pl at *
                clear hpl
                have hwr : IntKind.i64.wrap (mo - (pl : Int)) = mo - (pl : Int) := by rw [IntKind.wrap_i64]; omega
                go_wp2_with fail
                go_region_held3 (fun wq => wq.cell? ⟨kb, 0, none⟩ = some (.int .i64 mo) ∧ wq.cell? ⟨kb, 1, none⟩ = some (.slice ax pl cx)) (first | exact HS.out _ (Below.refl _ _) | exact HS.out _ (Below.drew (Below.refl _ _)) | exact HS.out _ (by assumption)) (first
                  | (go_at_call 18; refine (HK1.out _ (Below.drew (Below.refl _ _))).mono ?_; rintro x w10 ⟨rfl, rfl⟩; have B10 : Below w6.heap.size w6 w6.drew := Below.drew (Below.refl _ _))
                  | (go_at_call 19; refine (HK2.out _ B10).mono ?_; rintro x w11 ⟨rfl, b11⟩; have B11 : Below w6.heap.size w6 w11 := Below.trans B10 b11; clear b11)
                  | (go_at_call 21; refine (HK3.out _ B11).mono ?_; rintro x w12 ⟨a12, c12, rfl, htx, b12⟩; have B12 : Below w6.heap.size w6 w12 := bel_up B11 b12 (Nat.le_refl _); clear b12)
                  | (go_at_call 20; refine htx.mono ?_; rintro x w13 ⟨rfl, b13⟩; have B13 : Below w6.heap.size w6 w13 := bel_up B12 b13 (Nat.le_refl _); clear b13 htx))
                all_goals
                  have HTF := Hid_of (HRL.out _ B13)
                  clear HK1 HK2 HK3 HS B10 B11 B12 B13 HRL s0 s1'
                  go_wp2
                  go_roundw
                  case rel => exact HTF.out
                  case measure => simp [intOf]; omega
              · have e3 : (dk == 3) = false := by simpa using hk3
                have HT := HX
                clear HX hk0 hk1 hk2 hk3 q0 q1 q2
                rw [HW1.out] at k0 k1
                go_wp2_with fail
                rw [HW1.out]
                clear HW1 k0 k1 HLN hPl
                have hPn : P.length ≤ 64 := HT.out.ts.n.1
                have hmo := HT.out.ts.n.2
                obtain ⟨hm1, hm2, hm3⟩ := hmo
                have HS : Hid (∀ w', Below W1.heap.size W1 w' → w'.cell? ⟨kb, 0, none⟩ = some (.int .i64 mo) ∧ w'.cell? ⟨kb, 1, none⟩ = some (.slice ax P.length cx)) := fun w' hb' => (row2 (HT.out.keep hb').box).1
                have HK1 : Hid (∀ w', Below W1.heap.size W1 w' → Calls Try.prog 18 #[.pointer (some ⟨b, 0, none⟩)] w' fun e w'' => e = .returned (.int .i64 P.length) ∧ w'' = w') := fun w' hb' => (HT.out.keep hb').ts.len
                have HK2 : Hid (∀ w', Below W1.heap.size W1 w' → Calls Try.prog 19 #[.pointer (some ⟨b, 0, none⟩)] w' fun e w'' => e = .returned (.int .i64 (mo - P.length)) ∧ Below w'.heap.size w' w'') := fun w' hb' => ((HT.out.keep hb').ts.room).mono fun e w'' h => ⟨h.1, h.2.1⟩
                have HK3 : Hid (∀ w', Below W1.heap.size W1 w' → Calls Try.prog 21 #[.pointer (some ⟨b, 0, none⟩)] w' fun e w'' => ∃ a9 c9, e = .returned (.slice a9 P.length c9) ∧ (Calls Try.prog 20 #[.slice a9 P.length c9, .slice ax P.length cx] w'' fun e w3 => e = .returned (.bool true) ∧ Below w''.heap.size w'' w3) ∧ Below w'.heap.size w' w'') := fun w' hb' => ((HT.out.keep hb').ts.all).mono fun e w'' ⟨a9, c9, h1, h2, h3, h4, h5⟩ => ⟨a9, c9, h1, texts_any a9 c9 ax cx P w'' (by omega) h2 ((HT.out.keep hb').keep h4).xt.at', h4⟩
                obtain ⟨s0, s1'⟩ := HS.out W1 (Below.refl _ _)
                have HRL : Hid (∀ w', Below W1.heap.size W1 w' → ∃ (kk : Nat) (vv : Value) (PP : List ByteArray) (aa : Option Addr) (cc : Nat), kk ≤ l.length ∧ Value.int .i64 ((k : Int) + 1) = .int .i64 kk ∧ TW w1 w' b vv mo PP kb aa cc) := fun w' hb' => ⟨k + 1, v, P, ax, cx, by omega, by go_num, (HT.out.keep hb').tw⟩
                clear HT
                generalize hpl : P.length = pl at *
                clear hpl
                have hwr : IntKind.i64.wrap (mo - (pl : Int)) = mo - (pl : Int) := by rw [IntKind.wrap_i64]; omega
                go_region_held3 (fun wq => wq.cell? ⟨kb, 0, none⟩ = some (.int .i64 mo) ∧ wq.cell? ⟨kb, 1, none⟩ = some (.slice ax pl cx)) (first | exact HS.out _ (Below.refl _ _) | exact HS.out _ (Below.drew (Below.refl _ _)) | exact HS.out _ (by assumption)) (first
                  | (go_at_call 18; refine (HK1.out _ (Below.drew (Below.refl _ _))).mono ?_; rintro x w10 ⟨rfl, rfl⟩; have B10 : Below W1.heap.size W1 W1.drew := Below.drew (Below.refl _ _))
                  | (go_at_call 19; refine (HK2.out _ B10).mono ?_; rintro x w11 ⟨rfl, b11⟩; have B11 : Below W1.heap.size W1 w11 := Below.trans B10 b11; clear b11)
                  | (go_at_call 21; refine (HK3.out _ B11).mono ?_; rintro x w12 ⟨a12, c12, rfl, htx, b12⟩; have B12 : Below W1.heap.size W1 w12 := bel_up B11 b12 (Nat.le_refl _); clear b12)
                  | (go_at_call 20; refine htx.mono ?_; rintro x w13 ⟨rfl, b13⟩; have B13 : Below W1.heap.size W1 w13 := bel_up B12 b13 (Nat.le_refl _); clear b13 htx))
                all_goals
                  have HTF := Hid_of (HRL.out _ B13)
                  clear HK1 HK2 HK3 HS B10 B11 B12 B13 HRL s0 s1'
                  go_wp2
                  go_roundw
                  case rel => exact HTF.out
                  case measure => simp [intOf]; omega
      · have HB := Hid_of T.ts.bel
        clear T hd
        go_wp2_with fail
        refine (awake_any _).mono ?_
        rintro x w3 ⟨rfl, b3⟩
        have HB3 := Hid_of (bel_up HB.out b3 (Nat.le_refl _))
        clear b3 HB
        go_wp2
        go_ret
        exact ⟨rfl, HB3.out⟩
end Go.Proofs.Ytlknknacjpnmeaa
