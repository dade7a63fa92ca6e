/-
  Anything done to any cache.
-/
import Derived.Test.YtpfmdchmgaaakaaZ
import Derived.OpenShut
import Derived.Deep.RegionHeld3
namespace Go.Proofs.Ytpfmdchmgaaakaa
open Go.ChangeShapes Go.WideShapes Go.ChangeAt Go.RowKit
set_option linter.unusedVariables false
open M (K)

set_option maxRecDepth 100000 in
set_option maxHeartbeats 16000000 in
theorem plays_walk (most : Int) (a : Option Addr) (cap : Nat) (l : List Dd) (w : World) (hl : l.length ≤ maxLen) (hd : Dds w a l) (hok : ∀ d ∈ l, d.ok) :
    Calls Try.prog 3 #[.int .i64 most, .slice a l.length cap] w fun e w' => e = .returned (.bool true) ∧ Below w.heap.size w w' := by
  go_enter Try.func3, Try.ntmps3
  go_wp2_with fail
  refine (few_any a cap l w hl hd hok).mono ?_
  rintro x w1 ⟨b, rfl, hfew, rfl⟩
  cases b with
  | false =>
    clear hfew hd hok
    go_wp2_with fail
    refine (awake_any _).mono ?_
    rintro x w2 ⟨rfl, hb⟩
    go_wp2
    go_ret
    exact ⟨rfl, hb⟩
  | true =>
    obtain ⟨hl80, hf7⟩ := hfew rfl
    have HOK := Hid_of hok
    have HF7 := Hid_of hf7
    clear hfew hok hf7
    go_wp2_with fail
    refine (new_any most w1).mono ?_
    rintro x w2 ⟨c, m, rfl, I2, hc, hm, B2⟩
    have HS2 : Hid (CS w1 w2 c m 0 (lim most) []) := ⟨I2, B2, hc, hm, by simp [bs]⟩
    clear I2 hc hm B2
    go_wp2_with fail
    refine (rnew_any most w2).mono ?_
    rintro x w3 ⟨v3, rfl, o3, b3⟩
    obtain ⟨a3, c3, rfl, X3, bl3⟩ := o3.at
    obtain ⟨lm, hlm⟩ : ∃ lm, lim most = lm := ⟨_, rfl⟩
    rw [hlm] at HS2 ⊢
    have HT0 : Hid (TW w1 (w3.alloc (.cells #[.int .i64 lm, .slice a3 0 c3] 29)) c m 0 lm [] w3.heap.size a3 c3 []) := by
      have hS := HS2.out.keep b3
      refine ⟨hS.keep (bel1 w3 _), heap_alloc_last w3 _, X3.keep (bel1 w3 _), ⟨by have := hS.ci.lt; omega, by have := hS.ci.mi.lt; omega, by simp [bs]⟩, fun b hb => ?_, fun b hb => by have := (bl3 b hb).2.2; simp; omega, hS.bel.size⟩
      have h1 := (bl3 b hb).1
      have h2 := (bl3 b hb).2.2
      have h4 := HS2.out.ci.lt
      have h5 := HS2.out.ci.mi.lt
      exact ⟨by omega, by omega, by simp [bs], by omega⟩
    clear HS2 o3 b3 X3 bl3
    generalize hkb : w3.heap.size = kb at *
    simp only [List.length_nil]
    go_wp2
    go_loopw [7] (fun i wr => ∃ (k n : Nat) (L : List (Nat × K)) (ax : Option Addr) (cx : Nat), k ≤ l.length ∧ i = .int .i64 k ∧ TW w1 wr c m n lm L kb ax cx (ks L) ∧ n ≤ k ∧ L.length ≤ k) (fun i _ => l.length - (intOf i).toNat)
    case atStart => exact ⟨0, 0, [], a3, c3, by omega, rfl, HT0.out, Nat.le_refl _, by simp⟩
    case round =>
      obtain ⟨k, n, L, ax, cx, hk, rfl, T, hnk, hLk⟩ := hrel
      clear HT0
      by_cases hlt : k < l.length
      · obtain ⟨bb, off, rfl, c0, c1, c2⟩ := (hd.keep T.cs.bel) k hlt
        obtain ⟨ok0, ok1, ok2⟩ := HOK.out l[k] (List.getElem_mem hlt)
        have hsz7 := HF7.out l[k] (List.getElem_mem hlt)
        clear hd ok0 ok2
        generalize l[k].val = sv at *
        generalize l[k].k = dk at *
        generalize l[k].key = dy at *
        have hb0 := bel1 wr (.cells #[.int .i64 dk, .int .i64 dy, .string sv] 32)
        obtain ⟨W1, HW1⟩ : ∃ W1, Hid (wr.alloc (.cells #[.int .i64 dk, .int .i64 dy, .string sv] 32) = W1) := ⟨_, rfl⟩
        obtain ⟨q, hq⟩ : ∃ q, wr.heap.size = q := ⟨_, rfl⟩
        have HX : Hid (TX w1 W1 c m n lm L kb ax cx (ks L) q dk dy sv) := by
          rw [← HW1.out, ← hq]
          refine ⟨T.keep hb0, heap_alloc_last wr _, ⟨by have := T.cs.ci.lt; omega, by have := T.cs.ci.mi.lt; omega, fun e => by have := T.cs.ci.lk.lt _ e; omega, by have := T.lt; omega⟩⟩
        clear T hb0
        have hlmb := HX.out.t.cs.ci.lo
        have hlmh := HX.out.t.cs.ci.hi
        have hLl : (ks L).length ≤ 1000000 := by rw [show (ks L).length = L.length by simp [ks]]; omega
        have hnb : M.bytes (ks L) ≤ 65536 := by have := HX.out.t.cs.ci.b0; omega
        obtain ⟨q0, q1, q2⟩ := row3 HX.out.deed
        obtain ⟨⟨k0, k1⟩, kf⟩ := row2 HX.out.t.box
        -- the cells, as the walk spells the world
        have HCE : Hid (W1.cell? ⟨kb, 0, none⟩ = some (.int .i64 lm) ∧ W1.cell? ⟨kb, 1, none⟩ = some (.slice ax (ks L).length cx)) := ⟨k0, k1⟩
        obtain ⟨ln, hln⟩ : ∃ ln, (ks L).length = ln := ⟨_, rfl⟩
        have HLN := Hid_of hln
        rw [hln] at k1
        clear hln HCE
        rw [← HW1.out] at k0 k1
        clear kf
        by_cases hk0 : dk = 0
        · subst hk0
          have hdoc := rput_any lm ax cx (ks L) dy sv W1 hLl HX.out.t.xe hlmb hlmh hnb (by unfold maxLen; omega)
          rw [HLN.out] at hdoc
          go_wp2_with fail
          rw [HW1.out]
          refine hdoc.mono ?_
          rintro x w4 hx4
          obtain ⟨v4, u4, rfl, xr4, ou4, b4⟩ := hx4
          obtain ⟨a4, c4, rfl⟩ := xr4.slice
          obtain ⟨au, cu, rfl, atu, blu, _⟩ := ou4.at
          obtain ⟨⟨m0, m1⟩, mf, ⟨m2, m3⟩, X5⟩ := HX.out.lay b4 xr4 _ rfl
          have mf0 := mf 0
          have mf1 := mf 1
          obtain ⟨W5, HW5⟩ : ∃ W5, Hid (((w4.alloc (.cells #[.int .i64 lm, .slice a4 (M.put lm (ks L) dy sv).1.length c4] 29)).setCell ⟨kb, 0, none⟩ (.int .i64 lm)).setCell ⟨kb, 1, none⟩ (.slice a4 (M.put lm (ks L) dy sv).1.length c4) = W5) := ⟨_, rfl⟩
          rw [HW5.out] at X5
          have HX5 := Hid_of X5
          obtain ⟨r0, r1, r2⟩ := row3 X5.deed
          rw [← HW5.out] at r0 r1 r2
          have hput := put_any c m n lm L dy sv W5 X5.t.cs.ci (by omega) (by unfold maxLen; omega) ok1 (by unfold maxLen; omega)
          have HU : Hid (∀ w6 L6, Fr W5 c m L w6 L6 → AtI w6 au (M.put lm (ks L) dy sv).2) := by
            intro w6 L6 F6
            have hs45 : W5.heap.size = w4.heap.size + 1 := by rw [← HW5.out]; simp
            have hkb1 := HX.out.t.lt
            have e5 : ∀ b, blk au b → b < w4.heap.size ∧ W5.heap[b]? = w4.heap[b]? := fun b hb => by
              have h1 := (blu b hb).1
              have h2 := (blu b hb).2.2
              refine ⟨h2, ?_⟩
              rw [← HW5.out]
              exact ((heap_setCell_other _ ⟨kb, 1, none⟩ b _ (by show b ≠ kb; omega)).trans (heap_setCell_other _ ⟨kb, 0, none⟩ b _ (by show b ≠ kb; omega))).trans ((bel1 w4 _).block b h2)
            have at5 : AtI W5 au (M.put lm (ks L) dy sv).2 := atu.keepBut fun b hb hbl => (e5 b hbl).2
            have hs1 := b4.size
            refine at5.keepBut fun b hb hbl => F6.block b hb ?_ ?_ ?_
            · have h1 := (blu b hbl).1; have := HX.out.t.cs.ci.lt; omega
            · have h1 := (blu b hbl).1; have := HX.out.t.cs.ci.mi.lt; omega
            · intro e
              have h1 := (blu b hbl).1
              have := HX.out.t.cs.ci.lk.lt b e
              omega
          have hpl := M.put_len lm (ks L) dy sv
          rw [show (ks L).length = L.length by simp [ks]] at hpl
          clear hdoc xr4 ou4 b4 atu blu mf X5 HX q0 q1 q2 k0 k1
          generalize hPP : M.put lm (ks L) dy sv = PP at *
          go_wp2_with fail
          rw [HW5.out]
          refine hput.mono ?_
          rintro x w6 hx6
          obtain ⟨u6, L6, n6, rfl, I6, hn6, e6, o6, F6, ap6⟩ := hx6
          rw [hPP] at e6 o6
          have HX6 := Hid_of (HX5.out.step I6 F6)
          have hin := HU.out w6 L6 F6
          obtain ⟨a6, c6, rfl, at6, _, _⟩ := o6.at
          have hint := ints_any a6 c6 au cu PP.2 w6 (by omega) at6 hin
          clear hput hin o6 at6 I6 F6 ap6 HX5 HU HW5 m0 m1 m2 m3 mf0 mf1 r0 r1 r2
          go_wp2_with fail
          refine hint.mono ?_
          rintro x w7 ⟨rfl, b7⟩
          have HT : Hid (TX w1 w7 c m n6 lm L6 kb a4 c4 (ks L6) q 0 dy sv) := by rw [e6]; exact HX6.out.keep b7
          have hL6 : L6.length ≤ k + 1 := by have h1 := ks_len e6; omega
          have hPL : PP.1.length = (ks L6).length := by rw [e6]
          rw [hPL]
          clear hint HX6 b7 HW1 hPP e6 hpl hPL
          have hLL : L6.length ≤ 1000000 := by omega
          have hKL : (ks L6).length ≤ 1000000 := by rw [show (ks L6).length = L6.length by simp [ks]]; omega
          have HS : Hid (∀ w', Below w7.heap.size w7 w' → w'.cell? ⟨kb, 0, none⟩ = some (.int .i64 lm) ∧ w'.cell? ⟨kb, 1, none⟩ = some (.slice a4 (ks L6).length c4)) := fun w' hb' => (row2 (HT.out.keep hb').t.box).1
          have HK1 : Hid (∀ w', Below w7.heap.size w7 w' → Calls Try.prog 20 #[.pointer (some ⟨c, 0, none⟩)] w' (KyOut w' ((ks L6).map (·.key)))) := fun w' hb' => keys_any c m n6 lm L6 w' (HT.out.keep hb').t.cs.ci hLL
          have HK2 : Hid (∀ w', Below w7.heap.size w7 w' → Calls Try.prog 21 #[.agg #[.int .i64 lm, .slice a4 (ks L6).length c4]] w' (KyOut w' ((ks L6).map (·.key)))) := fun w' hb' => rkeys_any lm a4 c4 (ks L6) w' hKL (HT.out.keep hb').t.xe.at'
          have HK4 : Hid (∀ w', Below w7.heap.size w7 w' → Calls Try.prog 22 #[.pointer (some ⟨c, 0, none⟩)] w' fun e w'' => e = .returned (.int .i64 (M.bytes (ks L6))) ∧ w'' = w') := fun w' hb' => bytes_any c m n6 lm L6 w' (HT.out.keep hb').t.cs.ci
          have HK5 : Hid (∀ w', Below w7.heap.size w7 w' → Calls Try.prog 23 #[.agg #[.int .i64 lm, .slice a4 (ks L6).length c4]] w' fun e w'' => e = .returned (.int .i64 (M.bytes (ks L6))) ∧ Below w'.heap.size w' w'') := fun w' hb' => rbytes_any lm a4 c4 (ks L6) w' hKL (by have := HT.out.t.cs.ci.b0; omega) (HT.out.keep hb').t.xe.at'
          have hkml : ((ks L6).map (·.key)).length ≤ 1000000 := by simpa using hKL
          obtain ⟨s0, s1'⟩ := HS.out w7 (Below.refl _ _)
          generalize (ks L6).map (·.key) = kl at *
          generalize M.bytes (ks L6) = nb at *
          generalize hkln : (ks L6).length = kln at *
          go_wp2_with fail
          go_region_held3 (fun wq => wq.cell? ⟨kb, 0, none⟩ = some (.int .i64 lm) ∧ wq.cell? ⟨kb, 1, none⟩ = some (.slice a4 kln c4)) (first | exact HS.out _ (Below.refl _ _) | exact HS.out _ (Below.drew (Below.refl _ _)) | exact HS.out _ (by assumption)) (first
            | (go_at_call 20; refine (HK1.out _ (Below.drew (Below.refl _ _))).mono ?_; rintro x w10 hx10; obtain ⟨v10, rfl, o10, b10⟩ := hx10; have B10 : Below w7.heap.size w7 w10 := Below.trans (Below.drew (Below.refl _ _)) b10; clear b10; obtain ⟨a10, c10, rfl, at10, _, _⟩ := o10.at; clear o10)
            | (go_at_call 21; refine (HK2.out _ B10).mono ?_; rintro x w11 hx11; obtain ⟨v11, rfl, o11, b11⟩ := hx11; have B11 : Below w7.heap.size w7 w11 := bel_up B10 b11 (Nat.le_refl _); have at10' := at10.keep b11; obtain ⟨a11, c11, rfl, at11, _, _⟩ := o11.at; have hin := ints_any a10 c10 a11 c11 kl w11 hkml at10' at11; clear o11 b11 at10 at10' at11)
            | (go_at_call 12; refine hin.mono ?_; rintro x w12 ⟨rfl, b12⟩; have B12 : Below w7.heap.size w7 w12 := bel_up B11 b12 (Nat.le_refl _); clear b12 hin)
            | (go_at_call 22; refine (HK4.out _ B12).mono ?_; rintro x w13 ⟨rfl, rfl⟩)
            | (go_at_call 23; refine (HK5.out _ B12).mono ?_; rintro x w14 ⟨rfl, b14⟩; have B14 : Below w7.heap.size w7 w14 := bel_up B12 b14 (Nat.le_refl _); clear b14))
          all_goals
            have HTF := Hid_of (HT.out.keep B14).t
            clear HK1 HK2 HK4 HK5 HS B10 B11 B12 B14 HT s0 s1'
            go_wp2
            go_roundw
            case rel => exact ⟨k + 1, n6, L6, a4, c4, by omega, by go_num, HTF.out, by omega, by omega⟩
            case measure => simp [intOf]; omega
        · have e0 : (dk == 0) = false := by simpa using hk0
          by_cases hk1 : dk = 1
          · subst hk1
            have hdoc := rget_any lm ax cx (ks L) dy W1 hLl HX.out.t.xe
            rw [HLN.out] at hdoc
            go_wp2_with fail
            rw [HW1.out]
            refine hdoc.mono ?_
            rintro x w4 hx4
            obtain ⟨v4, rfl, xr4, b4⟩ := hx4
            obtain ⟨a4, c4, rfl⟩ := xr4.slice
            obtain ⟨⟨m0, m1⟩, mf, ⟨m2, m3⟩, X5⟩ := HX.out.lay b4 xr4 _ rfl
            have mf0 := mf 0
            have mf1 := mf 1
            obtain ⟨W5, HW5⟩ : ∃ W5, Hid (((w4.alloc (.cells #[.int .i64 lm, .slice a4 (M.got (ks L) dy).length c4] 29)).setCell ⟨kb, 0, none⟩ (.int .i64 lm)).setCell ⟨kb, 1, none⟩ (.slice a4 (M.got (ks L) dy).length c4) = W5) := ⟨_, rfl⟩
            rw [HW5.out] at X5
            have HX5 := Hid_of X5
            obtain ⟨r0, r1, r2⟩ := row3 X5.deed
            rw [← HW5.out] at r0 r1 r2
            have hprog := get_any c m n lm L dy W5 X5.t.cs.ci ok1
            have hpl := M.got_len (ks L) dy
            rw [show (ks L).length = L.length by simp [ks]] at hpl
            generalize hVV : M.val (ks L) dy = vv at *
            clear hdoc xr4 b4 mf X5 HX q0 q1 q2 k0 k1
            generalize hPP : M.got (ks L) dy = PP at *
            generalize hHH : M.has (ks L) dy = hh at *
            go_wp2_with fail
            rw [HW5.out]
            refine hprog.mono ?_
            rintro x w6 hx6
            obtain ⟨rfl, L6, I6, e6, F6⟩ := hx6
            rw [hPP] at e6
            rw [hVV, hHH]
            have HT : Hid (TX w1 w6 c m n lm L6 kb a4 c4 (ks L6) q 1 dy sv) := by rw [e6]; exact HX5.out.step I6 F6
            have hL6 : L6.length ≤ k + 1 := by have h1 := ks_len e6; omega
            have hPL : PP.length = (ks L6).length := by rw [e6]
            rw [hPL]
            clear hprog I6 F6 HX5 HW5 m0 m1 m2 m3 mf0 mf1 r0 r1 r2 HW1 hPP e6 hpl hPL hHH hVV
            have hLL : L6.length ≤ 1000000 := by omega
            have hKL : (ks L6).length ≤ 1000000 := by rw [show (ks L6).length = L6.length by simp [ks]]; omega
            have HS : Hid (∀ w', Below w6.heap.size w6 w' → w'.cell? ⟨kb, 0, none⟩ = some (.int .i64 lm) ∧ w'.cell? ⟨kb, 1, none⟩ = some (.slice a4 (ks L6).length c4)) := fun w' hb' => (row2 (HT.out.keep hb').t.box).1
            have HK1 : Hid (∀ w', Below w6.heap.size w6 w' → Calls Try.prog 20 #[.pointer (some ⟨c, 0, none⟩)] w' (KyOut w' ((ks L6).map (·.key)))) := fun w' hb' => keys_any c m n lm L6 w' (HT.out.keep hb').t.cs.ci hLL
            have HK2 : Hid (∀ w', Below w6.heap.size w6 w' → Calls Try.prog 21 #[.agg #[.int .i64 lm, .slice a4 (ks L6).length c4]] w' (KyOut w' ((ks L6).map (·.key)))) := fun w' hb' => rkeys_any lm a4 c4 (ks L6) w' hKL (HT.out.keep hb').t.xe.at'
            have HK4 : Hid (∀ w', Below w6.heap.size w6 w' → Calls Try.prog 22 #[.pointer (some ⟨c, 0, none⟩)] w' fun e w'' => e = .returned (.int .i64 (M.bytes (ks L6))) ∧ w'' = w') := fun w' hb' => bytes_any c m n lm L6 w' (HT.out.keep hb').t.cs.ci
            have HK5 : Hid (∀ w', Below w6.heap.size w6 w' → Calls Try.prog 23 #[.agg #[.int .i64 lm, .slice a4 (ks L6).length c4]] w' fun e w'' => e = .returned (.int .i64 (M.bytes (ks L6))) ∧ Below w'.heap.size w' w'') := fun w' hb' => rbytes_any lm a4 c4 (ks L6) w' hKL (by have := HT.out.t.cs.ci.b0; omega) (HT.out.keep hb').t.xe.at'
            have hkml : ((ks L6).map (·.key)).length ≤ 1000000 := by simpa using hKL
            obtain ⟨s0, s1'⟩ := HS.out w6 (Below.refl _ _)
            generalize (ks L6).map (·.key) = kl at *
            generalize M.bytes (ks L6) = nb at *
            generalize hkln : (ks L6).length = kln at *
            go_wp2_with fail
            go_region_held3 (fun wq => wq.cell? ⟨kb, 0, none⟩ = some (.int .i64 lm) ∧ wq.cell? ⟨kb, 1, none⟩ = some (.slice a4 kln c4)) (first | exact HS.out _ (Below.refl _ _) | exact HS.out _ (Below.drew (Below.refl _ _)) | exact HS.out _ (by assumption)) (first
              | (go_at_call 20; refine (HK1.out _ (Below.drew (Below.refl _ _))).mono ?_; rintro x w10 hx10; obtain ⟨v10, rfl, o10, b10⟩ := hx10; have B10 : Below w6.heap.size w6 w10 := Below.trans (Below.drew (Below.refl _ _)) b10; clear b10; obtain ⟨a10, c10, rfl, at10, _, _⟩ := o10.at; clear o10)
              | (go_at_call 21; refine (HK2.out _ B10).mono ?_; rintro x w11 hx11; obtain ⟨v11, rfl, o11, b11⟩ := hx11; have B11 : Below w6.heap.size w6 w11 := bel_up B10 b11 (Nat.le_refl _); have at10' := at10.keep b11; obtain ⟨a11, c11, rfl, at11, _, _⟩ := o11.at; have hin := ints_any a10 c10 a11 c11 kl w11 hkml at10' at11; clear o11 b11 at10 at10' at11)
              | (go_at_call 12; refine hin.mono ?_; rintro x w12 ⟨rfl, b12⟩; have B12 : Below w6.heap.size w6 w12 := bel_up B11 b12 (Nat.le_refl _); clear b12 hin)
              | (go_at_call 22; refine (HK4.out _ B12).mono ?_; rintro x w13 ⟨rfl, rfl⟩)
              | (go_at_call 23; refine (HK5.out _ B12).mono ?_; rintro x w14 ⟨rfl, b14⟩; have B14 : Below w6.heap.size w6 w14 := bel_up B12 b14 (Nat.le_refl _); clear b14))
            all_goals
              have HTF := Hid_of (HT.out.keep B14).t
              clear HK1 HK2 HK4 HK5 HS B10 B11 B12 B14 HT s0 s1'
              go_wp2
              go_roundw
              case rel => exact ⟨k + 1, n, L6, a4, c4, by omega, by go_num, HTF.out, by omega, by omega⟩
              case measure => simp [intOf]; omega
          · have e1 : (dk == 1) = false := by simpa using hk1
            by_cases hk23 : dk = 2 ∨ dk = 3
            · have h23 : ((dk == 2) = true) ∨ ((dk == 2) = false ∧ (dk == 3) = true) := by
                rcases hk23 with rfl | rfl
                · exact .inl rfl
                · exact .inr ⟨rfl, rfl⟩
              clear hk23 hk0 hk1
              rcases h23 with e2 | ⟨e2, e3⟩
              · have hdoc := rpin_any lm ax cx (ks L) dy true W1 hLl HX.out.t.xe
                rw [HLN.out] at hdoc
                go_wp2_with fail
                rw [HW1.out]
                refine hdoc.mono ?_
                rintro x w4 hx4
                obtain ⟨v4, rfl, xr4, b4⟩ := hx4
                obtain ⟨a4, c4, rfl⟩ := xr4.slice
                obtain ⟨⟨m0, m1⟩, mf, ⟨m2, m3⟩, X5⟩ := HX.out.lay b4 xr4 _ rfl
                have mf0 := mf 0
                have mf1 := mf 1
                obtain ⟨W5, HW5⟩ : ∃ W5, Hid (((w4.alloc (.cells #[.int .i64 lm, .slice a4 (M.pnd (ks L) dy true).length c4] 29)).setCell ⟨kb, 0, none⟩ (.int .i64 lm)).setCell ⟨kb, 1, none⟩ (.slice a4 (M.pnd (ks L) dy true).length c4) = W5) := ⟨_, rfl⟩
                rw [HW5.out] at X5
                have HX5 := Hid_of X5
                obtain ⟨r0, r1, r2⟩ := row3 X5.deed
                rw [← HW5.out] at r0 r1 r2
                have hprog := pin_any c m n lm L dy true W5 X5.t.cs.ci ok1
                have hpl := Nat.le_of_eq (M.pnd_len (ks L) dy true)
                rw [show (ks L).length = L.length by simp [ks]] at hpl
                clear hdoc xr4 b4 mf X5 HX q0 q1 q2 k0 k1
                generalize hPP : M.pnd (ks L) dy true = PP at *
                generalize hHH : M.has (ks L) dy = hh at *
                go_wp2_with fail
                rw [HW5.out]
                refine hprog.mono ?_
                rintro x w6 hx6
                obtain ⟨rfl, L6, I6, e6, F6⟩ := hx6
                try rw [hPP] at e6
                try rw [hHH]
                have HT : Hid (TX w1 w6 c m n lm L6 kb a4 c4 (ks L6) q dk dy sv) := by rw [e6]; exact HX5.out.step I6 F6
                have hL6 : L6.length ≤ k + 1 := by have h1 := ks_len e6; omega
                have hPL : PP.length = (ks L6).length := by rw [e6]
                rw [hPL]
                clear hprog I6 F6 HX5 HW5 m0 m1 m2 m3 mf0 mf1 r0 r1 r2 HW1 hPP e6 hpl hPL hHH
                have hLL : L6.length ≤ 1000000 := by omega
                have hKL : (ks L6).length ≤ 1000000 := by rw [show (ks L6).length = L6.length by simp [ks]]; omega
                have HS : Hid (∀ w', Below w6.heap.size w6 w' → w'.cell? ⟨kb, 0, none⟩ = some (.int .i64 lm) ∧ w'.cell? ⟨kb, 1, none⟩ = some (.slice a4 (ks L6).length c4)) := fun w' hb' => (row2 (HT.out.keep hb').t.box).1
                have HK1 : Hid (∀ w', Below w6.heap.size w6 w' → Calls Try.prog 20 #[.pointer (some ⟨c, 0, none⟩)] w' (KyOut w' ((ks L6).map (·.key)))) := fun w' hb' => keys_any c m n lm L6 w' (HT.out.keep hb').t.cs.ci hLL
                have HK2 : Hid (∀ w', Below w6.heap.size w6 w' → Calls Try.prog 21 #[.agg #[.int .i64 lm, .slice a4 (ks L6).length c4]] w' (KyOut w' ((ks L6).map (·.key)))) := fun w' hb' => rkeys_any lm a4 c4 (ks L6) w' hKL (HT.out.keep hb').t.xe.at'
                have HK4 : Hid (∀ w', Below w6.heap.size w6 w' → Calls Try.prog 22 #[.pointer (some ⟨c, 0, none⟩)] w' fun e w'' => e = .returned (.int .i64 (M.bytes (ks L6))) ∧ w'' = w') := fun w' hb' => bytes_any c m n lm L6 w' (HT.out.keep hb').t.cs.ci
                have HK5 : Hid (∀ w', Below w6.heap.size w6 w' → Calls Try.prog 23 #[.agg #[.int .i64 lm, .slice a4 (ks L6).length c4]] w' fun e w'' => e = .returned (.int .i64 (M.bytes (ks L6))) ∧ Below w'.heap.size w' w'') := fun w' hb' => rbytes_any lm a4 c4 (ks L6) w' hKL (by have := HT.out.t.cs.ci.b0; omega) (HT.out.keep hb').t.xe.at'
                have hkml : ((ks L6).map (·.key)).length ≤ 1000000 := by simpa using hKL
                obtain ⟨s0, s1'⟩ := HS.out w6 (Below.refl _ _)
                generalize (ks L6).map (·.key) = kl at *
                generalize M.bytes (ks L6) = nb at *
                generalize hkln : (ks L6).length = kln at *
                go_wp2_with fail
                go_region_held3 (fun wq => wq.cell? ⟨kb, 0, none⟩ = some (.int .i64 lm) ∧ wq.cell? ⟨kb, 1, none⟩ = some (.slice a4 kln c4)) (first | exact HS.out _ (Below.refl _ _) | exact HS.out _ (Below.drew (Below.refl _ _)) | exact HS.out _ (by assumption)) (first
                  | (go_at_call 20; refine (HK1.out _ (Below.drew (Below.refl _ _))).mono ?_; rintro x w10 hx10; obtain ⟨v10, rfl, o10, b10⟩ := hx10; have B10 : Below w6.heap.size w6 w10 := Below.trans (Below.drew (Below.refl _ _)) b10; clear b10; obtain ⟨a10, c10, rfl, at10, _, _⟩ := o10.at; clear o10)
                  | (go_at_call 21; refine (HK2.out _ B10).mono ?_; rintro x w11 hx11; obtain ⟨v11, rfl, o11, b11⟩ := hx11; have B11 : Below w6.heap.size w6 w11 := bel_up B10 b11 (Nat.le_refl _); have at10' := at10.keep b11; obtain ⟨a11, c11, rfl, at11, _, _⟩ := o11.at; have hin := ints_any a10 c10 a11 c11 kl w11 hkml at10' at11; clear o11 b11 at10 at10' at11)
                  | (go_at_call 12; refine hin.mono ?_; rintro x w12 ⟨rfl, b12⟩; have B12 : Below w6.heap.size w6 w12 := bel_up B11 b12 (Nat.le_refl _); clear b12 hin)
                  | (go_at_call 22; refine (HK4.out _ B12).mono ?_; rintro x w13 ⟨rfl, rfl⟩)
                  | (go_at_call 23; refine (HK5.out _ B12).mono ?_; rintro x w14 ⟨rfl, b14⟩; have B14 : Below w6.heap.size w6 w14 := bel_up B12 b14 (Nat.le_refl _); clear b14))
                all_goals
                  have HTF := Hid_of (HT.out.keep B14).t
                  clear HK1 HK2 HK4 HK5 HS B10 B11 B12 B14 HT s0 s1'
                  go_wp2
                  go_roundw
                  case rel => exact ⟨k + 1, n, L6, a4, c4, by omega, by go_num, HTF.out, by omega, by omega⟩
                  case measure => simp [intOf]; omega
              · have hdoc := rpin_any lm ax cx (ks L) dy false W1 hLl HX.out.t.xe
                rw [HLN.out] at hdoc
                go_wp2_with fail
                rw [HW1.out]
                refine hdoc.mono ?_
                rintro x w4 hx4
                obtain ⟨v4, rfl, xr4, b4⟩ := hx4
                obtain ⟨a4, c4, rfl⟩ := xr4.slice
                obtain ⟨⟨m0, m1⟩, mf, ⟨m2, m3⟩, X5⟩ := HX.out.lay b4 xr4 _ rfl
                have mf0 := mf 0
                have mf1 := mf 1
                obtain ⟨W5, HW5⟩ : ∃ W5, Hid (((w4.alloc (.cells #[.int .i64 lm, .slice a4 (M.pnd (ks L) dy false).length c4] 29)).setCell ⟨kb, 0, none⟩ (.int .i64 lm)).setCell ⟨kb, 1, none⟩ (.slice a4 (M.pnd (ks L) dy false).length c4) = W5) := ⟨_, rfl⟩
                rw [HW5.out] at X5
                have HX5 := Hid_of X5
                obtain ⟨r0, r1, r2⟩ := row3 X5.deed
                rw [← HW5.out] at r0 r1 r2
                have hprog := pin_any c m n lm L dy false W5 X5.t.cs.ci ok1
                have hpl := Nat.le_of_eq (M.pnd_len (ks L) dy false)
                rw [show (ks L).length = L.length by simp [ks]] at hpl
                clear hdoc xr4 b4 mf X5 HX q0 q1 q2 k0 k1
                generalize hPP : M.pnd (ks L) dy false = PP at *
                generalize hHH : M.has (ks L) dy = hh at *
                go_wp2_with fail
                rw [HW5.out]
                refine hprog.mono ?_
                rintro x w6 hx6
                obtain ⟨rfl, L6, I6, e6, F6⟩ := hx6
                try rw [hPP] at e6
                try rw [hHH]
                have HT : Hid (TX w1 w6 c m n lm L6 kb a4 c4 (ks L6) q dk dy sv) := by rw [e6]; exact HX5.out.step I6 F6
                have hL6 : L6.length ≤ k + 1 := by have h1 := ks_len e6; omega
                have hPL : PP.length = (ks L6).length := by rw [e6]
                rw [hPL]
                clear hprog I6 F6 HX5 HW5 m0 m1 m2 m3 mf0 mf1 r0 r1 r2 HW1 hPP e6 hpl hPL hHH
                have hLL : L6.length ≤ 1000000 := by omega
                have hKL : (ks L6).length ≤ 1000000 := by rw [show (ks L6).length = L6.length by simp [ks]]; omega
                have HS : Hid (∀ w', Below w6.heap.size w6 w' → w'.cell? ⟨kb, 0, none⟩ = some (.int .i64 lm) ∧ w'.cell? ⟨kb, 1, none⟩ = some (.slice a4 (ks L6).length c4)) := fun w' hb' => (row2 (HT.out.keep hb').t.box).1
                have HK1 : Hid (∀ w', Below w6.heap.size w6 w' → Calls Try.prog 20 #[.pointer (some ⟨c, 0, none⟩)] w' (KyOut w' ((ks L6).map (·.key)))) := fun w' hb' => keys_any c m n lm L6 w' (HT.out.keep hb').t.cs.ci hLL
                have HK2 : Hid (∀ w', Below w6.heap.size w6 w' → Calls Try.prog 21 #[.agg #[.int .i64 lm, .slice a4 (ks L6).length c4]] w' (KyOut w' ((ks L6).map (·.key)))) := fun w' hb' => rkeys_any lm a4 c4 (ks L6) w' hKL (HT.out.keep hb').t.xe.at'
                have HK4 : Hid (∀ w', Below w6.heap.size w6 w' → Calls Try.prog 22 #[.pointer (some ⟨c, 0, none⟩)] w' fun e w'' => e = .returned (.int .i64 (M.bytes (ks L6))) ∧ w'' = w') := fun w' hb' => bytes_any c m n lm L6 w' (HT.out.keep hb').t.cs.ci
                have HK5 : Hid (∀ w', Below w6.heap.size w6 w' → Calls Try.prog 23 #[.agg #[.int .i64 lm, .slice a4 (ks L6).length c4]] w' fun e w'' => e = .returned (.int .i64 (M.bytes (ks L6))) ∧ Below w'.heap.size w' w'') := fun w' hb' => rbytes_any lm a4 c4 (ks L6) w' hKL (by have := HT.out.t.cs.ci.b0; omega) (HT.out.keep hb').t.xe.at'
                have hkml : ((ks L6).map (·.key)).length ≤ 1000000 := by simpa using hKL
                obtain ⟨s0, s1'⟩ := HS.out w6 (Below.refl _ _)
                generalize (ks L6).map (·.key) = kl at *
                generalize M.bytes (ks L6) = nb at *
                generalize hkln : (ks L6).length = kln at *
                go_wp2_with fail
                go_region_held3 (fun wq => wq.cell? ⟨kb, 0, none⟩ = some (.int .i64 lm) ∧ wq.cell? ⟨kb, 1, none⟩ = some (.slice a4 kln c4)) (first | exact HS.out _ (Below.refl _ _) | exact HS.out _ (Below.drew (Below.refl _ _)) | exact HS.out _ (by assumption)) (first
                  | (go_at_call 20; refine (HK1.out _ (Below.drew (Below.refl _ _))).mono ?_; rintro x w10 hx10; obtain ⟨v10, rfl, o10, b10⟩ := hx10; have B10 : Below w6.heap.size w6 w10 := Below.trans (Below.drew (Below.refl _ _)) b10; clear b10; obtain ⟨a10, c10, rfl, at10, _, _⟩ := o10.at; clear o10)
                  | (go_at_call 21; refine (HK2.out _ B10).mono ?_; rintro x w11 hx11; obtain ⟨v11, rfl, o11, b11⟩ := hx11; have B11 : Below w6.heap.size w6 w11 := bel_up B10 b11 (Nat.le_refl _); have at10' := at10.keep b11; obtain ⟨a11, c11, rfl, at11, _, _⟩ := o11.at; have hin := ints_any a10 c10 a11 c11 kl w11 hkml at10' at11; clear o11 b11 at10 at10' at11)
                  | (go_at_call 12; refine hin.mono ?_; rintro x w12 ⟨rfl, b12⟩; have B12 : Below w6.heap.size w6 w12 := bel_up B11 b12 (Nat.le_refl _); clear b12 hin)
                  | (go_at_call 22; refine (HK4.out _ B12).mono ?_; rintro x w13 ⟨rfl, rfl⟩)
                  | (go_at_call 23; refine (HK5.out _ B12).mono ?_; rintro x w14 ⟨rfl, b14⟩; have B14 : Below w6.heap.size w6 w14 := bel_up B12 b14 (Nat.le_refl _); clear b14))
                all_goals
                  have HTF := Hid_of (HT.out.keep B14).t
                  clear HK1 HK2 HK4 HK5 HS B10 B11 B12 B14 HT s0 s1'
                  go_wp2
                  go_roundw
                  case rel => exact ⟨k + 1, n, L6, a4, c4, by omega, by go_num, HTF.out, by omega, by omega⟩
                  case measure => simp [intOf]; omega
            · have e2 : (dk == 2) = false := by simp; omega
              have e3 : (dk == 3) = false := by simp; omega
              by_cases hk4 : dk = 4
              · subst hk4
                have hdoc := rdrop_any lm ax cx (ks L) dy W1 hLl HX.out.t.xe
                rw [HLN.out] at hdoc
                go_wp2_with fail
                rw [HW1.out]
                refine hdoc.mono ?_
                rintro x w4 hx4
                obtain ⟨v4, rfl, xr4, b4⟩ := hx4
                obtain ⟨a4, c4, rfl⟩ := xr4.slice
                obtain ⟨⟨m0, m1⟩, mf, ⟨m2, m3⟩, X5⟩ := HX.out.lay b4 xr4 _ rfl
                have mf0 := mf 0
                have mf1 := mf 1
                obtain ⟨W5, HW5⟩ : ∃ W5, Hid (((w4.alloc (.cells #[.int .i64 lm, .slice a4 (M.drp (ks L) dy).length c4] 29)).setCell ⟨kb, 0, none⟩ (.int .i64 lm)).setCell ⟨kb, 1, none⟩ (.slice a4 (M.drp (ks L) dy).length c4) = W5) := ⟨_, rfl⟩
                rw [HW5.out] at X5
                have HX5 := Hid_of X5
                obtain ⟨r0, r1, r2⟩ := row3 X5.deed
                rw [← HW5.out] at r0 r1 r2
                have hprog := drop_any c m n lm L dy W5 X5.t.cs.ci ok1
                have hpl := M.drp_len (ks L) dy
                rw [show (ks L).length = L.length by simp [ks]] at hpl
                clear hdoc xr4 b4 mf X5 HX q0 q1 q2 k0 k1
                generalize hPP : M.drp (ks L) dy = PP at *
                generalize hHH : M.has (ks L) dy = hh at *
                go_wp2_with fail
                rw [HW5.out]
                refine hprog.mono ?_
                rintro x w6 hx6
                obtain ⟨rfl, L6, I6, e6, F6⟩ := hx6
                try rw [hPP] at e6
                try rw [hHH]
                have HT : Hid (TX w1 w6 c m n lm L6 kb a4 c4 (ks L6) q 4 dy sv) := by rw [e6]; exact HX5.out.step I6 F6
                have hL6 : L6.length ≤ k + 1 := by have h1 := ks_len e6; omega
                have hPL : PP.length = (ks L6).length := by rw [e6]
                rw [hPL]
                clear hprog I6 F6 HX5 HW5 m0 m1 m2 m3 mf0 mf1 r0 r1 r2 HW1 hPP e6 hpl hPL hHH
                have hLL : L6.length ≤ 1000000 := by omega
                have hKL : (ks L6).length ≤ 1000000 := by rw [show (ks L6).length = L6.length by simp [ks]]; omega
                have HS : Hid (∀ w', Below w6.heap.size w6 w' → w'.cell? ⟨kb, 0, none⟩ = some (.int .i64 lm) ∧ w'.cell? ⟨kb, 1, none⟩ = some (.slice a4 (ks L6).length c4)) := fun w' hb' => (row2 (HT.out.keep hb').t.box).1
                have HK1 : Hid (∀ w', Below w6.heap.size w6 w' → Calls Try.prog 20 #[.pointer (some ⟨c, 0, none⟩)] w' (KyOut w' ((ks L6).map (·.key)))) := fun w' hb' => keys_any c m n lm L6 w' (HT.out.keep hb').t.cs.ci hLL
                have HK2 : Hid (∀ w', Below w6.heap.size w6 w' → Calls Try.prog 21 #[.agg #[.int .i64 lm, .slice a4 (ks L6).length c4]] w' (KyOut w' ((ks L6).map (·.key)))) := fun w' hb' => rkeys_any lm a4 c4 (ks L6) w' hKL (HT.out.keep hb').t.xe.at'
                have HK4 : Hid (∀ w', Below w6.heap.size w6 w' → Calls Try.prog 22 #[.pointer (some ⟨c, 0, none⟩)] w' fun e w'' => e = .returned (.int .i64 (M.bytes (ks L6))) ∧ w'' = w') := fun w' hb' => bytes_any c m n lm L6 w' (HT.out.keep hb').t.cs.ci
                have HK5 : Hid (∀ w', Below w6.heap.size w6 w' → Calls Try.prog 23 #[.agg #[.int .i64 lm, .slice a4 (ks L6).length c4]] w' fun e w'' => e = .returned (.int .i64 (M.bytes (ks L6))) ∧ Below w'.heap.size w' w'') := fun w' hb' => rbytes_any lm a4 c4 (ks L6) w' hKL (by have := HT.out.t.cs.ci.b0; omega) (HT.out.keep hb').t.xe.at'
                have hkml : ((ks L6).map (·.key)).length ≤ 1000000 := by simpa using hKL
                obtain ⟨s0, s1'⟩ := HS.out w6 (Below.refl _ _)
                generalize (ks L6).map (·.key) = kl at *
                generalize M.bytes (ks L6) = nb at *
                generalize hkln : (ks L6).length = kln at *
                go_wp2_with fail
                go_region_held3 (fun wq => wq.cell? ⟨kb, 0, none⟩ = some (.int .i64 lm) ∧ wq.cell? ⟨kb, 1, none⟩ = some (.slice a4 kln c4)) (first | exact HS.out _ (Below.refl _ _) | exact HS.out _ (Below.drew (Below.refl _ _)) | exact HS.out _ (by assumption)) (first
                  | (go_at_call 20; refine (HK1.out _ (Below.drew (Below.refl _ _))).mono ?_; rintro x w10 hx10; obtain ⟨v10, rfl, o10, b10⟩ := hx10; have B10 : Below w6.heap.size w6 w10 := Below.trans (Below.drew (Below.refl _ _)) b10; clear b10; obtain ⟨a10, c10, rfl, at10, _, _⟩ := o10.at; clear o10)
                  | (go_at_call 21; refine (HK2.out _ B10).mono ?_; rintro x w11 hx11; obtain ⟨v11, rfl, o11, b11⟩ := hx11; have B11 : Below w6.heap.size w6 w11 := bel_up B10 b11 (Nat.le_refl _); have at10' := at10.keep b11; obtain ⟨a11, c11, rfl, at11, _, _⟩ := o11.at; have hin := ints_any a10 c10 a11 c11 kl w11 hkml at10' at11; clear o11 b11 at10 at10' at11)
                  | (go_at_call 12; refine hin.mono ?_; rintro x w12 ⟨rfl, b12⟩; have B12 : Below w6.heap.size w6 w12 := bel_up B11 b12 (Nat.le_refl _); clear b12 hin)
                  | (go_at_call 22; refine (HK4.out _ B12).mono ?_; rintro x w13 ⟨rfl, rfl⟩)
                  | (go_at_call 23; refine (HK5.out _ B12).mono ?_; rintro x w14 ⟨rfl, b14⟩; have B14 : Below w6.heap.size w6 w14 := bel_up B12 b14 (Nat.le_refl _); clear b14))
                all_goals
                  have HTF := Hid_of (HT.out.keep B14).t
                  clear HK1 HK2 HK4 HK5 HS B10 B11 B12 B14 HT s0 s1'
                  go_wp2
                  go_roundw
                  case rel => exact ⟨k + 1, n, L6, a4, c4, by omega, by go_num, HTF.out, by omega, by omega⟩
                  case measure => simp [intOf]; omega
              · have e4 : (dk == 4) = false := by simpa using hk4
                have HT := HX
                clear HX hk0 hk1 hk23 hk4 q0 q1 q2
                rw [HW1.out] at k0 k1
                go_wp2_with fail
                rw [HW1.out]
                clear HW1 k0 k1
                have hLL : L.length ≤ 1000000 := by omega
                have hKL : (ks L).length ≤ 1000000 := by rw [show (ks L).length = L.length by simp [ks]]; omega
                have HS : Hid (∀ w', Below W1.heap.size W1 w' → w'.cell? ⟨kb, 0, none⟩ = some (.int .i64 lm) ∧ w'.cell? ⟨kb, 1, none⟩ = some (.slice ax (ks L).length cx)) := fun w' hb' => (row2 (HT.out.keep hb').t.box).1
                have HK1 : Hid (∀ w', Below W1.heap.size W1 w' → Calls Try.prog 20 #[.pointer (some ⟨c, 0, none⟩)] w' (KyOut w' ((ks L).map (·.key)))) := fun w' hb' => keys_any c m n lm L w' (HT.out.keep hb').t.cs.ci hLL
                have HK2 : Hid (∀ w', Below W1.heap.size W1 w' → Calls Try.prog 21 #[.agg #[.int .i64 lm, .slice ax (ks L).length cx]] w' (KyOut w' ((ks L).map (·.key)))) := fun w' hb' => rkeys_any lm ax cx (ks L) w' hKL (HT.out.keep hb').t.xe.at'
                have HK4 : Hid (∀ w', Below W1.heap.size W1 w' → Calls Try.prog 22 #[.pointer (some ⟨c, 0, none⟩)] w' fun e w'' => e = .returned (.int .i64 (M.bytes (ks L))) ∧ w'' = w') := fun w' hb' => bytes_any c m n lm L w' (HT.out.keep hb').t.cs.ci
                have HK5 : Hid (∀ w', Below W1.heap.size W1 w' → Calls Try.prog 23 #[.agg #[.int .i64 lm, .slice ax (ks L).length cx]] w' fun e w'' => e = .returned (.int .i64 (M.bytes (ks L))) ∧ Below w'.heap.size w' w'') := fun w' hb' => rbytes_any lm ax cx (ks L) w' hKL (by have := HT.out.t.cs.ci.b0; omega) (HT.out.keep hb').t.xe.at'
                have hkml : ((ks L).map (·.key)).length ≤ 1000000 := by simpa using hKL
                obtain ⟨s0, s1'⟩ := HS.out W1 (Below.refl _ _)
                generalize (ks L).map (·.key) = kl at *
                generalize M.bytes (ks L) = nb at *
                generalize hkln : (ks L).length = kln at *
                go_region_held3 (fun wq => wq.cell? ⟨kb, 0, none⟩ = some (.int .i64 lm) ∧ wq.cell? ⟨kb, 1, none⟩ = some (.slice ax kln cx)) (first | exact HS.out _ (Below.refl _ _) | exact HS.out _ (Below.drew (Below.refl _ _)) | exact HS.out _ (by assumption)) (first
                  | (go_at_call 20; refine (HK1.out _ (Below.drew (Below.refl _ _))).mono ?_; rintro x w10 hx10; obtain ⟨v10, rfl, o10, b10⟩ := hx10; have B10 : Below W1.heap.size W1 w10 := Below.trans (Below.drew (Below.refl _ _)) b10; clear b10; obtain ⟨a10, c10, rfl, at10, _, _⟩ := o10.at; clear o10)
                  | (go_at_call 21; refine (HK2.out _ B10).mono ?_; rintro x w11 hx11; obtain ⟨v11, rfl, o11, b11⟩ := hx11; have B11 : Below W1.heap.size W1 w11 := bel_up B10 b11 (Nat.le_refl _); have at10' := at10.keep b11; obtain ⟨a11, c11, rfl, at11, _, _⟩ := o11.at; have hin := ints_any a10 c10 a11 c11 kl w11 hkml at10' at11; clear o11 b11 at10 at10' at11)
                  | (go_at_call 12; refine hin.mono ?_; rintro x w12 ⟨rfl, b12⟩; have B12 : Below W1.heap.size W1 w12 := bel_up B11 b12 (Nat.le_refl _); clear b12 hin)
                  | (go_at_call 22; refine (HK4.out _ B12).mono ?_; rintro x w13 ⟨rfl, rfl⟩)
                  | (go_at_call 23; refine (HK5.out _ B12).mono ?_; rintro x w14 ⟨rfl, b14⟩; have B14 : Below W1.heap.size W1 w14 := bel_up B12 b14 (Nat.le_refl _); clear b14))
                all_goals
                  have HTF := Hid_of (HT.out.keep B14).t
                  clear HK1 HK2 HK4 HK5 HS B10 B11 B12 B14 HT s0 s1'
                  go_wp2
                  go_roundw
                  case rel => exact ⟨k + 1, n, L, ax, cx, by omega, by go_num, HTF.out, by omega, by omega⟩
                  case measure => simp [intOf]; omega
      · have HB := Hid_of T.cs.bel
        clear T hd
        go_wp2_with fail
        refine (awake_any _).mono ?_
        rintro x w3 ⟨rfl, b3⟩
        have HB3 := Hid_of (bel_up HB.out b3 (Nat.le_refl _))
        clear b3 HB
        go_wp2
        go_ret
        exact ⟨rfl, HB3.out⟩
end Go.Proofs.Ytpfmdchmgaaakaa
