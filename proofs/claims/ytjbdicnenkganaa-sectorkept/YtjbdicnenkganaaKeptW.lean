/-
  A crash that keeps all changes nothing; one that keeps none leaves what was flushed.
-/
import Derived.Test.YtjbdicnenkganaaSureW
namespace Go.Proofs.Ytjbdicnenkganaa
open Go.RowKit
open M (ofL ofL_size ofL_of)
set_option linter.unusedVariables false

theorem DS.low {w0 w1 w : World} {b : Nat} {F : Nat → Prop} {n : Nat} {P : List M.Pl} {lost : Bool} (h : DS w1 w b F n P lost) (hb : Below w0.heap.size w0 w1) : DS w0 w b F n P lost := by
  refine ⟨?_, bel_up hb h.bel (Nat.le_refl _)⟩
  have hs := hb.size
  rcases h.x with ⟨rfl, g, vl, ls, rfl, hd⟩ | ⟨rfl, rfl, rfl, hl⟩
  · exact .inl ⟨rfl, g, vl, ls, rfl, ⟨hd.row, hd.pl, hd.len, hd.n1, hd.ok, owns_low hd.own hs, hd.lo, hd.ne, ⟨Nat.le_trans hs hd.low.1, Nat.le_trans hs hd.low.2⟩⟩⟩
  · exact .inr ⟨rfl, rfl, rfl, ⟨hl.row, hl.n1, Nat.le_trans hs hl.low⟩⟩
/-- Two devices, apart. -/
structure D2 (w0 w : World) (b1 : Nat) (F : Nat → Prop) (b2 : Nat) (G : Nat → Prop) (n : Nat) (P Q : List M.Pl) : Prop where
  d1 : DS w0 w b1 F n P false
  d2 : DS w0 w b2 G n Q false
  ap : ∀ k, F k → ¬ G k
section
variable {w0 w w' : World} {b1 b2 : Nat} {F G F' G' : Nat → Prop} {n : Nat} {P Q P' Q' : List M.Pl}
theorem D2.step1 (h : D2 w0 w b1 F b2 G n P Q) (hd : DS w0 w' b1 F' n P' false) (hc : Ch w F w' F') : D2 w0 w' b1 F' b2 G n P' Q := by
  refine ⟨hd, h.d2.keepBut (fun k hk hG => hc.block k hk (fun hF => h.ap k hF hG)) hd.bel, fun k hF hG => ?_⟩
  rcases hc.n k hF with h' | h'
  · exact h.ap k h' hG
  · have := (h.d2.own k hG).2; omega
theorem D2.step2 (h : D2 w0 w b1 F b2 G n P Q) (hd : DS w0 w' b2 G' n Q' false) (hc : Ch w G w' G') : D2 w0 w' b1 F b2 G' n P Q' := by
  refine ⟨h.d1.keepBut (fun k hk hF => hc.block k hk (fun hG => h.ap k hF hG)) hd.bel, hd, fun k hF hG => ?_⟩
  rcases hc.n k hG with h' | h'
  · exact h.ap k hF h'
  · have := (h.d1.own k hF).2; omega
theorem D2.keep (h : D2 w0 w b1 F b2 G n P Q) (hb : Below w.heap.size w w') : D2 w0 w' b1 F b2 G n P Q := ⟨h.d1.keep hb, h.d2.keep hb, h.ap⟩
end
theorem kept_same {P : List M.Pl} (h : (M.lo P).length ≤ 64) : (M.crash P 18446744073709551615 0).map M.last = P.map M.last :=
  M.crs_kept _ _ _ _ _ _ (fun j _ hj => M.kept_all j (by omega)) (M.lo_nodup P) (fun i hi => M.mem_lo.1 hi)
theorem none_same {P P1 : List M.Pl} (h : M.Ok P) (h1 : ∀ p ∈ P1, M.lse p = false) (hf : P.map Prod.fst = P1.map Prod.fst) : (M.crash P 0 0).map M.last = P1.map M.last := by
  rw [M.last_fst (M.crash_spec h 0 0).2.2, M.last_fst h1, ← hf]
  exact M.crs_none _ _ _ _ _ (fun j => M.kept_zero j)
set_option maxRecDepth 100000 in
set_option maxHeartbeats 8000000 in
theorem kept_walk (n : Int) (a : Option Addr) (cap : Nat) (l : List Dd) (a' : Option Addr) (cap' : Nat) (m : List Dd) (w : World) (hl : l.length ≤ maxLen) (hd : Dds w a l) (hok : ∀ d ∈ l, d.ok) (hl' : m.length ≤ maxLen) (hd' : Dds w a' m) (hok' : ∀ d ∈ m, d.ok) :
    Calls Try.prog 5 #[.int .i64 n, .slice a l.length cap, .slice a' m.length cap'] w fun e w' => e = .returned (.bool true) ∧ Below w.heap.size w w' := by
  go_enter Try.func5, Try.ntmps5
  go_wp2_with fail
  refine (few_any n a cap l w hl hd hok).mono ?_
  rintro x w1 ⟨bf, rfl, hfew, rfl⟩
  cases bf with
  | false =>
    clear hfew hd hok hd' hok'
    simp only [cond_false]
    go_wp2_with fail
    refine (awake_any _).mono ?_
    rintro x w2 ⟨rfl, hb⟩
    go_wp2
    go_ret
    exact ⟨rfl, hb⟩
  | true =>
    obtain ⟨hl40, _, hf3⟩ := hfew rfl
    have HDF := Hid_of hf3
    have HD := Hid_of hd
    clear hfew hok hf3 hd
    simp only [cond_true]
    go_wp2_with fail
    refine (few_any n a' cap' m w1 hl' hd' hok').mono ?_
    rintro x w1 ⟨bf, rfl, hfew, rfl⟩
    cases bf with
    | false =>
      clear hfew hd' hok'
      simp only [cond_false]
      go_wp2_with fail
      refine (awake_any _).mono ?_
      rintro x w3 ⟨rfl, hb⟩
      go_wp2
      go_ret
      exact ⟨rfl, hb⟩
    | true =>
      obtain ⟨hm40, _, hf3⟩ := hfew rfl
      have HEF := Hid_of hf3
      have HE := Hid_of hd'
      clear hfew hok' hf3 hd'
      simp only [cond_true]
      obtain ⟨c, hc⟩ : ∃ c, cntOf n = c := ⟨_, rfl⟩
      go_wp2_with fail
      refine (newD n w1).mono ?_
      rintro x w2 ⟨b1, F2, rfl, S2⟩
      rw [hc] at S2
      have HSA := Hid_of S2
      clear S2
      go_wp2_with fail
      refine (newD n w2).mono ?_
      rintro x w3 ⟨b2, F3, rfl, S3⟩
      rw [hc] at S3
      have HS2 : Hid (D2 w1 w3 b1 F2 b2 F3 c (new c) (new c)) := ⟨HSA.out.keep S3.bel, S3.low HSA.out.bel, fun k hF hG => by have := (HSA.out.own k hF).2; have := (S3.own k hG).1; omega⟩
      have hcn := S3.n1
      clear S3 HSA hc
      go_wp2
      go_loopw [9] (fun i wr => ∃ (k : Nat) (F G : Nat → Prop) (P : List M.Pl), k ≤ l.length ∧ i = .int .i64 k ∧ D2 w1 wr b1 F b2 G c P P) (fun i _ => l.length - (intOf i).toNat)
      case atStart => exact ⟨0, _, _, _, by omega, rfl, HS2.out⟩
      case round =>
        obtain ⟨k, F, G, P, hk, rfl, S⟩ := hrel
        clear HS2
        by_cases hlt : k < l.length
        · obtain ⟨bb, off, rfl, c0, c1, c2, c3, c4⟩ := (HD.out.keep S.d1.bel).get k hlt
          have hsz := HDF.out l[k] (List.getElem_mem hlt)
          have HC : Hid (∀ W, Below w1.heap.size w1 W → W.cell? ⟨bb, off + k * 5 + 1, none⟩ = some (.int .i64 l[k].at') ∧ W.cell? ⟨bb, off + k * 5 + 3, none⟩ = some (.string l[k].txt)) := fun W hW => by
            obtain ⟨b', o', e', q0, q1, q2, q3, q4⟩ := (HD.out.keep hW).get k hlt
            cases e'
            exact ⟨q1, q3⟩
          have BD : Below w1.heap.size w1 wr.drew := Below.drew S.d1.bel
          have HS := Hid_of (S.keep (Below.drew (Below.refl _ wr)))
          have hwr := HS.out.d1.write l[k].at' l[k].txt (by omega)
          clear c0 c2 c4 S c1 c3
          generalize l[k].at' = da at *
          generalize l[k].txt = s at *
          generalize hPW : M.wrote c false P da s = PW at *
          go_wp2_with fail
          go_region_held3 (fun wq => wq.cell? ⟨bb, off + k * 5 + 1, none⟩ = some (.int .i64 da) ∧ wq.cell? ⟨bb, off + k * 5 + 3, none⟩ = some (.string s)) (first | exact HC.out _ (by assumption)) ((go_at_call 13; refine hwr.mono ?_; rintro x w4 ⟨F4, rfl, S4, C4⟩; have B4 := S4.bel))
          all_goals
            have HT := Hid_of ((HS.out.step1 S4 C4).keep (Below.drew (Below.refl _ w4)))
            have BD5 : Below w1.heap.size w1 w4.drew := Below.drew B4
            have hwr5 := HT.out.d2.write da s (by omega)
            rw [hPW] at hwr5
            clear hwr S4 C4 B4 HS BD
            go_wp2_with fail
            go_region_held3 (fun wq => wq.cell? ⟨bb, off + k * 5 + 1, none⟩ = some (.int .i64 da) ∧ wq.cell? ⟨bb, off + k * 5 + 3, none⟩ = some (.string s)) (first | exact HC.out _ (by assumption)) ((go_at_call 13; refine hwr5.mono ?_; rintro x w6 ⟨F6, rfl, S6, C6⟩; have B6 := S6.bel))
            all_goals
              have HR := Hid_of (HT.out.step2 S6 C6)
              clear hwr5 S6 C6 B6 HT BD5 HC hPW
              go_wp2
              go_roundw
              case rel => exact ⟨k + 1, _, _, _, by omega, by go_num, HR.out⟩
              case measure => simp [intOf]; omega
        · have hfl := S.d1.flush
          have HS := Hid_of S
          clear S
          go_wp2_with fail
          refine hfl.mono ?_
          rintro x w4 ⟨F4, rfl, S4, C4⟩
          have HS4 := Hid_of (HS.out.step1 S4 C4)
          have hfl2 := HS4.out.d2.flush
          clear hfl HS S4 C4
          go_wp2_with fail
          refine hfl2.mono ?_
          rintro x w5 ⟨F5, rfl, S5, C5⟩
          have T5 := HS4.out.step2 S5 C5
          have HP1 : Hid (∀ p ∈ M.flush P, M.lse p = false) := M.flush_lse P
          clear hfl2 HS4 S5 C5
          generalize M.flush P = P1 at *
          have hsec := T5.d2.sectors
          have hlen1 := T5.d2.len
          have hrd := T5.d2.read 0 c (by omega)
          rw [(M.rtext_all hlen1 hcn.1).1, (M.rtext_all hlen1 hcn.1).2] at hrd
          have HT5 := Hid_of T5
          clear T5
          go_wp2_with fail
          refine hsec.mono ?_
          rintro x w6 ⟨rfl, rfl⟩
          go_wp2_with fail
          refine hrd.mono ?_
          rintro x w7 ⟨rfl, b7, _⟩
          have HS2 := Hid_of (HT5.out.keep b7)
          clear hrd hsec HT5 b7
          obtain ⟨sure, hsure⟩ : ∃ t, M.cat (P1.map M.last) = t := ⟨_, rfl⟩
          rw [hsure]
          have HSURE := Hid_of hsure
          clear hsure
          go_wp2
          go_loopw [12] (fun i wr => ∃ (k : Nat) (F G : Nat → Prop) (P : List M.Pl), k ≤ m.length ∧ i = .int .i64 k ∧ D2 w1 wr b1 F b2 G c P P ∧ P.map Prod.fst = P1.map Prod.fst) (fun i _ => m.length - (intOf i).toNat)
          case atStart => exact ⟨0, _, _, _, by omega, rfl, HS2.out, rfl⟩
          case round =>
            obtain ⟨k, F, G, P, hk, rfl, S, hfst⟩ := hrel
            clear HS2
            by_cases hlt : k < m.length
            · obtain ⟨bb, off, rfl, c0, c1, c2, c3, c4⟩ := (HE.out.keep S.d1.bel).get k hlt
              have hsz := HEF.out m[k] (List.getElem_mem hlt)
              have HC : Hid (∀ W, Below w1.heap.size w1 W → W.cell? ⟨bb, off + k * 5 + 1, none⟩ = some (.int .i64 m[k].at') ∧ W.cell? ⟨bb, off + k * 5 + 3, none⟩ = some (.string m[k].txt)) := fun W hW => by
                obtain ⟨b', o', e', q0, q1, q2, q3, q4⟩ := (HE.out.keep hW).get k hlt
                cases e'
                exact ⟨q1, q3⟩
              have BD : Below w1.heap.size w1 wr.drew := Below.drew S.d1.bel
              have HS := Hid_of (S.keep (Below.drew (Below.refl _ wr)))
              have hwr := HS.out.d1.write m[k].at' m[k].txt (by omega)
              have HFS : Hid ((M.wrote c false P m[k].at' m[k].txt).map Prod.fst = P1.map Prod.fst) := (M.wrote_fst _ _ _ _ _).trans hfst
              clear c0 c2 c4 S hfst c1 c3
              generalize m[k].at' = da at *
              generalize m[k].txt = s at *
              generalize hPW : M.wrote c false P da s = PW at *
              go_wp2_with fail
              go_region_held3 (fun wq => wq.cell? ⟨bb, off + k * 5 + 1, none⟩ = some (.int .i64 da) ∧ wq.cell? ⟨bb, off + k * 5 + 3, none⟩ = some (.string s)) (first | exact HC.out _ (by assumption)) ((go_at_call 13; refine hwr.mono ?_; rintro x w4 ⟨F4, rfl, S4, C4⟩; have B4 := S4.bel))
              all_goals
                have HT := Hid_of ((HS.out.step1 S4 C4).keep (Below.drew (Below.refl _ w4)))
                have BD5 : Below w1.heap.size w1 w4.drew := Below.drew B4
                have hwr5 := HT.out.d2.write da s (by omega)
                rw [hPW] at hwr5
                clear hwr S4 C4 B4 HS BD
                go_wp2_with fail
                go_region_held3 (fun wq => wq.cell? ⟨bb, off + k * 5 + 1, none⟩ = some (.int .i64 da) ∧ wq.cell? ⟨bb, off + k * 5 + 3, none⟩ = some (.string s)) (first | exact HC.out _ (by assumption)) ((go_at_call 13; refine hwr5.mono ?_; rintro x w6 ⟨F6, rfl, S6, C6⟩; have B6 := S6.bel))
                all_goals
                  have HR := Hid_of (HT.out.step2 S6 C6)
                  clear hwr5 S6 C6 B6 HT BD5 HC hPW
                  go_wp2
                  go_roundw
                  case rel => exact ⟨k + 1, _, _, _, by omega, by go_num, HR.out, HFS.out⟩
                  case measure => simp [intOf]; omega
            · have hsec := S.d1.sectors
              have hlenP := S.d1.len
              have HOK := Hid_of S.d1.ok.1
              have hrd := S.d1.read 0 c (by omega)
              rw [(M.rtext_all hlenP hcn.1).1, (M.rtext_all hlenP hcn.1).2] at hrd
              have HS := Hid_of S
              have hL := M.lo_len P
              have HFS := Hid_of hfst
              clear S hfst
              go_wp2_with fail
              refine hsec.mono ?_
              rintro x w8 ⟨rfl, rfl⟩
              go_wp2_with fail
              refine hrd.mono ?_
              rintro x w9 ⟨rfl, b9, _⟩
              have HS9 := Hid_of (HS.out.keep b9)
              have hloo := HS9.out.d1.loose
              clear hrd hsec HS b9
              obtain ⟨was, hwas⟩ : ∃ t, M.cat (P.map M.last) = t := ⟨_, rfl⟩
              rw [hwas]
              go_wp2_with fail
              refine hloo.mono ?_
              rintro x w10 ⟨a10, c10, rfl, _, _, b10, _⟩
              have HS10 := Hid_of (HS9.out.keep b10)
              have hcr := HS10.out.d1.crash 18446744073709551615 0 (by omega)
              have HX : Hid ((M.lo P).length ≤ 64 → M.cat ((M.crash P 18446744073709551615 0).map M.last) = was) := fun h => by rw [kept_same h, hwas]
              have HY : Hid (M.cat ((M.crash P 0 0).map M.last) = sure) := by
                show _ = _
                rw [none_same HOK.out HP1.out HFS.out, HSURE.out]
              clear hloo HS9 b10 hwas
              go_wp2_with fail
              refine hcr.mono ?_
              rintro x w11 ⟨F11, rfl, S11, C11⟩
              have HS11 := Hid_of (HS10.out.step1 S11 C11)
              have hcr2 := HS11.out.d2.crash 0 0 (by omega)
              clear hcr HS10 S11 C11
              go_wp2_with fail
              refine hcr2.mono ?_
              rintro x w12 ⟨F12, rfl, S12, C12⟩
              have T12 := HS11.out.step2 S12 C12
              clear hcr2 HS11 S12 C12
              generalize M.crash P 18446744073709551615 0 = PA at *
              generalize M.crash P 0 0 = PB at *
              have hsec := T12.d1.sectors
              have hlenA := T12.d1.len
              have hrd := T12.d1.read 0 c (by omega)
              rw [(M.rtext_all hlenA hcn.1).1, (M.rtext_all hlenA hcn.1).2] at hrd
              have HT12 := Hid_of T12
              clear T12
              go_wp2_with fail
              refine hsec.mono ?_
              rintro x w13 ⟨rfl, rfl⟩
              go_wp2_with fail
              refine hrd.mono ?_
              rintro x w14 ⟨rfl, b14, _⟩
              have T14 := HT12.out.keep b14
              clear hrd hsec HT12 b14
              have hsec := T14.d2.sectors
              have hlenB := T14.d2.len
              have hrd := T14.d2.read 0 c (by omega)
              rw [(M.rtext_all hlenB hcn.1).1, (M.rtext_all hlenB hcn.1).2, HY.out] at hrd
              have HT14 := Hid_of T14
              clear T14
              go_wp2_with fail
              refine hsec.mono ?_
              rintro x w15 ⟨rfl, rfl⟩
              go_wp2_with fail
              refine hrd.mono ?_
              rintro x w16 ⟨rfl, b16, _⟩
              have HB16 := Hid_of (HT14.out.keep b16).d1.bel
              clear hrd hsec HT14 b16 HY HOK HP1 HFS HSURE
              by_cases h64 : (M.lo P).length ≤ 64
              · have hxx := HX.out h64
                rw [hxx]
                have hd64 : decide ((64 : Int) < ((M.lo P).length : Int)) = false := by simp; omega
                clear HX hxx
                generalize (M.lo P).length = ll at *
                go_wp2_with fail
                refine (awake_any _).mono ?_
                rintro x w17 ⟨rfl, b17⟩
                have HQ := Hid_of (bel_up HB16.out b17 (Nat.le_refl _))
                clear b17 HB16
                go_wp2
                go_ret
                exact ⟨rfl, HQ.out⟩
              · have hd64 : decide ((64 : Int) < ((M.lo P).length : Int)) = true := by simp; omega
                clear HX
                generalize (M.lo P).length = ll at *
                generalize M.cat (PA.map M.last) = xa at *
                go_wp2_with fail
                refine (awake_any _).mono ?_
                rintro x w17 ⟨rfl, b17⟩
                have HQ := Hid_of (bel_up HB16.out b17 (Nat.le_refl _))
                clear b17 HB16
                go_wp2
                go_ret
                exact ⟨rfl, HQ.out⟩
end Go.Proofs.Ytjbdicnenkganaa
