/-
  What was flushed is there behind any crash, but for sectors that were written again.
-/
import Derived.Test.YtjbdicnenkganaaL
import Derived.Test.YtjbdicnenkganaaP
namespace Go.Proofs.Ytjbdicnenkganaa
open Go.RowKit
open M (ofL ofL_size ofL_of)
set_option linter.unusedVariables false

theorem sure_same {P1 P2 : List M.Pl} (h1 : ∀ p ∈ P1, M.lse p = false) (hf : P2.map Prod.fst = P1.map Prod.fst) (keep : Nat) (tear : Int) (i : Nat) (hn : i ∉ M.lo P2) : ((M.crash P2 keep tear).map M.last)[i]? = (P1.map M.last)[i]? := by
  rw [List.getElem?_map, M.last_fst h1, ← hf, List.getElem?_map]
  unfold M.crash
  rw [M.crs_other _ _ _ _ _ _ _ hn]
  cases hp : P2[i]? with
  | none => rfl
  | some p =>
    obtain ⟨hi, rfl⟩ := List.getElem?_eq_some_iff.1 hp
    have hl : M.lse P2[i] = false := by
      cases hl : M.lse P2[i] with
      | false => rfl
      | true => exact absurd (M.mem_lo.2 ⟨hi, hl⟩) hn
    simp only [Option.map_some, (M.lse_no hl).1]
/-- Texts of sectors side by side. -/
theorem cat_same {L K : List ByteArray} (h : L.length = K.length) (hL : ∀ s ∈ L, s.size = 64) (hK : ∀ s ∈ K, s.size = 64) (i : Nat) (hi : i < L.length) (he : L[i]? = K[i]?) : (M.cat L).extract (64 * i) (64 * i + 64) = (M.cat K).extract (64 * i) (64 * i + 64) := by
  rw [Nat.mul_comm 64 i, M.cat_get L hL i hi, M.cat_get K hK i (by omega)]
  rw [List.getElem?_eq_getElem hi, List.getElem?_eq_getElem (by omega), Option.some.injEq] at he
  exact he
theorem ok_last {P : List M.Pl} (h : M.Ok P) : ∀ s ∈ P.map M.last, s.size = 64 := by
  intro s hs
  obtain ⟨p, hp, rfl⟩ := List.mem_map.1 hs
  exact h.last p hp
/-- How far the loose ones have been passed. -/
structure Ps (L : List Nat) (k i : Nat) : Prop where
  le : k ≤ L.length
  lo : ∀ j (h : j < L.length), j < k → L[j] < i
  hi : ∀ j (h : j < L.length), k ≤ j → i ≤ L[j]
theorem Ps.not {L : List Nat} {k i : Nat} (h : Ps L k i) (hn : ∀ hk : k < L.length, L[k] ≠ i) (hs : L.Pairwise (· < ·)) : i ∉ L ∧ Ps L k (i + 1) := by
  have key : ∀ j (hj : j < L.length), k ≤ j → i + 1 ≤ L[j] := by
    intro j hj hkj
    have hk : k < L.length := by omega
    have h1 := h.hi k hk (Nat.le_refl _)
    have h2 := hn hk
    rcases Nat.lt_or_ge k j with h' | h'
    · have := List.pairwise_iff_getElem.1 hs k j hk hj h'
      omega
    · obtain rfl : j = k := by omega
      omega
  refine ⟨fun hm => ?_, h.le, fun j hj hjk => by have := h.lo j hj hjk; omega, key⟩
  obtain ⟨j, hj, e⟩ := List.getElem_of_mem hm
  rcases Nat.lt_or_ge j k with h' | h'
  · have := h.lo j hj h'; omega
  · have := key j hj h'; omega
theorem Ps.yes {L : List Nat} {k i : Nat} (h : Ps L k i) (hk : k < L.length) (he : L[k] = i) (hs : L.Pairwise (· < ·)) : Ps L (k + 1) (i + 1) := by
  refine ⟨hk, fun j hj hjk => ?_, fun j hj hkj => ?_⟩
  · rcases Nat.lt_or_ge j k with h' | h'
    · have := h.lo j hj h'; omega
    · obtain rfl : j = k := by omega
      omega
  · have := List.pairwise_iff_getElem.1 hs k j hk hj (by omega)
    omega
set_option maxRecDepth 100000 in
set_option maxHeartbeats 8000000 in
theorem sure_walk (n : Int) (a : Option Addr) (cap : Nat) (l : List Dd) (keep : Nat) (w : World) (hl : l.length ≤ maxLen) (hd : Dds w a l) (hok : ∀ d ∈ l, d.ok) (hkp : keep < 18446744073709551616) :
    Calls Try.prog 4 #[.int .i64 n, .slice a l.length cap, .int .u64 keep] w fun e w' => e = .returned (.bool true) ∧ Below w.heap.size w w' := by
  go_enter Try.func4, Try.ntmps4
  go_wp2_with fail
  refine (few_any n a cap l w hl hd hok).mono ?_
  rintro x w1 ⟨bf, rfl, hfew, rfl⟩
  cases bf with
  | false =>
    clear hfew hd hok
    simp only [cond_false]
    go_wp2_with fail
    refine (awake_any _).mono ?_
    rintro x w2 ⟨rfl, hb⟩
    go_wp2
    go_ret
    exact ⟨rfl, hb⟩
  | true =>
    obtain ⟨hl40, _, hf3⟩ := hfew rfl
    have HF3 := Hid_of hf3
    clear hfew hok hf3
    simp only [cond_true]
    go_wp2_with fail
    refine (newD n w1).mono ?_
    rintro x w2 ⟨b, F2, rfl, S2⟩
    obtain ⟨c, hc⟩ : ∃ c, cntOf n = c := ⟨_, rfl⟩
    rw [hc] at S2
    have HS2 := Hid_of S2
    have hcn := S2.n1
    have HD := Hid_of hd
    clear S2 hc hd
    go_wp2
    go_loopw [8] (fun i wr => ∃ (k : Nat) (F : Nat → Prop) (P : List M.Pl), k ≤ l.length ∧ i = .int .i64 k ∧ DS w1 wr b F c P false) (fun i _ => l.length - (intOf i).toNat)
    case atStart => exact ⟨0, _, _, by omega, rfl, HS2.out⟩
    case round =>
      obtain ⟨k, F, P, hk, rfl, S⟩ := hrel
      clear HS2
      by_cases hlt : k < l.length
      · obtain ⟨bb, off, rfl, c0, c1, c2, c3, c4⟩ := (HD.out.keep S.bel).get k hlt
        have hsz := HF3.out l[k] (List.getElem_mem hlt)
        have HC : Hid (∀ W, Below w1.heap.size w1 W → W.cell? ⟨bb, off + k * 5 + 1, none⟩ = some (.int .i64 l[k].at') ∧ W.cell? ⟨bb, off + k * 5 + 3, none⟩ = some (.string l[k].txt)) := fun W hW => by
          obtain ⟨b', o', e', q0, q1, q2, q3, q4⟩ := (HD.out.keep hW).get k hlt
          cases e'
          exact ⟨q1, q3⟩
        have B := S.bel
        have BD : Below w1.heap.size w1 wr.drew := Below.drew B
        have HS := Hid_of S
        have hwr := (S.keep (Below.drew (Below.refl _ wr))).write l[k].at' l[k].txt (by omega)
        clear c2 c4 S HF3
        generalize l[k].k = dk at *
        generalize l[k].at' = da at *
        generalize l[k].txt = s at *
        by_cases hk0 : dk = 0
        · subst hk0
          go_wp2_with fail
          go_region_held3 (fun wq => wq.cell? ⟨bb, off + k * 5 + 1, none⟩ = some (.int .i64 da) ∧ wq.cell? ⟨bb, off + k * 5 + 3, none⟩ = some (.string s)) (first | exact HC.out _ (by assumption)) ((go_at_call 13; refine hwr.mono ?_; rintro x w4 ⟨F4, rfl, S4, C4⟩; have B4 := S4.bel))
          all_goals
            have HR := Hid_of S4
            clear hwr S4 C4 B4 HS BD B HC c0 c1 c3
            go_wp2
            go_roundw
            case rel => exact ⟨k + 1, _, _, by omega, by go_num, HR.out⟩
            case measure => simp [intOf]; omega
        · have e0 : (dk == 0) = false := by simpa using hk0
          clear hwr HC BD B c1 c3
          go_wp2
          go_roundw
          case rel => exact ⟨k + 1, _, _, by omega, by go_num, HS.out⟩
          case measure => simp [intOf]; omega
      · have hfl := S.flush
        go_wp2_with fail
        refine hfl.mono ?_
        rintro x w3 ⟨F3, rfl, S3, _⟩
        have HP1 : Hid (∀ p ∈ M.flush P, M.lse p = false) := M.flush_lse P
        have HP1l : Hid (M.lo (M.flush P) = []) := M.lo_none (M.flush_lse P)
        clear hfl S
        generalize M.flush P = P1 at *
        have hsec := S3.sectors
        have HS3 := Hid_of S3
        have hlen1 := S3.len
        have HOK1 := Hid_of S3.ok.1
        have hrd := S3.read 0 c (by omega)
        rw [(M.rtext_all hlen1 hcn.1).1, (M.rtext_all hlen1 hcn.1).2] at hrd
        clear S3
        go_wp2_with fail
        refine hsec.mono ?_
        rintro x w4 ⟨rfl, rfl⟩
        go_wp2_with fail
        refine hrd.mono ?_
        rintro x w5 ⟨rfl, _, S5⟩
        have hloo := S5.loose
        rw [HP1l.out] at hloo
        clear hrd hsec HS3 S5 HP1l
        obtain ⟨was, hwas⟩ : ∃ t, M.cat (P1.map M.last) = t := ⟨_, rfl⟩
        rw [hwas]
        have HWAS := Hid_of hwas
        clear hwas
        go_wp2_with fail
        refine hloo.mono ?_
        rintro x w6 ⟨a6, c6, rfl, _, _, _, S6⟩
        have HS6 := Hid_of S6
        clear hloo S6
        simp only [List.length_nil]
        go_wp2
        go_loopw [11] (fun i wr => ∃ (k : Nat) (F : Nat → Prop) (P : List M.Pl), k ≤ l.length ∧ i = .int .i64 k ∧ DS w1 wr b F c P false ∧ P.map Prod.fst = P1.map Prod.fst) (fun i _ => l.length - (intOf i).toNat)
        case atStart => exact ⟨0, _, _, by omega, rfl, HS6.out, rfl⟩
        case round =>
          obtain ⟨k, F, P, hk, rfl, S, hfst⟩ := hrel
          clear HS6
          by_cases hlt : k < l.length
          · obtain ⟨bb, off, rfl, c0, c1, c2, c3, c4⟩ := (HD.out.keep S.bel).get k hlt
            have hsz := HF3.out l[k] (List.getElem_mem hlt)
            have HC : Hid (∀ W, Below w1.heap.size w1 W → W.cell? ⟨bb, off + k * 5 + 1, none⟩ = some (.int .i64 l[k].at') ∧ W.cell? ⟨bb, off + k * 5 + 3, none⟩ = some (.string l[k].txt)) := fun W hW => by
              obtain ⟨b', o', e', q0, q1, q2, q3, q4⟩ := (HD.out.keep hW).get k hlt
              cases e'
              exact ⟨q1, q3⟩
            have B := S.bel
            have BD : Below w1.heap.size w1 wr.drew := Below.drew B
            have HS := Hid_of (And.intro S hfst)
            have hwr := (S.keep (Below.drew (Below.refl _ wr))).write l[k].at' l[k].txt (by omega)
            have HFS : Hid ((M.wrote c false P l[k].at' l[k].txt).map Prod.fst = P1.map Prod.fst) := (M.wrote_fst _ _ _ _ _).trans hfst
            clear c2 c4 S HF3 hfst
            generalize l[k].k = dk at *
            generalize l[k].at' = da at *
            generalize l[k].txt = s at *
            generalize M.wrote c false P da s = PW at *
            by_cases hk0 : dk = 0
            · subst hk0
              clear hwr HC BD B c1 c3 HFS
              go_wp2
              go_roundw
              case rel => exact ⟨k + 1, _, _, by omega, by go_num, HS.out⟩
              case measure => simp [intOf]; omega
            · have e0 : (dk == 0) = false := by simpa using hk0
              go_wp2_with fail
              go_region_held3 (fun wq => wq.cell? ⟨bb, off + k * 5 + 1, none⟩ = some (.int .i64 da) ∧ wq.cell? ⟨bb, off + k * 5 + 3, none⟩ = some (.string s)) (first | exact HC.out _ (by assumption)) ((go_at_call 13; refine hwr.mono ?_; rintro x w4 ⟨F4, rfl, S4, C4⟩; have B4 := S4.bel))
              all_goals
                have HR := Hid_of (And.intro S4 HFS.out)
                clear hwr S4 C4 B4 HS BD B HC c0 c1 c3 HFS
                go_wp2
                go_roundw
                case rel => exact ⟨k + 1, _, _, by omega, by go_num, HR.out⟩
                case measure => simp [intOf]; omega
          · have hlo := S.loose
            have hL := M.lo_len P
            have hPl := S.len
            have HOK := Hid_of S.ok.1
            have HFS := Hid_of hfst
            clear S hfst HF3
            go_wp2_with fail
            refine hlo.mono ?_
            rintro x w7 ⟨a7, c7, rfl, hat7, _, _, S7⟩
            have hcr := S7.crash keep 9 hkp
            have HAT7 := Hid_of hat7
            clear hlo hat7 S7
            go_wp2_with fail
            refine hcr.mono ?_
            rintro x w8 ⟨F8, rfl, S8, C8⟩
            have HAT8 := Hid_of (HAT7.out.step C8)
            have HSM : Hid (∀ i, i ∉ M.lo P → ((M.crash P keep 9).map M.last)[i]? = (P1.map M.last)[i]?) := fun i hi => sure_same HP1.out HFS.out keep 9 i hi
            have hlen3 := (M.crash_spec HOK.out keep 9).1
            have HOK3 := Hid_of (M.crash_spec HOK.out keep 9).2.1
            clear hcr C8 HAT7
            generalize M.crash P keep 9 = P3 at *
            have hsec := S8.sectors
            have HS8 := Hid_of S8
            have hl3 := S8.len
            have hrd := S8.read 0 c (by omega)
            rw [(M.rtext_all hl3 hcn.1).1, (M.rtext_all hl3 hcn.1).2] at hrd
            clear S8
            go_wp2_with fail
            refine hsec.mono ?_
            rintro x w9 ⟨rfl, rfl⟩
            go_wp2_with fail
            refine hrd.mono ?_
            rintro x w10 ⟨rfl, b10, S10⟩
            have hs1 : was.size = c * 64 := by rw [← HWAS.out, M.cat_size _ (ok_last HOK1.out), List.length_map, hlen1]
            obtain ⟨now, hnow⟩ : ∃ t, M.cat (P3.map M.last) = t := ⟨_, rfl⟩
            have hs3 : now.size = c * 64 := by rw [← hnow, M.cat_size _ (ok_last HOK3.out), List.length_map, hl3]
            have HEX : Hid (∀ i, i < c → i ∉ M.lo P → now.extract (64 * i) (64 * i + 64) = was.extract (64 * i) (64 * i + 64)) := fun i hi hn => by
              rw [← hnow, ← HWAS.out]
              exact cat_same (by rw [List.length_map, List.length_map]; omega) (ok_last HOK3.out) (ok_last HOK1.out) i (by rw [List.length_map]; omega) (HSM.out i hn)
            rw [hnow]
            have HS10 := Hid_of S10
            have HAT10 := Hid_of (HAT8.out.keep b10)
            have HPW := Hid_of (M.lo_lt P)
            clear hrd hsec HS8 b10 S10 HAT8 HSM HOK3 HOK1 HWAS HP1 HFS HOK hnow hlen3
            generalize hLL : M.lo P = L at *
            go_wp2
            go_loopw [15, 16] (fun kv i wr => ∃ k i' : Nat, i' ≤ c ∧ kv = .int .i64 k ∧ i = .int .i64 i' ∧ Ps L k i' ∧ Below w10.heap.size w10 wr) (fun _ i _ => c - (intOf i).toNat)
            case atStart => exact ⟨0, 0, by omega, rfl, rfl, ⟨by omega, fun j h h' => by omega, fun j h h' => by omega⟩, Below.refl _ _⟩
            case round =>
              obtain ⟨k, i, hi, rfl, rfl, hps, hb⟩ := hrel
              have S := HS10.out.keep hb
              have hat := HAT10.out.keep hb
              have hsec := S.sectors
              have HB : Hid (∀ n, Below w10.heap.size w10 (wr.drewN n)) := fun n => below_drewN hb n
              have HB0 := Hid_of hb
              have HBW := Hid_of S.bel
              by_cases hlt : i < c
              · by_cases hkL : k < L.length
                · obtain ⟨bl, ol, rfl, c0⟩ := hat.v.int k (by rw [M.zs_len]; exact hkL)
                  rw [M.zs_get L k hkL] at c0
                  clear S hat hb HS10 HAT10
                  by_cases he : L[k] = i
                  · rw [he] at c0
                    have HN := Hid_of (hps.yes hkL he HPW.out)
                    clear hps HEX he
                    go_wp2_with fail
                    refine hsec.mono ?_
                    rintro x w11 ⟨rfl, rfl⟩
                    clear hsec
                    go_wp2
                    go_roundw
                    case rel => exact ⟨k + 1, i + 1, by omega, by go_num, by go_num, HN.out, HB0.out⟩
                    case measure => simp [intOf]; omega
                  · obtain ⟨hni, hps2⟩ := hps.not (fun _ => he) HPW.out
                    have HN := Hid_of hps2
                    have hEq := HEX.out i hlt hni
                    obtain ⟨X, hX⟩ : ∃ X, was.extract (64 * i) (64 * i + 64) = X := ⟨_, rfl⟩
                    rw [hX] at hEq
                    have he' : ((L[k] : Int) == (i : Int)) = false := by simp; omega
                    clear hps HEX hni hps2
                    generalize L[k] = lk at *
                    go_wp2_with fail
                    refine hsec.mono ?_
                    rintro x w11 ⟨rfl, rfl⟩
                    clear hsec
                    go_wp2_with fail
                    go_quiet (fail)
                    go_wp2
                    go_roundw
                    case rel => exact ⟨k, i + 1, by omega, rfl, by go_num, HN.out, HB.out _⟩
                    case measure => simp [intOf]; omega
                · obtain ⟨hni, hps2⟩ := hps.not (fun h => absurd h hkL) HPW.out
                  have HN := Hid_of hps2
                  have hEq := HEX.out i hlt hni
                  obtain ⟨X, hX⟩ : ∃ X, was.extract (64 * i) (64 * i + 64) = X := ⟨_, rfl⟩
                  rw [hX] at hEq
                  have hkd : decide ((k : Int) < (L.length : Int)) = false := by simp; omega
                  have hle := hps.le
                  clear S hat hb HS10 HAT10 hps HEX hni hps2
                  go_wp2_with fail
                  refine hsec.mono ?_
                  rintro x w11 ⟨rfl, rfl⟩
                  clear hsec
                  go_wp2_with fail
                  go_quiet (fail)
                  go_wp2
                  go_roundw
                  case rel => exact ⟨k, i + 1, by omega, rfl, by go_num, HN.out, HB.out _⟩
                  case measure => simp [intOf]; omega
              · clear S hat hb HS10 HAT10 hps HEX HB
                go_wp2_with fail
                refine hsec.mono ?_
                rintro x w11 ⟨rfl, rfl⟩
                clear hsec
                go_wp2_with fail
                refine (awake_any _).mono ?_
                rintro x w12 ⟨rfl, b12⟩
                have HQ := Hid_of (bel_up HBW.out b12 (Nat.le_refl _))
                clear b12 HBW HB0
                go_wp2
                go_ret
                exact ⟨rfl, HQ.out⟩
end Go.Proofs.Ytjbdicnenkganaa
