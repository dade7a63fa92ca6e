/-
  What is kept is read as it was.
-/
import Derived.Test.YtjbcchipbdkplaaOnceW
import Derived.Deep.CutRange
namespace Go.Proofs.Ytjbcchipbdkplaa
open Go.RowKit Go.Maps
set_option linter.unusedVariables false
open Rp (C fup)

set_option maxRecDepth 100000 in
set_option maxHeartbeats 4000000 in
theorem back_walk (n : Int) (a : Option Addr) (cap : Nat) (l : List Dd) (w : World) (hw : (Lit.int .i64 n).wf = true) (hm : l.length ≤ maxLen) (hat : Dds w a l) (hok : ∀ d ∈ l, d.ok) :
    Calls Try.prog 5 #[.int .i64 n, .slice a l.length cap] w fun e w' => e = .returned (.bool true) ∧ Below w.heap.size w w' := by
  have hfew := few_any a cap l w hm hat hok
  have HAT := Hid_of hat
  have HOK := Hid_of hok
  clear hat hok hm hw
  go_enter Try.func5, Try.ntmps5
  go_wp2_with fail
  refine hfew.mono ?_
  rintro e w0 ⟨b0, rfl, hb0, rfl⟩
  clear hfew
  cases b0 with
  | false =>
    go_wp2_with fail
    refine (awake_any _).mono ?_
    rintro e w8 ⟨rfl, b8⟩
    have HB8 := Hid_of b8
    clear b8
    go_wp2
    go_ret
    exact ⟨rfl, HB8.out⟩
  | true =>
    obtain ⟨hl100, hsz⟩ := hb0 rfl
    have HSZ := Hid_of hsz
    have hnw := newK_any n w0 w0 (Below.refl _ _)
    clear hb0 hsz
    go_wp2_with fail
    refine hnw.mono ?_
    rintro e w1 ⟨b, F1, rfl, S1, _, _⟩
    have HS1 := Hid_of S1
    clear hnw S1
    generalize rm n = room at *
    go_wp2
    go_loopw [6] (fun i wr => ∃ (k : Nat) (F : Nat → Prop) (T : Int → List C), k ≤ l.length ∧ i = .int .i64 k ∧ KS w0 wr F b k room T) (fun i _ => l.length - (intOf i).toNat)
    case atStart => exact ⟨0, F1, _, Nat.zero_le _, rfl, HS1.out⟩
    case round =>
      obtain ⟨k, F, T, hk, rfl, hS⟩ := hrel
      by_cases hlt : k < l.length
      · obtain ⟨b0, off, rfl, c0, c1, c2, c3⟩ := (HAT.out.keep hS.bel) k hlt
        have hdok := HOK.out l[k] (List.getElem_mem hlt)
        have hds := HSZ.out l[k] (List.getElem_mem hlt)
        have hcb := wf_bd hdok.2.1
        have HCL : Hid (∀ W, Below w0.heap.size w0 W → W.cell? ⟨b0, off + k * 4, none⟩ = some (.int .i64 l[k].k) ∧ W.cell? ⟨b0, off + k * 4 + 1, none⟩ = some (.int .i64 l[k].c) ∧ W.cell? ⟨b0, off + k * 4 + 2, none⟩ = some (.int .i64 l[k].i) ∧ W.cell? ⟨b0, off + k * 4 + 3, none⟩ = some (.string l[k].val)) := fun W hW => by
          obtain ⟨b0', off', e, d0, d1, d2, d3⟩ := (HAT.out.keep hW) k hlt
          cases e
          exact ⟨d0, d1, d2, d3⟩
        have hs5 : l[k].val.data.toList.length ≤ 1000000 := by rw [len_data]; omega
        have HSV : Hid (ofL l[k].val.data.toList = l[k].val) := ofL_of _
        have hSd : KS w0 wr.drew F b k room T := hS.keep (Below.drew (Below.refl _ _))
        have hki : (k : Int) < (l.length : Int) := by omega
        clear hdok hds hS
        generalize hsl : l[k].val.data.toList = sl at *
        generalize l[k].val = s at *
        generalize l[k].k = dk at *
        generalize l[k].c = dc at *
        generalize l[k].i = di at *
        clear hsl
        have ht1 := hSd.take (by omega) dc di
        clear hSd
        go_wp2_with fail
        go_region_held3 (fun wq => wq.cell? ⟨b0, off + k * 4 + 1, none⟩ = some (.int .i64 dc) ∧ wq.cell? ⟨b0, off + k * 4 + 2, none⟩ = some (.int .i64 di)) (first | exact ⟨by assumption, by assumption⟩ | exact ⟨c1, c2⟩) ((go_at_call 15; refine ht1.mono ?_; rintro e w2 ⟨F2, rfl, S2, R2⟩; obtain ⟨d0, d1, d2, d3⟩ := HCL.out w2 S2.bel; have HS2 := Hid_of S2; clear ht1 S2 R2 c0 c1 c2 c3))
        generalize hT1 : Rp.take room T dc di = T1 at *
        clear hT1
        by_cases hk1 : dk = 1
        · subst hk1
          have hSd : KS w0 w2.drew F2 b (k + 1) room T1 := HS2.out.keep (Below.drew (Below.refl _ _))
          have ht3 := hSd.put dc di hcb sl hs5
          rw [HSV.out] at ht3
          clear hSd
          go_wp2_with fail
          go_region_held3 (fun wq => wq.cell? ⟨b0, off + k * 4 + 1, none⟩ = some (.int .i64 dc) ∧ wq.cell? ⟨b0, off + k * 4 + 2, none⟩ = some (.int .i64 di) ∧ wq.cell? ⟨b0, off + k * 4 + 3, none⟩ = some (.string s)) (first | exact ⟨by assumption, by assumption, by assumption⟩ | exact ⟨d1, d2, d3⟩) ((go_at_call 13; refine ht3.mono ?_; rintro e w3 ⟨rfl, S3, R3⟩; obtain ⟨e0, e1, e2, e3⟩ := HCL.out w3 S3.bel; have HS3 := Hid_of S3; clear ht3 S3 R3 d0 d1 d2 d3))
          go_wp2
          go_roundw
          case rel => exact ⟨k + 1, _, _, by omega, by go_num, HS3.out⟩
          case measure => simp [intOf]; omega
        · go_wp2
          go_roundw
          case rel => exact ⟨k + 1, _, _, by omega, by go_num, HS2.out⟩
          case measure => simp [intOf]; omega
      · obtain rfl : k = l.length := by omega
        have htx := hS.text (by omega)
        have HS := Hid_of hS
        clear hS HS1 HSZ
        go_wp2_with fail
        refine htx.mono ?_
        rintro e w2 ⟨rfl, hb2⟩
        have S2 := HS.out.keep hb2
        have hrd := readK_any S2.ok w0 w2 S2.bel
        have HS2 := Hid_of S2
        clear htx hb2 S2 HS
        go_wp2_with fail
        refine hrd.mono ?_
        rintro e w3 ⟨br, G, rfl, S3, hb3, hG⟩
        have S3' := HS2.out.keep hb3
        have hdis : ∀ q, F q → ¬ G q := fun q h1 h2 => by
          have := (HS2.out.mine q h1).2
          have := hG q h2
          omega
        have htx := S3.text (by omega)
        have HST := Hid_of (And.intro S3' (And.intro S3 hdis))
        clear hrd hb3 S3 S3' hdis hG HS2
        generalize Rp.txt room T = tx at *
        go_wp2_with fail
        refine htx.mono ?_
        rintro e w4 ⟨rfl, hb4⟩
        have HST4 := Hid_of (And.intro (HST.out.1.keep hb4) (And.intro (HST.out.2.1.keep hb4) HST.out.2.2))
        clear htx hb4 HST
        go_wp2
        go_loopw [10] (fun i wr => ∃ (k : Nat) (F G : Nat → Prop) (T : Int → List C), k ≤ l.length ∧ i = .int .i64 k ∧ KS w0 wr F b (l.length + k) room T ∧ KS w0 wr G br (64 + k) room T ∧ ∀ q, F q → ¬ G q) (fun i _ => l.length - (intOf i).toNat)
        case atStart => exact ⟨0, F, G, T, Nat.zero_le _, rfl, HST4.out⟩
        case round =>
          obtain ⟨k, F, G, T, hk, rfl, hS, hX, hd⟩ := hrel
          by_cases hlt2 : k < l.length
          · obtain ⟨b0, off, rfl, c0, c1, c2, c3⟩ := (HAT.out.keep hS.bel) k hlt2
            have HCL : Hid (∀ W, Below w0.heap.size w0 W → W.cell? ⟨b0, off + k * 4 + 1, none⟩ = some (.int .i64 l[k].c) ∧ W.cell? ⟨b0, off + k * 4 + 2, none⟩ = some (.int .i64 l[k].i)) := fun W hW => by
              obtain ⟨b0', off', e, d0, d1, d2, d3⟩ := (HAT.out.keep hW) k hlt2
              cases e
              exact ⟨d1, d2⟩
            have hki : (k : Int) < (l.length : Int) := by omega
            have hSd : KS w0 wr.drew F b (l.length + k) room T := hS.keep (Below.drew (Below.refl _ _))
            have HXd : Hid (KS w0 wr.drew G br (64 + k) room T) := hX.keep (Below.drew (Below.refl _ _))
            have HD := Hid_of hd
            have HFM : Hid (∀ q, F q → w0.heap.size ≤ q) := fun q h => (hSd.mine q h).1
            clear hS hX hd HST4
            generalize l[k].k = dk at *
            generalize l[k].c = dc at *
            generalize l[k].i = di at *
            generalize l[k].val = s at *
            have ht1 := hSd.take (by omega) dc di
            have HT2 := Hid_of (fun (W : World) (h : KS w0 W G br (64 + k) room T) => h.take (by omega) dc di)
            clear hSd
            generalize Rp.code room T dc di = cd at *
            generalize Rp.told T dc di = td at *
            go_wp2_with fail
            go_region_held3 (fun wq => wq.cell? ⟨b0, off + k * 4 + 1, none⟩ = some (.int .i64 dc) ∧ wq.cell? ⟨b0, off + k * 4 + 2, none⟩ = some (.int .i64 di)) (first | exact ⟨by assumption, by assumption⟩ | exact ⟨c1, c2⟩) ((go_at_call 15; refine ht1.mono ?_; rintro e w2 ⟨F2, rfl, S2, R2⟩; obtain ⟨d1, d2⟩ := HCL.out w2 S2.bel; have HS2 := Hid_of S2; obtain ⟨X2, D2⟩ := HXd.out.step R2 (fun q h1 h2 => HD.out q h2 h1) HFM.out; have HX2 := Hid_of X2; have HD2 := Hid_of D2; clear ht1 S2 R2 X2 D2 c0 c1 c2 c3 HXd HD HFM))
            have hXd : KS w0 w2.drew G br (64 + k) room T := HX2.out.keep (Below.drew (Below.refl _ _))
            have HSd : Hid (KS w0 w2.drew F2 b (l.length + k + 1) room (Rp.take room T dc di)) := HS2.out.keep (Below.drew (Below.refl _ _))
            have HGM : Hid (∀ q, G q → w0.heap.size ≤ q) := fun q h => (hXd.mine q h).1
            have ht2 := HT2.out _ hXd
            clear hXd HT2 HS2 HX2
            generalize Rp.take room T dc di = T1 at *
            go_wp2_with fail
            go_region_held3 (fun wq => wq.cell? ⟨b0, off + k * 4 + 1, none⟩ = some (.int .i64 dc) ∧ wq.cell? ⟨b0, off + k * 4 + 2, none⟩ = some (.int .i64 di)) (first | exact ⟨by assumption, by assumption⟩ | exact ⟨d1, d2⟩) ((go_at_call 15; refine ht2.mono ?_; rintro e w3 ⟨G3, rfl, X3, R3⟩; obtain ⟨e1, e2⟩ := HCL.out w3 X3.bel; have HX3 := Hid_of X3; obtain ⟨S3, D3⟩ := HSd.out.step R3 (fun q h1 h2 => HD2.out q h2 h1) HGM.out; have HS3 := Hid_of S3; have HD3 := Hid_of D3; clear ht2 X3 R3 S3 D3 d1 d2 HSd HD2 HGM))
            go_wp2
            go_roundw
            case rel => exact ⟨k + 1, F2, G3, T1, by omega, by go_num, HS3.out, HX3.out, HD3.out⟩
            case measure => simp [intOf]; omega
          · obtain rfl : k = l.length := by omega
            have HB := Hid_of hS.bel
            clear hS hX hd HST4
            go_wp2_with fail
            refine (awake_any _).mono ?_
            rintro e w8 ⟨rfl, b8⟩
            have HB8 : Hid (Below w0.heap.size w0 w8) := bel_up HB.out b8 (Nat.le_refl _)
            clear b8 HB
            go_wp2
            go_ret
            exact ⟨rfl, HB8.out⟩
end Go.Proofs.Ytjbcchipbdkplaa
