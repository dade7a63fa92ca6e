/- Bytes and back. -/
import Derived.Test.YtgcfpihfoekllaaFF
import Derived.Test.YtgcfpihfoekllaaFG
import Derived.Test.YtgcfpihfoekllaaFH

namespace Go.Proofs.Ytgcfpihfoekllaa

open Go.RowKit

set_option linter.unusedVariables false

open Sm (S)

set_option maxRecDepth 100000 in
set_option maxHeartbeats 8000000 in
theorem back_walk (a : Option Addr) (c : Nat) (l : List D) (x : ByteArray) (w : World) (hm : l.length ≤ maxLen) (hat : AtL dl w a l) (hok : ∀ d ∈ l, DOk w d) (hs : x.size ≤ 140737488351232) : Calls Try.prog 5 #[.slice a l.length c, .string x] w fun e w' => e = .returned (.bool true) ∧ Below w.heap.size w w' := by
  have hfw := few_any a c l w hm hat hok
  have HAT := Hid_of hat
  have HOK := Hid_of hok
  clear hat hok
  cases hf : few l with
  | false =>
    rw [show fewN l = 0 by unfold fewN; rw [hf]; rfl] at hfw
    clear hf HAT HOK
    go_enter Try.func5, Try.ntmps5
    go_wp2_with fail
    refine hfw.mono ?_
    rintro e w1 ⟨rfl, hb1⟩
    have HB1 := Hid_of hb1
    have haw := awake_any w1
    clear hfw hb1
    go_wp2_with fail
    refine haw.mono ?_
    rintro e w2 ⟨rfl, hb2⟩
    have HB2 := Hid_of (bel_up HB1.out hb2 (Nat.le_refl _))
    clear haw hb2 HB1
    go_wp2
    go_ret
    exact ⟨rfl, HB2.out⟩
  | true =>
    rw [show fewN l = 1 by unfold fewN; rw [hf]; rfl] at hfw
    have HF := Hid_of hf
    have h80 := (few_eq.1 hf).1
    clear hf
    by_cases hz : 20000 < x.size
    · have d1 : decide ((20000 : Int) < (x.size : Int)) = true := decide_eq_true (by omega)
      have d1n : decide (20000 < x.size) = true := decide_eq_true hz
      clear HAT HOK HF
      go_enter Try.func5, Try.ntmps5
      go_wp2_with fail
      refine hfw.mono ?_
      rintro e w1 ⟨rfl, hb1⟩
      have HB1 := Hid_of hb1
      have haw := awake_any w1
      clear hfw hb1
      go_wp2_with fail
      refine haw.mono ?_
      rintro e w2 ⟨rfl, hb2⟩
      have HB2 := Hid_of (bel_up HB1.out hb2 (Nat.le_refl _))
      clear haw hb2 HB1
      go_wp2
      go_ret
      exact ⟨rfl, HB2.out⟩
    · have d1 : decide ((20000 : Int) < (x.size : Int)) = false := decide_eq_false (by omega)
      have d1n : decide (20000 < x.size) = false := decide_eq_false hz
      obtain ⟨bs, hbs⟩ : ∃ bs, x = ofL bs := ⟨x.data.toList, by apply ByteArray.ext; simp [ofL]⟩
      have hbl : bs.length ≤ 1000000 := by have := ofL_size bs; rw [← hbs] at this; omega
      have HBS := Hid_of hbs
      clear hbs
      go_enter Try.func5, Try.ntmps5
      go_wp2_with fail
      refine hfw.mono ?_
      rintro e w1 ⟨rfl, hb1⟩
      have hrd := read_any bs w1 hbl
      rw [← HBS.out] at hrd
      have HB1 := Hid_of hb1
      clear hfw hb1
      go_wp2_with fail
      refine hrd.mono ?_
      rintro e w2 ⟨hb2, hcase⟩
      have hrr := refRead_any bs w2 hbl
      rw [← HBS.out] at hrr
      have HB2 := Hid_of (bel_up HB1.out hb2 (Nat.le_refl _))
      have HB02 := Hid_of hb2
      clear hrd hb2
      rcases hcase with ⟨b1, F1, acc, hT, rfl, hM⟩ | ⟨hT, rfl⟩
      · have HT1 := Hid_of hT
        have HA2 : Hid (AwI w w2 b1 (fun _ => False) acc) := Hid_of ⟨HB2.out, F1, hM.low HB1.out.size, fun k hk => hk.elim⟩
        clear hT hM
        go_wp2_with fail
        refine hrr.mono ?_
        rintro e w3 ⟨hb3, hcase⟩
        obtain ⟨v3, rfl, hd3⟩ : ∃ v, e = .returned (.tuple #[v, .int .i64 0]) ∧ DM w3 (fun q => w2.heap.size ≤ q ∧ q < w3.heap.size) v acc := by
          rcases hcase with ⟨v, acc', q1, q2, q3⟩ | ⟨q, _⟩
          · have e := Sm.tell_one q1 HT1.out
            subst e
            exact ⟨v, q2, q3⟩
          · exact absurd ⟨acc, HT1.out⟩ q
        have HTX : Hid (ofL (Sm.txt acc) = x) := Hid_of (by rw [HBS.out, ← HT1.out.2])
        have HA3 := Hid_of (HA2.out.keep hb3)
        have HD3 := Hid_of hd3
        have ht1 := HA3.out.text
        rw [HTX.out] at ht1
        clear hrr hcase hb3 hd3 HA2 HB2 HB02 HB1
        go_wp2_with fail
        refine ht1.mono ?_
        rintro e w4 ⟨rfl, hb4⟩
        have HA4 := Hid_of (HA3.out.keep hb4)
        have ht2 := refText_any (HD3.out.keep hb4) HT1.out.1
        rw [HTX.out] at ht2
        clear ht1 hb4 HA3 HD3
        go_wp2_with fail
        refine ht2.mono ?_
        rintro e wa ⟨rfl, hba⟩
        have HBA := Hid_of (HA4.out.keep hba).1
        clear ht2 hba HA4 HTX HT1
        have hnw := new_any wa
        go_wp2_with fail
        refine hnw.mono ?_
        rintro e w2 ⟨rfl, hb2, hm2⟩
        have HT2 : Hid (Two wa w2 wa.heap.size (fun _ => False) (.slice none 0 0) []) := Hid_of (two_new hb2 hm2)
        have HAT1 := Hid_of (HAT.out.keep HBA.out)
        have HOK1 : Hid (∀ d ∈ l, DOk wa d) := Hid_of fun d hd => (HOK.out d hd).keep HBA.out
        obtain ⟨bm, hbm⟩ : ∃ bm, wa.heap.size = bm := ⟨_, rfl⟩
        rw [hbm] at HT2 ⊢
        clear hnw hb2 hm2 hbm HAT HOK
        go_wp2
        go_loopw [10, 11] (fun v i wr => ∃ (k : Nat) (K : Nat → Prop) (m : List S), k ≤ l.length ∧ i = .int .i64 k ∧ Hid (Two wa wr bm K v m)) (fun _ i _ => l.length - (intOf i).toNat)
        case atStart => exact ⟨0, _, _, by omega, rfl, HT2⟩
        case round =>
          obtain ⟨k, K, m, hk, rfl, HT⟩ := hrel
          clear HT2
          by_cases hlt : k < l.length
          · have hki : (k : Int) < (l.length : Int) := by omega
            obtain ⟨b', off, rfl, c0, c1, c2, c3, c4⟩ := (HAT1.out.keep HT.out.ai.1).getD k hlt
            have hdo := two_do HT.out HF.out HAT1.out HOK1.out k hlt
            clear HT
            generalize ddD m l[k] = m2 at *
            generalize l[k] = y at *
            go_wp2_with fail
            refine hdo.mono ?_
            rintro e w4 ⟨u, K', rfl, hT, -⟩
            have HT4 := Hid_of hT
            clear hdo hT c0 c1 c2 c3 c4
            go_wp2
            go_roundw
            case rel => exact ⟨k + 1, K', m2, by omega, by go_num, HT4⟩
            case measure => simp [intOf]; omega
          · have hkn : k = l.length := by omega
            subst hkn
            have hlen : (Sm.txt m).length ≤ 1000000 := by
              rw [← Sm.pre_all]
              exact Sm.pre_len HT.out.g.st HT.out.g.ln _
            have HG := Hid_of HT.out.g
            have htx := HT.out.ai.text
            have HA := Hid_of HT.out.ai
            clear HT HAT1 HOK1 HF
            go_wp2_with fail
            refine htx.mono ?_
            rintro e w5 ⟨rfl, hb5⟩
            have HA5 := Hid_of (HA.out.keep hb5)
            have hrd := read_any (Sm.txt m) w5 hlen
            clear htx hb5 HA
            go_wp2_with fail
            refine hrd.mono ?_
            rintro e w6 ⟨hb6, hcase⟩
            obtain ⟨bx, Fx, accx, hT, rfl, hMx⟩ : ∃ bm F acc, Sm.Tell (Sm.txt m) acc ∧ e = .returned (.tuple #[.pointer (some ⟨bm, 0, none⟩), .int .i64 0]) ∧ MM w6 w5.heap.size bm F acc := by
              rcases hcase with q | ⟨q, _⟩
              · exact q
              · exact absurd ⟨m, HG.out, rfl⟩ q
            have hac : accx = m := Sm.tell_one hT ⟨HG.out, rfl⟩
            subst hac
            have HA6 := Hid_of (HA5.out.keep hb6)
            have HX6 : Hid (AwI wa w6 bx (fun _ => False) accx) := Hid_of (AwI.new HA5.out.1 hb6 hMx (fun k hk => hk.elim))
            have hlm := HG.out.ln
            have HLL : Hid ((Sm.ofSt accx 1).length ≤ 1000000) := Hid_of (by have := Sm.ids_len (Sm.isSt 1) accx accx.length; unfold Sm.ofSt; omega)
            have ht1 := HX6.out.text
            obtain ⟨tx2, htx2⟩ : ∃ t, ofL (Sm.txt accx) = t := ⟨_, rfl⟩
            have HTX := Hid_of htx2
            rw [htx2] at ht1
            clear hrd hcase hT hMx hb6 HA5 hlm hlen htx2
            go_wp2_with fail
            refine ht1.mono ?_
            rintro e w7 ⟨rfl, hb7⟩
            have HA7 := Hid_of (HA6.out.keep hb7)
            have HX7 := Hid_of (HX6.out.keep hb7)
            have ht2 := HA7.out.text
            rw [HTX.out] at ht2
            clear ht1 hb7 HA6 HX6 HTX
            go_wp2_with fail
            refine ht2.mono ?_
            rintro e w8 ⟨rfl, hb8⟩
            have HA8 := Hid_of (HA7.out.keep hb8)
            have hl1 := (HX7.out.keep hb8).list 1
            clear ht2 hb8 HA7 HX7
            go_wp2_with fail
            refine hl1.mono ?_
            rintro e w9 ⟨u9, rfl, ho9, hb9⟩
            obtain ⟨a9, c9, rfl, hx9, -⟩ := ho9.at
            have HX9 := Hid_of hx9.at'
            have HA9 := Hid_of (HA8.out.keep hb9)
            have hl2 := HA9.out.list 1
            clear hl1 ho9 hx9 hb9 HA8
            go_wp2_with fail
            refine hl2.mono ?_
            rintro e w10 ⟨u10, rfl, ho10, hb10⟩
            obtain ⟨a10, c10, rfl, hx10, -⟩ := ho10.at
            have hin := ints_same (c1 := c9) (c2 := c10) HLL.out (HX9.out.keep hb10) hx10.at'
            have HA10 := Hid_of (HA9.out.keep hb10)
            clear hl2 ho10 hx10 hb10 HA9 HX9
            go_wp2_with fail
            refine hin.mono ?_
            rintro e w11 ⟨rfl, hb11⟩
            have haw := awake_any w11
            have HBW := Hid_of (bel_up HBA.out (HA10.out.keep hb11).1 (Nat.le_refl _))
            clear hin hb11 HA10
            go_wp2_with fail
            refine haw.mono ?_
            rintro e w12 ⟨rfl, hb12⟩
            have HB12 := Hid_of (bel_up HBW.out hb12 (Nat.le_refl _))
            clear haw hb12 HBW
            go_wp2
            go_ret
            exact ⟨rfl, HB12.out⟩
      · have HT1 := Hid_of hT
        clear hT
        go_wp2_with fail
        refine hrr.mono ?_
        rintro e wa ⟨hb3, hcase⟩
        obtain rfl : e = .returned (.tuple #[.slice none 0 0, .int .i64 3]) := by
          rcases hcase with ⟨v, acc', q1, q2, q3⟩ | ⟨_, q⟩
          · exact absurd ⟨acc', q1⟩ HT1.out
          · exact q
        have HBA := Hid_of (bel_up HB2.out hb3 (Nat.le_refl _))
        clear hrr hcase hb3 HB2 HB02 HB1 HT1
        have hnw := new_any wa
        go_wp2_with fail
        refine hnw.mono ?_
        rintro e w2 ⟨rfl, hb2, hm2⟩
        have HT2 : Hid (Two wa w2 wa.heap.size (fun _ => False) (.slice none 0 0) []) := Hid_of (two_new hb2 hm2)
        have HAT1 := Hid_of (HAT.out.keep HBA.out)
        have HOK1 : Hid (∀ d ∈ l, DOk wa d) := Hid_of fun d hd => (HOK.out d hd).keep HBA.out
        obtain ⟨bm, hbm⟩ : ∃ bm, wa.heap.size = bm := ⟨_, rfl⟩
        rw [hbm] at HT2 ⊢
        clear hnw hb2 hm2 hbm HAT HOK
        go_wp2
        go_loopw [10, 11] (fun v i wr => ∃ (k : Nat) (K : Nat → Prop) (m : List S), k ≤ l.length ∧ i = .int .i64 k ∧ Hid (Two wa wr bm K v m)) (fun _ i _ => l.length - (intOf i).toNat)
        case atStart => exact ⟨0, _, _, by omega, rfl, HT2⟩
        case round =>
          obtain ⟨k, K, m, hk, rfl, HT⟩ := hrel
          clear HT2
          by_cases hlt : k < l.length
          · have hki : (k : Int) < (l.length : Int) := by omega
            obtain ⟨b', off, rfl, c0, c1, c2, c3, c4⟩ := (HAT1.out.keep HT.out.ai.1).getD k hlt
            have hdo := two_do HT.out HF.out HAT1.out HOK1.out k hlt
            clear HT
            generalize ddD m l[k] = m2 at *
            generalize l[k] = y at *
            go_wp2_with fail
            refine hdo.mono ?_
            rintro e w4 ⟨u, K', rfl, hT, -⟩
            have HT4 := Hid_of hT
            clear hdo hT c0 c1 c2 c3 c4
            go_wp2
            go_roundw
            case rel => exact ⟨k + 1, K', m2, by omega, by go_num, HT4⟩
            case measure => simp [intOf]; omega
          · have hkn : k = l.length := by omega
            subst hkn
            have hlen : (Sm.txt m).length ≤ 1000000 := by
              rw [← Sm.pre_all]
              exact Sm.pre_len HT.out.g.st HT.out.g.ln _
            have HG := Hid_of HT.out.g
            have htx := HT.out.ai.text
            have HA := Hid_of HT.out.ai
            clear HT HAT1 HOK1 HF
            go_wp2_with fail
            refine htx.mono ?_
            rintro e w5 ⟨rfl, hb5⟩
            have HA5 := Hid_of (HA.out.keep hb5)
            have hrd := read_any (Sm.txt m) w5 hlen
            clear htx hb5 HA
            go_wp2_with fail
            refine hrd.mono ?_
            rintro e w6 ⟨hb6, hcase⟩
            obtain ⟨bx, Fx, accx, hT, rfl, hMx⟩ : ∃ bm F acc, Sm.Tell (Sm.txt m) acc ∧ e = .returned (.tuple #[.pointer (some ⟨bm, 0, none⟩), .int .i64 0]) ∧ MM w6 w5.heap.size bm F acc := by
              rcases hcase with q | ⟨q, _⟩
              · exact q
              · exact absurd ⟨m, HG.out, rfl⟩ q
            have hac : accx = m := Sm.tell_one hT ⟨HG.out, rfl⟩
            subst hac
            have HA6 := Hid_of (HA5.out.keep hb6)
            have HX6 : Hid (AwI wa w6 bx (fun _ => False) accx) := Hid_of (AwI.new HA5.out.1 hb6 hMx (fun k hk => hk.elim))
            have hlm := HG.out.ln
            have HLL : Hid ((Sm.ofSt accx 1).length ≤ 1000000) := Hid_of (by have := Sm.ids_len (Sm.isSt 1) accx accx.length; unfold Sm.ofSt; omega)
            have ht1 := HX6.out.text
            obtain ⟨tx2, htx2⟩ : ∃ t, ofL (Sm.txt accx) = t := ⟨_, rfl⟩
            have HTX := Hid_of htx2
            rw [htx2] at ht1
            clear hrd hcase hT hMx hb6 HA5 hlm hlen htx2
            go_wp2_with fail
            refine ht1.mono ?_
            rintro e w7 ⟨rfl, hb7⟩
            have HA7 := Hid_of (HA6.out.keep hb7)
            have HX7 := Hid_of (HX6.out.keep hb7)
            have ht2 := HA7.out.text
            rw [HTX.out] at ht2
            clear ht1 hb7 HA6 HX6 HTX
            go_wp2_with fail
            refine ht2.mono ?_
            rintro e w8 ⟨rfl, hb8⟩
            have HA8 := Hid_of (HA7.out.keep hb8)
            have hl1 := (HX7.out.keep hb8).list 1
            clear ht2 hb8 HA7 HX7
            go_wp2_with fail
            refine hl1.mono ?_
            rintro e w9 ⟨u9, rfl, ho9, hb9⟩
            obtain ⟨a9, c9, rfl, hx9, -⟩ := ho9.at
            have HX9 := Hid_of hx9.at'
            have HA9 := Hid_of (HA8.out.keep hb9)
            have hl2 := HA9.out.list 1
            clear hl1 ho9 hx9 hb9 HA8
            go_wp2_with fail
            refine hl2.mono ?_
            rintro e w10 ⟨u10, rfl, ho10, hb10⟩
            obtain ⟨a10, c10, rfl, hx10, -⟩ := ho10.at
            have hin := ints_same (c1 := c9) (c2 := c10) HLL.out (HX9.out.keep hb10) hx10.at'
            have HA10 := Hid_of (HA9.out.keep hb10)
            clear hl2 ho10 hx10 hb10 HA9 HX9
            go_wp2_with fail
            refine hin.mono ?_
            rintro e w11 ⟨rfl, hb11⟩
            have haw := awake_any w11
            have HBW := Hid_of (bel_up HBA.out (HA10.out.keep hb11).1 (Nat.le_refl _))
            clear hin hb11 HA10
            go_wp2_with fail
            refine haw.mono ?_
            rintro e w12 ⟨rfl, hb12⟩
            have HB12 := Hid_of (bel_up HBW.out hb12 (Nat.le_refl _))
            clear haw hb12 HBW
            go_wp2
            go_ret
            exact ⟨rfl, HB12.out⟩

end Go.Proofs.Ytgcfpihfoekllaa
