/-
  Proved: for every text and any two numbers the law SumsBurst of the program returns true, and all arguments read as they did.
-/
import Derived.Test.YtimnhccfmehdoaaF
namespace Go.Proofs.Ytimnhccfmehdoaa
open Go.ChangeShapes Go.WideShapes Go.ChangeAt Go.RowKit
open Go.ChangeMaps (open_string shut_string)
set_option linter.unusedVariables false

theorem place (n : Int) (m : Nat) (hm : m ≤ 65536) : ∃ K : Nat, K ≤ m ∧ wrap64 ((IntKind.u64.wrap n).tmod ((m : Int) + 4 - 3)) = (K : Int) := by
  have hw : 0 ≤ IntKind.u64.wrap n := by
    simp [IntKind.wrap, IntKind.bits, IntKind.signed]
    omega
  have e : (m : Int) + 4 - 3 = ((m + 1 : Nat) : Int) := by omega
  rw [e, Int.tmod_eq_emod_of_nonneg hw]
  have h1 := Int.emod_nonneg (IntKind.u64.wrap n) (show ((m + 1 : Nat) : Int) ≠ 0 by omega)
  have h2 := Int.emod_lt_of_pos (IntKind.u64.wrap n) (show (0 : Int) < ((m + 1 : Nat) : Int) by omega)
  generalize IntKind.u64.wrap n % ((m + 1 : Nat) : Int) = r at h1 h2 ⊢
  refine ⟨r.toNat, by omega, ?_⟩
  unfold wrap64
  omega

theorem byte_xor_bits (x z : UInt8) : bits .xor .u8 (x.toNat : Int) (z.toNat : Int) = ((x ^^^ z).toNat : Int) := by
  rw [u8_xor_nat _ _ x.toNat_lt z.toNat_lt, UInt8.toNat_xor]
theorem round_buf {wr : World} {base g cap K j : Nat} {l : List UInt8} {y : BitVec 32} (hb : Buf wr base g cap (brst l K y j)) (h : K + j < l.length) :
    ∃ x : UInt8, wr.cell? ⟨g, K + j, none⟩ = some (.int .u8 (x.toNat : Int)) ∧ wr.frozen? ⟨g, K + j, none⟩ = false ∧
      Buf (wr.setCell ⟨g, K + j, none⟩ (.int .u8 ((x ^^^ M.byte y (8 * j)).toNat : Int))) base g cap (brst l K y (j + 1)) := by
  have hl : K + j < (brst l K y j).length := by rw [brst_length]; exact h
  have e : (brst l K y j).getD (K + j) 0 = (brst l K y j)[K + j] := by rw [List.getD_eq_getElem?_getD, List.getElem?_eq_getElem hl]; rfl
  refine ⟨(brst l K y j)[K + j], hb.cell _ hl, (hb.room _ (Nat.lt_of_lt_of_le hl hb.le)).2, ?_⟩
  rw [brst, e]
  exact hb.set _ hl _

set_option maxHeartbeats 1000000 in
theorem burst_walk (s : ByteArray) (n : Int) (y : BitVec 32) (w : World) (hs : s.size ≤ maxLen) (hn : -9223372036854775808 ≤ n ∧ n ≤ 9223372036854775807) :
    Calls Try.prog 8 #[.string s, .int .i64 n, .int .u32 y.toNat] w fun e w' => e = .returned (.bool true) ∧ Below w.heap.size w w' := by
  have hy : y.toNat < 4294967296 := y.isLt
  by_cases h : s.size > 65536
  · have hd : decide ((65536 : Int) < (s.size : Int)) = true := by simp; omega
    go_enter Try.func8, Try.ntmps8
    go_wp2_with fail
    refine (awake_any _).mono ?_
    rintro e w1 ⟨rfl, hb1⟩
    go_wp2
    go_ret
    exact ⟨rfl, hb1⟩
  · have hd : decide ((65536 : Int) < (s.size : Int)) = false := by simp; omega
    by_cases h0 : y = 0#32
    · subst h0
      go_enter Try.func8, Try.ntmps8
      go_wp2_with fail
      refine (awake_any _).mono ?_
      rintro e w1 ⟨rfl, hb1⟩
      go_wp2
      go_ret
      exact ⟨rfl, hb1⟩
    · have hne := ne_zero_bits y h0
      have hyb : ((y.toNat : Int) == 0) = false := by simpa [bne] using hne
      have h2 : s.size ≤ 140737488351232 := by omega
      go_enter Try.func8, Try.ntmps8
      go_wp2_with fail
      refine (seal_any s _ h2).mono ?_
      rintro e w1 ⟨rfl, hb1⟩
      have hss : (ofL (M.sealed s.data.toList)).size = s.size + 4 := by rw [ofL_size, M.seal_len, len_data]
      have HSD : Hid ((ofL (M.sealed s.data.toList)).data.toList = M.sealed s.data.toList) := ofL_data _
      generalize ofL (M.sealed s.data.toList) = S at hss HSD ⊢
      obtain ⟨cap, w2, hcv, hbuf, hb2⟩ := buf_of_text S w1
      rw [hss] at hcv
      rw [HSD.out] at hbuf
      have hkk : ∃ K : Nat, K ≤ s.size ∧ wrap64 ((IntKind.u64.wrap n).tmod ((s.size : Int) + 4 - 3)) = (K : Int) := place n s.size (by omega)
      obtain ⟨K, hK, HK⟩ := hkk
      go_wp2
      rw [HK]
      clear HK hcv
      go_loopw [9] (fun i wr => ∃ j : Nat, j ≤ 4 ∧ i = .int .i64 j ∧ Buf wr w1.heap.size w1.heap.size cap (brst (M.sealed s.data.toList) K y j) ∧ Below w1.heap.size w1 wr) (fun i _ => 4 - (intOf i).toNat)
      case atStart => exact ⟨0, Nat.zero_le _, rfl, hbuf, hb2⟩
      case round =>
        obtain ⟨j, hj, rfl, hbf, hbw⟩ := hrel
        rcases (show j = 0 ∨ j = 1 ∨ j = 2 ∨ j = 3 ∨ j = 4 by omega) with rfl | rfl | rfl | rfl | rfl
        · obtain ⟨x, hc, hf, R⟩ := round_buf hbf (by rw [M.seal_len, len_data]; omega)
          have hX : bits .xor .u8 (x.toNat : Int) ((y.toNat : Int) % 256) = ((x ^^^ M.byte y (8 * 0)).toNat : Int) := by
            rw [← byte_xor_bits, byte_bits]; simp
          rw [← hX] at R
          clear hX
          simp only [Nat.add_zero] at hc hf R
          go_wp2
          exact ⟨⟨1, by omega, rfl, R, hbw.setCell (p := ⟨w1.heap.size, K, none⟩) (Nat.le_refl _) _⟩, by simp [intOf]⟩
        · obtain ⟨x, hc, hf, R⟩ := round_buf hbf (by rw [M.seal_len, len_data]; omega)
          have hX : bits .xor .u8 (x.toNat : Int) ((y.toNat : Int) / 256 % 256) = ((x ^^^ M.byte y (8 * 1)).toNat : Int) := by
            rw [← byte_xor_bits, byte_bits]; simp
          rw [← hX] at R
          clear hX
          go_wp2
          exact ⟨⟨2, by omega, rfl, R, hbw.setCell (p := ⟨w1.heap.size, K + 1, none⟩) (Nat.le_refl _) _⟩, by simp [intOf]⟩
        · obtain ⟨x, hc, hf, R⟩ := round_buf hbf (by rw [M.seal_len, len_data]; omega)
          have hX : bits .xor .u8 (x.toNat : Int) ((y.toNat : Int) / 65536 % 256) = ((x ^^^ M.byte y (8 * 2)).toNat : Int) := by
            rw [← byte_xor_bits, byte_bits]; simp
          rw [← hX] at R
          clear hX
          go_wp2
          exact ⟨⟨3, by omega, rfl, R, hbw.setCell (p := ⟨w1.heap.size, K + 2, none⟩) (Nat.le_refl _) _⟩, by simp [intOf]⟩
        · obtain ⟨x, hc, hf, R⟩ := round_buf hbf (by rw [M.seal_len, len_data]; omega)
          have hX : bits .xor .u8 (x.toNat : Int) ((y.toNat : Int) / 16777216) = ((x ^^^ M.byte y (8 * 3)).toNat : Int) := by
            rw [← byte_xor_bits, byte_bits]
            rw [show ((2 ^ (8 * 3) : Nat) : Int) = 16777216 from rfl, Int.emod_eq_of_lt (by omega) (by omega)]
          rw [← hX] at R
          clear hX
          go_wp2
          exact ⟨⟨4, by omega, rfl, R, hbw.setCell (p := ⟨w1.heap.size, K + 3, none⟩) (Nat.le_refl _) _⟩, by simp [intOf]⟩
        · have hcv2 := hbf.convert (n := s.size + 4) (by rw [brst_length, M.seal_len, len_data])
          have hol : (brst (M.sealed s.data.toList) K y 4).length = s.size + 4 := by rw [brst_length, M.seal_len, len_data]
          have HO : Hid (openOut (ofL (brst (M.sealed s.data.toList) K y 4)) = (ByteArray.empty, 4)) := by
            have h1 : openOut (ofL (brst (M.sealed s.data.toList) K y 4)) = (ByteArray.empty, 4) := by
              unfold openOut
              rw [ofL_size, ofL_data, if_neg (by omega), if_neg]
              intro h3
              exact brst_seal s.data.toList _ K y (by rw [len_data]; exact hK) h0 h3.symm
            exact h1
          have hoz : (ofL (brst (M.sealed s.data.toList) K y 4)).size ≤ 140737488351232 := by rw [ofL_size]; omega
          clear hbf hol
          generalize ofL (brst (M.sealed s.data.toList) K y 4) = T at hcv2 HO hoz ⊢
          go_wp2_with fail
          refine (open_any T _ hoz).mono ?_
          rintro e w3 ⟨rfl, hb3⟩
          rw [HO.out]
          go_wp2_with fail
          refine (awake_any _).mono ?_
          rintro e w4 ⟨rfl, hb4⟩
          go_wp2
          go_ret
          have s1 := hb1.size
          have s2 := hbw.size
          have s3 := hb3.size
          exact ⟨rfl, ((hb1.trans (hbw.mono s1)).trans (hb3.mono (by omega))).trans (hb4.mono (by omega))⟩

set_option maxRecDepth 100000 in
theorem burst_lifted (os : Os) (started : os.Started) (H : Type) (enc : TypeId × Value → H) :
    ReturnsInHanded {} Try.checked os 8 .any (Rows.sumsBurstSpec.pre6 enc Try.prog Try.f8 Rows.sumsBurstRow.domain false) (Rows.sumsBurstSpec.post enc Try.prog Try.f8 false true false false) := by
  refine returnsInHanded_of_change (C := Try.checked) own started (by kernel_rfl) Try.func8
    (ChangeSpec.witness6 (enc := enc) (C := Try.checked) false ⟨#[], #[.string ByteArray.empty, .int .i64 0, .int .u32 0], []⟩ 8 (by kernel_rfl) (by kernel_rfl) (by kernel_rfl) (by kernel_rfl)) ?_
  intro W base args ds gs before hval0 hW hcnd _
  have hval : ∀ (j : Nat) t v, Try.f8.params[j]? = some t → args[j]? = some v → Value.okWide Try.prog W .any base t v := hval0
  have hW' := hW
  obtain ⟨p, q, hA0, hV, rfl, hfz, hnd⟩ := hW
  have hA : DataW.TrodAll enc Try.prog W 0 (fun _ => true) true Try.f8.params.toList args.toList ds p := hA0
  rw [Try.params8] at hA hval
  obtain ⟨v0, vs0, d0, ds0, p0, q0, hargs, rfl, rfl, h0, r0⟩ := trodAll_cons hA
  obtain ⟨v1, vs1, d1, ds1, p1, q1, rfl, rfl, rfl, h1, r1⟩ := trodAll_cons r0
  obtain ⟨v2, vs2, d2, ds2, p2, q2, rfl, rfl, rfl, h2, r2⟩ := trodAll_cons r1
  obtain ⟨rfl, rfl, rfl⟩ := trodAll_nil r2
  obtain rfl : args = #[v0, v1, v2] := by cases args; simp_all
  obtain ⟨rfl, rfl⟩ := trodVars_none hV
  obtain ⟨a0, rfl, rfl, rfl, w0⟩ := open_string Try.underlying9 (hval 0 9 v0 rfl rfl) h0
  obtain ⟨a1, rfl, rfl, rfl, w1⟩ := open_int Try.underlying3 (hval 1 3 v1 rfl rfl) h1
  obtain ⟨a2, rfl, rfl, rfl, w2⟩ := open_int Try.underlying22 (hval 2 22 v2 rfl rfl) h2
  clear hA0 hval0
  obtain ⟨x2, rfl⟩ := wf_u32 w2
  refine (burst_walk a0 a1 x2 W w0 (wf_i64 w1)).mono fun e W' ⟨he, bel⟩ => ?_
  subst he
  exact ⟨_, rfl, _, _, _, [], [], [], hW', trodAll_mk1 (shut_bool Try.underlying4 _), (trodAll_cons_mk (shut_string Try.underlying9 w0) (trodAll_cons_mk (shut_int Try.underlying3 w1) (trodAll_cons_mk (shut_int Try.underlying22 w2) trodAll_mk0))), rfl, bel.frame _, fun h => by cases h⟩

theorem burst_holds : Rows.SumsBurstSaid :=
  OpenClaim.holds_of_wide 8 Try.f8 rfl rfl rfl rfl rfl rfl rfl ⟨rfl, rfl, rfl, rfl, rfl⟩ rfl rfl rfl rfl rfl (by kernel_rfl) Try.func8 (by kernel_rfl)
    (of_decide_eq_true (by kernel_rfl)) (by unfold Func.isWrapper; first | (rw [if_pos (by decide +kernel)]; kernel_rfl) | (rw [if_neg (by decide +kernel)]; exact ⟨rfl, rfl⟩))
    (fun os started H enc _ => burst_lifted os started H enc)
#print axioms burst_holds

end Go.Proofs.Ytimnhccfmehdoaa
