/-
  The law of a message of whose bytes one is another one, walked.
-/
import Derived.Test.YtdnaacbfhjcjbaaBackW
import Derived.Test.YtdnaacbfhjcjbaaSF
namespace Go.Proofs.Ytdnaacbfhjcjbaa
open Go.RowKit
set_option linter.unusedVariables false

theorem place (n : Int) (m : Nat) (h0 : 0 < m) (hm : m ≤ 1000000) : ∃ K : Nat, K < m ∧ wrap64 ((IntKind.u64.wrap n).tmod (m : Int)) = (K : Int) := by
  have hw : 0 ≤ IntKind.u64.wrap n := by
    simp [IntKind.wrap, IntKind.bits, IntKind.signed]
    omega
  rw [Int.tmod_eq_emod_of_nonneg hw]
  have h1 := Int.emod_nonneg (IntKind.u64.wrap n) (show (m : Int) ≠ 0 by omega)
  have h2 := Int.emod_lt_of_pos (IntKind.u64.wrap n) (show (0 : Int) < (m : Int) by omega)
  generalize IntKind.u64.wrap n % (m : Int) = r at h1 h2 ⊢
  refine ⟨r.toNat, by omega, ?_⟩
  unfold wrap64
  omega
theorem byte_xor_bits (x z : UInt8) : bits .xor .u8 (x.toNat : Int) (z.toNat : Int) = ((x ^^^ z).toNat : Int) := by
  rw [u8_xor_nat _ _ x.toNat_lt z.toNat_lt, UInt8.toNat_xor]
theorem text_none (A : ByteArray) (h : A.size ≠ 0) : (A.toList == ([] : List UInt8)) = false ∧ A.toList.isEmpty = false := by
  have h2 : A.toList.length = A.size := by rw [ByteArray.toList_eq]; exact Array.length_toList
  cases hA : A.toList with
  | nil => rw [hA] at h2; exact absurd h2.symm h
  | cons a r => exact ⟨rfl, rfl⟩
set_option maxRecDepth 100000 in
set_option maxHeartbeats 400000 in
theorem byte_bad (k f t i : Int) (b : List UInt8) (n : Int) (y : UInt8) (w : World) (c : Int) (hc : c ≠ 0)
    (c1 : ∀ W, Calls Try.prog 7 #[.agg #[.int .i64 k, .int .i64 f, .int .i64 t, .int .i64 i, .string (ofL b)]] W fun e w' => e = .returned (.tuple #[.string (ofL []), .int .i64 c]) ∧ Below W.heap.size W w') :
    Calls Try.prog 6 #[.agg #[.int .i64 k, .int .i64 f, .int .i64 t, .int .i64 i, .string (ofL b)], .int .i64 n, .int .u8 (y.toNat : Int)] w fun e w' => e = .returned (.bool true) ∧ Below w.heap.size w w' := by
  have d1 : (c != 0) = true := by simpa using hc
  have d2 : (c == 0) = false := by simpa using hc
  have d3 : (c = 0) = False := by simpa using hc
  have HB0 := Hid_of (bel1 w (.cells #[.int .i64 k, .int .i64 f, .int .i64 t, .int .i64 i, .string (ofL b)] 23))
  have l0 : (ofL []).toList = [] := by rw [ByteArray.toList_eq]; rfl
  generalize ofL [] = E at *
  go_enter Try.func6, Try.ntmps6
  go_wp2_with fail
  refine (c1 _).mono ?_
  rintro x w1 ⟨rfl, hb1⟩
  have HB1 := Hid_of (bel_up HB0.out hb1 (Nat.le_refl _))
  clear c1 hb1 HB0
  go_wp2_with fail
  refine (awake_any _).mono ?_
  rintro x w2 ⟨rfl, hb2⟩
  have HB2 := Hid_of (bel_up HB1.out hb2 (Nat.le_refl _))
  clear hb2
  go_wp2
  go_ret
  exact ⟨rfl, HB2.out⟩
set_option maxRecDepth 100000 in
set_option maxHeartbeats 400000 in
theorem byte_zero (k f t i : Int) (b : List UInt8) (n : Int) (w : World) (A : ByteArray) (hA : A.size ≠ 0)
    (c1 : ∀ W, Calls Try.prog 7 #[.agg #[.int .i64 k, .int .i64 f, .int .i64 t, .int .i64 i, .string (ofL b)]] W fun e w' => e = .returned (.tuple #[.string A, .int .i64 0]) ∧ Below W.heap.size W w') :
    Calls Try.prog 6 #[.agg #[.int .i64 k, .int .i64 f, .int .i64 t, .int .i64 i, .string (ofL b)], .int .i64 n, .int .u8 0] w fun e w' => e = .returned (.bool true) ∧ Below w.heap.size w w' := by
  obtain ⟨l0, l1⟩ := text_none A hA
  have HB0 := Hid_of (bel1 w (.cells #[.int .i64 k, .int .i64 f, .int .i64 t, .int .i64 i, .string (ofL b)] 23))
  go_enter Try.func6, Try.ntmps6
  go_wp2_with fail
  refine (c1 _).mono ?_
  rintro x w1 ⟨rfl, hb1⟩
  have HB1 := Hid_of (bel_up HB0.out hb1 (Nat.le_refl _))
  clear c1 hb1 HB0
  go_wp2_with fail
  refine (awake_any _).mono ?_
  rintro x w2 ⟨rfl, hb2⟩
  have HB2 := Hid_of (bel_up HB1.out hb2 (Nat.le_refl _))
  clear hb2
  go_wp2
  go_ret
  exact ⟨rfl, HB2.out⟩
set_option maxRecDepth 100000 in
set_option maxHeartbeats 400000 in
theorem byte_one (k f t i : Int) (b : List UInt8) (n : Int) (y : UInt8) (hy : y ≠ 0) (w : World) (l : List UInt8) (hl : (K2.sealed l).length ≤ 1000000)
    (c1 : ∀ W, Calls Try.prog 7 #[.agg #[.int .i64 k, .int .i64 f, .int .i64 t, .int .i64 i, .string (ofL b)]] W fun e w' => e = .returned (.tuple #[.string (ofL (K2.sealed l)), .int .i64 0]) ∧ Below W.heap.size W w') :
    Calls Try.prog 6 #[.agg #[.int .i64 k, .int .i64 f, .int .i64 t, .int .i64 i, .string (ofL b)], .int .i64 n, .int .u8 (y.toNat : Int)] w fun e w' => e = .returned (.bool true) ∧ Below w.heap.size w w' := by
  have hsz := K2.seal_len l
  have hss : (ofL (K2.sealed l)).size = (K2.sealed l).length := ofL_size _
  obtain ⟨l0, l1⟩ := text_none (ofL (K2.sealed l)) (by omega)
  have hy0 : y.toNat ≠ 0 := fun h => hy (by apply UInt8.toNat_inj.1; simpa using h)
  have d1 : ((y.toNat : Int) == 0) = false := by simpa using hy0
  have d2 : ((y.toNat : Int) = 0) = False := by simpa using hy0
  have e1 := eq23 0 0 0 0 { data := #[] }
  obtain ⟨K, hK, HK⟩ := place n (K2.sealed l).length (by omega) hl
  obtain ⟨z, hz⟩ : ∃ z, (K2.sealed l)[K]? = some z := ⟨_, List.getElem?_eq_getElem hK⟩
  have hdc := Msg.byte_dcode l K z y hz hy
  have hdv := dval_no _ 4 hdc (by decide)
  have cD := fun W => decode_any (ofL ((K2.sealed l).set K (z ^^^ y))) W (by rw [ofL_size, List.length_set]; exact hl)
  rw [hdv] at cD
  have HB0 := Hid_of (bel1 w (.cells #[.int .i64 k, .int .i64 f, .int .i64 t, .int .i64 i, .string (ofL b)] 23))
  have HSD : Hid ((ofL (K2.sealed l)).data.toList = K2.sealed l) := ofL_data _
  have HL : Hid ((K2.sealed l).length ≤ 1000000) := hl
  have HKK := Hid_of hK
  have HZ := Hid_of hz
  have hlen : 0 < (K2.sealed l).length := by omega
  clear hdc hdv hy hy0 hsz hz
  generalize ofL (K2.sealed l) = S at *
  generalize K2.sealed l = q at *
  obtain ⟨m, hm⟩ : ∃ m, q.length = m := ⟨_, rfl⟩
  rw [hm] at HK hss hlen hl hK
  have HM := Hid_of hm
  have hwl : IntKind.u64.wrap (m : Int) = (m : Int) := by
    simp [IntKind.wrap, IntKind.bits, IntKind.signed]
    omega
  have hm0 : ((m : Int) = 0) = False := by simp; omega
  have hm1 : ((m : Int) == 0) = false := by simp; omega
  clear hm
  go_enter Try.func6, Try.ntmps6
  go_wp2_with fail
  refine (c1 _).mono ?_
  rintro x w1 ⟨rfl, hb1⟩
  have HB1 := Hid_of (bel_up HB0.out hb1 (Nat.le_refl _))
  clear c1 hb1 HB0
  obtain ⟨cap, w2, hcv, hbuf, hb2⟩ := buf_of_text S w1
  have HB2 := Hid_of (bel_up HB1.out hb2 (Nat.le_refl _))
  have HC1 : Hid (w.heap.size ≤ w1.heap.size) := HB1.out.size
  clear hb2 HB1
  rw [HSD.out] at hbuf
  rw [hss] at hcv
  have hcell : w2.cell? ⟨w1.heap.size, K, none⟩ = some (.int .u8 (z.toNat : Int)) := by
    have h1 := hbuf.cell K HKK.out
    have h2 : q[K]'HKK.out = z := by
      have := HZ.out
      rw [List.getElem?_eq_getElem HKK.out] at this
      simpa using this
    rw [h2] at h1
    exact h1
  have hfr := (hbuf.room K (Nat.lt_of_lt_of_le HKK.out hbuf.le)).2
  have HS := Hid_of (hbuf.set K HKK.out (z ^^^ y))
  have hX := byte_xor_bits z y
  have hcap := hbuf.le
  clear hbuf
  go_upto_region 6 with fail
  rw [HK]
  rw [← hX] at HS
  clear hX
  obtain ⟨W3, hW3⟩ : ∃ W, w2.setCell ⟨w1.heap.size, K, none⟩ (.int .u8 (bits .xor .u8 (z.toNat : Int) (y.toNat : Int))) = W := ⟨_, rfl⟩
  rw [hW3] at HS
  have HB3 := Hid_of (show Below w.heap.size w W3 by rw [← hW3]; exact HB2.out.setCell (p := ⟨w1.heap.size, K, none⟩) HC1.out _)
  have HW3 := Hid_of hW3
  clear hW3 HB2
  go_upto_region 7 with fail
  rw [HW3.out]
  have hcv2 := HS.out.convert (n := m) (by rw [List.length_set]; exact HM.out.symm)
  clear HW3 HS hcell hfr hcap hcv HK HC1 hwl hm0 hm1 hss HSD HZ HKK HL l0 l1 d1 d2 HM hK hl hlen
  generalize ofL (q.set K (z ^^^ y)) = T at *
  generalize w1.heap.size = g at *
  go_wp2_with fail
  refine (cD _).mono ?_
  rintro x w4 ⟨rfl, hb4⟩
  have HB4 := Hid_of (bel_up HB3.out hb4 (Nat.le_refl _))
  obtain ⟨W5, hW5⟩ : ∃ W, w4.alloc (.cells #[.int .i64 0, .int .i64 0, .int .i64 0, .int .i64 0, .string { data := #[] }] 23) = W := ⟨_, rfl⟩
  have HB5 := Hid_of (show Below w.heap.size w W5 by rw [← hW5]; exact bel_up HB4.out (bel1 w4 _) (Nat.le_refl _))
  have HN5 := Hid_of (show W5.heap[w4.heap.size]? = some (.cells #[.int .i64 0, .int .i64 0, .int .i64 0, .int .i64 0, .string { data := #[] }] 23 (0, 0)) by rw [← hW5]; exact heap_alloc_new w4 _)
  have HW5 := Hid_of hW5
  clear cD hb4 hW5 HB3 HB4 hcv2
  rw [ofL_nil]
  go_upto_region 8 with fail
  rw [HW5.out]
  clear HW5
  generalize w4.heap.size = n2 at *
  obtain ⟨⟨x0, x1, x2, x3, x4⟩, -⟩ := row5 HN5.out
  clear HN5
  go_wp2_with fail
  refine (awake_any _).mono ?_
  rintro x w6 ⟨rfl, hb6⟩
  have HB6 := Hid_of (bel_up HB5.out hb6 (Nat.le_refl _))
  clear hb6 HB5 x0 x1 x2 x3 x4
  go_wp2
  go_ret
  exact ⟨rfl, HB6.out⟩
theorem byte_walk (k f t i : Int) (b : List UInt8) (n : Int) (y : UInt8) (w : World) (hb : b.length ≤ maxLen) (hn : -9223372036854775808 ≤ n ∧ n ≤ 9223372036854775807) :
    Calls Try.prog 6 #[.agg #[.int .i64 k, .int .i64 f, .int .i64 t, .int .i64 i, .string (ofL b)], .int .i64 n, .int .u8 (y.toNat : Int)] w fun e w' => e = .returned (.bool true) ∧ Below w.heap.size w w' := by
  by_cases hc : Msg.chk k f t i b.length = 0
  · have hz := sealed_le k f t i b hc
    have hsl := K2.seal_len (Msg.bts k f t i b)
    by_cases hy : y = 0
    · subst hy
      exact byte_zero k f t i b n w (ofL (K2.sealed (Msg.bts k f t i b))) (by rw [ofL_size]; omega) (fun W => encode_ok k f t i b W hc)
    · exact byte_one k f t i b n y hy w (Msg.bts k f t i b) (by rw [ofL_size] at hz; exact hz) (fun W => encode_ok k f t i b W hc)
  · refine byte_bad k f t i b n y w _ hc fun W => ?_
    have := encode_any k f t i b W hb
    have he : Msg.ecode k f t i b = [] := by unfold Msg.ecode; rw [decide_eq_false hc]; rfl
    rwa [he] at this
end Go.Proofs.Ytdnaacbfhjcjbaa
