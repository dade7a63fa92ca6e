/-
  The document's writer: an int, a text, rows of ints and of texts, what is laid: each returns what the plain functions say, and writes nothing that was there.
-/
import Derived.Test.YtgcfpihfoekllaaH
import Derived.Laws.ResultCell
import Derived.Laws.ResultCell
namespace Go.Proofs.Ytgcfpihfoekllaa
open Go.RowKit
set_option linter.unusedVariables false

theorem and127b (x : Nat) (h : x < 18446744073709551616) : bits .and .u64 (x : Int) 127 = (x : Int) % 128 := by
  have h2 : bits .and .u64 (x : Int) 127 = ((x &&& 127 : Nat) : Int) := u64_and_nat x 127 h (by decide)
  rw [h2, Nat.and_two_pow_sub_one_eq_mod x 7]
  rfl
theorem byte_more2 (x : Nat) : bits .or .u8 ((x : Int) % 128) 128 = ((UInt8.ofNat (x % 128 + 128)).toNat : Int) := by
  have h := byte_more (x % 128)
  rw [show ((x % 128 : Nat) : Int) % 256 = (x : Int) % 128 by omega, show x % 128 % 128 = x % 128 by omega] at h
  exact h
theorem xor_flip (a b : Int) : bits .xor .u64 a b = bits .xor .u64 b a := by
  unfold bits
  simp only [BitVec.xor_comm]
theorem zz_neg2 (n : Int) (h0 : -9223372036854775808 ≤ n) (hneg : n < 0) : bits .xor .u64 (IntKind.u64.wrap (IntKind.u64.wrap n * 2)) 18446744073709551615 = ((M.zz n : Nat) : Int) := by
  rw [xor_flip]
  exact zz_neg n h0 hneg
theorem flat_le {α : Type} (e : α → List UInt8) (B : Nat) (l : List α) (h : ∀ x ∈ l, (e x).length ≤ B) : (l.flatMap e).length ≤ l.length * B := by
  induction l with
  | nil => simp
  | cons x l ih =>
    rw [List.flatMap_cons, List.length_append, List.length_cons, Nat.add_mul]
    have := h x (by simp)
    have := ih (fun y hy => h y (by simp [hy]))
    omega

set_option maxRecDepth 100000 in
set_option maxHeartbeats 1000000 in
theorem refInt_any (n : Int) (w : World) (hn : -9223372036854775808 ≤ n ∧ n ≤ 9223372036854775807) :
    Calls Try.prog 49 #[.int .i64 n] w fun x w' => x = .returned (.string (ofL (M.enc n))) ∧ Below w.heap.size w w' := by
  obtain ⟨i0, hi, hz0, hz1, hz2⟩ := info_parts Try.info5
  have hzl := M.zz_lt n hn
  have het := M.enc_ten n hn
  have HE : Hid (M.enc n = M.grp (M.zz n)) := rfl
  have hcase : n < 0 ∨ ∃ m : Nat, n = m := by
    by_cases h : n < 0
    · exact .inl h
    · obtain ⟨m, rfl⟩ := Int.eq_ofNat_of_zero_le (show 0 ≤ n by omega)
      exact .inr ⟨m, rfl⟩
  rcases hcase with hneg | ⟨m, rfl⟩
  · have hzz := zz_neg2 n hn.1 hneg
    have hd : decide (n < 0) = true := by simpa using hneg
    obtain ⟨z, hz⟩ : ∃ z, z = M.zz n := ⟨_, rfl⟩
    rw [← hz] at hzz hzl HE
    clear hz
    go_enter Try.func49, Try.ntmps49
    go_wp2
    clear hzz
    go_loopw [3, 4] (fun u v wr => ∃ (x : Nat) (pre : List UInt8), u = .int .u64 x ∧ x < 18446744073709551616 ∧ wr.ownsRow w.heap.size 5 1 v pre.length (vals pre) ∧ Below w.heap.size w wr ∧ Hid (pre ++ M.grp x = M.enc n)) (fun u _ _ => (intOf u).toNat)
    case atStart => exact ⟨z, [], rfl, hzl, World.ownsRow_nil _ _ _ _, Below.refl _ _, HE.out.symm⟩
    case round =>
      obtain ⟨x, pre, rfl, hx, hown, hbel, HP⟩ := hrel
      have hle := hbel.size
      have hpl : pre.length ≤ 10 := by
        have := congrArg List.length HP.out
        rw [List.length_append] at this
        omega
      by_cases hlt : 128 ≤ x
      · have hand := and127b x hx
        have HV : Hid (vals pre ++ [Value.int .u8 (bits BinOp.or IntKind.u8 ((x : Int) % 128) 128)] = vals (pre ++ [UInt8.ofNat (x % 128 + 128)])) := vals_snoc _ _ _ (byte_more2 x)
        have HP2 : Hid ((pre ++ [UInt8.ofNat (x % 128 + 128)]) ++ M.grp (x / 128) = M.enc n) := by
          show _ = _
          rw [← HP.out, M.grp_great x (by omega)]
          simp
        go_wp2_with (at_builtin; refine wpList_append_own _ rfl _ _ 77 rfl w.heap.size 5 i0 (.int .u8 0) 1 1 Try.underlying77 hi hz0 hz1 hz2 rfl (by decide) _ _ _ rfl (hown.alloc _) ⟨wr.heap.size, 0, none⟩ 1 1 [.int .u8 (bits BinOp.or IntKind.u8 ((x : Int) % 128) 128)] rfl rfl (cell_one_new _ _ _) (by simp; rfl) (by unfold maxLen; omega) (by omega) (by simp; omega) ?_; intro v' w2 hown2 hgrow hnil)
        rw [HV.out] at hown2
        have hb2 := (hbel.alloc hle _).grown hgrow (by simp; omega) (fun j hj => (hown.lt j hj).1)
        clear hown hgrow
        go_wp2
        go_roundw
        case rel => exact ⟨x / 128, pre ++ [UInt8.ofNat (x % 128 + 128)], by first | rfl | go_num, by omega, by rw [List.length_append]; exact hown2, hb2, HP2⟩
        case measure => simp [intOf]; omega
      · have HV : Hid (vals pre ++ [Value.int .u8 (x : Int)] = vals (pre ++ [UInt8.ofNat x])) := vals_snoc _ _ _ (byte_last x (by omega)).symm
        have HP2 : Hid (pre ++ [UInt8.ofNat x] = M.enc n) := by
          show _ = _
          rw [← HP.out, M.grp_small x (by omega)]
        go_wp2_with (at_builtin; refine wpList_append_own _ rfl _ _ 77 rfl w.heap.size 5 i0 (.int .u8 0) 1 1 Try.underlying77 hi hz0 hz1 hz2 rfl (by decide) _ _ _ rfl (hown.alloc _) ⟨wr.heap.size, 0, none⟩ 1 1 [.int .u8 (x : Int)] rfl rfl (cell_one_new _ _ _) (by simp; rfl) (by unfold maxLen; omega) (by omega) (by simp; omega) ?_; intro v' w2 hown2 hgrow hnil; rw [HV.out] at hown2; have hcv := owns_convert hown2 (by simp); rw [HP2.out] at hcv; have hb2 := (hbel.alloc hle _).grown hgrow (by simp; omega) (fun j hj => (hown.lt j hj).1); clear hown hgrow)
        go_ret
        exact ⟨rfl, hb2⟩
  · have hzz := (zz_pos m).symm
    obtain ⟨n, hnm⟩ : ∃ n : Int, n = m := ⟨_, rfl⟩
    obtain ⟨z, hz⟩ : ∃ z, z = M.zz m := ⟨_, rfl⟩
    rw [← hz] at hzz hzl HE
    clear hz
    have HNM : Hid ((m : Int) = n) := hnm.symm
    rw [HNM.out]
    rw [← hnm] at het HE
    have hnn : (0 : Int) ≤ n := by omega
    have hd : decide (n < 0) = false := by simp; omega
    rw [← hnm] at hzz hn
    clear hnm
    go_enter Try.func49, Try.ntmps49
    go_wp2
    clear hzz
    go_loopw [3, 4] (fun u v wr => ∃ (x : Nat) (pre : List UInt8), u = .int .u64 x ∧ x < 18446744073709551616 ∧ wr.ownsRow w.heap.size 5 1 v pre.length (vals pre) ∧ Below w.heap.size w wr ∧ Hid (pre ++ M.grp x = M.enc n)) (fun u _ _ => (intOf u).toNat)
    case atStart => exact ⟨z, [], rfl, hzl, World.ownsRow_nil _ _ _ _, Below.refl _ _, HE.out.symm⟩
    case round =>
      obtain ⟨x, pre, rfl, hx, hown, hbel, HP⟩ := hrel
      have hle := hbel.size
      have hpl : pre.length ≤ 10 := by
        have := congrArg List.length HP.out
        rw [List.length_append] at this
        omega
      by_cases hlt : 128 ≤ x
      · have hand := and127b x hx
        have HV : Hid (vals pre ++ [Value.int .u8 (bits BinOp.or IntKind.u8 ((x : Int) % 128) 128)] = vals (pre ++ [UInt8.ofNat (x % 128 + 128)])) := vals_snoc _ _ _ (byte_more2 x)
        have HP2 : Hid ((pre ++ [UInt8.ofNat (x % 128 + 128)]) ++ M.grp (x / 128) = M.enc n) := by
          show _ = _
          rw [← HP.out, M.grp_great x (by omega)]
          simp
        go_wp2_with (at_builtin; refine wpList_append_own _ rfl _ _ 77 rfl w.heap.size 5 i0 (.int .u8 0) 1 1 Try.underlying77 hi hz0 hz1 hz2 rfl (by decide) _ _ _ rfl (hown.alloc _) ⟨wr.heap.size, 0, none⟩ 1 1 [.int .u8 (bits BinOp.or IntKind.u8 ((x : Int) % 128) 128)] rfl rfl (cell_one_new _ _ _) (by simp; rfl) (by unfold maxLen; omega) (by omega) (by simp; omega) ?_; intro v' w2 hown2 hgrow hnil)
        rw [HV.out] at hown2
        have hb2 := (hbel.alloc hle _).grown hgrow (by simp; omega) (fun j hj => (hown.lt j hj).1)
        clear hown hgrow
        go_wp2
        go_roundw
        case rel => exact ⟨x / 128, pre ++ [UInt8.ofNat (x % 128 + 128)], by first | rfl | go_num, by omega, by rw [List.length_append]; exact hown2, hb2, HP2⟩
        case measure => simp [intOf]; omega
      · have HV : Hid (vals pre ++ [Value.int .u8 (x : Int)] = vals (pre ++ [UInt8.ofNat x])) := vals_snoc _ _ _ (byte_last x (by omega)).symm
        have HP2 : Hid (pre ++ [UInt8.ofNat x] = M.enc n) := by
          show _ = _
          rw [← HP.out, M.grp_small x (by omega)]
        go_wp2_with (at_builtin; refine wpList_append_own _ rfl _ _ 77 rfl w.heap.size 5 i0 (.int .u8 0) 1 1 Try.underlying77 hi hz0 hz1 hz2 rfl (by decide) _ _ _ rfl (hown.alloc _) ⟨wr.heap.size, 0, none⟩ 1 1 [.int .u8 (x : Int)] rfl rfl (cell_one_new _ _ _) (by simp; rfl) (by unfold maxLen; omega) (by omega) (by simp; omega) ?_; intro v' w2 hown2 hgrow hnil; rw [HV.out] at hown2; have hcv := owns_convert hown2 (by simp); rw [HP2.out] at hcv; have hb2 := (hbel.alloc hle _).grown hgrow (by simp; omega) (fun j hj => (hown.lt j hj).1); clear hown hgrow)
        go_ret
        exact ⟨rfl, hb2⟩

set_option maxRecDepth 100000 in
set_option maxHeartbeats 1000000 in
theorem refInts_any (sa : Option Addr) (scap : Nat) (l : List Int) (w : World) (hs : At w sa (Value.int .i64) l) (hl : l.length ≤ 300) (hb : ∀ n ∈ l, -9223372036854775808 ≤ n ∧ n ≤ 9223372036854775807) :
    Calls Try.prog 50 #[.slice sa l.length scap] w fun x w' => x = .returned (.string (ofL (M.encIs l))) ∧ Below w.heap.size w w' := by
  have HZ : Hid (M.enc l.length = M.enc l.length ++ (l.take 0).flatMap M.enc) := by
    show _ = _
    rw [List.take_zero]; simp
  have HEN : Hid (∀ k, l.length ≤ k → M.enc l.length ++ (l.take k).flatMap M.enc = M.encIs l) := by
    intro k hk
    rw [List.take_of_length_le hk]; rfl
  have HSN : Hid (∀ k (h : k < l.length), (M.enc l.length ++ (l.take k).flatMap M.enc) ++ M.enc l[k] = M.enc l.length ++ (l.take (k + 1)).flatMap M.enc) := by
    intro k h
    rw [M.take_snoc l k h, List.flatMap_append, List.append_assoc]
    simp
  have HSZ : Hid (∀ k, (M.enc l.length ++ (l.take k).flatMap M.enc).length ≤ 10 + 300 * 70100) := by
    intro k
    rw [List.length_append]
    have h1 := M.enc_ten l.length (by omega)
    have h2 := flat_le M.enc 70100 (l.take k) (fun x hx => Nat.le_trans (M.enc_ten x (hb x (List.mem_of_mem_take hx))) (by decide))
    rw [List.length_take] at h2
    have h3 : min k l.length * 70100 ≤ 300 * 70100 := Nat.mul_le_mul_right _ (by omega)
    omega
  go_enter Try.func50, Try.ntmps50
  go_wp2_with fail
  refine (refInt_any l.length w (by omega)).mono ?_
  rintro x w1 ⟨rfl, hb1⟩
  go_wp2
  go_loopw [3, 4] (fun v i wr => ∃ k : Nat, k ≤ l.length ∧ i = .int .i64 k ∧ v = .string (ofL (M.enc l.length ++ (l.take k).flatMap M.enc)) ∧ Below w.heap.size w wr) (fun _ i _ => l.length - (intOf i).toNat)
  case atStart => exact ⟨0, Nat.zero_le _, rfl, by rw [← HZ.out], hb1⟩
  case round =>
    obtain ⟨k, hk, rfl, rfl, hbel⟩ := hrel
    clear hb1
    by_cases hlt : k < l.length
    · obtain ⟨bb, off, rfl, hc⟩ := (hs.keep hbel) k hlt
      have hx0 := hb l[k] (List.getElem_mem hlt)
      have hSN := HSN.out k hlt
      have hSZ := HSZ.out k
      have hSZ2 := HSZ.out (k + 1)
      rw [← hSN, List.length_append] at hSZ2
      generalize hx : l[k] = x0 at *
      generalize hpre : M.enc l.length ++ (l.take k).flatMap M.enc = pre at *
      have HS2 : Hid (pre ++ M.enc x0 = M.enc l.length ++ (l.take (k + 1)).flatMap M.enc) := hSN
      have hs1 := ofL_size pre
      have hs2 := ofL_size (M.enc x0)
      have happ := ofL_app pre (M.enc x0)
      clear hx hpre hSN
      go_wp2_with fail
      refine (refInt_any x0 wr hx0).mono ?_
      rintro x w2 ⟨rfl, hb2⟩
      go_wp2
      go_roundw
      case rel => exact ⟨k + 1, by omega, by go_num, by rw [HS2.out], hbel.trans (hb2.mono hbel.size)⟩
      case measure => simp [intOf]; omega
    · rw [HEN.out k (by omega)]
      go_wp2
      go_ret
      exact ⟨rfl, hbel⟩

end Go.Proofs.Ytgcfpihfoekllaa
