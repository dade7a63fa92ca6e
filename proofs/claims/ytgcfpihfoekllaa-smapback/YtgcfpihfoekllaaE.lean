/-
  The bytes of an int, by the program's writer and by the document's; the writer's calls for a byte and a text.
-/
import Derived.Test.YtgcfpihfoekllaaD
namespace Go.Proofs.Ytgcfpihfoekllaa
open Go.RowKit
set_option linter.unusedVariables false

theorem zz_pos (m : Nat) : ((M.zz m : Nat) : Int) = (m : Int) * 2 := by unfold M.zz; rw [if_neg (by omega)]; omega
theorem zz_neg (n : Int) (h0 : -9223372036854775808 ≤ n) (hneg : n < 0) : bits .xor .u64 IntKind.u64.max (IntKind.u64.wrap (IntKind.u64.wrap n * 2)) = ((M.zz n : Nat) : Int) := by
  rw [Lib.zigzag_neg h0 hneg]
  unfold Lib.zigzag M.zz
  rw [if_neg (by omega), if_pos hneg]

set_option maxRecDepth 100000 in
theorem or_all : ∀ a : Fin 256, (a.val ||| 128) = a.val % 128 + 128 := by decide
theorem byte_more (x : Nat) : bits .or .u8 ((x : Int) % 256) 128 = ((UInt8.ofNat (x % 128 + 128)).toNat : Int) := by
  have h1 : ((x : Int) % 256) = ((x % 256 : Nat) : Int) := by omega
  have h2 : bits .or .u8 ((x % 256 : Nat) : Int) 128 = ((x % 256 ||| 128 : Nat) : Int) := u8_or_nat (x % 256) 128 (by omega) (by decide)
  have h4 : (x % 256 ||| 128) = x % 128 + 128 := by
    have := or_all ⟨x % 256, by omega⟩
    simp only at this
    rw [this]
    omega
  rw [h1, h2, h4]
  have h5 : (UInt8.ofNat (x % 128 + 128)).toNat = x % 128 + 128 := by simp; omega
  rw [h5]
theorem byte_last (x : Nat) (h : x < 128) : ((UInt8.ofNat x).toNat : Int) = (x : Int) := by
  have h5 : (UInt8.ofNat x).toNat = x := by simp; omega
  rw [h5]
theorem vals_snoc (l : List UInt8) (c : UInt8) (X : Int) (hX : X = (c.toNat : Int)) : vals l ++ [Value.int .u8 X] = vals (l ++ [c]) := by subst hX; simp [vals]

set_option maxRecDepth 100000 in
set_option maxHeartbeats 1000000 in
theorem wint_via (n : Int) (p : Value) (w : World) (hn : -9223372036854775808 ≤ n ∧ n ≤ 9223372036854775807) (Q : World → Prop)
    (h : ∀ w1, Below w.heap.size w w1 → Calls Try.prog 71 #[p, .string (ofL (M.enc n))] w1 fun x w' => x = .returned (.tuple #[]) ∧ Q w') :
    Calls Try.prog 46 #[p, .int .i64 n] w fun x w' => x = .returned (.tuple #[]) ∧ Q w' := by
  obtain ⟨i0, hi, hz0, hz1, hz2⟩ := info_parts Try.info5
  have hzl := M.zz_lt n hn
  have het := M.enc_ten n hn
  have HE : Hid (M.enc n = M.grp (M.zz n)) := rfl
  have hcase : n < 0 ∨ ∃ m : Nat, n = m := by
    by_cases h : n < 0
    · exact .inl h
    · obtain ⟨m, rfl⟩ := Int.eq_ofNat_of_zero_le (show 0 ≤ n by omega)
      exact .inr ⟨m, rfl⟩
  have hsg : IntKind.u64.signed = false := rfl
  rcases hcase with hneg | ⟨m, rfl⟩
  · have hzz := zz_neg n hn.1 hneg
    have hd : decide (n < 0) = true := by simpa using hneg
    obtain ⟨z, hz⟩ : ∃ z, z = M.zz n := ⟨_, rfl⟩
    rw [← hz] at hzz hzl HE
    clear hz
    go_enter Try.func46, Try.ntmps46
    go_wp2_with (at_make; refine wpList_make_own _ rfl _ _ 77 rfl w.heap.size 5 i0 (.int .u8 0) 1 Try.underlying77 hi hz0 hz1 .i64 .i64 _ 10 rfl rfl rfl (by rw [hz2]; omega) (by unfold maxLen; omega) (Nat.le_refl _) ?_; intro w1 hown1 hg1)
    clear hzz
    go_loopw [4, 5] (fun u v wr => ∃ (x : Nat) (pre : List UInt8), u = .int .u64 x ∧ x < 18446744073709551616 ∧ wr.ownsRow w.heap.size 5 1 v pre.length (vals pre) ∧ Below w.heap.size w wr ∧ Hid (pre ++ M.grp x = M.enc n)) (fun u _ _ => (intOf u).toNat)
    case atStart => exact ⟨z, [], rfl, hzl, hown1, (Below.refl _ _).grown hg1 (Nat.le_refl _) (by simp), HE.out.symm⟩
    case round =>
      obtain ⟨x, pre, rfl, hx, hown, hbel, HP⟩ := hrel
      clear hown1 hg1
      have hle := hbel.size
      have hpl : pre.length ≤ 10 := by
        have := congrArg List.length HP.out
        rw [List.length_append] at this
        omega
      by_cases hlt : 128 ≤ x
      · have HV : Hid (vals pre ++ [Value.int .u8 (bits BinOp.or IntKind.u8 ((x : Int) % 256) 128)] = vals (pre ++ [UInt8.ofNat (x % 128 + 128)])) := vals_snoc _ _ _ (byte_more x)
        have HP2 : Hid ((pre ++ [UInt8.ofNat (x % 128 + 128)]) ++ M.grp (x / 128) = M.enc n) := by
          show _ = _
          rw [← HP.out, M.grp_great x (by omega)]
          simp
        go_wp2_with (at_builtin; refine wpList_append_own _ rfl _ _ 77 rfl w.heap.size 5 i0 (.int .u8 0) 1 1 Try.underlying77 hi hz0 hz1 hz2 rfl (by decide) _ _ _ rfl (hown.alloc _) ⟨wr.heap.size, 0, none⟩ 1 1 [.int .u8 (bits BinOp.or IntKind.u8 ((x : Int) % 256) 128)] rfl rfl (cell_one_new _ _ _) (by simp; rfl) (by unfold maxLen; omega) (by omega) (by simp; omega) ?_; intro v' w2 hown2 hgrow hnil)
        rw [HV.out] at hown2
        have hb2 := (hbel.alloc hle _).grown hgrow (by simp; omega) (fun j hj => (hown.lt j hj).1)
        clear hown hgrow
        go_wp2
        go_roundw
        case rel => exact ⟨x / 128, pre ++ [UInt8.ofNat (x % 128 + 128)], by first | rfl | go_num, by omega, by rw [List.length_append]; exact hown2, hb2, HP2⟩
        case measure => simp [intOf]; omega
      · have HV : Hid (vals pre ++ [Value.int .u8 (x : Int)] = vals (pre ++ [UInt8.ofNat x])) := vals_snoc _ _ _ (byte_last x (by omega)).symm
        have HP2 : Hid (pre ++ [UInt8.ofNat x] = M.enc n) := by
          show _ = _
          rw [← HP.out, M.grp_small x (by omega)]
        go_wp2_with (at_builtin; refine wpList_append_own _ rfl _ _ 77 rfl w.heap.size 5 i0 (.int .u8 0) 1 1 Try.underlying77 hi hz0 hz1 hz2 rfl (by decide) _ _ _ rfl (hown.alloc _) ⟨wr.heap.size, 0, none⟩ 1 1 [.int .u8 (x : Int)] rfl rfl (cell_one_new _ _ _) (by simp; rfl) (by unfold maxLen; omega) (by omega) (by simp; omega) ?_; intro v' w2 hown2 hgrow hnil; rw [HV.out] at hown2; have hcv := owns_convert hown2 (by simp); rw [HP2.out] at hcv; have hb2 := (hbel.alloc hle _).grown hgrow (by simp; omega) (fun j hj => (hown.lt j hj).1); clear hown hgrow)
        refine (h w2 hb2).mono ?_
        rintro y w3 ⟨rfl, hq⟩
        go_wp2
        go_end0
        exact ⟨rfl, hq⟩
  · have hzz := (zz_pos m).symm
    obtain ⟨n, hnm⟩ : ∃ n : Int, n = m := ⟨_, rfl⟩
    obtain ⟨z, hz⟩ : ∃ z, z = M.zz m := ⟨_, rfl⟩
    rw [← hz] at hzz hzl HE
    clear hz
    have HNM : Hid (n = m) := hnm
    rw [← hnm] at het HE h
    clear hnm
    go_enter Try.func46, Try.ntmps46
    go_wp2_with (at_make; refine wpList_make_own _ rfl _ _ 77 rfl w.heap.size 5 i0 (.int .u8 0) 1 Try.underlying77 hi hz0 hz1 .i64 .i64 _ 10 rfl rfl rfl (by rw [hz2]; omega) (by unfold maxLen; omega) (Nat.le_refl _) ?_; intro w1 hown1 hg1)
    clear hzz
    go_loopw [4, 5] (fun u v wr => ∃ (x : Nat) (pre : List UInt8), u = .int .u64 x ∧ x < 18446744073709551616 ∧ wr.ownsRow w.heap.size 5 1 v pre.length (vals pre) ∧ Below w.heap.size w wr ∧ Hid (pre ++ M.grp x = M.enc n)) (fun u _ _ => (intOf u).toNat)
    case atStart => exact ⟨z, [], rfl, hzl, hown1, (Below.refl _ _).grown hg1 (Nat.le_refl _) (by simp), HE.out.symm⟩
    case round =>
      obtain ⟨x, pre, rfl, hx, hown, hbel, HP⟩ := hrel
      clear hown1 hg1
      have hle := hbel.size
      have hpl : pre.length ≤ 10 := by
        have := congrArg List.length HP.out
        rw [List.length_append] at this
        omega
      by_cases hlt : 128 ≤ x
      · have HV : Hid (vals pre ++ [Value.int .u8 (bits BinOp.or IntKind.u8 ((x : Int) % 256) 128)] = vals (pre ++ [UInt8.ofNat (x % 128 + 128)])) := vals_snoc _ _ _ (byte_more x)
        have HP2 : Hid ((pre ++ [UInt8.ofNat (x % 128 + 128)]) ++ M.grp (x / 128) = M.enc n) := by
          show _ = _
          rw [← HP.out, M.grp_great x (by omega)]
          simp
        go_wp2_with (at_builtin; refine wpList_append_own _ rfl _ _ 77 rfl w.heap.size 5 i0 (.int .u8 0) 1 1 Try.underlying77 hi hz0 hz1 hz2 rfl (by decide) _ _ _ rfl (hown.alloc _) ⟨wr.heap.size, 0, none⟩ 1 1 [.int .u8 (bits BinOp.or IntKind.u8 ((x : Int) % 256) 128)] rfl rfl (cell_one_new _ _ _) (by simp; rfl) (by unfold maxLen; omega) (by omega) (by simp; omega) ?_; intro v' w2 hown2 hgrow hnil)
        rw [HV.out] at hown2
        have hb2 := (hbel.alloc hle _).grown hgrow (by simp; omega) (fun j hj => (hown.lt j hj).1)
        clear hown hgrow
        go_wp2
        go_roundw
        case rel => exact ⟨x / 128, pre ++ [UInt8.ofNat (x % 128 + 128)], by first | rfl | go_num, by omega, by rw [List.length_append]; exact hown2, hb2, HP2⟩
        case measure => simp [intOf]; omega
      · have HV : Hid (vals pre ++ [Value.int .u8 (x : Int)] = vals (pre ++ [UInt8.ofNat x])) := vals_snoc _ _ _ (byte_last x (by omega)).symm
        have HP2 : Hid (pre ++ [UInt8.ofNat x] = M.enc n) := by
          show _ = _
          rw [← HP.out, M.grp_small x (by omega)]
        go_wp2_with (at_builtin; refine wpList_append_own _ rfl _ _ 77 rfl w.heap.size 5 i0 (.int .u8 0) 1 1 Try.underlying77 hi hz0 hz1 hz2 rfl (by decide) _ _ _ rfl (hown.alloc _) ⟨wr.heap.size, 0, none⟩ 1 1 [.int .u8 (x : Int)] rfl rfl (cell_one_new _ _ _) (by simp; rfl) (by unfold maxLen; omega) (by omega) (by simp; omega) ?_; intro v' w2 hown2 hgrow hnil; rw [HV.out] at hown2; have hcv := owns_convert hown2 (by simp); rw [HP2.out] at hcv; have hb2 := (hbel.alloc hle _).grown hgrow (by simp; omega) (fun j hj => (hown.lt j hj).1); clear hown hgrow)
        refine (h w2 hb2).mono ?_
        rintro y w3 ⟨rfl, hq⟩
        go_wp2
        go_end0
        exact ⟨rfl, hq⟩

end Go.Proofs.Ytgcfpihfoekllaa
