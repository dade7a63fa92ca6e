/-
  The bytes of an int, by the program's writer and by the document's; the writer's calls for a byte and a text.
  The writer's calls: an int, a byte, a text, rows of ints and of texts, a new writer, Done; and the writer that is none.
  Records as values; a ballot laid; zeros behind a text.
-/
import Derived.Test.YtlnedgjikkhplaaGreatGN26
import Derived.Test.YtlnedgjikkhplaaGreatGN24
import Derived.Test.YtlnedgjikkhplaaGreatGN20
section
namespace Go.Proofs.YtlnedgjikkhplaaGreat.Nc
open Go.RowKit
set_option linter.unusedVariables false

theorem zz_pos (m : Nat) : ((M.zz m : Nat) : Int) = (m : Int) * 2 := by unfold M.zz; rw [if_neg (by omega)]; omega
theorem zz_neg (n : Int) (h0 : -9223372036854775808 ≤ n) (hneg : n < 0) : bits .xor .u64 IntKind.u64.max (IntKind.u64.wrap (IntKind.u64.wrap n * 2)) = ((M.zz n : Nat) : Int) := by
  rw [Lib.zigzag_neg h0 hneg]
  unfold Lib.zigzag M.zz
  rw [if_neg (by omega), if_pos hneg]

set_option maxRecDepth 100000 in
theorem or_all : ∀ a : Fin 256, (a.val ||| 128) = a.val % 128 + 128 := by decide
theorem byte_more (x : Nat) : bits .or .u8 ((x : Int) % 256) 128 = ((UInt8.ofNat (x % 128 + 128)).toNat : Int) := by
  have h1 : ((x : Int) % 256) = ((x % 256 : Nat) : Int) := by omega
  have h2 : bits .or .u8 ((x % 256 : Nat) : Int) 128 = ((x % 256 ||| 128 : Nat) : Int) := u8_or_nat (x % 256) 128 (by omega) (by decide)
  have h4 : (x % 256 ||| 128) = x % 128 + 128 := by
    have := or_all ⟨x % 256, by omega⟩
    simp only at this
    rw [this]
    omega
  rw [h1, h2, h4]
  have h5 : (UInt8.ofNat (x % 128 + 128)).toNat = x % 128 + 128 := by simp; omega
  rw [h5]
theorem byte_last (x : Nat) (h : x < 128) : ((UInt8.ofNat x).toNat : Int) = (x : Int) := by
  have h5 : (UInt8.ofNat x).toNat = x := by simp; omega
  rw [h5]
theorem vals_snoc (l : List UInt8) (c : UInt8) (X : Int) (hX : X = (c.toNat : Int)) : vals l ++ [Value.int .u8 X] = vals (l ++ [c]) := by subst hX; simp [vals]

set_option maxRecDepth 100000 in
set_option maxHeartbeats 1000000 in
theorem wint_via (n : Int) (p : Value) (w : World) (hn : -9223372036854775808 ≤ n ∧ n ≤ 9223372036854775807) (Q : World → Prop)
    (h : ∀ w1, Below w.heap.size w w1 → Calls Tryz.prog 178 #[p, .string (ofL (M.enc n))] w1 fun x w' => x = .returned (.tuple #[]) ∧ Q w') :
    Calls Tryz.prog 177 #[p, .int .i64 n] w fun x w' => x = .returned (.tuple #[]) ∧ Q w' := by
  obtain ⟨i0, hi, hz0, hz1, hz2⟩ := info_parts Tryz.info5
  have hzl := M.zz_lt n hn
  have het := M.enc_ten n hn
  have HE : Hid (M.enc n = M.grp (M.zz n)) := rfl
  have hcase : n < 0 ∨ ∃ m : Nat, n = m := by
    by_cases h : n < 0
    · exact .inl h
    · obtain ⟨m, rfl⟩ := Int.eq_ofNat_of_zero_le (show 0 ≤ n by omega)
      exact .inr ⟨m, rfl⟩
  have hsg : IntKind.u64.signed = false := rfl
  rcases hcase with hneg | ⟨m, rfl⟩
  · have hzz := zz_neg n hn.1 hneg
    have hd : decide (n < 0) = true := by simpa using hneg
    obtain ⟨z, hz⟩ : ∃ z, z = M.zz n := ⟨_, rfl⟩
    rw [← hz] at hzz hzl HE
    clear hz
    go_enter Tryz.func177, Tryz.ntmps177
    go_wp2_with (at_make; refine wpList_make_own _ rfl _ _ 138 rfl w.heap.size 5 i0 (.int .u8 0) 1 Tryz.underlying138 hi hz0 hz1 .i64 .i64 _ 10 rfl rfl rfl (by rw [hz2]; omega) (by unfold maxLen; omega) (Nat.le_refl _) ?_; intro w1 hown1 hg1)
    clear hzz
    go_loopw [4, 5] (fun u v wr => ∃ (x : Nat) (pre : List UInt8), u = .int .u64 x ∧ x < 18446744073709551616 ∧ wr.ownsRow w.heap.size 5 1 v pre.length (vals pre) ∧ Below w.heap.size w wr ∧ Hid (pre ++ M.grp x = M.enc n)) (fun u _ _ => (intOf u).toNat)
    case atStart => exact ⟨z, [], rfl, hzl, hown1, (Below.refl _ _).grown hg1 (Nat.le_refl _) (by simp), HE.out.symm⟩
    case round =>
      obtain ⟨x, pre, rfl, hx, hown, hbel, HP⟩ := hrel
      clear hown1 hg1
      have hle := hbel.size
      have hpl : pre.length ≤ 10 := by
        have := congrArg List.length HP.out
        rw [List.length_append] at this
        omega
      by_cases hlt : 128 ≤ x
      · have HV : Hid (vals pre ++ [Value.int .u8 (bits BinOp.or IntKind.u8 ((x : Int) % 256) 128)] = vals (pre ++ [UInt8.ofNat (x % 128 + 128)])) := vals_snoc _ _ _ (byte_more x)
        have HP2 : Hid ((pre ++ [UInt8.ofNat (x % 128 + 128)]) ++ M.grp (x / 128) = M.enc n) := by
          show _ = _
          rw [← HP.out, M.grp_great x (by omega)]
          simp
        go_wp2_with (at_builtin; refine wpList_append_own _ rfl _ _ 138 rfl w.heap.size 5 i0 (.int .u8 0) 1 1 Tryz.underlying138 hi hz0 hz1 hz2 rfl (by decide) _ _ _ rfl (hown.alloc _) ⟨wr.heap.size, 0, none⟩ 1 1 [.int .u8 (bits BinOp.or IntKind.u8 ((x : Int) % 256) 128)] rfl rfl (cell_one_new _ _ _) (by simp; rfl) (by unfold maxLen; omega) (by omega) (by simp; omega) ?_; intro v' w2 hown2 hgrow hnil)
        rw [HV.out] at hown2
        have hb2 := (hbel.alloc hle _).grown hgrow (by simp; omega) (fun j hj => (hown.lt j hj).1)
        clear hown hgrow
        go_wp2
        go_roundw
        case rel => exact ⟨x / 128, pre ++ [UInt8.ofNat (x % 128 + 128)], by first | rfl | go_num, by omega, by rw [List.length_append]; exact hown2, hb2, HP2⟩
        case measure => simp [intOf]; omega
      · have HV : Hid (vals pre ++ [Value.int .u8 (x : Int)] = vals (pre ++ [UInt8.ofNat x])) := vals_snoc _ _ _ (byte_last x (by omega)).symm
        have HP2 : Hid (pre ++ [UInt8.ofNat x] = M.enc n) := by
          show _ = _
          rw [← HP.out, M.grp_small x (by omega)]
        go_wp2_with (at_builtin; refine wpList_append_own _ rfl _ _ 138 rfl w.heap.size 5 i0 (.int .u8 0) 1 1 Tryz.underlying138 hi hz0 hz1 hz2 rfl (by decide) _ _ _ rfl (hown.alloc _) ⟨wr.heap.size, 0, none⟩ 1 1 [.int .u8 (x : Int)] rfl rfl (cell_one_new _ _ _) (by simp; rfl) (by unfold maxLen; omega) (by omega) (by simp; omega) ?_; intro v' w2 hown2 hgrow hnil; rw [HV.out] at hown2; have hcv := owns_convert hown2 (by simp); rw [HP2.out] at hcv; have hb2 := (hbel.alloc hle _).grown hgrow (by simp; omega) (fun j hj => (hown.lt j hj).1); clear hown hgrow)
        refine (h w2 hb2).mono ?_
        rintro y w3 ⟨rfl, hq⟩
        go_wp2
        go_end0
        exact ⟨rfl, hq⟩
  · have hzz := (zz_pos m).symm
    obtain ⟨n, hnm⟩ : ∃ n : Int, n = m := ⟨_, rfl⟩
    obtain ⟨z, hz⟩ : ∃ z, z = M.zz m := ⟨_, rfl⟩
    rw [← hz] at hzz hzl HE
    clear hz
    have HNM : Hid (n = m) := hnm
    rw [← hnm] at het HE h
    clear hnm
    go_enter Tryz.func177, Tryz.ntmps177
    go_wp2_with (at_make; refine wpList_make_own _ rfl _ _ 138 rfl w.heap.size 5 i0 (.int .u8 0) 1 Tryz.underlying138 hi hz0 hz1 .i64 .i64 _ 10 rfl rfl rfl (by rw [hz2]; omega) (by unfold maxLen; omega) (Nat.le_refl _) ?_; intro w1 hown1 hg1)
    clear hzz
    go_loopw [4, 5] (fun u v wr => ∃ (x : Nat) (pre : List UInt8), u = .int .u64 x ∧ x < 18446744073709551616 ∧ wr.ownsRow w.heap.size 5 1 v pre.length (vals pre) ∧ Below w.heap.size w wr ∧ Hid (pre ++ M.grp x = M.enc n)) (fun u _ _ => (intOf u).toNat)
    case atStart => exact ⟨z, [], rfl, hzl, hown1, (Below.refl _ _).grown hg1 (Nat.le_refl _) (by simp), HE.out.symm⟩
    case round =>
      obtain ⟨x, pre, rfl, hx, hown, hbel, HP⟩ := hrel
      clear hown1 hg1
      have hle := hbel.size
      have hpl : pre.length ≤ 10 := by
        have := congrArg List.length HP.out
        rw [List.length_append] at this
        omega
      by_cases hlt : 128 ≤ x
      · have HV : Hid (vals pre ++ [Value.int .u8 (bits BinOp.or IntKind.u8 ((x : Int) % 256) 128)] = vals (pre ++ [UInt8.ofNat (x % 128 + 128)])) := vals_snoc _ _ _ (byte_more x)
        have HP2 : Hid ((pre ++ [UInt8.ofNat (x % 128 + 128)]) ++ M.grp (x / 128) = M.enc n) := by
          show _ = _
          rw [← HP.out, M.grp_great x (by omega)]
          simp
        go_wp2_with (at_builtin; refine wpList_append_own _ rfl _ _ 138 rfl w.heap.size 5 i0 (.int .u8 0) 1 1 Tryz.underlying138 hi hz0 hz1 hz2 rfl (by decide) _ _ _ rfl (hown.alloc _) ⟨wr.heap.size, 0, none⟩ 1 1 [.int .u8 (bits BinOp.or IntKind.u8 ((x : Int) % 256) 128)] rfl rfl (cell_one_new _ _ _) (by simp; rfl) (by unfold maxLen; omega) (by omega) (by simp; omega) ?_; intro v' w2 hown2 hgrow hnil)
        rw [HV.out] at hown2
        have hb2 := (hbel.alloc hle _).grown hgrow (by simp; omega) (fun j hj => (hown.lt j hj).1)
        clear hown hgrow
        go_wp2
        go_roundw
        case rel => exact ⟨x / 128, pre ++ [UInt8.ofNat (x % 128 + 128)], by first | rfl | go_num, by omega, by rw [List.length_append]; exact hown2, hb2, HP2⟩
        case measure => simp [intOf]; omega
      · have HV : Hid (vals pre ++ [Value.int .u8 (x : Int)] = vals (pre ++ [UInt8.ofNat x])) := vals_snoc _ _ _ (byte_last x (by omega)).symm
        have HP2 : Hid (pre ++ [UInt8.ofNat x] = M.enc n) := by
          show _ = _
          rw [← HP.out, M.grp_small x (by omega)]
        go_wp2_with (at_builtin; refine wpList_append_own _ rfl _ _ 138 rfl w.heap.size 5 i0 (.int .u8 0) 1 1 Tryz.underlying138 hi hz0 hz1 hz2 rfl (by decide) _ _ _ rfl (hown.alloc _) ⟨wr.heap.size, 0, none⟩ 1 1 [.int .u8 (x : Int)] rfl rfl (cell_one_new _ _ _) (by simp; rfl) (by unfold maxLen; omega) (by omega) (by simp; omega) ?_; intro v' w2 hown2 hgrow hnil; rw [HV.out] at hown2; have hcv := owns_convert hown2 (by simp); rw [HP2.out] at hcv; have hb2 := (hbel.alloc hle _).grown hgrow (by simp; omega) (fun j hj => (hown.lt j hj).1); clear hown hgrow)
        refine (h w2 hb2).mono ?_
        rintro y w3 ⟨rfl, hq⟩
        go_wp2
        go_end0
        exact ⟨rfl, hq⟩

end Go.Proofs.YtlnedgjikkhplaaGreat.Nc
end
section
namespace Go.Proofs.YtlnedgjikkhplaaGreat.Nc
open Go.RowKit
set_option linter.unusedVariables false

theorem WQ.pre {w w1 : World} {b : Nat} {a : Option Addr} {m : Nat} {st : Nat × List UInt8} {w' : World} (hb : Below w.heap.size w w1) (h : WQ w1 b a m st w') : WQ w b a m st w' := by
  obtain ⟨a', cap', h1, h2⟩ := h
  exact ⟨a', cap', h1, (Step.of_below hb).trans h2⟩

theorem wint_any (b : Nat) (a : Option Addr) (cap m : Nat) (st : Nat × List UInt8) (n : Int) (w : World) (hw : WS w b a cap m st) (hn : -9223372036854775808 ≤ n ∧ n ≤ 9223372036854775807) :
    Calls Tryz.prog 177 #[.pointer (some ⟨b, 0, none⟩), .int .i64 n] w fun x w' => x = .returned (.tuple #[]) ∧ WQ w b a m (M.lay m st (M.enc n)) w' :=
  wint_via n _ w hn _ fun w1 hb => (lay_any b a cap m st (M.enc n) w1 (hw.keep hb) (by have := M.enc_ten n hn; omega)).mono fun x w' ⟨h1, h2⟩ => ⟨h1, h2.pre hb⟩
theorem one_convert (w : World) (k : Nat) (hk : k < 256) :
    (Go.convert 138 9 (.slice (some ⟨w.heap.size, 0, none⟩) 1 1)).run Tryz.prog (w.alloc (.cells #[.int .u8 (k : Int)] 5)) = .ok (.string (ofL [UInt8.ofNat k])) (w.alloc (.cells #[.int .u8 (k : Int)] 5)) := by
  have h5 : (UInt8.ofNat k).toNat = k := by simp; omega
  refine run_convert_bytes_back _ 138 9 5 ⟨w.heap.size, 0, none⟩ 1 [UInt8.ofNat k] Tryz.underlying138 Tryz.underlying5 Tryz.underlying9 fun j hj => ?_
  rw [show ((⟨w.heap.size, 0, none⟩ : Addr).add j) = ⟨w.heap.size, j, none⟩ by unfold Addr.add; split <;> simp_all]
  rw [cell_of_row _ _ _ _ _ _ (heap_alloc_new w _)]
  match j, hj with
  | 0, _ => show some (Value.int .u8 (k : Int)) = some (.int .u8 ((UInt8.ofNat k).toNat : Int)); rw [h5]

set_option maxHeartbeats 400000 in
theorem wbyte_any (b : Nat) (a : Option Addr) (cap m : Nat) (st : Nat × List UInt8) (n : Int) (w : World) (hw : WS w b a cap m st) :
    Calls Tryz.prog 180 #[.pointer (some ⟨b, 0, none⟩), .int .i64 n] w fun x w' => x = .returned (.tuple #[]) ∧ WQ w b a m (M.byteW m st n) w' := by
  by_cases hbad : n < 0 ∨ 255 < n
  · have hd : decide (n < 0) = true ∨ decide (n < 0) = false ∧ decide (255 < n) = true := by simp; omega
    obtain ⟨e, l⟩ := st
    by_cases he : e = 0
    · subst he
      have HB : Hid (M.byteW m (0, l) n = (1, [])) := by show _ = _; unfold M.byteW; rw [if_neg (by simp), if_pos hbad]
      clear hbad
      rcases hd with d1 | ⟨d1, d2⟩
      all_goals
        go_enter Tryz.func180, Tryz.ntmps180
        go_wp2_with fail
        refine (wfail_ok b a cap m l 1 w hw (by decide)).mono ?_
        rintro x w1 ⟨rfl, hq⟩
        go_wp2
        refine bodyPost_ret (results_none rfl _ _ _) rfl ?_
        rw [HB.out]
        exact ⟨rfl, hq⟩
    · have HB : Hid (M.byteW m (e, l) n = (e, l)) := by show _ = _; unfold M.byteW; rw [if_pos he]
      clear hbad
      rcases hd with d1 | ⟨d1, d2⟩
      all_goals
        go_enter Tryz.func180, Tryz.ntmps180
        go_wp2_with fail
        refine (wfail_bad b a cap m (e, l) 1 w hw he).mono ?_
        rintro x w1 ⟨rfl, rfl⟩
        go_wp2
        refine bodyPost_ret (results_none rfl _ _ _) rfl ?_
        rw [HB.out]
        exact ⟨rfl, hw.out⟩
  · have HB : Hid (M.byteW m st n = M.lay m st [UInt8.ofNat n.toNat]) := by
      show _ = _
      unfold M.byteW
      by_cases he : st.1 ≠ 0
      · rw [if_pos he, M.lay_bad m st _ he]
      · rw [if_neg he, if_neg hbad]
    obtain ⟨k, rfl⟩ := Int.eq_ofNat_of_zero_le (show 0 ≤ n by omega)
    rw [Int.toNat_natCast] at HB
    have hk : k < 256 := by omega
    have d1 : decide ((k : Int) < 0) = false := by simp
    have d2 : decide ((255 : Int) < (k : Int)) = false := by simp; omega
    have hcv := one_convert w k hk
    clear hbad
    go_enter Tryz.func180, Tryz.ntmps180
    go_wp2_with fail
    refine (lay_any b a cap m st [UInt8.ofNat k] _ (hw.keep ((Below.refl _ _).alloc (Nat.le_refl _) _)) (by simp)).mono ?_
    rintro x w1 ⟨rfl, hq⟩
    go_wp2
    go_end0
    rw [HB.out]
    exact ⟨rfl, hq.pre ((Below.refl _ _).alloc (Nat.le_refl _) _)⟩
set_option maxHeartbeats 400000 in
theorem wtext_any (b : Nat) (a : Option Addr) (cap m : Nat) (st : Nat × List UInt8) (s : List UInt8) (w : World) (hw : WS w b a cap m st) (hs : s.length ≤ 1000000) :
    Calls Tryz.prog 150 #[.pointer (some ⟨b, 0, none⟩), .string (ofL s)] w fun x w' => x = .returned (.tuple #[]) ∧ WQ w b a m (M.lay m st (M.encT s)) w' := by
  have hsz := ofL_size s
  have HL : Hid (M.lay m (M.lay m st (M.enc s.length)) s = M.lay m st (M.encT s)) := M.lay_lay _ _ _ _
  go_enter Tryz.func150, Tryz.ntmps150
  go_wp2_with fail
  refine (wint_any b a cap m st s.length w hw (by omega)).mono ?_
  rintro x w1 ⟨rfl, hq⟩
  obtain ⟨a1, cap1, hw1, hs1⟩ := hq
  go_wp2_with fail
  refine (lay_any b a1 cap1 m _ s w1 hw1 (by omega)).mono ?_
  rintro x w2 ⟨rfl, hq⟩
  obtain ⟨a2, cap2, hw2, hs2⟩ := hq
  rw [HL.out] at hw2
  go_wp2
  go_end0
  exact ⟨rfl, a2, cap2, hw2, hs1.trans hs2⟩
set_option maxHeartbeats 400000 in
theorem wdone_any (b : Nat) (a : Option Addr) (cap m : Nat) (st : Nat × List UInt8) (w : World) (hw : WS w b a cap m st) :
    Calls Tryz.prog 153 #[.pointer (some ⟨b, 0, none⟩)] w fun x w' => x = .returned (.tuple #[.string (ofL st.2), .int .i64 st.1]) ∧ Below w.heap.size w w' := by
  have c1 := hw.c1
  have c2 := hw.c2
  have hcv : ∀ q, (Go.convert 138 9 (.slice a st.2.length cap)).run Tryz.prog (w.drewN q) = .ok (.string (ofL st.2)) (w.drewN q) := fun q => owns_convert (hw.drewN q).own rfl
  have hcv1 : (Go.convert 138 9 (.slice a st.2.length cap)).run Tryz.prog w.drew = .ok (.string (ofL st.2)) w.drew := hcv 1
  go_enter Tryz.func153, Tryz.ntmps153
  go_wp2_with fail
  go_region
  all_goals
    go_wp2
    go_ret2
    exact ⟨rfl, (Below.refl _ _).drew⟩
set_option maxHeartbeats 400000 in
theorem wdone_nil (w : World) : Calls Tryz.prog 153 #[.pointer none] w fun x w' => x = .returned (.tuple #[.string (ofL []), .int .i64 1]) ∧ w' = w := by
  go_enter Tryz.func153, Tryz.ntmps153
  go_wp2
  go_ret2
  exact ⟨rfl, rfl⟩

/-- How many bytes a writer takes. -/
def clip (n : Int) : Nat := (min (max n 0) 65536).toNat
theorem clip_le (n : Int) : clip n ≤ 65536 := by unfold clip; omega
theorem clip_eq (n : Int) : ((clip n : Nat) : Int) = min (max n 0) 65536 := by unfold clip; omega
def NewW (w : World) (m : Nat) (x : Ending) (w' : World) : Prop :=
  ∃ b, x = .returned (.pointer (some ⟨b, 0, none⟩)) ∧ w.heap.size ≤ b ∧ WS w' b none 0 m (0, []) ∧ Below w.heap.size w w'
set_option maxHeartbeats 400000 in
theorem newWriter_any (n : Int) (w : World) : Calls Tryz.prog 149 #[.int .i64 n] w (NewW w (clip n)) := by
  go_enter Tryz.func149, Tryz.ntmps149
  go_wp2
  go_ret
  refine ⟨w.heap.size, rfl, Nat.le_refl _, ⟨?_, World.ownsRow_nil _ _ _ _, ⟨by simp, by simp, fun _ => rfl⟩, clip_le n⟩, (Below.refl _ _).alloc (Nat.le_refl _) _⟩
  rw [← clip_eq]
  exact heap_alloc_new w _

end Go.Proofs.YtlnedgjikkhplaaGreat.Nc
end
section
namespace Go.Proofs.YtlnedgjikkhplaaGreat.Du
open Go.RowKit
set_option linter.unusedVariables false
set_option linter.unusedSimpArgs false
open Na (Fr AS XL vl bV vV Hid_of bel1 bel2 bel_up bel_row row2 row4 blk OwnL AtL)
open Na.M (E V S S0)

open Ns.M (ofL)
theorem Tryz.size97 : (Tryz.prog.info? 97).map (·.size) = some 6 := by kernel_rfl
/-- A record's cells. -/
abbrev rcs : R → Array Value
  | .inl b => #[.int .i64 1, .int .i64 0, .int .i64 b.i, .int .i64 b.t, .string ⟨#[]⟩, .int .i64 0]
  | .inr (.inl v) => #[.int .i64 2, .int .i64 v.s, .int .i64 v.b.i, .int .i64 v.b.t, .string v.v, .int .i64 0]
  | .inr (.inr u) => #[.int .i64 3, .int .i64 0, .int .i64 0, .int .i64 0, .string ⟨#[]⟩, .int .i64 u]
abbrev rV (r : R) : Value := .agg (rcs r)
theorem row6 {w : World} {k : Nat} {v0 v1 v2 v3 v4 v5 : Value} {t : TypeId} (h : w.heap[k]? = some (.cells #[v0, v1, v2, v3, v4, v5] t (0, 0))) :
    (w.cell? ⟨k, 0, none⟩ = some v0 ∧ w.cell? ⟨k, 1, none⟩ = some v1 ∧ w.cell? ⟨k, 2, none⟩ = some v2 ∧ w.cell? ⟨k, 3, none⟩ = some v3 ∧ w.cell? ⟨k, 4, none⟩ = some v4 ∧ w.cell? ⟨k, 5, none⟩ = some v5) ∧ ∀ j, w.frozen? ⟨k, j, none⟩ = false :=
  ⟨⟨by rw [cell_of_row w k 0 _ _ _ h]; rfl, by rw [cell_of_row w k 1 _ _ _ h]; rfl, by rw [cell_of_row w k 2 _ _ _ h]; rfl, by rw [cell_of_row w k 3 _ _ _ h]; rfl, by rw [cell_of_row w k 4 _ _ _ h]; rfl, by rw [cell_of_row w k 5 _ _ _ h]; rfl⟩, fun j => frozen_of_row w k j _ _ h⟩
def put6 (w : World) (g : Nat) (a b c d e f : Value) : World := (((((w.setCell ⟨g, 0, none⟩ a).setCell ⟨g, 1, none⟩ b).setCell ⟨g, 2, none⟩ c).setCell ⟨g, 3, none⟩ d).setCell ⟨g, 4, none⟩ e).setCell ⟨g, 5, none⟩ f
theorem put6_row {w : World} {g : Nat} {t : TypeId} {v0 v1 v2 v3 v4 v5 : Value} (h : w.heap[g]? = some (.cells #[v0, v1, v2, v3, v4, v5] t (0, 0))) (a b c d e f : Value) : (put6 w g a b c d e f).heap[g]? = some (.cells #[a, b, c, d, e, f] t (0, 0)) :=
  heap_setCell_same _ g 5 _ _ _ (heap_setCell_same _ g 4 _ _ _ (heap_setCell_same _ g 3 _ _ _ (heap_setCell_same _ g 2 _ _ _ (heap_setCell_same _ g 1 _ _ _ (heap_setCell_same w g 0 _ _ _ h)))))
theorem put6_bel {w0 w : World} {B g : Nat} (h : Below B w0 w) (hg : B ≤ g) (a b c d e f : Value) : Below B w0 (put6 w g a b c d e f) := (((((h.setCell hg _).setCell hg _).setCell hg _).setCell hg _).setCell hg _).setCell hg _
theorem put6_oth {w : World} {g k : Nat} (h : k ≠ g) (a b c d e f : Value) : (put6 w g a b c d e f).heap[k]? = w.heap[k]? := by
  unfold put6
  rw [heap_setCell_other _ ⟨g, 5, none⟩ k _ h, heap_setCell_other _ ⟨g, 4, none⟩ k _ h, heap_setCell_other _ ⟨g, 3, none⟩ k _ h, heap_setCell_other _ ⟨g, 2, none⟩ k _ h, heap_setCell_other _ ⟨g, 1, none⟩ k _ h, heap_setCell_other _ ⟨g, 0, none⟩ k _ h]
theorem f59_res : Tryz.f59.results = #[.cell 2 97] := rfl
set_option maxRecDepth 100000 in
set_option maxHeartbeats 1000000 in
theorem promiseRecord_any (b : E) (w : World) : Calls Tryz.prog 59 #[bV b] w fun e w' => e = .returned (rV (.pr b)) ∧ Below w.heap.size w w' := by
  obtain ⟨W1, HW1⟩ : ∃ W1, Hid ((w.alloc (.cells #[.int .i64 b.i, .int .i64 b.t] 36)).alloc (.cells #[.int .i64 0, .int .i64 0, .int .i64 0, .int .i64 0, .string ⟨#[]⟩, .int .i64 0] 97) = W1) := ⟨_, rfl⟩
  have HB1 : Hid (Below w.heap.size w W1) := by rw [← HW1.out]; exact bel2 w _ _
  have hs1 : W1.heap.size = w.heap.size + 2 := by rw [← HW1.out]; simp
  have hr1 : W1.heap[w.heap.size]? = some (.cells #[.int .i64 b.i, .int .i64 b.t] 36 (0, 0)) := by rw [← HW1.out]; exact heap_alloc2_old w _ _
  have hr2 : W1.heap[w.heap.size + 1]? = some (.cells #[.int .i64 0, .int .i64 0, .int .i64 0, .int .i64 0, .string ⟨#[]⟩, .int .i64 0] 97 (0, 0)) := by rw [← HW1.out]; exact heap_alloc2_new w _ _
  have HR2 := Hid_of hr2
  obtain ⟨⟨c0, c1⟩, _⟩ := row2 hr1
  obtain ⟨_, yf⟩ := row6 hr2
  have g0 := yf 0
  have g1 := yf 1
  have g2 := yf 2
  have g3 := yf 3
  have g4 := yf 4
  have g5 := yf 5
  clear hr2 yf hr1
  go_enter Tryz.func59, Tryz.ntmps59
  go_upto_region 1 with fail
  rw [HW1.out]
  clear HW1
  go_wp2
  refine bodyPost_ret (v := rV (.pr b)) ?_ rfl ⟨rfl, put6_bel HB1.out (Nat.le_succ _) _ _ _ _ _ _⟩
  exact results_cell_row f59_res _ _ (w.heap.size + 1) 97 _ (0, 0) _ rfl (put6_row (w := W1) HR2.out _ _ _ _ _ _) Tryz.underlying97 rfl Tryz.size97
theorem f64_res : Tryz.f64.results = #[.cell 2 97] := rfl
set_option maxRecDepth 100000 in
set_option maxHeartbeats 1000000 in
theorem voteRecord_any (v : V) (w : World) : Calls Tryz.prog 64 #[vV v] w fun e w' => e = .returned (rV (.vo v)) ∧ Below w.heap.size w w' := by
  obtain ⟨W1, HW1⟩ : ∃ W1, Hid ((w.alloc (.cells #[.int .i64 v.s, .int .i64 v.b.i, .int .i64 v.b.t, .string v.v] 48)).alloc (.cells #[.int .i64 0, .int .i64 0, .int .i64 0, .int .i64 0, .string ⟨#[]⟩, .int .i64 0] 97) = W1) := ⟨_, rfl⟩
  have HB1 : Hid (Below w.heap.size w W1) := by rw [← HW1.out]; exact bel2 w _ _
  have hs1 : W1.heap.size = w.heap.size + 2 := by rw [← HW1.out]; simp
  have hr1 : W1.heap[w.heap.size]? = some (.cells #[.int .i64 v.s, .int .i64 v.b.i, .int .i64 v.b.t, .string v.v] 48 (0, 0)) := by rw [← HW1.out]; exact heap_alloc2_old w _ _
  have hr2 : W1.heap[w.heap.size + 1]? = some (.cells #[.int .i64 0, .int .i64 0, .int .i64 0, .int .i64 0, .string ⟨#[]⟩, .int .i64 0] 97 (0, 0)) := by rw [← HW1.out]; exact heap_alloc2_new w _ _
  have HR2 := Hid_of hr2
  obtain ⟨⟨c0, c1, c2, c3⟩, _⟩ := row4 hr1
  obtain ⟨_, yf⟩ := row6 hr2
  have g0 := yf 0
  have g1 := yf 1
  have g2 := yf 2
  have g3 := yf 3
  have g4 := yf 4
  have g5 := yf 5
  clear hr2 yf hr1
  go_enter Tryz.func64, Tryz.ntmps64
  go_upto_region 1 with fail
  rw [HW1.out]
  clear HW1
  go_wp2
  refine bodyPost_ret (v := rV (.vo v)) ?_ rfl ⟨rfl, put6_bel HB1.out (Nat.le_succ _) _ _ _ _ _ _⟩
  exact results_cell_row f64_res _ _ (w.heap.size + 1) 97 _ (0, 0) _ rfl (put6_row (w := W1) HR2.out _ _ _ _ _ _) Tryz.underlying97 rfl Tryz.size97
theorem f66_res : Tryz.f66.results = #[.cell 2 97] := rfl
set_option maxRecDepth 100000 in
set_option maxHeartbeats 1000000 in
theorem trimRecord_any (u : Int) (w : World) : Calls Tryz.prog 66 #[.int .i64 u] w fun e w' => e = .returned (rV (.tr u)) ∧ Below w.heap.size w w' := by
  obtain ⟨W1, HW1⟩ : ∃ W1, Hid (w.alloc (.cells #[.int .i64 0, .int .i64 0, .int .i64 0, .int .i64 0, .string ⟨#[]⟩, .int .i64 0] 97) = W1) := ⟨_, rfl⟩
  have HB1 : Hid (Below w.heap.size w W1) := by rw [← HW1.out]; exact bel1 w _
  have hr2 : W1.heap[w.heap.size]? = some (.cells #[.int .i64 0, .int .i64 0, .int .i64 0, .int .i64 0, .string ⟨#[]⟩, .int .i64 0] 97 (0, 0)) := by rw [← HW1.out]; exact heap_alloc_last w _
  have HR2 := Hid_of hr2
  obtain ⟨_, yf⟩ := row6 hr2
  have g0 := yf 0
  have g1 := yf 1
  have g2 := yf 2
  have g3 := yf 3
  have g4 := yf 4
  have g5 := yf 5
  clear hr2 yf
  go_enter Tryz.func66, Tryz.ntmps66
  go_upto_region 1 with fail
  rw [HW1.out]
  clear HW1
  go_wp2
  refine bodyPost_ret (v := rV (.tr u)) ?_ rfl ⟨rfl, put6_bel HB1.out (Nat.le_refl _) _ _ _ _ _ _⟩
  exact results_cell_row f66_res _ _ (w.heap.size) 97 _ (0, 0) _ rfl (put6_row (w := W1) HR2.out _ _ _ _ _ _) Tryz.underlying97 rfl Tryz.size97

/-! bytes 0 behind a text -/
theorem repeatL_zero : ∀ n : Nat, Lib.repeatL [(0 : UInt8)] n = List.replicate n 0
  | 0 => rfl
  | n + 1 => by
    rw [List.replicate_succ, ← repeatL_zero n]
    rfl
theorem padded_any (l : List UInt8) (m : Nat) (w : World) (h : l.length ≤ m) (hm : m ≤ 1000000) : Calls Tryz.prog 72 #[.string (ofL l), .int .i64 m] w fun e w' => e = .returned (.string (ofL (l ++ List.replicate (m - l.length) 0))) ∧ Below w.heap.size w w' := by
  have hsz : (ofL l).size = l.length := Ns.M.ofL_size l
  have hr := fun W => Ns.Tryz.strings_Repeat ⟨#[0]⟩ (m - l.length) W (by omega) (by show 1 * (m - l.length) ≤ _; omega)
  have HE : Hid (ofL l ++ ⟨(Lib.repeatL (⟨#[0]⟩ : ByteArray).data.toList (m - l.length)).toArray⟩ = ofL (l ++ List.replicate (m - l.length) 0)) := by
    show ofL l ++ ofL (Lib.repeatL [(0 : UInt8)] (m - l.length)) = _
    rw [repeatL_zero, Ns.M.ofL_app]
  have hz : (⟨(Lib.repeatL (⟨#[0]⟩ : ByteArray).data.toList (m - l.length)).toArray⟩ : ByteArray).size = m - l.length := by
    show (ofL (Lib.repeatL [(0 : UInt8)] (m - l.length))).size = _
    rw [repeatL_zero, Ns.M.ofL_size, List.length_replicate]
  generalize (⟨(Lib.repeatL (⟨#[0]⟩ : ByteArray).data.toList (m - l.length)).toArray⟩ : ByteArray) = Z at *
  rw [show ((m - l.length : Nat) : Int) = (m : Int) - (l.length : Int) by omega] at hr
  go_enter Tryz.func72, Tryz.ntmps72
  go_wp2_with fail
  refine (hr _).mono ?_
  rintro e w1 ⟨rfl, hb⟩
  have HB := Hid_of hb
  clear hr hb
  go_wp2
  go_ret
  rw [← HE.out]
  exact ⟨rfl, HB.out⟩
/-! a ballot laid -/
section
variable {b m : Nat} {a : Option Addr} {cap : Nat} {st : Nat × List UInt8} {w : World}
open Nc (WS WQ Step)
set_option maxRecDepth 100000 in
set_option maxHeartbeats 1000000 in
theorem writeBallot_any (x : E) (hw : WS w b a cap m st) (h1 : I64 x.i) (h2 : I64 x.t) :
    Calls Tryz.prog 181 #[ptr b, bV x] w fun e w' => e = .returned (.tuple #[]) ∧ WQ w b a m (Nc.M.lay m st (encB x)) w' := by
  obtain ⟨W1, HW1⟩ : ∃ W1, Hid (w.alloc (.cells #[.int .i64 x.i, .int .i64 x.t] 36) = W1) := ⟨_, rfl⟩
  have hb1 : Below w.heap.size w W1 := by rw [← HW1.out]; exact bel1 w _
  have hr1 : W1.heap[w.heap.size]? = some (.cells #[.int .i64 x.i, .int .i64 x.t] 36 (0, 0)) := by rw [← HW1.out]; exact heap_alloc_last w _
  obtain ⟨⟨c0, c1⟩, _⟩ := row2 hr1
  have hc := Nc.wint_any b a cap m st x.i W1 (hw.keep hb1) h1
  have hlt : b < w.heap.size := hw.lt
  have HBK : Hid (∀ k, Nc.blk a k → k < w.heap.size) := fun k hk => (hw.inb k hk).2
  have HR1 := Hid_of hr1
  have HB1 := Hid_of hb1
  have HL : Hid (Nc.M.lay m (Nc.M.lay m st (Nc.M.enc x.i)) (Nc.M.enc x.t) = Nc.M.lay m st (encB x)) := Nc.M.lay_lay _ _ _ _
  clear hw hb1 hr1
  go_enter Tryz.func181, Tryz.ntmps181
  go_upto_region 1 with fail
  rw [HW1.out]
  clear HW1
  go_wp2_with fail
  refine hc.mono ?_
  rintro e w2 ⟨rfl, a2, cap2, hw2, hs2⟩
  have hr2 : w2.heap[w.heap.size]? = some (.cells #[.int .i64 x.i, .int .i64 x.t] 36 (0, 0)) := (hs2.block w.heap.size (Array.getElem?_eq_some_iff.1 HR1.out).1 (by omega) (fun e => by have := HBK.out _ e; omega)).trans HR1.out
  obtain ⟨⟨d0, d1⟩, _⟩ := row2 hr2
  have hc2 := Nc.wint_any b a2 cap2 m _ x.t w2 hw2 h2
  have HS2 := Hid_of hs2
  clear hc hw2 hs2 hr2 c0 c1
  go_wp2_with fail
  refine hc2.mono ?_
  rintro e w3 ⟨rfl, a3, cap3, hw3, hs3⟩
  rw [HL.out] at hw3
  have HQ := Hid_of (And.intro hw3 ((Step.of_below HB1.out).trans (HS2.out.trans hs3)))
  clear hc2 hw3 hs3
  go_wp2
  go_end0
  exact ⟨rfl, a3, cap3, HQ.out.1, HQ.out.2⟩
end
end Go.Proofs.YtlnedgjikkhplaaGreat.Du
end
