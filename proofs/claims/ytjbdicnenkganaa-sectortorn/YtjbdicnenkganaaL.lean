/-
  The chapter's example.
-/
import Derived.Test.YtjbdicnenkganaaG
namespace Go.Proofs.Ytjbdicnenkganaa
open Go.RowKit
open M (ofL ofL_size ofL_of)
set_option linter.unusedVariables false

theorem of97 (w : World) : Calls Try.prog 26 #[.int .u8 97] w fun e w' => e = .returned (.string (ofB 97)) ∧ Below w.heap.size w w' := of_any 97 w
theorem of98 (w : World) : Calls Try.prog 26 #[.int .u8 98] w fun e w' => e = .returned (.string (ofB 98)) ∧ Below w.heap.size w w' := of_any 98 w
theorem of99 (w : World) : Calls Try.prog 26 #[.int .u8 99] w fun e w' => e = .returned (.string (ofB 99)) ∧ Below w.heap.size w w' := of_any 99 w
theorem of100 (w : World) : Calls Try.prog 26 #[.int .u8 100] w fun e w' => e = .returned (.string (ofB 100)) ∧ Below w.heap.size w w' := of_any 100 w
theorem of0 (w : World) : Calls Try.prog 26 #[.int .u8 0] w fun e w' => e = .returned (.string (ofB 0)) ∧ Below w.heap.size w w' := of_any 0 w
set_option maxRecDepth 100000 in
set_option maxHeartbeats 8000000 in
theorem awake_any (w : World) : Calls Try.prog 9 #[] w fun e w' => e = .returned (.bool true) ∧ Below w.heap.size w w' := by
  have s97 := ofB_size 97
  have s98 := ofB_size 98
  have s99 := ofB_size 99
  have s100 := ofB_size 100
  have s0 := ofB_size 0
  have z1 : aw1.size = 128 := by unfold aw1; rw [ByteArray.size_append, s97, s98]
  have z2 : aw2.size = 128 := by unfold aw2; rw [ByteArray.size_append, s99, s100]
  go_enter Try.func9, Try.ntmps9
  go_wp2_with fail
  refine (newD 3 w).mono ?_
  rintro x w1 ⟨b, F1, rfl, S1⟩
  rw [e1] at S1
  have HS1 := Hid_of S1
  clear S1
  go_wp2_with fail
  refine (of97 w1).mono ?_
  rintro x w2 ⟨rfl, b2⟩
  have HS2 := Hid_of (HS1.out.keep b2)
  clear b2 HS1
  go_wp2_with fail
  refine (of98 w2).mono ?_
  rintro x w3 ⟨rfl, b3⟩
  have S3 := HS2.out.keep b3
  have hc := S3.write 0 aw1 (by omega)
  rw [e2] at hc
  clear b3 HS2 S3
  go_wp2_with fail
  refine hc.mono ?_
  rintro x w4 ⟨F4, rfl, S4, _⟩
  have S4' : DS w w4 b F4 3 aP1 false := S4
  have hc4 := S4'.loose
  rw [e3.1, e3.2] at hc4
  clear hc S4 S4'
  go_wp2_with fail
  refine hc4.mono ?_
  rintro x w5 ⟨a5, c5, rfl, hat5, _, b5, S5⟩
  have hc5 := S5.crash 2 0 (by omega)
  have HAT5 := Hid_of hat5
  clear hc4 hat5 b5 S5
  go_wp2_with fail
  refine hc5.mono ?_
  rintro x w6 ⟨F6, rfl, S6, C6⟩
  have HAT6 := Hid_of (HAT5.out.step C6)
  have S6' : DS w w6 b F6 3 aP2 false := S6
  have hc6 := S6'.read 0 3 (by omega)
  rw [e4.1, e4.2] at hc6
  clear hc5 S6 S6' C6 HAT5
  go_wp2_with fail
  refine hc6.mono ?_
  rintro x w7 ⟨rfl, b7, S7⟩
  have HAT7 := Hid_of (HAT6.out.keep b7)
  have HS7 := Hid_of S7
  clear hc6 b7 S7 HAT6
  go_wp2_with fail
  refine (of99 w7).mono ?_
  rintro x w8 ⟨rfl, b8⟩
  have HS8 := Hid_of (HS7.out.keep b8)
  have HAT8 := Hid_of (HAT7.out.keep b8)
  clear b8 HS7 HAT7
  go_wp2_with fail
  refine (of100 w8).mono ?_
  rintro x w9 ⟨rfl, b9⟩
  have HS9 := Hid_of (HS8.out.keep b9)
  have HAT9 := Hid_of (HAT8.out.keep b9)
  have hc9 := HS9.out.write 2 aw2 (by omega)
  rw [e5.1, e5.2] at hc9
  clear b9 HS8 HAT8 HS9
  go_wp2_with fail
  refine hc9.mono ?_
  rintro x w10 ⟨F10, rfl, S10, C10⟩
  have HAT10 := Hid_of (HAT9.out.step C10)
  have hc10 := S10.write 0 awx (by decide)
  rw [e6.1, e6.2] at hc10
  clear hc9 HAT9 S10 C10
  go_wp2_with fail
  refine hc10.mono ?_
  rintro x w11 ⟨F11, rfl, S11, C11⟩
  have HAT11 := Hid_of (HAT10.out.step C11)
  have hc11 := S11.lose
  clear hc10 HAT10 S11 C11
  go_wp2_with fail
  refine hc11.mono ?_
  rintro x w12 ⟨F12, rfl, S12, C12⟩
  have HAT12 := Hid_of (HAT11.out.step C12)
  have hc12 := S12.read 0 1 (by omega)
  rw [e7.1, e7.2] at hc12
  clear hc11 HAT11 S12 C12
  go_wp2_with fail
  refine hc12.mono ?_
  rintro x w13 ⟨rfl, b13, S13⟩
  have HS13 := Hid_of S13
  have HAT13 := Hid_of (HAT12.out.keep b13)
  have hints : ∀ W, W = w13.alloc (.cells #[.int .i64 0, .int .i64 1] 3) → Calls Try.prog 22 #[.slice a5 2 c5, .slice (some ⟨w13.heap.size, 0, none⟩) 2 2] W fun e w' => e = .returned (.bool true) ∧ Below W.heap.size W w' := by
    rintro W rfl
    refine ints_any a5 c5 (some ⟨w13.heap.size, 0, none⟩) 2 [0, 1] _ (by decide) (HAT13.out.v.keep (bel1 w13 _)) ?_
    intro j hj
    refine ⟨w13.heap.size, 0, rfl, ?_⟩
    rw [cell_of_row _ _ _ _ _ _ (heap_alloc_last w13 _), Nat.zero_add]
    have hj2 : j < 2 := by simpa [IC] using hj
    match j, hj2 with
    | 0, _ => rfl
    | 1, _ => rfl
  clear hc12 HAT12 b13 S13
  go_wp2_with fail
  refine (hints _ rfl).mono ?_
  rintro x w14 ⟨rfl, b14⟩
  have HS14 := Hid_of (HS13.out.keep (bel_up (bel1 w13 _) b14 (Nat.le_refl _)))
  clear hints b14 HS13 HAT13
  go_wp2_with fail
  refine (of0 w14).mono ?_
  rintro x w15 ⟨rfl, b15⟩
  have HS15 := Hid_of (HS14.out.keep b15)
  clear b15 HS14
  go_wp2_with fail
  refine (of98 w15).mono ?_
  rintro x w16 ⟨rfl, b16⟩
  have HS16 := Hid_of (HS15.out.keep b16)
  clear b16 HS15
  go_wp2_with fail
  refine (of0 w16).mono ?_
  rintro x w17 ⟨rfl, b17⟩
  have HS17 := Hid_of (HS16.out.keep b17)
  have hc17 := HS17.out.sectors
  clear b17 HS16
  go_wp2_with fail
  refine hc17.mono ?_
  rintro x w18 ⟨rfl, rfl⟩
  have HB := Hid_of HS17.out.bel
  clear hc17 HS17
  go_wp2
  go_ret
  exact ⟨rfl, HB.out⟩
end Go.Proofs.Ytjbdicnenkganaa
