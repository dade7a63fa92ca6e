/-
  The writer's calls: an int, a byte, a text, rows of ints and of texts, a new writer, Done; and the writer that is none.
-/
import Derived.Test.YtjbcchipbdkplaaE
namespace Go.Proofs.Ytjbcchipbdkplaa
open Go.RowKit
set_option linter.unusedVariables false

theorem WQ.pre {w w1 : World} {b : Nat} {a : Option Addr} {m : Nat} {st : Nat × List UInt8} {w' : World} (hb : Below w.heap.size w w1) (h : WQ w1 b a m st w') : WQ w b a m st w' := by
  obtain ⟨a', cap', h1, h2⟩ := h
  exact ⟨a', cap', h1, (Step.of_below hb).trans h2⟩

theorem wint_any (b : Nat) (a : Option Addr) (cap m : Nat) (st : Nat × List UInt8) (n : Int) (w : World) (hw : WS w b a cap m st) (hn : -9223372036854775808 ≤ n ∧ n ≤ 9223372036854775807) :
    Calls Try.prog 56 #[.pointer (some ⟨b, 0, none⟩), .int .i64 n] w fun x w' => x = .returned (.tuple #[]) ∧ WQ w b a m (M.lay m st (M.enc n)) w' :=
  wint_via n _ w hn _ fun w1 hb => (lay_any b a cap m st (M.enc n) w1 (hw.keep hb) (by have := M.enc_ten n hn; omega)).mono fun x w' ⟨h1, h2⟩ => ⟨h1, h2.pre hb⟩
theorem one_convert (w : World) (k : Nat) (hk : k < 256) :
    (Go.convert 73 9 (.slice (some ⟨w.heap.size, 0, none⟩) 1 1)).run Try.prog (w.alloc (.cells #[.int .u8 (k : Int)] 5)) = .ok (.string (ofL [UInt8.ofNat k])) (w.alloc (.cells #[.int .u8 (k : Int)] 5)) := by
  have h5 : (UInt8.ofNat k).toNat = k := by simp; omega
  refine run_convert_bytes_back _ 73 9 5 ⟨w.heap.size, 0, none⟩ 1 [UInt8.ofNat k] Try.underlying73 Try.underlying5 Try.underlying9 fun j hj => ?_
  rw [show ((⟨w.heap.size, 0, none⟩ : Addr).add j) = ⟨w.heap.size, j, none⟩ by unfold Addr.add; split <;> simp_all]
  rw [cell_of_row _ _ _ _ _ _ (heap_alloc_new w _)]
  match j, hj with
  | 0, _ => show some (Value.int .u8 (k : Int)) = some (.int .u8 ((UInt8.ofNat k).toNat : Int)); rw [h5]

set_option maxHeartbeats 400000 in
theorem wbyte_any (b : Nat) (a : Option Addr) (cap m : Nat) (st : Nat × List UInt8) (n : Int) (w : World) (hw : WS w b a cap m st) :
    Calls Try.prog 55 #[.pointer (some ⟨b, 0, none⟩), .int .i64 n] w fun x w' => x = .returned (.tuple #[]) ∧ WQ w b a m (M.byteW m st n) w' := by
  by_cases hbad : n < 0 ∨ 255 < n
  · have hd : decide (n < 0) = true ∨ decide (n < 0) = false ∧ decide (255 < n) = true := by simp; omega
    obtain ⟨e, l⟩ := st
    by_cases he : e = 0
    · subst he
      have HB : Hid (M.byteW m (0, l) n = (1, [])) := by show _ = _; unfold M.byteW; rw [if_neg (by simp), if_pos hbad]
      clear hbad
      rcases hd with d1 | ⟨d1, d2⟩
      all_goals
        go_enter Try.func55, Try.ntmps55
        go_wp2_with fail
        refine (wfail_ok b a cap m l 1 w hw (by decide)).mono ?_
        rintro x w1 ⟨rfl, hq⟩
        go_wp2
        refine bodyPost_ret (results_none rfl _ _ _) rfl ?_
        rw [HB.out]
        exact ⟨rfl, hq⟩
    · have HB : Hid (M.byteW m (e, l) n = (e, l)) := by show _ = _; unfold M.byteW; rw [if_pos he]
      clear hbad
      rcases hd with d1 | ⟨d1, d2⟩
      all_goals
        go_enter Try.func55, Try.ntmps55
        go_wp2_with fail
        refine (wfail_bad b a cap m (e, l) 1 w hw he).mono ?_
        rintro x w1 ⟨rfl, rfl⟩
        go_wp2
        refine bodyPost_ret (results_none rfl _ _ _) rfl ?_
        rw [HB.out]
        exact ⟨rfl, hw.out⟩
  · have HB : Hid (M.byteW m st n = M.lay m st [UInt8.ofNat n.toNat]) := by
      show _ = _
      unfold M.byteW
      by_cases he : st.1 ≠ 0
      · rw [if_pos he, M.lay_bad m st _ he]
      · rw [if_neg he, if_neg hbad]
    obtain ⟨k, rfl⟩ := Int.eq_ofNat_of_zero_le (show 0 ≤ n by omega)
    rw [Int.toNat_natCast] at HB
    have hk : k < 256 := by omega
    have d1 : decide ((k : Int) < 0) = false := by simp
    have d2 : decide ((255 : Int) < (k : Int)) = false := by simp; omega
    have hcv := one_convert w k hk
    clear hbad
    go_enter Try.func55, Try.ntmps55
    go_wp2_with fail
    refine (lay_any b a cap m st [UInt8.ofNat k] _ (hw.keep ((Below.refl _ _).alloc (Nat.le_refl _) _)) (by simp)).mono ?_
    rintro x w1 ⟨rfl, hq⟩
    go_wp2
    go_end0
    rw [HB.out]
    exact ⟨rfl, hq.pre ((Below.refl _ _).alloc (Nat.le_refl _) _)⟩
set_option maxHeartbeats 400000 in
theorem wtext_any (b : Nat) (a : Option Addr) (cap m : Nat) (st : Nat × List UInt8) (s : List UInt8) (w : World) (hw : WS w b a cap m st) (hs : s.length ≤ 1000000) :
    Calls Try.prog 58 #[.pointer (some ⟨b, 0, none⟩), .string (ofL s)] w fun x w' => x = .returned (.tuple #[]) ∧ WQ w b a m (M.lay m st (M.encT s)) w' := by
  have hsz := ofL_size s
  have HL : Hid (M.lay m (M.lay m st (M.enc s.length)) s = M.lay m st (M.encT s)) := M.lay_lay _ _ _ _
  go_enter Try.func58, Try.ntmps58
  go_wp2_with fail
  refine (wint_any b a cap m st s.length w hw (by omega)).mono ?_
  rintro x w1 ⟨rfl, hq⟩
  obtain ⟨a1, cap1, hw1, hs1⟩ := hq
  go_wp2_with fail
  refine (lay_any b a1 cap1 m _ s w1 hw1 (by omega)).mono ?_
  rintro x w2 ⟨rfl, hq⟩
  obtain ⟨a2, cap2, hw2, hs2⟩ := hq
  rw [HL.out] at hw2
  go_wp2
  go_end0
  exact ⟨rfl, a2, cap2, hw2, hs1.trans hs2⟩
set_option maxHeartbeats 400000 in
theorem wdone_any (b : Nat) (a : Option Addr) (cap m : Nat) (st : Nat × List UInt8) (w : World) (hw : WS w b a cap m st) :
    Calls Try.prog 71 #[.pointer (some ⟨b, 0, none⟩)] w fun x w' => x = .returned (.tuple #[.string (ofL st.2), .int .i64 st.1]) ∧ Below w.heap.size w w' := by
  have c1 := hw.c1
  have c2 := hw.c2
  have hcv : ∀ q, (Go.convert 73 9 (.slice a st.2.length cap)).run Try.prog (w.drewN q) = .ok (.string (ofL st.2)) (w.drewN q) := fun q => owns_convert (hw.drewN q).own rfl
  have hcv1 : (Go.convert 73 9 (.slice a st.2.length cap)).run Try.prog w.drew = .ok (.string (ofL st.2)) w.drew := hcv 1
  go_enter Try.func71, Try.ntmps71
  go_wp2_with fail
  go_region
  all_goals
    go_wp2
    go_ret2
    exact ⟨rfl, (Below.refl _ _).drew⟩
set_option maxHeartbeats 400000 in
theorem wdone_nil (w : World) : Calls Try.prog 71 #[.pointer none] w fun x w' => x = .returned (.tuple #[.string (ofL []), .int .i64 1]) ∧ w' = w := by
  go_enter Try.func71, Try.ntmps71
  go_wp2
  go_ret2
  exact ⟨rfl, rfl⟩

/-- How many bytes a writer takes. -/
def clip (n : Int) : Nat := (min (max n 0) 65536).toNat
theorem clip_le (n : Int) : clip n ≤ 65536 := by unfold clip; omega
theorem clip_eq (n : Int) : ((clip n : Nat) : Int) = min (max n 0) 65536 := by unfold clip; omega
def NewW (w : World) (m : Nat) (x : Ending) (w' : World) : Prop :=
  ∃ b, x = .returned (.pointer (some ⟨b, 0, none⟩)) ∧ w.heap.size ≤ b ∧ WS w' b none 0 m (0, []) ∧ Below w.heap.size w w'
set_option maxHeartbeats 400000 in
theorem newWriter_any (n : Int) (w : World) : Calls Try.prog 70 #[.int .i64 n] w (NewW w (clip n)) := by
  go_enter Try.func70, Try.ntmps70
  go_wp2
  go_ret
  refine ⟨w.heap.size, rfl, Nat.le_refl _, ⟨?_, World.ownsRow_nil _ _ _ _, ⟨by simp, by simp, fun _ => rfl⟩, clip_le n⟩, (Below.refl _ _).alloc (Nat.le_refl _) _⟩
  rw [← clip_eq]
  exact heap_alloc_new w _

end Go.Proofs.Ytjbcchipbdkplaa
