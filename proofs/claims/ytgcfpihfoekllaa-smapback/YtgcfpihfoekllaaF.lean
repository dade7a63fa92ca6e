/-
  The writer's calls: an int, a byte, a text, rows of ints and of texts, a new writer, Done; and the writer that is none.
-/
import Derived.Test.YtgcfpihfoekllaaE
namespace Go.Proofs.Ytgcfpihfoekllaa
open Go.RowKit
set_option linter.unusedVariables false

theorem WQ.pre {w w1 : World} {b : Nat} {a : Option Addr} {m : Nat} {st : Nat × List UInt8} {w' : World} (hb : Below w.heap.size w w1) (h : WQ w1 b a m st w') : WQ w b a m st w' := by
  obtain ⟨a', cap', h1, h2⟩ := h
  exact ⟨a', cap', h1, (Step.of_below hb).trans h2⟩

theorem wint_any (b : Nat) (a : Option Addr) (cap m : Nat) (st : Nat × List UInt8) (n : Int) (w : World) (hw : WS w b a cap m st) (hn : -9223372036854775808 ≤ n ∧ n ≤ 9223372036854775807) :
    Calls Try.prog 46 #[.pointer (some ⟨b, 0, none⟩), .int .i64 n] w fun x w' => x = .returned (.tuple #[]) ∧ WQ w b a m (M.lay m st (M.enc n)) w' :=
  wint_via n _ w hn _ fun w1 hb => (lay_any b a cap m st (M.enc n) w1 (hw.keep hb) (by have := M.enc_ten n hn; omega)).mono fun x w' ⟨h1, h2⟩ => ⟨h1, h2.pre hb⟩
theorem wint_nil (n : Int) (w : World) (hn : -9223372036854775808 ≤ n ∧ n ≤ 9223372036854775807) :
    Calls Try.prog 46 #[.pointer none, .int .i64 n] w fun x w' => x = .returned (.tuple #[]) ∧ Below w.heap.size w w' :=
  wint_via n _ w hn _ fun w1 hb => (lay_nil (ofL (M.enc n)) w1).mono fun x w' ⟨h1, h2⟩ => ⟨h1, h2 ▸ hb⟩

theorem one_convert (w : World) (k : Nat) (hk : k < 256) :
    (Go.convert 77 9 (.slice (some ⟨w.heap.size, 0, none⟩) 1 1)).run Try.prog (w.alloc (.cells #[.int .u8 (k : Int)] 5)) = .ok (.string (ofL [UInt8.ofNat k])) (w.alloc (.cells #[.int .u8 (k : Int)] 5)) := by
  have h5 : (UInt8.ofNat k).toNat = k := by simp; omega
  refine run_convert_bytes_back _ 77 9 5 ⟨w.heap.size, 0, none⟩ 1 [UInt8.ofNat k] Try.underlying77 Try.underlying5 Try.underlying9 fun j hj => ?_
  rw [show ((⟨w.heap.size, 0, none⟩ : Addr).add j) = ⟨w.heap.size, j, none⟩ by unfold Addr.add; split <;> simp_all]
  rw [cell_of_row _ _ _ _ _ _ (heap_alloc_new w _)]
  match j, hj with
  | 0, _ => show some (Value.int .u8 (k : Int)) = some (.int .u8 ((UInt8.ofNat k).toNat : Int)); rw [h5]

set_option maxHeartbeats 400000 in
theorem wbyte_any (b : Nat) (a : Option Addr) (cap m : Nat) (st : Nat × List UInt8) (n : Int) (w : World) (hw : WS w b a cap m st) :
    Calls Try.prog 73 #[.pointer (some ⟨b, 0, none⟩), .int .i64 n] w fun x w' => x = .returned (.tuple #[]) ∧ WQ w b a m (M.byteW m st n) w' := by
  by_cases hbad : n < 0 ∨ 255 < n
  · have hd : decide (n < 0) = true ∨ decide (n < 0) = false ∧ decide (255 < n) = true := by simp; omega
    obtain ⟨e, l⟩ := st
    by_cases he : e = 0
    · subst he
      have HB : Hid (M.byteW m (0, l) n = (1, [])) := by show _ = _; unfold M.byteW; rw [if_neg (by simp), if_pos hbad]
      clear hbad
      rcases hd with d1 | ⟨d1, d2⟩
      all_goals
        go_enter Try.func73, Try.ntmps73
        go_wp2_with fail
        refine (wfail_ok b a cap m l 1 w hw (by decide)).mono ?_
        rintro x w1 ⟨rfl, hq⟩
        go_wp2
        refine bodyPost_ret (results_none rfl _ _ _) rfl ?_
        rw [HB.out]
        exact ⟨rfl, hq⟩
    · have HB : Hid (M.byteW m (e, l) n = (e, l)) := by show _ = _; unfold M.byteW; rw [if_pos he]
      clear hbad
      rcases hd with d1 | ⟨d1, d2⟩
      all_goals
        go_enter Try.func73, Try.ntmps73
        go_wp2_with fail
        refine (wfail_bad b a cap m (e, l) 1 w hw he).mono ?_
        rintro x w1 ⟨rfl, rfl⟩
        go_wp2
        refine bodyPost_ret (results_none rfl _ _ _) rfl ?_
        rw [HB.out]
        exact ⟨rfl, hw.out⟩
  · have HB : Hid (M.byteW m st n = M.lay m st [UInt8.ofNat n.toNat]) := by
      show _ = _
      unfold M.byteW
      by_cases he : st.1 ≠ 0
      · rw [if_pos he, M.lay_bad m st _ he]
      · rw [if_neg he, if_neg hbad]
    obtain ⟨k, rfl⟩ := Int.eq_ofNat_of_zero_le (show 0 ≤ n by omega)
    rw [Int.toNat_natCast] at HB
    have hk : k < 256 := by omega
    have d1 : decide ((k : Int) < 0) = false := by simp
    have d2 : decide ((255 : Int) < (k : Int)) = false := by simp; omega
    have hcv := one_convert w k hk
    clear hbad
    go_enter Try.func73, Try.ntmps73
    go_wp2_with fail
    refine (lay_any b a cap m st [UInt8.ofNat k] _ (hw.keep ((Below.refl _ _).alloc (Nat.le_refl _) _)) (by simp)).mono ?_
    rintro x w1 ⟨rfl, hq⟩
    go_wp2
    go_end0
    rw [HB.out]
    exact ⟨rfl, hq.pre ((Below.refl _ _).alloc (Nat.le_refl _) _)⟩
set_option maxHeartbeats 400000 in
theorem wbyte_nil (n : Int) (w : World) : Calls Try.prog 73 #[.pointer none, .int .i64 n] w fun x w' => x = .returned (.tuple #[]) ∧ Below w.heap.size w w' := by
  by_cases hbad : n < 0 ∨ 255 < n
  · have hd : decide (n < 0) = true ∨ decide (n < 0) = false ∧ decide (255 < n) = true := by simp; omega
    clear hbad
    rcases hd with d1 | ⟨d1, d2⟩
    all_goals
      go_enter Try.func73, Try.ntmps73
      go_wp2_with fail
      refine (wfail_nil 1 w).mono ?_
      rintro x w1 ⟨rfl, rfl⟩
      go_wp2
      refine bodyPost_ret (results_none rfl _ _ _) rfl ?_
      exact ⟨rfl, Below.refl _ _⟩
  · obtain ⟨k, rfl⟩ := Int.eq_ofNat_of_zero_le (show 0 ≤ n by omega)
    have hk : k < 256 := by omega
    have d1 : decide ((k : Int) < 0) = false := by simp
    have d2 : decide ((255 : Int) < (k : Int)) = false := by simp; omega
    have hcv := one_convert w k hk
    clear hbad
    go_enter Try.func73, Try.ntmps73
    go_wp2_with fail
    refine (lay_nil _ _).mono ?_
    rintro x w1 ⟨rfl, rfl⟩
    go_wp2
    go_end0
    exact ⟨rfl, (Below.refl _ _).alloc (Nat.le_refl _) _⟩

theorem ints_fold (m : Nat) (st : Nat × List UInt8) (l : List Int) (k : Nat) (h : k < l.length) :
    M.lay m (M.lay m st (M.enc l.length ++ (l.take k).flatMap M.enc)) (M.enc l[k]) = M.lay m st (M.enc l.length ++ (l.take (k + 1)).flatMap M.enc) := by
  rw [M.lay_lay, M.take_snoc l k h, List.flatMap_append, List.append_assoc]
  simp
theorem ints_stop (m : Nat) (st : Nat × List UInt8) (l : List Int) (k : Nat) (h : (M.lay m st (M.enc l.length ++ (l.take k).flatMap M.enc)).1 ≠ 0) :
    M.lay m st (M.enc l.length ++ (l.take k).flatMap M.enc) = M.lay m st (M.encIs l) := by
  have e : M.encIs l = (M.enc l.length ++ (l.take k).flatMap M.enc) ++ (l.drop k).flatMap M.enc := by
    unfold M.encIs
    rw [List.append_assoc, ← List.flatMap_append, List.take_append_drop]
  rw [e, ← M.lay_lay m st (M.enc l.length ++ (l.take k).flatMap M.enc) ((l.drop k).flatMap M.enc), M.lay_bad m _ _ h]

set_option maxRecDepth 100000 in
set_option maxHeartbeats 1000000 in
theorem intsAll_lay (b : Nat) (a : Option Addr) (cap m : Nat) (st : Nat × List UInt8) (sa : Option Addr) (scap : Nat) (l : List Int) (w : World) (hw : WS w b a cap m st) (hs : At w sa (Value.int .i64) l)
    (hd : 0 < l.length → ∀ k, blk sa k → k ≠ b ∧ ¬ blk a k) (hl : l.length ≤ 1000000) (hb : ∀ n ∈ l, -9223372036854775808 ≤ n ∧ n ≤ 9223372036854775807) :
    Calls Try.prog 85 #[.pointer (some ⟨b, 0, none⟩), .slice sa l.length scap, .func (.func 46) #[.pointer (some ⟨b, 0, none⟩)] #[]] w fun x w' => x = .returned (.tuple #[]) ∧ WQ w b a m (M.lay m st (M.encIs l)) w' := by
  have HST : Hid (∀ k, (M.lay m st (M.enc l.length ++ (l.take k).flatMap M.enc)).1 ≠ 0 → M.lay m st (M.enc l.length ++ (l.take k).flatMap M.enc) = M.lay m st (M.encIs l)) := ints_stop m st l
  have HFO : Hid (∀ k (h : k < l.length), M.lay m (M.lay m st (M.enc l.length ++ (l.take k).flatMap M.enc)) (M.enc l[k]) = M.lay m st (M.enc l.length ++ (l.take (k + 1)).flatMap M.enc)) := ints_fold m st l
  have HEN : Hid (∀ k, l.length ≤ k → M.lay m st (M.enc l.length ++ (l.take k).flatMap M.enc) = M.lay m st (M.encIs l)) := by
    intro k hk
    rw [List.take_of_length_le hk]; rfl
  have HZ : Hid (M.lay m st (M.enc l.length) = M.lay m st (M.enc l.length ++ (l.take 0).flatMap M.enc)) := by
    show _ = _
    rw [List.take_zero]; simp
  go_enter Try.func85, Try.ntmps85
  go_wp2_with fail
  refine (wint_any b a cap m st l.length w hw (by omega)).mono ?_
  rintro x w1 ⟨rfl, hq⟩
  obtain ⟨a1, cap1, hw1, hs1⟩ := hq
  rw [HZ.out] at hw1
  go_wp2
  go_loopw [14] (fun i wr => ∃ (k : Nat) (a' : Option Addr) (cap' : Nat), k ≤ l.length ∧ i = .int .i64 k ∧ WS wr b a' cap' m (M.lay m st (M.enc l.length ++ (l.take k).flatMap M.enc)) ∧ Step b w a wr a') (fun i _ => l.length - (intOf i).toNat)
  case atStart => exact ⟨0, a1, cap1, Nat.zero_le _, rfl, hw1, hs1⟩
  case round =>
    obtain ⟨k, a2, cap2, hk, rfl, hw2, hs2⟩ := hrel
    clear hw1 hs1
    by_cases hlt : k < l.length
    · have hat : At wr sa (Value.int .i64) l := hs.keepBut fun i hi hi2 => hs2.block i hi (hd (by omega) i hi2).1 (hd (by omega) i hi2).2
      obtain ⟨bb, off, rfl, hc⟩ := hat k hlt
      have hx0 := hb l[k] (List.getElem_mem hlt)
      have hFk := HFO.out k hlt
      generalize hx : l[k] = x0 at *
      have HFk : Hid (_ = _) := hFk
      clear hx hat hFk hs
      go_wp2_with fail
      refine (failed_any b a2 cap2 m _ wr hw2).mono ?_
      rintro x w3 ⟨rfl, rfl⟩
      by_cases he : (M.lay m st (M.enc l.length ++ (l.take k).flatMap M.enc)).1 = 0
      · have hdd : decide ((M.lay m st (M.enc l.length ++ (l.take k).flatMap M.enc)).1 ≠ 0) = false := by simp [he]
        rw [hdd]
        clear he hdd
        go_wp2_with fail
        refine (wint_any b a2 cap2 m _ x0 w3 hw2 hx0).mono ?_
        rintro x w4 ⟨rfl, hq⟩
        obtain ⟨a4, cap4, hw4, hs4⟩ := hq
        rw [HFk.out] at hw4
        go_wp2
        go_roundw
        case rel => exact ⟨k + 1, a4, cap4, by omega, by go_num, hw4, hs2.trans hs4⟩
        case measure => simp [intOf]; omega
      · have hdd : decide ((M.lay m st (M.enc l.length ++ (l.take k).flatMap M.enc)).1 ≠ 0) = true := by simp [he]
        rw [hdd]
        rw [HST.out k he] at hw2
        clear he hdd
        go_wp2
        refine bodyPost_ret (results_none rfl _ _ _) rfl ?_
        exact ⟨rfl, a2, cap2, hw2, hs2⟩
    · rw [HEN.out k (by omega)] at hw2
      go_wp2
      go_end0
      exact ⟨rfl, a2, cap2, hw2, hs2⟩
set_option maxHeartbeats 400000 in
theorem wints_any (b : Nat) (a : Option Addr) (cap m : Nat) (st : Nat × List UInt8) (sa : Option Addr) (scap : Nat) (l : List Int) (w : World) (hw : WS w b a cap m st) (hs : At w sa (Value.int .i64) l)
    (hd : 0 < l.length → ∀ k, blk sa k → k ≠ b ∧ ¬ blk a k) (hl : l.length ≤ 1000000) (hb : ∀ n ∈ l, -9223372036854775808 ≤ n ∧ n ≤ 9223372036854775807) :
    Calls Try.prog 74 #[.pointer (some ⟨b, 0, none⟩), .slice sa l.length scap] w fun x w' => x = .returned (.tuple #[]) ∧ WQ w b a m (M.lay m st (M.encIs l)) w' := by
  have hmf := hmf
  go_enter Try.func74, Try.ntmps74
  go_wp2_with fail
  refine (intsAll_lay b a cap m st sa scap l w hw hs hd hl hb).mono ?_
  rintro x w1 ⟨rfl, hq⟩
  go_wp2
  go_end0
  exact ⟨rfl, hq⟩
set_option maxHeartbeats 400000 in
theorem wintsAll_nil (sa : Option Addr) (scap : Nat) (l : List Int) (w : World) (hs : At w sa (Value.int .i64) l) (hl : l.length ≤ 1000000) :
    Calls Try.prog 85 #[.pointer none, .slice sa l.length scap, .func (.func 46) #[.pointer none] #[]] w fun x w' => x = .returned (.tuple #[]) ∧ Below w.heap.size w w' := by
  go_enter Try.func85, Try.ntmps85
  go_wp2_with fail
  refine (wint_nil l.length w (by omega)).mono ?_
  rintro x w1 ⟨rfl, hb⟩
  have hs1 := hs.keep hb
  go_wp2
  go_loopw [14] (fun i wr => wr = w1 ∧ i = .int .i64 0) (fun i _ => 0)
  case atStart => exact ⟨rfl, rfl⟩
  case round =>
    obtain ⟨rfl, rfl⟩ := hrel
    by_cases hlt : 0 < l.length
    · obtain ⟨bb, off, rfl, hc⟩ := hs1 0 hlt
      rw [Nat.add_zero] at hc
      generalize l[0] = x0 at *
      clear hs hs1
      go_wp2_with fail
      refine (failed_nil _).mono ?_
      rintro x w3 ⟨rfl, rfl⟩
      go_wp2
      refine bodyPost_ret (results_none rfl _ _ _) rfl ?_
      exact ⟨rfl, hb⟩
    · have hl0 : l.length = 0 := by omega
      rw [hl0]
      go_wp2
      go_end0
      exact ⟨rfl, hb⟩
set_option maxHeartbeats 400000 in
theorem wints_nil (sa : Option Addr) (scap : Nat) (l : List Int) (w : World) (hs : At w sa (Value.int .i64) l) (hl : l.length ≤ 1000000) :
    Calls Try.prog 74 #[.pointer none, .slice sa l.length scap] w fun x w' => x = .returned (.tuple #[]) ∧ Below w.heap.size w w' := by
  have hmf := hmf
  go_enter Try.func74, Try.ntmps74
  go_wp2_with fail
  refine (wintsAll_nil sa scap l w hs hl).mono ?_
  rintro x w1 ⟨rfl, hq⟩
  go_wp2
  go_end0
  exact ⟨rfl, hq⟩

theorem texts_fold (m : Nat) (st : Nat × List UInt8) (l : List (List UInt8)) (k : Nat) (h : k < l.length) :
    M.lay m (M.lay m st (M.enc l.length ++ (l.take k).flatMap M.encT)) (M.encT l[k]) = M.lay m st (M.enc l.length ++ (l.take (k + 1)).flatMap M.encT) := by
  rw [M.lay_lay, M.take_snoc l k h, List.flatMap_append, List.append_assoc]
  simp
theorem texts_stop (m : Nat) (st : Nat × List UInt8) (l : List (List UInt8)) (k : Nat) (h : (M.lay m st (M.enc l.length ++ (l.take k).flatMap M.encT)).1 ≠ 0) :
    M.lay m st (M.enc l.length ++ (l.take k).flatMap M.encT) = M.lay m st (M.encTs l) := by
  have e : M.encTs l = (M.enc l.length ++ (l.take k).flatMap M.encT) ++ (l.drop k).flatMap M.encT := by
    unfold M.encTs
    rw [List.append_assoc, ← List.flatMap_append, List.take_append_drop]
  rw [e, ← M.lay_lay m st (M.enc l.length ++ (l.take k).flatMap M.encT) ((l.drop k).flatMap M.encT), M.lay_bad m _ _ h]

set_option maxHeartbeats 400000 in
theorem wdone_any (b : Nat) (a : Option Addr) (cap m : Nat) (st : Nat × List UInt8) (w : World) (hw : WS w b a cap m st) :
    Calls Try.prog 70 #[.pointer (some ⟨b, 0, none⟩)] w fun x w' => x = .returned (.tuple #[.string (ofL st.2), .int .i64 st.1]) ∧ Below w.heap.size w w' := by
  have c1 := hw.c1
  have c2 := hw.c2
  have hcv : ∀ q, (Go.convert 77 9 (.slice a st.2.length cap)).run Try.prog (w.drewN q) = .ok (.string (ofL st.2)) (w.drewN q) := fun q => owns_convert (hw.drewN q).own rfl
  have hcv1 : (Go.convert 77 9 (.slice a st.2.length cap)).run Try.prog w.drew = .ok (.string (ofL st.2)) w.drew := hcv 1
  go_enter Try.func70, Try.ntmps70
  go_wp2_with fail
  go_region
  all_goals
    go_wp2
    go_ret2
    exact ⟨rfl, (Below.refl _ _).drew⟩
set_option maxHeartbeats 400000 in
theorem wdone_nil (w : World) : Calls Try.prog 70 #[.pointer none] w fun x w' => x = .returned (.tuple #[.string (ofL []), .int .i64 1]) ∧ w' = w := by
  go_enter Try.func70, Try.ntmps70
  go_wp2
  go_ret2
  exact ⟨rfl, rfl⟩

/-- How many bytes a writer takes. -/
def clip (n : Int) : Nat := (min (max n 0) 65536).toNat
theorem clip_le (n : Int) : clip n ≤ 65536 := by unfold clip; omega
theorem clip_eq (n : Int) : ((clip n : Nat) : Int) = min (max n 0) 65536 := by unfold clip; omega
def NewW (w : World) (m : Nat) (x : Ending) (w' : World) : Prop :=
  ∃ b, x = .returned (.pointer (some ⟨b, 0, none⟩)) ∧ w.heap.size ≤ b ∧ WS w' b none 0 m (0, []) ∧ Below w.heap.size w w'
set_option maxHeartbeats 400000 in
theorem newWriter_any (n : Int) (w : World) : Calls Try.prog 69 #[.int .i64 n] w (NewW w (clip n)) := by
  go_enter Try.func69, Try.ntmps69
  go_wp2
  go_ret
  refine ⟨w.heap.size, rfl, Nat.le_refl _, ⟨?_, World.ownsRow_nil _ _ _ _, ⟨by simp, by simp, fun _ => rfl⟩, clip_le n⟩, (Below.refl _ _).alloc (Nat.le_refl _) _⟩
  rw [← clip_eq]
  exact heap_alloc_new w _

end Go.Proofs.Ytgcfpihfoekllaa
