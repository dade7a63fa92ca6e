/-
  The reader's other calls: counts, texts, rows of ints and of texts: each does what the plain functions of the text M say, and writes nothing but the reader and what is new.
-/
import Derived.Test.YtgcfpihfoekllaaA
namespace Go.Proofs.Ytgcfpihfoekllaa
open Go.RowKit
set_option linter.unusedVariables false

theorem Try.info5 : (Try.prog.info? 5).map (fun i => (i.zero, i.size, i.bytes)) = some (some (.int .u8 0), 1, 1) := by kernel_rfl
theorem Try.info3 : (Try.prog.info? 3).map (fun i => (i.zero, i.size, i.bytes)) = some (some (.int .i64 0), 1, 8) := by kernel_rfl
theorem Try.info9 : (Try.prog.info? 9).map (fun i => (i.zero, i.size, i.bytes)) = some (some (.string ByteArray.empty), 1, 16) := by kernel_rfl

set_option maxHeartbeats 4000000 in
set_option maxRecDepth 100000 in
theorem cloneLite_any (s : ByteArray) (w : World) (hlim : s.size ≤ 140737488351232) :
    Calls Try.prog 86 #[.string s] w fun e w' => e = .returned (.string s) ∧ Below w.heap.size w w' := by
  by_cases h0 : s.size = 0
  · have hs : s = ⟨#[]⟩ := by
      apply ByteArray.ext
      exact Array.eq_empty_of_size_eq_zero h0
    subst hs
    go_enter Try.func86, Try.ntmps86
    go_wp2
    go_ret
    exact ⟨rfl, Below.refl _ _⟩
  · obtain ⟨i0, hi, hz0, hz1, hz2⟩ := info_parts Try.info5
    have hinfo : (Try.prog.info? 5).map (·.size) = some 1 := by rw [hi]; simp [hz1]
    have hco : Try.prog.cellsOf 5 = 1 := by simp [Program.cellsOf, hi, hz1]
    obtain ⟨M, hM⟩ : ∃ M, M = madeCells (Value.int .u8 0).cells (((s.size : Nat) : Int).toNat * i0.size) := ⟨_, rfl⟩
    have hMs : M.size = s.size := by rw [hM, size_madeCells, hz1]; simp
    have hmk : ∀ W : World, (Instr.makeSlice 77 (.int .i64 (s.size : Int)) (.int .i64 (s.size : Int))).run Try.prog W = .ok (.slice (some ⟨W.heap.size, 0, none⟩) s.size s.size) (W.alloc (.cells M 5)) := fun W => by
      have h := run_make (P := Try.prog) W 77 5 i0 (.int .u8 0) Try.underlying77 hi hz0 .i64 .i64 (s.size : Int) (s.size : Int) (by omega) (by omega) (by rw [hz2]; omega) (by omega)
      rw [← hM] at h
      simpa using h
    clear hM
    have hcp := Lib.run_copy_row_string (P := Try.prog) (w.alloc (.cells M 5)) 77 9 3 5 w.heap.size 0 s.size s.size s M 5 Try.underlying77 hinfo (heap_alloc_new w _) (Nat.le_refl _) (by omega)
    obtain ⟨Y, hY⟩ : ∃ Y, Y = (M.toList.take 0 ++ Lib.byteCells s.data.toList ++ M.toList.drop (0 + s.size)).toArray := ⟨_, rfl⟩
    rw [← hY] at hcp
    have hYl : Y.toList = Lib.byteCells s.data.toList := by
      rw [hY, List.toList_toArray, List.take_zero, List.nil_append, List.drop_of_length_le (by rw [Array.length_toList]; omega), List.append_nil]
    have hYs : Y.size = s.size := by rw [← Array.length_toList, hYl, Lib.byteCells_length, ← Lib.size_eq]
    have hgY : ((w.alloc (.cells M 5)).setRow w.heap.size Y).heap[w.heap.size]? = some (.cells Y 5 (0, 0)) := setRow_heap _ _ M _ 5 (0, 0) (heap_alloc_new w _)
    have hne : s.data.toList ≠ [] := fun e => h0 (by rw [Lib.size_eq, e]; rfl)
    have hUS := Lib.run_unsafeString_row (P := Try.prog) ((w.alloc (.cells M 5)).setRow w.heap.size Y) 115 3 9 5 Try.underlying115 hco w.heap.size Y.size (by unfold World.shape?; rw [hgY]) s.data.toList hne (by rw [← Lib.size_eq]; omega) (by rw [← Lib.size_eq]; omega)
      (fun j x hx => Lib.cells_of_row hgY Y.size j _ (by rw [List.take_of_length_le (by rw [Array.length_toList]; exact Nat.le_refl _), hYl]; simp [Lib.byteCells, hx]))
    rw [← Lib.size_eq] at hUS
    clear hY
    go_enter Try.func86, Try.ntmps86
    go_wp2
    go_ret
    have hb1 : Below w.heap.size w (w.alloc (.cells M 5)) := (Below.refl _ w).alloc (Nat.le_refl _) _
    have hb2 : Below w.heap.size (w.alloc (.cells M 5)) ((w.alloc (.cells M 5)).setRow w.heap.size Y) := ⟨rfl, rfl, rfl, by simp, fun k hk => setRow_other _ _ _ _ (by omega)⟩
    exact ⟨rfl, Lib.below_freeze (hb1.trans hb2) (p := ⟨w.heap.size, 0, none⟩) (Nat.le_refl _) _⟩

set_option maxHeartbeats 400000 in
theorem clone_any (s : ByteArray) (w : World) (hs : s.size ≤ 140737488351232) :
    Calls Try.prog 75 #[.string s] w fun e w' => e = .returned (.string s) ∧ Below w.heap.size w w' := by
  go_enter Try.func75, Try.ntmps75
  go_wp2_with fail
  refine (cloneLite_any s w hs).mono ?_
  rintro e w1 ⟨rfl, hb⟩
  go_wp2
  go_ret
  exact ⟨rfl, hb⟩

/-- A reader's state: what is left, or none behind an error. -/
def lft (st : Option (List UInt8)) : List UInt8 := st.getD []
def ee (st : Option (List UInt8)) : Int := if st.isSome then 0 else 3
def RS (w : World) (b : Nat) (st : Option (List UInt8)) : Prop := RIs w b (lft st) (ee st)
def nx {α : Type} (o : Option (α × List UInt8)) : Option (List UInt8) := o.map (·.2)
theorem RS.lt {w : World} {b : Nat} {st : Option (List UInt8)} (h : RS w b st) : b < w.heap.size := RIs.lt h
theorem RS.c1 {w : World} {b : Nat} {st : Option (List UInt8)} (h : RS w b st) : w.cell? ⟨b, 1, none⟩ = some (.int .i64 (ee st)) := RIs.c1 h
theorem RS.keep {w w' : World} {b : Nat} {st : Option (List UInt8)} (h : RS w b st) (hb : w'.heap[b]? = w.heap[b]?) : RS w' b st := RIs.keep h hb
theorem RS.of {α : Type} {w : World} {b : Nat} {st : Option (List UInt8)} {o : Option (α × List UInt8)} (h : RIs w b (lf o) (er o (ee st))) (hn : st = none → o = none) : RS w b (nx o) := by
  cases o with
  | none => exact h
  | some p =>
    cases st with
    | none => cases hn rfl
    | some l => exact h

theorem owns_grown {w w' : World} {base n b : Nat} {e : TypeId} {size : Nat} {v : Value} {xs : List Value} (h : w.ownsRow base e size v n xs) (hg : w.grownBy w' (some b)) (hb : b < base) : w'.ownsRow base e size v n xs :=
  h.kept hg (by
    cases hv : v.ownBlock with
    | none => exact .inl rfl
    | some k =>
      refine .inr fun e => ?_
      have := (h.lt k hv).1
      simp at e
      omega)
theorem grown_append {w w2 w3 : World} {n b : Nat} {e : TypeId} {size : Nat} {v : Value} {xs : List Value} {o : Obj} (hg : w.grownBy w2 (some b)) (hown : w2.ownsRow w.heap.size e size v n xs) (hgrow : (w2.alloc o).grownBy w3 v.ownBlock) : w.grownBy w3 (some b) := by
  have hz := hg.size
  refine ⟨hgrow.os.trans hg.os, hgrow.tape.trans hg.tape, hgrow.output.trans hg.output, ?_, fun k hk hr => ?_⟩
  · have := hgrow.size
    simp at this
    omega
  · rw [hgrow.block k (by simp; omega) (fun e => by have := (hown.lt k e.symm).1; omega), Below.heap_alloc _ _ _ (by omega)]
    exact hg.block k hk hr

theorem rs_append {B : Nat} {w2 w3 : World} {n b : Nat} {e : TypeId} {size : Nat} {v : Value} {xs : List Value} {o : Obj} {st : Option (List UInt8)} (hb : b < B) (hr : RS w2 b st) (hown : w2.ownsRow B e size v n xs) (hgrow : (w2.alloc o).grownBy w3 v.ownBlock) : RS w3 b st :=
  hr.keep (by
    have hb2 := hr.lt
    rw [hgrow.block b (by simp; omega) (fun e => by have := (hown.lt b e.symm).1; omega)]
    exact Below.heap_alloc _ _ _ hb2)
set_option maxHeartbeats 400000 in
theorem int_rs (b : Nat) (st : Option (List UInt8)) (w : World) (hr : RS w b st) (hl : (lft st).length ≤ 140737488351232) :
    Calls Try.prog 76 #[.pointer (some ⟨b, 0, none⟩)] w fun x w' => x = .returned (.int .i64 (vl 0 (M.int (lft st)))) ∧ RS w' b (nx (M.int (lft st))) ∧ w.grownBy w' (some b) :=
  (int_any b (lft st) (ee st) w hr hl).mono fun e w' ⟨h1, h2, h3⟩ => ⟨h1, RS.of h2 (fun h => by subst h; rfl), h3⟩

set_option maxHeartbeats 400000 in
theorem byte_rs (b : Nat) (st : Option (List UInt8)) (w : World) (hr : RS w b st) (hl : (lft st).length ≤ 140737488351232) :
    Calls Try.prog 87 #[.pointer (some ⟨b, 0, none⟩)] w fun x w' => x = .returned (.int .i64 (vl 0 (M.byte (lft st)))) ∧ RS w' b (nx (M.byte (lft st))) ∧ w.grownBy w' (some b) := by
  have hx : st = none → M.byte (lft st) = none := fun h => by subst h; rfl
  have hr' : RIs w b (lft st) (ee st) := hr
  generalize hq : lft st = l at *
  cases l with
  | nil => exact (byte_e b (ee st) w hr').mono fun e w' ⟨h1, h2, h3⟩ => ⟨h1, h2, h3⟩
  | cons c r => exact (byte_c b c r (ee st) w hr' hl).mono fun e w' ⟨h1, h2, h3⟩ => ⟨h1, RS.of (st := st) (o := M.byte (c :: r)) h2 hx, h3⟩

set_option maxHeartbeats 400000 in
theorem count_any (b : Nat) (st : Option (List UInt8)) (w : World) (hr : RS w b st) (hl : (lft st).length ≤ 140737488351232) :
    Calls Try.prog 93 #[.pointer (some ⟨b, 0, none⟩)] w fun x w' => x = .returned (.int .i64 ((vl 0 (M.count (lft st)) : Nat) : Int)) ∧ RS w' b (nx (M.count (lft st))) ∧ w.grownBy w' (some b) := by
  cases hi : M.int (lft st) with
  | none =>
    have HN : Hid (_ = _) := M.count_none _ hi
    go_enter Try.func93, Try.ntmps93
    go_wp2_with fail
    refine (int_rs b st w hr hl).mono ?_
    rintro e w1 ⟨rfl, hr1, hg1⟩
    rw [hi] at hr1 ⊢
    simp only [vl]
    go_wp2_with fail
    refine (left_any b [] 3 w1 hr1).mono ?_
    rintro e w2 ⟨rfl, rfl⟩
    go_wp2
    go_ret
    rw [HN.out]
    exact ⟨rfl, hr1, hg1⟩
  | some p =>
    obtain ⟨n, r⟩ := p
    have hbd := M.int_bd _ _ _ hi
    have hrl := M.int_len _ _ _ hi
    by_cases h1 : n < 0
    · have HN : Hid (_ = _) := M.count_low _ _ _ hi (.inl h1)
      have d1 : decide (n < 0) = true := by simpa using h1
      go_enter Try.func93, Try.ntmps93
      go_wp2_with fail
      refine (int_rs b st w hr hl).mono ?_
      rintro e w1 ⟨rfl, hr1, hg1⟩
      rw [hi] at hr1 ⊢
      simp only [vl]
      go_wp2_with fail
      refine (fail_any b r 0 w1 hr1).mono ?_
      rintro e w2 ⟨rfl, hr2, hg2⟩
      go_wp2
      go_ret
      rw [HN.out]
      exact ⟨rfl, hr2, grown_trans hg1 hg2⟩
    · obtain ⟨m, rfl⟩ := Int.eq_ofNat_of_zero_le (show 0 ≤ n by omega)
      by_cases h2 : r.length < m
      · have HN : Hid (_ = _) := M.count_low _ _ _ hi (.inr (by omega))
        have hrl2 : r.length ≤ 140737488351232 := by omega
        generalize hR : r.length = rl at *
        go_enter Try.func93, Try.ntmps93
        go_wp2_with fail
        refine (int_rs b st w hr hl).mono ?_
        rintro e w1 ⟨rfl, hr1, hg1⟩
        rw [hi] at hr1 ⊢
        simp only [vl]
        go_wp2_with fail
        refine (left_any b r 0 w1 hr1).mono ?_
        rintro e w2 ⟨rfl, rfl⟩
        rw [hR]
        go_wp2_with fail
        refine (fail_any b r 0 w2 hr1).mono ?_
        rintro e w2 ⟨rfl, hr2, hg2⟩
        go_wp2
        go_ret
        rw [HN.out]
        exact ⟨rfl, hr2, grown_trans hg1 hg2⟩
      · have HN : Hid (_ = _) := M.count_fits _ _ _ hi (by omega)
        have hrl2 : r.length ≤ 140737488351232 := by omega
        generalize hR : r.length = rl at *
        go_enter Try.func93, Try.ntmps93
        go_wp2_with fail
        refine (int_rs b st w hr hl).mono ?_
        rintro e w1 ⟨rfl, hr1, hg1⟩
        rw [hi] at hr1 ⊢
        simp only [vl]
        go_wp2_with fail
        refine (left_any b r 0 w1 hr1).mono ?_
        rintro e w2 ⟨rfl, rfl⟩
        rw [hR]
        go_wp2
        go_ret
        rw [HN.out]
        exact ⟨rfl, hr1, hg1⟩

/-- What a call that reads a row of ints, or of texts, leaves. -/
def IntsOut (w : World) (b : Nat) (o : Option (List Int × List UInt8)) (x : Ending) (w' : World) : Prop :=
  ∃ v, x = .returned v ∧ w'.ownsRow w.heap.size 3 1 v (vl [] o).length ((vl [] o).map (Value.int .i64)) ∧ RS w' b (nx o) ∧ w.grownBy w' (some b)
def TextsOut (w : World) (b : Nat) (o : Option (List (List UInt8) × List UInt8)) (x : Ending) (w' : World) : Prop :=
  ∃ v, x = .returned v ∧ w'.ownsRow w.heap.size 9 1 v (vl [] o).length ((vl [] o).map (fun s => Value.string (ofL s))) ∧ RS w' b (nx o) ∧ w.grownBy w' (some b)

set_option maxHeartbeats 2000000 in
theorem intAll_any (b : Nat) (st : Option (List UInt8)) (w : World) (hr : RS w b st) (hl : (lft st).length ≤ 1000000) :
    Calls Try.prog 92 #[.pointer (some ⟨b, 0, none⟩), .func (.func 76) #[.pointer (some ⟨b, 0, none⟩)] #[]] w (IntsOut w b (M.ints (lft st))) := by
  obtain ⟨i0, hi, hz0, hz1, hz2⟩ := info_parts Try.info3
  go_enter Try.func92, Try.ntmps92
  go_wp2_with fail
  refine (count_any b st w hr (by omega)).mono ?_
  rintro e w1 ⟨rfl, hr1, hg1⟩
  have HC : Hid (M.ints (lft st) = match M.count (lft st) with | none => none | some (n, r) => M.many M.int n r) := rfl
  have HCL := M.count_len (lft st)
  cases hc : M.count (lft st) with
  | none =>
    rw [hc] at hr1 HC
    simp only [vl]
    go_wp2
    go_loopw [5, 8] (fun v i wr => wr = w1 ∧ i = .int .i64 0 ∧ v = .slice none 0 0) (fun _ _ _ => 0)
    case atStart => exact ⟨rfl, rfl, rfl⟩
    case round =>
      obtain ⟨rfl, rfl, rfl⟩ := hrel
      go_wp2
      go_ret
      rw [HC.out]
      exact ⟨_, rfl, World.ownsRow_nil _ _ _ _, hr1, hg1⟩
  | some p =>
    obtain ⟨n, r0⟩ := p
    rw [hc] at hr1 HC
    have hn := HCL n r0 hc
    have hb1 := hr1.lt
    have hbw := hr.lt
    simp only [vl]
    clear hc HCL hr
    go_wp2
    go_loopw [5, 8] (fun v i wr => ∃ (k : Nat) (xs : List Int) (r : List UInt8), k ≤ n ∧ i = .int .i64 k ∧ wr.ownsRow w.heap.size 3 1 v k (xs.map (Value.int .i64)) ∧ RS wr b (some r) ∧ w.grownBy wr (some b) ∧ r.length ≤ 1000000 ∧ Hid (M.many M.int k r0 = some (xs, r))) (fun _ i _ => n - (intOf i).toNat)
    case atStart => exact ⟨0, [], r0, Nat.zero_le _, rfl, World.ownsRow_nil _ _ _ _, hr1, hg1, by omega, rfl⟩
    case round =>
      obtain ⟨k, xs, r, hk, rfl, hown, hr', hg, hrl, hm⟩ := hrel
      clear hr1 hg1
      by_cases hlt : k < n
      · go_wp2_with fail
        refine (int_rs b (some r) _ hr' (by simp [lft]; omega)).mono ?_
        rintro e w2 ⟨rfl, hr2, hg2⟩
        have hown2 := owns_grown hown hg2 hbw
        have hgg := grown_trans hg hg2
        have hz := hgg.size
        have hb2 := hr2.lt
        clear hown
        cases hq : M.int r with
        | none =>
          simp only [lft, Option.getD_some, hq, nx, Option.map_none, vl] at hr2 ⊢
          have HN : Hid (M.ints (lft st) = none) := by
            show _ = _
            rw [HC.out]
            have := M.many_stop M.int k r0 xs r hm.out hq (n - (k + 1))
            rwa [show k + 1 + (n - (k + 1)) = n by omega] at this
          clear hq
          go_wp2_with (at_builtin; refine wpList_append_own _ rfl _ _ 30 rfl w.heap.size 3 i0 (.int .i64 0) 1 8 Try.underlying30 hi hz0 hz1 hz2 rfl (by decide) _ _ _ rfl (hown2.alloc _) ⟨w2.heap.size, 0, none⟩ 1 1 [.int .i64 0] rfl rfl (cell_one_new _ _ _) (by simp; rfl) (by unfold maxLen; omega) (by omega) (by simp; omega) ?_; intro v' w3 hown3 hgrow hnil; have hr3 := rs_append hbw hr2 hown2 hgrow; have c3 : w3.cell? ⟨b, 1, none⟩ = some (.int .i64 3) := hr3.c1; have hg3 := grown_append hgg hown2 hgrow; clear hown3 hgrow)
          go_ret
          rw [HN.out]
          exact ⟨_, rfl, World.ownsRow_nil _ _ _ _, hr3, hg3⟩
        | some p2 =>
          obtain ⟨x, r2⟩ := p2
          simp only [lft, Option.getD_some, hq, nx, Option.map_some, vl] at hr2 ⊢
          have HM : Hid (M.many M.int (k + 1) r0 = some (xs ++ [x], r2)) := M.many_step M.int k r0 xs r x r2 hm.out hq
          have hrl2 : r2.length ≤ 1000000 := by have := M.int_len r x r2 hq; omega
          clear hq
          go_wp2_with (at_builtin; refine wpList_append_own _ rfl _ _ 30 rfl w.heap.size 3 i0 (.int .i64 0) 1 8 Try.underlying30 hi hz0 hz1 hz2 rfl (by decide) _ _ _ rfl (hown2.alloc _) ⟨w2.heap.size, 0, none⟩ 1 1 [(Value.int .i64) x] rfl rfl (cell_one_new _ _ _) (by simp; rfl) (by unfold maxLen; omega) (by omega) (by simp; omega) ?_; intro v' w3 hown3 hgrow hnil; have hr3 := rs_append hbw hr2 hown2 hgrow; have c3 : w3.cell? ⟨b, 1, none⟩ = some (.int .i64 0) := hr3.c1; have hg3 := grown_append hgg hown2 hgrow; clear hgrow)
          go_roundw
          case rel => exact ⟨k + 1, xs ++ [x], r2, by omega, by go_num, by rw [List.map_append]; exact hown3, hr3, hg3, hrl2, HM⟩
          case measure => simp [intOf]; omega
      · have hkn : k = n := by omega
        subst hkn
        have HN : Hid (M.ints (lft st) = some (xs, r)) := by
          show _ = _
          rw [HC.out]
          exact hm.out
        have hxl : xs.length = k := M.many_len M.int k r0 xs r hm.out
        go_wp2
        go_ret
        rw [HN.out]
        subst hxl
        exact ⟨_, rfl, hown, hr', hg⟩

end Go.Proofs.Ytgcfpihfoekllaa
