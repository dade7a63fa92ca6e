/-
  The builder; the clients in order.
-/
import Derived.Test.YtjbcchipbdkplaaRD
import Derived.Test.YtjbcchipbdkplaaShelf
import Derived.Lib.SlKeysI
import Derived.Deep.CutRange
namespace Go.Proofs.Ytjbcchipbdkplaa
open Go.RowKit Go.Maps Go.Sort
set_option linter.unusedVariables false
open Rp (C fup)

theorem Try.size75 : (Try.prog.info? 75).map (·.size) = some 2 := by kernel_rfl
theorem lies75 : liesAt Try.prog Try.prog.depth 75 (2 / Try.prog.cellsOf 75) 0 75 1 = true := by kernel_rfl
set_option maxRecDepth 100000 in
set_option maxHeartbeats 1000000 in
theorem copyCheck_used (b : Nat) (w : World) (c0 : w.cell? ⟨b, 0, none⟩ = some (.pointer (some ⟨b, 0, none⟩))) : Calls Try.prog 52 #[.pointer (some ⟨b, 0, none⟩)] w fun e w' => e = .returned (.tuple #[]) ∧ w' = w := by
  obtain ⟨j, hj, hjs⟩ := Option.map_eq_some_iff.1 Try.size75
  go_enter Try.func52, Try.ntmps52
  go_wp2
  rw [Lib.run_neq_ptr_same w _ Try.underlying72 hj]
  go_wp2
  go_end0
  exact ⟨rfl, rfl⟩
theorem conv_there (w : World) (b : Nat) (hsh : w.shape? b = some (75, 2)) :
    (convert 72 118 (.pointer (some ⟨b, 0, none⟩))).run Try.prog w = .ok (.pointer (some ⟨b, 0, none⟩)) w := by
  obtain ⟨j, hj, hjs⟩ := Option.map_eq_some_iff.1 Try.size75
  have hne : j.size ≠ 0 := by rw [hjs]; decide
  simp [convert, run_underlying Try.underlying72, run_underlying Try.underlying118, Conv.unsafePointer, Conv.seenAt, viewAt, cellsIn, hsh, sizeOf, typeInfo, hj, hne]
theorem conv_here (w : World) (b : Nat) (hsh : w.shape? b = some (75, 2)) :
    (convert 118 72 (.pointer (some ⟨b, 0, none⟩))).run Try.prog w = .ok (.pointer (some ⟨b, 0, none⟩)) w := by
  obtain ⟨j, hj, _⟩ := Option.map_eq_some_iff.1 Try.size75
  simp [convert, run_underlying Try.underlying72, run_underlying Try.underlying118, Conv.unsafePointer, Conv.seenAt, viewAt, hsh, variablesAt, lies75, sizeOf, typeInfo, hj]
set_option maxRecDepth 100000 in
set_option maxHeartbeats 1000000 in
theorem copyCheck_fresh (b : Nat) (w : World) (h0 : w.cell? ⟨b, 0, none⟩ = some (.pointer none)) (hsh : w.shape? b = some (75, 2)) (hfz : w.frozen? ⟨b, 0, none⟩ = false) :
    Calls Try.prog 52 #[.pointer (some ⟨b, 0, none⟩)] w fun e w' => e = .returned (.tuple #[]) ∧ w' = w.setCell ⟨b, 0, none⟩ (.pointer (some ⟨b, 0, none⟩)) := by
  go_enter Try.func52, Try.ntmps52
  go_wp2
  rw [conv_there w b hsh]
  simp only [Result.andThen]
  rw [Oper.upon_value]
  go_wp2
  rw [run_callFunc_extern Try.func69 (by kernel_rfl) (by kernel_rfl) (by kernel_rfl) (e := Extern.AbiNoEscape.same) (by kernel_rfl)]
  rw [Lib.run_noEscape]
  simp only [Result.andThen]
  rw [Oper.upon_value]
  go_wp2
  rw [conv_here w b hsh]
  simp only [Result.andThen]
  rw [Oper.upon_value]
  go_wp2
  go_end0
  exact ⟨rfl, rfl⟩
theorem copyCheck_any (B b : Nat) (bs : List Value) (w : World) (h : Lib.IsBuilder 75 5 B b bs w) :
    Calls Try.prog 52 #[.pointer (some ⟨b, 0, none⟩)] w fun e w' => e = .returned (.tuple #[]) ∧ (Lib.BuilderAt 75 5 B b (.pointer (some ⟨b, 0, none⟩)) bs w' ∧ Below B w w') := by
  rcases h with h | h
  · refine (copyCheck_fresh b w h.cell0 h.shape h.frozen0).mono ?_
    rintro e w' ⟨rfl, rfl⟩
    exact ⟨rfl, h.used _, (Below.refl B w).setCell (p := ⟨b, 0, none⟩) h.1 _⟩
  · refine (copyCheck_used b w h.cell0).mono ?_
    rintro e w' ⟨rfl, rfl⟩
    exact ⟨rfl, h, Below.refl B _⟩
set_option maxRecDepth 100000 in
set_option maxHeartbeats 1000000 in
theorem bwrite_any (B b : Nat) (bs : List Value) (s : ByteArray) (w : World) (h : Lib.IsBuilder 75 5 B b bs w) (hlen : bs.length + s.size ≤ 100000000) (hBw : B ≤ w.heap.size) :
    Calls Try.prog 32 #[.pointer (some ⟨b, 0, none⟩), .string s] w fun e w' => e = .returned (.tuple #[.int .i64 s.size, .nilIface]) ∧ Lib.BuilderAt 75 5 B b (.pointer (some ⟨b, 0, none⟩)) (bs ++ Lib.strCells s) w' ∧ Below B w w' := by
  obtain ⟨i0, hi, hz0, hz1, hz2⟩ := info_parts Try.info5
  have hcc := copyCheck_any B b bs w h
  clear h
  go_enter Try.func32, Try.ntmps32
  go_wp2_with fail
  refine hcc.mono ?_
  rintro e w1 ⟨rfl, ⟨hB, v, hbk, hown, hne⟩, hb01⟩
  have c1 : w1.cell? ⟨b, 1, none⟩ = some v := by rw [Lib.cell_of_heap hbk]; rfl
  have hBw1 : B ≤ w1.heap.size := Nat.le_trans hBw hb01.size
  have HB01 := Hid_of hb01
  clear hcc hb01
  go_wp2_with (at_builtin; refine Lib.wpList_append_own_string _ rfl _ _ 73 9 rfl B 5 i0 Try.underlying73 Try.underlying9 hi hz0 hz1 hz2 _ _ _ rfl hown s rfl ?c3 ?c4 ?c5 ?_)
  case c3 => unfold maxLen; omega
  case c4 => omega
  case c5 => omega
  intro v' w2 hown' hgrow _
  have hlt : b < w1.heap.size := (Array.getElem?_eq_some_iff.1 hbk).1
  have hb2 : w2.heap[b]? = some (.cells #[.pointer (some ⟨b, 0, none⟩), v] 75 (0, 0)) := by
    rw [hgrow.block b hlt (fun e => hne e.symm)]
    exact hbk
  obtain ⟨⟨d0, d1⟩, df⟩ := rw2 hb2
  have f1 := df 1
  obtain ⟨ao, n', cap, rfl⟩ : ∃ ao n' cap, v' = .slice ao n' cap := by
    rcases hown'.2 with ⟨hv, _⟩ | ⟨g, cap, cur, hv, _⟩
    · exact ⟨_, _, _, hv⟩
    · exact ⟨_, _, _, hv⟩
  have HK := Hid_of (And.intro (Lib.BuilderAt.put (T := 75) (e := 5) hB hb2 (bs' := bs ++ Lib.strCells s) (by simpa [Lib.strCells_length] using hown') (by decide)) (HB01.out.trans (((Below.refl B w1).grown hgrow hBw1 (fun k hk => (hown.lt k hk).1)).setCell (p := ⟨b, 1, none⟩) hB (.slice ao n' cap))))
  clear hown hown' hgrow hbk df hb2 HB01
  go_wp2
  go_ret2
  exact ⟨rfl, HK.out⟩
/-- The keys that a loop over the map has met. -/
structure Met (f : Int → Option (Nat × Nat × Nat)) (left : Lit → Bool) (ks : List Int) : Prop where
  nd : ks.Nodup
  mem : ∀ k, k ∈ ks ↔ (f k).isSome = true ∧ left (.int .i64 k) = false
  sub : ∀ k, left (.int .i64 k) = true → (f k).isSome = true
theorem same_i {j k : Int} : (Lit.int .i64 j).sameKey (.int .i64 k) = decide (j = k) := by
  by_cases h : j = k
  · subst h; simp [Lit.sameKey]
  · simp [Lit.sameKey, h]
theorem Met.step {f : Int → Option (Nat × Nat × Nat)} {left : Lit → Bool} {ks : List Int} (h : Met f left ks) {x : Int} (hl : left (.int .i64 x) = true) : Met f (fun z => left z && !z.sameKey (.int .i64 x)) (ks ++ [x]) := by
  have hf := h.sub x hl
  refine ⟨?_, fun k => ?_, fun k hk => h.sub k (by simp only [Bool.and_eq_true] at hk; exact hk.1)⟩
  · rw [List.nodup_append]
    refine ⟨h.nd, by simp, fun a ha b hb e => ?_⟩
    simp at hb
    subst hb
    subst e
    have := ((h.mem a).1 ha).2
    rw [hl] at this
    cases this
  · rw [List.mem_append, h.mem k, List.mem_singleton, same_i]
    by_cases hk : k = x
    · subst hk
      simp [hf]
    · simp [hk]
theorem Met.start {f : Int → Option (Nat × Nat × Nat)} {D : DataW Unit} (hD : ∀ k, Maps.has D (.int .i64 k) = (f k).isSome) : Met f (Maps.has D) [] :=
  ⟨List.nodup_nil, fun k => by rw [hD k]; cases (f k).isSome <;> simp, fun k hk => by rw [← hD k]; exact hk⟩
set_option maxRecDepth 100000 in
set_option maxHeartbeats 2000000 in
theorem clients_any {w : World} {base b m n room : Nat} {f : Int → Option (Nat × Nat × Nat)} {T : Int → List C} (h : RI w base b m n room f T) (ok : Rp.Ok room T) (hn : n ≤ 100000) :
    Calls Try.prog 31 #[.pointer (some ⟨b, 0, none⟩)] w (IdOut w (Rp.keys T)) := by
  obtain ⟨⟨c0, c1⟩, _⟩ := h.cells
  obtain ⟨D, hown, hD⟩ := h.mi
  have HD := Hid_of hD
  have hsz := hown.size_le
  have HS : Hid (∀ k, (f k).isSome = true ↔ k ∈ Rp.keys T) := fun k => by
    rw [Rp.mem_keys]
    constructor
    · intro hk
      refine ⟨?_, h.got k hk⟩
      cases hc : Rp.mayC k with
      | true => rfl
      | false => exact absurd (ok.out k hc) (h.got k hk)
    · rintro ⟨_, hk⟩
      obtain ⟨g, cap, e⟩ := h.has hk
      rw [e]; rfl
  clear h ok hD
  go_enter Try.func31, Try.ntmps31
  go_wp2_with (first
    | (at_range; refine wpList_range_own _ rfl _ 55 rfl 3 63 law3 Try.underlying55 _ m n _ rfl hown ?_; intro w0 hrg0 hg0 hs0)
    | go_in)
  go_frame
  go_loopw [3] (fun v wr => ∃ (left : Lit → Bool) (cnt : Nat) (ks : List Int), wr.ranges Try.prog 3 slR m w.heap.size n D left cnt ∧ ks.length + cnt ≤ Maps.size D ∧ Met f left ks ∧ OwnL il 3 wr (w.heap.size + 1) v ks ∧ Below w.heap.size w wr) (fun _ wr => wr.rangeLeft m w.heap.size)
  case atStart =>
    exact ⟨_, _, [], hrg0, by simp, Met.start (fun k => (HD.out k).2), OwnL.nil _ _ _, (Below.refl w.heap.size w).grown hg0 (Nat.le_refl _) (fun j hj => by cases hj)⟩
  case round =>
    obtain ⟨left, cnt, ks, hrg, hcs, hmet, ho, hbl⟩ := hrel
    obtain ⟨a1, cap1, rfl, hx1, _⟩ := ho.at
    have HO := Hid_of ho
    have HM := Hid_of hmet
    have HBL := Hid_of hbl
    have hlt0 : w.heap.size < wr.heap.size := hrg.lt
    clear ho hmet hx1 hbl
    go_wp2_with (first
      | (at_next; refine wpList_next_ranges _ rfl _ rfl 3 law3 slR (Value.int .i64) svV (fun key kl hkey => by obtain ⟨x, rfl, _⟩ := Maps.keyOf_int_inv Try.underlying3 hkey; exact ⟨x, rfl⟩) (fun v y hv => by obtain ⟨p, rfl, _⟩ := slR_shape hv; exact ⟨p, rfl⟩) m w.heap.size n _ _ _ rfl hrg ?_ ?_)
      | go_in)
    · intro hc0 hl0
      have hks := Rp.up_sort HM.out.nd (Rp.keys_up T) (fun x => by rw [HM.out.mem x, HS.out x, hl0]; simp)
      have hpl : ks.length = (Rp.keys T).length := by rw [← hks, List.length_mergeSort]
      rcases HO.out.2 with ⟨hv, hz⟩ | ⟨gb, cp, cur, hv, hbase, hgb, r1, r2, r3, r4⟩
      · have e0 : ks = [] := List.eq_nil_of_length_eq_zero hz
        subst e0
        simp only [List.length_nil, Value.slice.injEq] at hv
        obtain ⟨rfl, _, rfl⟩ := hv
        have HQ : Hid (IdOut w (Rp.keys T) (.returned (.slice none 0 0)) wr) := ⟨_, rfl, by rw [← hks, List.mergeSort_nil]; exact OwnL.nil _ _ _, HBL.out⟩
        clear HO HM HBL hks hrg hcs hpl
        go_wp2_with fail
        refine (Try.slices_Sort_int_none none 0 wr).mono ?_
        rintro e w' ⟨rfl, rfl⟩
        go_wp2
        go_ret
        exact HQ.out
      · simp only [Value.slice.injEq, true_and] at hv
        obtain ⟨rfl, rfl⟩ := hv
        have hH : Holds (Value.int .i64) wr gb 0 ks.toArray := holds_of_block_i hgb (by
          have := r4
          rw [il_cells, show ks.length * il.n = ks.length by simp [il]] at this
          exact this)
        have hgl : gb < wr.heap.size := (Array.getElem?_eq_some_iff.1 hgb).1
        have hS := Try.slices_Sort_int gb 0 cap1 ks wr hH hgl (by omega)
        rw [hks] at hS
        have HQ : Hid (∀ k os, IdOut w (Rp.keys T) (.returned (.slice (some ⟨gb, 0, none⟩) ks.length cap1)) (grow (putRow encZ (Sort.ahead wr k) gb 0 (Rp.keys T).toArray) os)) := fun k os => by
          refine ⟨_, rfl, ?_, HBL.out.grown (grownBy_sorted_i _) HBL.out.size (fun j hj => by cases hj; omega)⟩
          have := ownsRow_sorted_i (w := wr) (base := w.heap.size) (n := k) (os := os) (ss := ks) (ts := Rp.keys T) hpl.symm (by omega) hgb r1 r2 (by rw [show cap1 * 1 = cap1 * il.n by simp [il]]; exact r3)
          unfold OwnL
          rw [il_cells, ← hpl]
          exact this
        clear hH HO HM HBL hks hrg hcs hgb r1 r2 r3 r4 hbase hgl hpl
        go_wp2_with fail
        refine hS.mono ?_
        rintro e w' ⟨rfl, nn, os, rfl⟩
        have HQ2 := Hid_of (HQ.out nn os)
        clear HQ hS
        generalize hG : grow _ _ = G at *
        clear hG
        go_wp2
        go_ret
        exact HQ2.out
    · intro x p kl yd yp w1 cnt1 hkey hlk hv hat hrg1 hlt hg1 hs1 hen
      obtain ⟨x', ex, rfl, hwx⟩ := Maps.keyOf_int_inv Try.underlying3 hkey
      cases ex
      have ho1 : OwnL il 3 w1 (w.heap.size + 1) (.slice a1 ks.length cap1) ks := HO.out.keepBut (fun k hk e => hg1.block k hk (fun e' => by cases e'; have := (HO.out.lt e).1; omega))
      have HMET := Hid_of (HM.out.step hlk)
      have HBL1 : Hid (Below w.heap.size w w1) := HBL.out.grown hg1 HBL.out.size (fun j hj => by cases hj; exact Nat.le_refl _)
      obtain ⟨a', c', w4, hrun, ho4, hr4⟩ := run_appL_ty tiI (w1.alloc (.cells #[.int .i64 x] 3)) (w.heap.size + 1) (.slice a1 ks.length cap1) ks [x] w1.heap.size 0 1 1 (ho1.keep (bel1 w1 _)) (atL_one (t := 3) (heap_alloc_last w1 _)) rfl (by simp; omega) (by simp; omega)
      have hml := hown.lt
      have hrg4 := (hrg1.alloc (.cells #[.int .i64 x] 3)).kept hr4.g (fun e => by have := (ho1.lt e.symm).1; omega) (fun e => by have := (ho1.lt e.symm).1; omega)
      have hr14 : Rw w1 (.slice a1 ks.length cap1) w4 (.slice a' (ks.length + [x].length) c') := (Rw.ofBelow _ (bel1 w1 _)).trans hr4
      have HB4 : Hid (Below w.heap.size w w4) := HBL1.out.trans (hr14.below (fun j hj => by have := (ho1.lt hj).1; omega) (by omega))
      have HO4 := Hid_of ho4
      have HRG4 := Hid_of hrg4
      have HLE := Hid_of (And.intro hrg4.left_eq hrg.left_eq)
      clear ho1 ho4 hr4 hr14 hrg4 hrg1 HO HM HBL HBL1 hrg hg1 hat hv hkey hs1
      simp only [List.length_cons, List.length_nil, Nat.zero_add] at hrun HO4
      go_wp2_with (at_builtin; refine wpList_append_known rfl _ _ 42 rfl _ _ rfl rfl _ _ (hrun _) ?_)
      go_roundw
      case rel => exact ⟨_, cnt1, ks ++ [x], HRG4.out, by simp; omega, HMET.out, HO4.out, HB4.out⟩
      case measure => rw [HLE.out.1, HLE.out.2]; exact hlt
end Go.Proofs.Ytjbcchipbdkplaa
