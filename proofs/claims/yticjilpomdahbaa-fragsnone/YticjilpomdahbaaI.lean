/-
  Sectors are read.
-/
import Derived.Test.YticjilpomdahbaaD
import Derived.Test.YticjilpomdahbaaShelf
namespace Go.Proofs.Yticjilpomdahbaa
open Go.RowKit
set_option linter.unusedVariables false

theorem Try.size69 : (Try.prog.info? 69).map (·.size) = some 2 := by kernel_rfl
set_option maxRecDepth 100000 in
set_option maxHeartbeats 1000000 in
theorem bwrite_any (B b : Nat) (bs : List Value) (s : ByteArray) (w : World) (h : Lib.BuilderAt 69 5 B b (.pointer (some ⟨b, 0, none⟩)) bs w) (hlen : bs.length + s.size ≤ 100000000) (hBw : B ≤ w.heap.size) :
    Calls Try.prog 33 #[.pointer (some ⟨b, 0, none⟩), .string s] w fun e w' => e = .returned (.tuple #[.int .i64 s.size, .nilIface]) ∧ Lib.BuilderAt 69 5 B b (.pointer (some ⟨b, 0, none⟩)) (bs ++ Lib.strCells s) w' ∧ Below B w w' := by
  obtain ⟨i0, hi, hz0, hz1, hz2⟩ := info_parts Try.info5
  obtain ⟨hB, v, hbk, hown, hne⟩ := h
  have c0 : w.cell? ⟨b, 0, none⟩ = some (.pointer (some ⟨b, 0, none⟩)) := by rw [Lib.cell_of_heap hbk]; rfl
  have c1 : w.cell? ⟨b, 1, none⟩ = some v := by rw [Lib.cell_of_heap hbk]; rfl
  have hcc : Calls Try.prog 55 #[.pointer (some ⟨b, 0, none⟩)] w fun e w' => e = .returned (.tuple #[]) ∧ w' = w := by
    clear hown hbk hi hz0 hz1 hz2 c1
    obtain ⟨j, hj, hjs⟩ := Option.map_eq_some_iff.1 Try.size69
    go_enter Try.func55, Try.ntmps55
    go_wp2
    rw [Lib.run_neq_ptr_same w _ Try.underlying66 hj]
    go_wp2
    go_end0
    exact ⟨rfl, rfl⟩
  go_enter Try.func33, Try.ntmps33
  go_wp2_with fail
  refine hcc.mono ?_
  rintro e w1 ⟨rfl, rfl⟩
  clear hcc
  go_wp2_with (at_builtin; refine Lib.wpList_append_own_string _ rfl _ _ 67 9 rfl B 5 i0 Try.underlying67 Try.underlying9 hi hz0 hz1 hz2 _ _ _ rfl hown s rfl ?c3 ?c4 ?c5 ?_)
  case c3 => unfold maxLen; omega
  case c4 => omega
  case c5 => omega
  intro v' w2 hown' hgrow _
  have hlt : b < w1.heap.size := (Array.getElem?_eq_some_iff.1 hbk).1
  have hb2 : w2.heap[b]? = some (.cells #[.pointer (some ⟨b, 0, none⟩), v] 69 (0, 0)) := by
    rw [hgrow.block b hlt (fun e => hne e.symm)]
    exact hbk
  obtain ⟨⟨d0, d1⟩, df⟩ := row2 hb2
  have f1 := df 1
  obtain ⟨ao, n', cap, rfl⟩ : ∃ ao n' cap, v' = .slice ao n' cap := by
    rcases hown'.2 with ⟨hv, _⟩ | ⟨g, cap, cur, hv, _⟩
    · exact ⟨_, _, _, hv⟩
    · exact ⟨_, _, _, hv⟩
  have HK := Hid_of (And.intro (Lib.BuilderAt.put (T := 69) (e := 5) hB hb2 (bs' := bs ++ Lib.strCells s) (by simpa [Lib.strCells_length] using hown') (by decide)) (((Below.refl B w1).grown hgrow hBw (fun k hk => (hown.lt k hk).1)).setCell (p := ⟨b, 1, none⟩) hB (.slice ao n' cap)))
  clear hown hown' hgrow hbk df hb2
  go_wp2
  go_ret2
  exact ⟨rfl, HK.out⟩
set_option maxHeartbeats 1000000 in
theorem last_any (p : M.Pl) (hp : p.2.size = 64 ∨ p.2.size = 0) (w : World) : Calls Try.prog 34 #[.agg #[.string p.1, .string p.2]] w fun e w' => e = .returned (.string (M.last p)) ∧ Below w.heap.size w w' := by
  have HB : Hid (Below w.heap.size w (w.alloc (.cells #[.string p.1, .string p.2] 76))) := bel1 w _
  cases hl : M.lse p with
  | true =>
    rw [M.lse_yes hl]
    have h64 : p.2.size = 64 := by
      rcases hp with h' | h'
      · exact h'
      · unfold M.lse at hl; rw [h'] at hl; cases hl
    have he := ne_nil h64
    clear hl hp
    generalize p.1 = f at *
    generalize p.2 = s at *
    go_enter Try.func34, Try.ntmps34
    go_wp2
    go_ret
    exact ⟨rfl, HB.out⟩
  | false =>
    obtain ⟨e1, e2⟩ := M.lse_no hl
    rw [e1]
    rw [e2] at HB ⊢
    have he := is_nil
    clear hl hp e1 e2
    generalize p.1 = f at *
    go_enter Try.func34, Try.ntmps34
    go_wp2
    go_ret
    exact ⟨rfl, HB.out⟩
/-- A read's answer. -/
def RdOut (w : World) (n : Nat) (lost : Bool) (P : List M.Pl) (at' m : Int) (e : Ending) (w' : World) : Prop := e = .returned (.tuple #[.string (M.rtext n lost P at' m), .int .i64 (M.refused n lost at' m)]) ∧ Below w.heap.size w w'
set_option maxHeartbeats 1000000 in
/-- It is refused. -/
theorem read_no (b n : Nat) (v1 v2 : Value) (lost : Bool) (P : List M.Pl) (at' m : Int) (w : World) (h : w.heap[b]? = some (.cells #[.int .i64 n, v1, v2, .bool lost] 74 (0, 0))) (hn : n ≤ 4096) (hm : m ≤ 9223372036854775807) (hz : M.refused n lost at' m ≠ 0) :
    Calls Try.prog 12 #[.pointer (some ⟨b, 0, none⟩), .int .i64 at', .int .i64 m] w (RdOut w n lost P at' m) := by
  have href := refused_any b n v1 v2 lost at' m w h hn hm
  have HK : Hid (RdOut w n lost P at' m (.returned (.tuple #[.string M.E, .int .i64 (M.refused n lost at' m)])) w) := by
    unfold RdOut M.rtext
    rw [decide_eq_false hz]
    exact ⟨rfl, Below.refl _ _⟩
  have hz' : (M.refused n lost at' m == 0) = false := by simpa using hz
  generalize M.refused n lost at' m = r at *
  clear h
  go_enter Try.func12, Try.ntmps12
  go_wp2_with fail
  refine href.mono ?_
  rintro e w1 ⟨rfl, rfl⟩
  clear href
  go_wp2
  go_ret2
  exact HK.out
/-- What has been read so far. -/
def rd (P : List M.Pl) (a k : Nat) : List UInt8 := (((P.map M.last).drop a).take k).flatMap fun s => s.data.toList
theorem rd_step (P : List M.Pl) (a k : Nat) (h : a + k < P.length) : rd P a (k + 1) = rd P a k ++ (M.last P[a + k]).data.toList := by
  unfold rd
  have hl : k < ((P.map M.last).drop a).length := by simp; omega
  rw [List.take_succ_eq_append_getElem hl, List.flatMap_append]
  simp
theorem rd_len (P : List M.Pl) (a k : Nat) (h : M.Ok P) : (rd P a k).length ≤ k * 64 := by
  unfold rd
  rw [M.flat_len _ (fun s hs => by
    have := List.mem_of_mem_drop (List.mem_of_mem_take hs)
    obtain ⟨p, hp, rfl⟩ := List.mem_map.1 this
    exact h.last p hp), List.length_take]
  have : min k ((P.map M.last).drop a).length ≤ k := Nat.min_le_left _ _
  omega
set_option maxRecDepth 100000 in
set_option maxHeartbeats 2000000 in
theorem read_any (base b g : Nat) (vl : Value) (n : Nat) (P : List M.Pl) (ls : List Nat) (at' m : Int) (w : World) (h : DI w base b g vl n P ls) (hm : m ≤ 9223372036854775807) :
    Calls Try.prog 12 #[.pointer (some ⟨b, 0, none⟩), .int .i64 at', .int .i64 m] w (RdOut w n false P at' m) := by
  by_cases hz : M.refused n false at' m = 0
  · have href := refused_any b n _ _ false at' m w h.row h.n1.2 hm
    obtain ⟨_, a, k, rfl, rfl, hk1, hak⟩ := M.refused_ok hz
    have HW : Hid (∀ w', Below w.heap.size w w' → RdOut w n false P (a : Int) (k : Int) (.returned (.tuple #[.string ⟨(rd P a k).toArray⟩, .int .i64 0])) w') := fun w' hb => by
      unfold RdOut M.rtext
      rw [hz]
      exact ⟨rfl, hb⟩
    rw [hz] at href
    have hn := h.n1.2
    have HX := Hid_of h
    have hPl := h.len
    have HOK := Hid_of h.ok
    have hw1 : (w.alloc (.cells #[.pointer none, .slice none 0 0] 69)).heap.size = w.heap.size + 1 := by simp
    obtain ⟨W1, HW1⟩ : ∃ W1, Hid (w.alloc (.cells #[.pointer none, .slice none 0 0] 69) = W1) := ⟨_, rfl⟩
    have hgrow := Try.Builder_Grow_fresh w.heap.size w.heap.size (k * 64) W1 (Nat.le_refl _) (by rw [← HW1.out]; exact heap_alloc_last w _) (by rw [← HW1.out]; simp) (by omega)
    have HB1 : Hid (Below w.heap.size w W1) := by rw [← HW1.out]; exact bel1 w _
    clear h hz hw1
    go_enter Try.func12, Try.ntmps12
    go_wp2_with fail
    refine href.mono ?_
    rintro e w1 ⟨rfl, rfl⟩
    clear href
    go_wp2_with fail
    rw [HW1.out, show (k : Int) * 64 = ((k * 64 : Nat) : Int) by omega]
    refine hgrow.mono ?_
    rintro e w2 ⟨rfl, hB2, hb2⟩
    have HBB := Hid_of (And.intro hB2 (HB1.out.trans hb2))
    have hX2 := HX.out.keep (HB1.out.trans hb2)
    obtain ⟨⟨_, r1, _, _⟩, _⟩ := row4 hX2.row
    clear hgrow hB2 hb2 HB1 HW1 hX2
    go_wp2
    rw [show a + k - a = k by omega]
    go_loopw [32] (fun i wr => ∃ j : Nat, j ≤ k ∧ i = .int .i64 j ∧ Lib.BuilderAt 69 5 w1.heap.size w1.heap.size (.pointer (some ⟨w1.heap.size, 0, none⟩)) (Lib.byteCells (rd P a j)) wr ∧ Below w1.heap.size w1 wr) (fun i _ => k - (intOf i).toNat)
    case atStart => exact ⟨0, Nat.zero_le _, rfl, HBB.out⟩
    case round =>
      obtain ⟨j, hj, rfl, hBd, hbl⟩ := hrel
      by_cases hlt : j < k
      · have hiP : a + j < P.length := by omega
        obtain ⟨c0, c1⟩ := (HX.out.keep hbl).pl.c (a + j) hiP
        have hok := HOK.out.get (a + j) hiP
        have hsz : (M.last P[a + j]).size = 64 := HOK.out.last _ (List.getElem_mem hiP)
        have hrl := rd_len P a j HOK.out
        have HST := Hid_of (rd_step P a j hiP)
        have HBd := Hid_of hBd
        have HBl := Hid_of hbl
        obtain ⟨p, hp⟩ : ∃ p, P[a + j] = p := ⟨_, rfl⟩
        rw [hp] at c0 c1 hok hsz HST
        rw [show (a + j) * 2 = a * 2 + j * 2 by omega] at c0 c1
        obtain ⟨W3, HW3⟩ : ∃ W3, Hid (wr.alloc (.cells #[.string p.1, .string p.2] 76) = W3) := ⟨_, Hid_of rfl⟩
        have HB3 : Hid (Below wr.heap.size wr W3) := by rw [← HW3.out]; exact bel1 wr _
        have hla := last_any p hok.2 W3
        clear hBd hbl HX HOK HBB r1 hp hok
        go_wp2_with fail
        rw [HW3.out]
        refine hla.mono ?_
        rintro e w4 ⟨rfl, hb4⟩
        have hb5 := bel_up HB3.out hb4 (Nat.le_refl _)
        have hBd5 : Lib.BuilderAt 69 5 w1.heap.size w1.heap.size (.pointer (some ⟨w1.heap.size, 0, none⟩)) (Lib.byteCells (rd P a j)) w4 := by
          obtain ⟨q1, v, q2, q3, q4⟩ := HBd.out
          exact ⟨q1, v, (hb5.block _ (Array.getElem?_eq_some_iff.1 q2).1).trans q2, owns_keep q3 hb5, q4⟩
        have hwr := bwrite_any w1.heap.size w1.heap.size _ (M.last p) w4 hBd5 (by rw [Lib.byteCells_length, hsz]; omega) (by have := HBl.out.size; have := hb5.size; omega)
        rw [Lib.strCells_eq, ← Lib.byteCells_append, ← HST.out] at hwr
        have HB5 : Hid (Below w1.heap.size w1 w4) := bel_up HBl.out hb5 (Nat.le_refl _)
        clear hla hb4 hBd5 hb5 HBd HBl HB3 HW3 HST c0 c1
        generalize M.last p = lp at *
        go_wp2_with fail
        refine hwr.mono ?_
        rintro e w6 ⟨rfl, hB6, hb6⟩
        have HR := Hid_of (And.intro hB6 (HB5.out.trans hb6))
        clear hwr hB6 hb6 HB5
        go_wp2
        go_roundw
        case rel => exact ⟨j + 1, by omega, by go_num, HR.out⟩
        case measure => simp [intOf]; omega
      · obtain rfl : j = k := by omega
        have hstr := Try.Builder_String_any w1.heap.size w1.heap.size (rd P a j) wr (.inr hBd) hbl.size
        have HBl := Hid_of hbl
        clear hBd hbl HX HOK HBB r1
        go_wp2_with fail
        refine hstr.mono ?_
        rintro e w6 ⟨rfl, hb6⟩
        have HQ := Hid_of (HW.out w6 (HBl.out.trans hb6))
        clear hstr hb6 HBl HW
        go_wp2
        go_ret2
        exact HQ.out
  · exact read_no b n _ _ false P at' m w h.row h.n1.2 hm hz
end Go.Proofs.Yticjilpomdahbaa
