/-
  Proved: for every text and every list of kinds the law CodecReads of the program returns true, and all arguments read as they did.
-/
import Derived.Test.YtanpplndoemgoaaK
import Derived.ShutString
namespace Go.Proofs.Ytanpplndoemgoaa
open Go.ChangeShapes Go.WideShapes Go.ChangeAt Go.RowKit
open Go.ChangeMaps (open_string shut_string)
set_option linter.unusedVariables false

theorem row_keep {w w' : World} {k : Nat} {o : Obj} (h : w.heap[k]? = some o) (hk : w'.heap[k]? = w.heap[k]?) : w'.heap[k]? = some o := hk.trans h

theorem grown_drop {w w' : World} {r : Option Nat} (h : w.drew.grownBy w' r) : w.grownBy w' r := ⟨h.os, h.tape, h.output, h.size, h.block⟩

set_option maxRecDepth 100000 in
set_option maxHeartbeats 4000000 in
theorem reads_walk (s : ByteArray) (d : Option Addr) (cap : Nat) (kinds : List Int) (w : World) (hs : s.size ≤ maxLen) (hm : kinds.length ≤ 9223372036854775807) (hc : At w d (Value.int .i64) kinds) (hkd : ∀ n ∈ kinds, -9223372036854775808 ≤ n ∧ n ≤ 9223372036854775807) :
    Calls Try.prog 4 #[.string s, .slice d kinds.length cap] w fun e w' => e = .returned (.bool true) ∧ Below w.heap.size w w' := by
  unfold maxLen at hs
  by_cases h1 : 70000 < s.size
  · have d1 : decide ((70000 : Int) < (s.size : Int)) = true := by simp; omega
    go_enter Try.func4, Try.ntmps4
    go_wp2_with fail
    refine (awake_any _).mono ?_
    rintro e w1 ⟨rfl, hb⟩
    go_wp2
    go_ret
    exact ⟨rfl, hb⟩
  · have d1 : decide ((70000 : Int) < (s.size : Int)) = false := by simp; omega
    by_cases h2 : 40 < kinds.length
    · have d2 : decide ((40 : Int) < (kinds.length : Int)) = true := by simp; omega
      go_enter Try.func4, Try.ntmps4
      go_wp2_with fail
      refine (awake_any _).mono ?_
      rintro e w1 ⟨rfl, hb⟩
      go_wp2
      go_ret
      exact ⟨rfl, hb⟩
    · have d2 : decide ((40 : Int) < (kinds.length : Int)) = false := by simp; omega
      obtain ⟨l, rfl⟩ : ∃ l, s = ofL l := ⟨_, (ofL_of s).symm⟩
      have hsz := ofL_size l
      have hl : l.length ≤ 70000 := by omega
      rw [hsz] at d1
      clear hs h1
      go_enter Try.func4, Try.ntmps4
      go_wp2_with fail
      refine (newReader_any l w (by omega)).mono ?_
      rintro x w1 hN
      obtain ⟨r, rfl, hr, hr1, hb1⟩ := hN
      have hrlt := hr1.lt
      have gX := heap_alloc_new w1 (.cells #[.string (ofL l), .bool false] 45)
      have BX := hb1.alloc hb1.size (.cells #[.string (ofL l), .bool false] 45)
      have hrX := hr1.below ((Below.refl _ w1).alloc (Nat.le_refl _) (.cells #[.string (ofL l), .bool false] 45))
      obtain ⟨X, hX⟩ : ∃ X, X = w1.heap.size := ⟨_, rfl⟩
      have hXlt : X < (w1.alloc (.cells #[.string (ofL l), .bool false] 45)).heap.size := by rw [hX]; simp
      rw [← hX] at gX hrlt
      have hwX : w.heap.size ≤ X := by rw [hX]; exact hb1.size
      go_wp2
      rw [← hX]
      have HX : Hid (X = w1.heap.size) := hX
      clear hX
      go_loopw [7] (fun i wr => ∃ (k : Nat) (st : Option (List UInt8)), k ≤ kinds.length ∧ i = .int .i64 k ∧ RS wr r st ∧ wr.heap[X]? = some (.cells #[.string (ofL (lft st)), .bool st.isNone] 45 (0, 0)) ∧ Below w.heap.size w wr ∧ X < wr.heap.size ∧ (lft st).length ≤ 70000) (fun i _ => kinds.length - (intOf i).toNat)
      case atStart => exact ⟨0, some l, Nat.zero_le _, rfl, hrX, gX, BX, hXlt, hl⟩
      case round =>
        obtain ⟨k, st, hk, rfl, hr2, g2, B2, hX2, hl2⟩ := hrel
        clear hrX gX BX hXlt hr1 hb1
        by_cases hlt : k < kinds.length
        · obtain ⟨kb, koff, rfl, hcell⟩ := (hc.keep B2) k hlt
          have hkw : kb < w.heap.size := by
            obtain ⟨kb', koff', e, hc'⟩ := hc k hlt
            simp only [Option.some.injEq, Addr.mk.injEq] at e
            obtain ⟨rfl, _, _⟩ := e
            exact World.block_lt_of_cell? w _ hc'
          have hkb := hkd kinds[k] (List.getElem_mem hlt)
          generalize kinds[k] = kd at *
          obtain ⟨cX0, cX1, fX0, fX1⟩ := row2 g2
          have hrd : RS wr.drew r st := hr2
          have hle := B2.size
          clear hr2
          go_wp2_with fail
          have hrd2 : RS (wr.alloc (.cells #[.string { data := #[] }, .bool false] 45)).drew r st := RS.below (w := wr) hrd ((Below.refl _ wr).alloc (Nat.le_refl _) (.cells #[.string { data := #[] }, .bool false] 45)).drew
          have gy2 : (wr.alloc (.cells #[.string { data := #[] }, .bool false] 45)).drew.heap[wr.heap.size]? = some (.cells #[.string { data := #[] }, .bool false] 45 (0, 0)) := heap_alloc_new wr _
          have g22 : (wr.alloc (.cells #[.string { data := #[] }, .bool false] 45)).drew.heap[X]? = some (.cells #[.string (ofL (lft st)), .bool st.isNone] 45 (0, 0)) := (Below.heap_alloc wr _ X hX2).trans g2
          have hcell2 : (wr.alloc (.cells #[.string { data := #[] }, .bool false] 45)).drew.cell? ⟨kb, koff + k, none⟩ = some (.int .i64 kd) := cell_up hcell _
          have HZ2 : Hid ((wr.alloc (.cells #[.string { data := #[] }, .bool false] 45)).drew.heap.size = wr.heap.size + 1) := by show _ = _; simp
          have hrlt2 := RS.lt hrd
          go_region_held3 (fun wq => wq.cell? ⟨X, 0, none⟩ = some (.string (ofL (lft st))) ∧ wq.cell? ⟨X, 1, none⟩ = some (.bool st.isNone) ∧ wq.cell? ⟨kb, koff + k, none⟩ = some (.int .i64 kd)) (first | exact ⟨by assumption, by assumption, by assumption⟩ | exact ⟨cell_up (by assumption) _, cell_up (by assumption) _, cell_up (by assumption) _⟩ | exact ⟨held_set (by assumption) (by omega), held_set (by assumption) (by omega), held_set (by assumption) (by omega)⟩) (first | (go_at_call 17; refine (same_any r st kd wr.drew hrd (by omega)).mono ?_; rintro x w3 ⟨rfl, hr3, hg3⟩; have g3 : w3.heap[X]? = some (.cells #[.string (ofL (lft st)), .bool st.isNone] 45 (0, 0)) := (hg3.block X hX2 (by simp; omega)).trans g2; have hck : w3.cell? ⟨kb, koff + k, none⟩ = some (.int .i64 kd) := (World.cell?_of_block (w := wr.drew) (a := ⟨kb, koff + k, none⟩) (hg3.block kb (by show kb < wr.heap.size; omega) (by simp; omega))).trans hcell; obtain ⟨cZ0, cZ1, fZ0, fZ1⟩ := row2 g3; simp only [RV]) | (go_at_call 17; refine (same_any r st kd _ hrd2 (by omega)).mono ?_; rintro x w3 ⟨rfl, hr3, hg3⟩; have g3 : w3.heap[X]? = some (.cells #[.string (ofL (lft st)), .bool st.isNone] 45 (0, 0)) := (hg3.block X (by rw [HZ2.out]; omega) (by simp; omega)).trans g22; have hck : w3.cell? ⟨kb, koff + k, none⟩ = some (.int .i64 kd) := (World.cell?_of_block (w := (wr.alloc (.cells #[.string { data := #[] }, .bool false] 45)).drew) (a := ⟨kb, koff + k, none⟩) (hg3.block kb (by rw [HZ2.out]; omega) (by simp; omega))).trans hcell2; have gy3 : w3.heap[wr.heap.size]? = some (.cells #[.string { data := #[] }, .bool false] 45 (0, 0)) := (hg3.block wr.heap.size (by rw [HZ2.out]; omega) (by simp; omega)).trans gy2; obtain ⟨cZ0, cZ1, fZ0, fZ1⟩ := row2 g3; obtain ⟨cy0, cy1, fy0, fy1⟩ := row2 gy3; simp only [RV]))
          · have r4 := hr3.below ((Below.refl _ w3).alloc (Nat.le_refl _) (.cells #[.string (ofL (lft (rdk kd (lft st)))), .bool (rdk kd (lft st)).isNone] 45))
            have hsz3 : wr.heap.size ≤ w3.heap.size := hg3.size
            have gX4 := (Below.heap_alloc w3 (.cells #[.string (ofL (lft (rdk kd (lft st)))), .bool (rdk kd (lft st)).isNone] 45) X (by omega)).trans g3
            have gy4 := heap_alloc_new w3 (.cells #[.string (ofL (lft (rdk kd (lft st)))), .bool (rdk kd (lft st)).isNone] 45)
            have B3 : Below w.heap.size w w3 := B2.trans (below_grown (grown_drop hg3) hle (by simp; omega))
            have B4 := B3.alloc B3.size (.cells #[.string (ofL (lft (rdk kd (lft st)))), .bool (rdk kd (lft st)).isNone] 45)
            have hX4 : X < (w3.alloc (.cells #[.string (ofL (lft (rdk kd (lft st)))), .bool (rdk kd (lft st)).isNone] 45)).heap.size := by simp; omega
            have hyX : w3.heap.size ≠ X := by omega
            generalize w3.alloc (.cells #[.string (ofL (lft (rdk kd (lft st)))), .bool (rdk kd (lft st)).isNone] 45) = w4 at *
            generalize w3.heap.size = yb at *
            have hll := rdk_left kd (lft st)
            obtain ⟨st', hst'⟩ : ∃ st', rdk kd (lft st) = st' := ⟨_, rfl⟩
            rw [hst'] at r4 gy4 hll
            rw [hst']
            clear hst' hr3 hg3 g3 hck cZ0 cZ1 fZ0 fZ1 hrd hrd2 gy2 g22 hcell2 HZ2 hsz3 B3
            obtain ⟨cy0, cy1, fy0, fy1⟩ := row2 gy4
            obtain ⟨cX0', cX1', fX0', fX1'⟩ := row2 gX4
            have r5 : RS (((w4.setCell ⟨X, 0, none⟩ (.string (ofL (lft st')))).setCell ⟨X, 1, none⟩ (.bool st'.isNone))).drew r st' := fin_rs r4 rfl (by omega)
            have g5 : (((w4.setCell ⟨X, 0, none⟩ (.string (ofL (lft st')))).setCell ⟨X, 1, none⟩ (.bool st'.isNone))).drew.heap[X]? = some (.cells #[.string (ofL (lft st')), .bool st'.isNone] 45 (0, 0)) := rowset gX4 _ _
            have B5 : Below w.heap.size w (((w4.setCell ⟨X, 0, none⟩ (.string (ofL (lft st')))).setCell ⟨X, 1, none⟩ (.bool st'.isNone))).drew := ((B4.setCell (p := ⟨X, 0, none⟩) hwX _).setCell (p := ⟨X, 1, none⟩) hwX _).drew
            have hX5 : X < (((w4.setCell ⟨X, 0, none⟩ (.string (ofL (lft st')))).setCell ⟨X, 1, none⟩ (.bool st'.isNone))).drew.heap.size := by simp; omega
            have hsz' := ofL_size (lft st')
            go_wp2_with fail
            go_region_held3 (fun wq => wq.cell? ⟨X, 0, none⟩ = some (.string (ofL (lft st')))) (first | assumption | exact (row2 g5).1) ((go_at_call 18; refine (rleft_any r st' _ r5).mono ?_; rintro x w6 ⟨rfl, rfl⟩))
            go_wp2
            go_roundw
            case rel => exact ⟨k + 1, st', by omega, by go_num, r5, g5, B5, hX5, by omega⟩
            case measure => simp [intOf]; omega
          · have hsz3 : wr.heap.size + 1 ≤ w3.heap.size := by have := hg3.size; rw [HZ2.out] at this; exact this
            have r4 := fin_rs (a := .string (ofL (lft (rdk kd (lft st))))) (c := .bool (rdk kd (lft st)).isNone) (B1 := wr.heap.size) hr3 rfl (by have : r < wr.heap.size := hrlt2; omega)
            have gX4 := (rowoth w3 wr.heap.size X (.string (ofL (lft (rdk kd (lft st))))) (.bool (rdk kd (lft st)).isNone) (by omega)).trans g3
            have gy4 := rowset gy3 (.string (ofL (lft (rdk kd (lft st))))) (.bool (rdk kd (lft st)).isNone)
            have BZ : Below w.heap.size w (wr.alloc (.cells #[.string { data := #[] }, .bool false] 45)).drew := (B2.alloc hle _).drew
            have B3 : Below w.heap.size w w3 := BZ.trans (below_grown hg3 BZ.size (by simp; omega))
            have B4 := (B3.setCell (p := ⟨wr.heap.size, 0, none⟩) hle (.string (ofL (lft (rdk kd (lft st)))))).setCell (p := ⟨wr.heap.size, 1, none⟩) hle (.bool (rdk kd (lft st)).isNone)
            have hX4 : X < ((w3.setCell ⟨wr.heap.size, 0, none⟩ (.string (ofL (lft (rdk kd (lft st)))))).setCell ⟨wr.heap.size, 1, none⟩ (.bool (rdk kd (lft st)).isNone)).heap.size := by simp; omega
            have hyX : wr.heap.size ≠ X := by omega
            generalize (w3.setCell ⟨wr.heap.size, 0, none⟩ (.string (ofL (lft (rdk kd (lft st)))))).setCell ⟨wr.heap.size, 1, none⟩ (.bool (rdk kd (lft st)).isNone) = w4 at *
            generalize wr.heap.size = yb at *
            have hll := rdk_left kd (lft st)
            obtain ⟨st', hst'⟩ : ∃ st', rdk kd (lft st) = st' := ⟨_, rfl⟩
            rw [hst'] at r4 gy4 hll
            rw [hst']
            clear hst' hr3 hg3 g3 hck cZ0 cZ1 fZ0 fZ1 hrd hrd2 gy2 g22 hcell2 HZ2 hsz3 B3
            obtain ⟨cy0, cy1, fy0, fy1⟩ := row2 gy4
            obtain ⟨cX0', cX1', fX0', fX1'⟩ := row2 gX4
            have r5 : RS (((w4.setCell ⟨X, 0, none⟩ (.string (ofL (lft st')))).setCell ⟨X, 1, none⟩ (.bool st'.isNone))).drew r st' := fin_rs r4 rfl (by omega)
            have g5 : (((w4.setCell ⟨X, 0, none⟩ (.string (ofL (lft st')))).setCell ⟨X, 1, none⟩ (.bool st'.isNone))).drew.heap[X]? = some (.cells #[.string (ofL (lft st')), .bool st'.isNone] 45 (0, 0)) := rowset gX4 _ _
            have B5 : Below w.heap.size w (((w4.setCell ⟨X, 0, none⟩ (.string (ofL (lft st')))).setCell ⟨X, 1, none⟩ (.bool st'.isNone))).drew := ((B4.setCell (p := ⟨X, 0, none⟩) hwX _).setCell (p := ⟨X, 1, none⟩) hwX _).drew
            have hX5 : X < (((w4.setCell ⟨X, 0, none⟩ (.string (ofL (lft st')))).setCell ⟨X, 1, none⟩ (.bool st'.isNone))).drew.heap.size := by simp; omega
            have hsz' := ofL_size (lft st')
            go_wp2_with fail
            go_region_held3 (fun wq => wq.cell? ⟨X, 0, none⟩ = some (.string (ofL (lft st')))) (first | assumption | exact (row2 g5).1) ((go_at_call 18; refine (rleft_any r st' _ r5).mono ?_; rintro x w6 ⟨rfl, rfl⟩))
            go_wp2
            go_roundw
            case rel => exact ⟨k + 1, st', by omega, by go_num, r5, g5, B5, hX5, by omega⟩
            case measure => simp [intOf]; omega
        · obtain ⟨cX0, cX1, fX0, fX1⟩ := row2 g2
          have hrd : RS wr.drew r st := hr2
          have gd : wr.drew.heap[X]? = some (.cells #[.string (ofL (lft st)), .bool st.isNone] 45 (0, 0)) := g2
          have Bd := B2.drew
          have hXd : X < wr.drew.heap.size := hX2
          have hEv0 := end_any st
          have hEv : ∀ w : World, Calls Try.prog 20 #[.agg #[.string (ofL (lft st)), .bool st.isNone]] w fun x w' => x = .returned (.int .i64 (rdone st)) ∧ Below w.heap.size w w' := hEv0
          clear hEv0
          go_wp2_with fail
          go_region_held3 (fun wq => wq.cell? ⟨X, 0, none⟩ = some (.string (ofL (lft st))) ∧ wq.cell? ⟨X, 1, none⟩ = some (.bool st.isNone)) (first | exact ⟨by assumption, by assumption⟩ | exact ⟨(row2 gd).1, (row2 gd).2.1⟩) (first | (go_at_call 19; refine (rdone_any r st wr.drew hrd (by omega)).mono ?_; rintro x w2 ⟨rfl, rfl⟩) | (go_at_call 20; refine (hEv _).mono ?_; rintro x w3 ⟨rfl, hb3⟩; have g3 := (hb3.block X hXd).trans gd; obtain ⟨e30, e31, e32, e33⟩ := row2 g3) | (go_at_call 9; refine (awake_any _).mono ?_; rintro x w4 ⟨rfl, hb4⟩; have g4 := (hb4.block X (Nat.lt_of_lt_of_le hXd hb3.size)).trans g3; obtain ⟨e40, e41, e42, e43⟩ := row2 g4))
          go_wp2
          go_ret
          have B3 := Bd.trans (hb3.mono Bd.size)
          exact ⟨rfl, B3.trans (hb4.mono B3.size)⟩

theorem own : ownKnob Try.prog.godebug = none := by kernel_rfl
theorem laidOut : laidOutB Try.prog = true := by kernel_rfl
theorem Try.cells3 : Try.prog.cellsOf 3 = 1 := by kernel_rfl
theorem wf_i64 {a : Int} (h : (Lit.int .i64 a).wf = true) : -9223372036854775808 ≤ a ∧ a ≤ 9223372036854775807 := by
  have := bounds_i64 h
  omega
theorem ints_came {w : World} {a : Addr} {zs : List Int} {len : Nat} (hc : ∀ i, i < zs.length → w.cell? (a.add i) = some (.int .i64 (zs.getD i 0))) : At w (some a) (Value.int .i64) (zs.take len) := by
  intro j hj
  rw [List.length_take] at hj
  obtain ⟨b, off, spot⟩ := a
  have h := hc j (by omega)
  have hspot : spot = none := by simpa [Addr.add] using World.cell?_spot (hc 0 (by omega))
  subst hspot
  refine ⟨b, off, rfl, ?_⟩
  rw [show ((⟨b, off, none⟩ : Addr).add j) = ⟨b, off + j, none⟩ by unfold Addr.add; split <;> simp_all] at h
  rw [h]
  simp [show j < zs.length by omega]

set_option maxRecDepth 100000 in
theorem reads_lifted (os : Os) (started : os.Started) (H : Type) (enc : TypeId × Value → H) :
    ReturnsInHanded {} Try.checked os 4 .any (Rows.codecReadsSpec.pre6 enc Try.prog Try.f4 Rows.codecReadsRow.domain false) (Rows.codecReadsSpec.post enc Try.prog Try.f4 false true false false) := by
  refine returnsInHanded_of_change (C := Try.checked) own started (by kernel_rfl) Try.func4
    (ChangeSpec.witness6 (enc := enc) (C := Try.checked) false ⟨#[], #[.string ByteArray.empty, .slice none 0 0], []⟩ 8 (by kernel_rfl) (by kernel_rfl) (by kernel_rfl) (by kernel_rfl)) ?_
  intro W base args ds gs before hval0 hW hcnd _
  have hval : ∀ (j : Nat) t v, Try.f4.params[j]? = some t → args[j]? = some v → Value.okWide Try.prog W .any base t v := hval0
  have hW' := hW
  obtain ⟨p, q, hA0, hV, rfl, hfz, hnd⟩ := hW
  have hA : DataW.TrodAll enc Try.prog W 0 (fun _ => true) true Try.f4.params.toList args.toList ds p := hA0
  rw [Try.params4] at hA hval
  obtain ⟨v0, vs0, d0, ds0, p0, q0, hargs, rfl, rfl, h0, r0⟩ := trodAll_cons hA
  obtain ⟨v1, vs1, d1, ds1, p1, q1, rfl, rfl, rfl, h1, r1⟩ := trodAll_cons r0
  obtain ⟨rfl, rfl, rfl⟩ := trodAll_nil r1
  obtain rfl : args = #[v0, v1] := by cases args; simp_all
  obtain ⟨rfl, rfl⟩ := trodVars_none hV
  obtain ⟨a0, rfl, rfl, rfl, w0⟩ := open_string Try.underlying9 (hval 0 9 v0 rfl rfl) h0
  obtain ⟨a1, len1, cap1, rfl⟩ := okWide_slice Try.underlying31 (hval 1 31 v1 rfl rfl)
  have k1 := h1
  have lt1 : ∀ x ∈ p1, x.block < W.heap.size := by obtain ⟨m, hm⟩ := k1; exact DataW.trod_lt m _ _ _ hm
  obtain ⟨l, hlen, hm, hat, hwf⟩ : ∃ l : List Int, len1 = l.length ∧ len1 ≤ 9223372036854775807 ∧ At W a1 (Value.int .i64) l ∧ ∀ n ∈ l, -9223372036854775808 ≤ n ∧ n ≤ 9223372036854775807 := by
    obtain ⟨fuel, hf⟩ := h1
    rcases open_ints Try.underlying31 Try.underlying3 Try.cells3 hf with ⟨hcs, _⟩ | ⟨x, ln, c, zs, hcs, _, hl, hm, hz, hx, hcell, hws⟩
    · simp [Value.cells] at hcs
      obtain ⟨rfl, rfl, rfl⟩ := hcs
      exact ⟨[], rfl, by omega, fun j h => by simp at h, fun s h => by cases h⟩
    · simp [Value.cells] at hcs
      obtain ⟨rfl, rfl, rfl⟩ := hcs
      refine ⟨zs.take len1, ?_, ?_, ints_came hcell, fun n h => wf_i64 (hws n (List.mem_of_mem_take h))⟩
      · rw [List.length_take, hz]; simp; omega
      · unfold maxLen at hm; omega
  clear hA0 hval0
  subst hlen
  refine (reads_walk a0 a1 cap1 l W w0 hm hat hwf).mono fun e W' ⟨he, bel⟩ => ?_
  subst he
  exact ⟨_, rfl, _, _, _, [], _, [], hW', trodAll_mk1 (shut_bool Try.underlying4 _), (trodAll_cons_mk (shut_string Try.underlying9 w0) (trodAll_cons_mk (Below.trod laidOut (by kernel_rfl) (of_decide_eq_true (by kernel_rfl)) k1 bel lt1) trodAll_mk0)), rfl, bel.frame _, fun h => by cases h⟩

theorem reads_holds : Rows.CodecReadsSaid :=
  OpenClaim.holds_of_wide 4 Try.f4 rfl rfl rfl rfl rfl rfl rfl ⟨rfl, rfl, rfl, rfl, rfl⟩ rfl rfl rfl rfl rfl (by kernel_rfl) Try.func4 (by kernel_rfl)
    (of_decide_eq_true (by kernel_rfl)) (by unfold Func.isWrapper; first | (rw [if_pos (by decide +kernel)]; kernel_rfl) | (rw [if_neg (by decide +kernel)]; exact ⟨rfl, rfl⟩))
    (fun os started H enc _ => reads_lifted os started H enc)
#print axioms reads_holds

end Go.Proofs.Ytanpplndoemgoaa
