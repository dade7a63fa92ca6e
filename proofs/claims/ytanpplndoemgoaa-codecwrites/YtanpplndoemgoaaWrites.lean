/-
  Proved: for every number and every list of items the law CodecWrites of the program returns true, and all arguments read as they did.
-/
import Derived.Test.YtanpplndoemgoaaR
import Derived.ShutString
namespace Go.Proofs.Ytanpplndoemgoaa
open Go.ChangeShapes Go.WideShapes Go.ChangeAt Go.RowKit
open Go.ChangeMaps (open_string shut_string)
set_option linter.unusedVariables false

theorem WS.setX {w : World} {b : Nat} {a : Option Addr} {cap m : Nat} {st : Nat × List UInt8} {X : Nat} {u0 u1 u2 : Value} (h : WS w b a cap m st) (hb : b ≠ X) (ha : ∀ k, blk a k → k ≠ X) : WS (((w.setCell ⟨X, 0, none⟩ u0).setCell ⟨X, 1, none⟩ u1).setCell ⟨X, 2, none⟩ u2) b a cap m st := by
  refine ⟨by rw [rowoth3 w X b _ _ _ hb]; exact h.row, h.own.kept (row := some X) ⟨rfl, rfl, rfl, by simp, fun k hk hr => rowoth3 w X k _ _ _ (fun e => hr (by rw [e]))⟩ ?_, h.fit, h.le⟩
  cases hv : (Value.slice a st.2.length cap).ownBlock with
  | none => exact .inl rfl
  | some k =>
    refine .inr fun e => ?_
    simp only [Option.some.injEq] at e
    exact ha k (blk_own.1 hv) e
/-- An item's rows stay where the writer writes: they lie below it. -/
theorem itok_low {w w' : World} {b : Nat} {a a' : Option Addr} {it : It} (h : ItOk w it) (hs : Step b w a w' a') (hl : Low it b) (ha : ∀ k, blk a k → b < k) : ItOk w' it :=
  ⟨h.n, h.text, h.ints.keepBut' fun h0 k hk hk2 => hs.block k hk (by have := hl.1 h0 k hk2; omega) (fun e => by have := hl.1 h0 k hk2; have := ha k e; omega), h.intsL, h.intsB,
    h.texts.keepBut' fun h0 k hk hk2 => hs.block k hk (by have := hl.2 h0 k hk2; omega) (fun e => by have := hl.2 h0 k hk2; have := ha k e; omega), h.textsL, h.textsB⟩
/-- The same bytes, and the same error. -/
theorem sim_done {m : Nat} {st p : Nat × List UInt8} (h : Sim m st p) (hf : M.Fit m st) : rdn p = st.2 ∧ p.1 = st.1 := by
  refine ⟨?_, h.1⟩
  unfold rdn
  by_cases he : st.1 = 0
  · rw [if_pos (h.1.trans he)]; exact h.2.1 he
  · rw [if_neg (fun h' => he (h.1.symm.trans h'))]; exact (hf.2.2 he).symm

set_option maxRecDepth 100000 in
set_option maxHeartbeats 4000000 in
theorem writes_walk (most : Int) (d : Option Addr) (cap : Nat) (l : List It) (w : World) (hmo : -9223372036854775808 ≤ most ∧ most ≤ 9223372036854775807) (hmx : l.length ≤ maxLen) (hc : Items w d l) :
    Calls Try.prog 3 #[.int .i64 most, .slice d l.length cap] w fun e w' => e = .returned (.bool true) ∧ Below w.heap.size w w' := by
  have hm' : l.length ≤ 9223372036854775807 := by unfold maxLen at hmx; omega
  go_enter Try.func3, Try.ntmps3
  go_wp2_with fail
  refine (few_any d cap l w hmx hc).mono ?_
  rintro x w0 ⟨rfl, rfl⟩
  rcases few_01 l with h0 | h1
  · rw [h0]
    clear hc
    go_wp2_with fail
    refine (awake_any _).mono ?_
    rintro x w2 ⟨rfl, hb⟩
    go_wp2
    go_ret
    exact ⟨rfl, hb⟩
  · obtain ⟨h30, hok⟩ := few_all (l := l) (by rw [h1]; decide)
    rw [h1]
    clear h1
    go_wp2_with fail
    refine (newWriter_any most w0).mono ?_
    rintro x w1 h
    obtain ⟨b, rfl, hb, hw1, hb1⟩ := h
    have hmle := clip_le most
    go_wp2_with fail
    refine (refNew_any most w1).mono ?_
    rintro x w2 ⟨rfl, hb2⟩
    generalize clip most = m at *
    have B2 := hb1.trans (hb2.mono hb1.size)
    have hw2 := hw1.keep hb2
    have hblt := hw2.lt
    have AX : Below w2.heap.size w2 (w2.alloc (.cells #[.int .i64 (m : Int), .int .i64 0, .string (ofL [])] 28)) := (Below.refl _ _).alloc (Nat.le_refl _) _
    have gX := heap_alloc_new w2 (.cells #[.int .i64 (m : Int), .int .i64 0, .string (ofL [])] 28)
    have hwX := hw2.keep AX
    have BX := B2.trans (AX.mono B2.size)
    obtain ⟨X, hX⟩ : ∃ X, w2.heap.size = X := ⟨_, rfl⟩
    have hXlt : X < (w2.alloc (.cells #[.int .i64 (m : Int), .int .i64 0, .string (ofL [])] 28)).heap.size := by rw [← hX]; simp
    rw [hX] at gX hblt
    have hwX0 : w0.heap.size ≤ X := by rw [← hX]; exact B2.size
    obtain ⟨wx, hwx⟩ : ∃ wx, w2.alloc (.cells #[.int .i64 (m : Int), .int .i64 0, .string (ofL [])] 28) = wx := ⟨_, rfl⟩
    rw [hwx] at gX hwX BX hXlt
    clear hw1 hb1 hb2 hw2 AX B2
    go_wp2
    try rw [hwx]
    try rw [hX]
    go_loopw [7] (fun i wr => ∃ (k : Nat) (a' : Option Addr) (cap' : Nat) (pe : Nat) (ps : List UInt8), k ≤ l.length ∧ i = .int .i64 k ∧ WS wr b a' cap' m (((l.take k).map (·.x)).foldl (M.layItem m) (0, [])) ∧ wr.heap[X]? = some (.cells #[.int .i64 (m : Int), .int .i64 (pe : Int), .string (ofL ps)] 28 (0, 0)) ∧ Hid (Sim m (((l.take k).map (·.x)).foldl (M.layItem m) (0, [])) (pe, ps)) ∧ Below w0.heap.size w0 wr ∧ X < wr.heap.size ∧ (∀ k, blk a' k → k ≠ X)) (fun i _ => l.length - (intOf i).toNat)
    case atStart => exact ⟨0, none, 0, 0, [], Nat.zero_le _, rfl, hwX, gX, ⟨rfl, fun _ => rfl, Nat.zero_le _⟩, BX, hXlt, fun k ⟨_, _, h⟩ => by cases h⟩
    case round =>
      obtain ⟨k, a', cap', pe, ps, hk, rfl, hw3, g3, HS, B3, hX3, hbX⟩ := hrel
      clear gX hwX BX hXlt hwx
      by_cases hlt : k < l.length
      · have hit := hc.keep B3
        obtain ⟨ok, bb, off, rfl, c0, c1, c2, c3, c4⟩ := hit k hlt
        have hlow := ((hc k hlt).1).low hb
        have hok1 := hok k hlt
        have HFo : Hid (_ = _) := fold_snoc m l k hlt (0, [])
        have hpsl : ps.length ≤ m := HS.out.2.2
        have hbbw : bb < w0.heap.size := by
          obtain ⟨_, b', off', e, q0, _⟩ := hc k hlt
          simp only [Option.some.injEq, Addr.mk.injEq] at e
          obtain ⟨rfl, _, _⟩ := e
          exact World.block_lt_of_cell? w0 _ q0
        generalize l[k] = it at *
        generalize ((l.take k).map (·.x)).foldl (M.layItem m) (0, []) = st at *
        have HSI : Hid (Sim m (M.layItem m st it.x) (rItem m (pe, ps) it.x)) := sim_item m st (pe, ps) it.x HS.out
        have HC : Hid (WS wr b a' cap' m st ∧ ItOk wr it ∧ okI it.x = true ∧ Low it b) := ⟨hw3, ok, hok1, hlow⟩
        clear hw3 ok hok1 hlow hit
        obtain ⟨⟨kind, n, text, ints, texts⟩, ia, icap, ta, tcap⟩ := it
        simp only [It.v0, It.v1, It.v2, It.v3, It.v4] at c0 c1 c2 c3 c4 HSI HFo
        go_wp2_with fail
        refine (layItem_any b a' cap' m st ⟨⟨kind, n, text, ints, texts⟩, ia, icap, ta, tcap⟩ wr HC.out.1 HC.out.2.1 HC.out.2.2.1 HC.out.2.2.2).mono ?_
        rintro x w4 ⟨rfl, hq⟩
        obtain ⟨a4, cap4, hw4, hs4⟩ := hq
        have HW4 : Hid (WS w4 b a4 cap4 m (M.layItem m st ⟨kind, n, text, ints, texts⟩)) := hw4
        have hz4 : wr.heap.size ≤ w4.heap.size := hs4.size
        have g4 : w4.heap[X]? = some (.cells #[.int .i64 (m : Int), .int .i64 (pe : Int), .string (ofL ps)] 28 (0, 0)) := (hs4.block X hX3 (by omega) (fun h => hbX X h rfl)).trans g3
        have hbX4 : ∀ k, blk a4 k → k ≠ X := fun k hk => by
          rcases hs4.new k hk with h | h
          · exact hbX k h
          · omega
        have hbk : ∀ k, blk a' k → w0.heap.size ≤ k := fun k hk => by have := (HC.out.1.inb k hk).1; omega
        have BS : Below w0.heap.size wr w4 := hs4.below hb hbk B3.size
        have B4 := B3.trans BS
        have ok4 : ItOk w4 ⟨⟨kind, n, text, ints, texts⟩, ia, icap, ta, tcap⟩ := itok_low HC.out.2.1 hs4 HC.out.2.2.2 (fun k hk => (HC.out.1.inb k hk).1)
        have pt4 : Parts w4.drew kind n text ints texts ia ta := parts_of (ok4.keep (Below.refl _ w4).drew) HC.out.2.2.1
        have cc : ∀ {j : Nat} {v : Value}, wr.cell? ⟨bb, j, none⟩ = some v → w4.cell? ⟨bb, j, none⟩ = some v := fun {j v} h => (BS.cell (p := ⟨bb, j, none⟩) hbbw).trans h
        have D : Hid (w4.drew.cell? ⟨X, 0, none⟩ = some (.int .i64 (m : Int)) ∧ w4.drew.cell? ⟨X, 1, none⟩ = some (.int .i64 (pe : Int)) ∧ w4.drew.cell? ⟨X, 2, none⟩ = some (.string (ofL ps)) ∧ w4.drew.cell? ⟨bb, off + k * 5, none⟩ = some (.int .i64 kind) ∧ w4.drew.cell? ⟨bb, off + k * 5 + 1, none⟩ = some (.int .i64 n) ∧ w4.drew.cell? ⟨bb, off + k * 5 + 2, none⟩ = some (.string (ofL text)) ∧ w4.drew.cell? ⟨bb, off + k * 5 + 3, none⟩ = some (.slice ia ints.length icap) ∧ w4.drew.cell? ⟨bb, off + k * 5 + 4, none⟩ = some (.slice ta texts.length tcap)) := ⟨(row3 g4).1, (row3 g4).2.1, (row3 g4).2.2.1, cc c0, cc c1, cc c2, cc c3, cc c4⟩
        have hX4 : X < w4.heap.size := by omega
        clear hw4 hs4 HC c0 c1 c2 c3 c4 cc hbk BS ok4 B3 HS
        go_wp2_with fail
        obtain ⟨D0, D1, D2, D3, D4, D5, D6, D7⟩ := D.out
        go_region_with ((go_at_call 13; refine (laid_any m pe ps kind n text ints texts ia ta icap tcap w4.drew hmle (by omega) pt4).mono ?_; rintro x w5 ⟨rfl, hb5⟩; have g5 : w5.heap[X]? = some (.cells #[.int .i64 (m : Int), .int .i64 (pe : Int), .string (ofL ps)] 28 (0, 0)) := (hb5.block X hX4).trans g4; obtain ⟨q0, q1, q2, z0, z1, z2⟩ := row3 g5))
        all_goals
          have b45 : Below w4.heap.size w4 w5 := ⟨hb5.os, hb5.tape, hb5.output, hb5.size, hb5.block⟩
          have w6 := (HW4.out.keep b45).setX (X := X) (u0 := .int .i64 (m : Int)) (u1 := .int .i64 ((rItem m (pe, ps) ⟨kind, n, text, ints, texts⟩).1 : Nat)) (u2 := .string (ofL (rItem m (pe, ps) ⟨kind, n, text, ints, texts⟩).2)) (by omega) hbX4
          have g6 := rowset3 g5 (.int .i64 (m : Int)) (.int .i64 ((rItem m (pe, ps) ⟨kind, n, text, ints, texts⟩).1 : Nat)) (.string (ofL (rItem m (pe, ps) ⟨kind, n, text, ints, texts⟩).2))
          have B5 := B4.trans (b45.mono B4.size)
          have B6 := ((B5.setCell (p := ⟨X, 0, none⟩) hwX0 (.int .i64 (m : Int))).setCell (p := ⟨X, 1, none⟩) hwX0 (.int .i64 ((rItem m (pe, ps) ⟨kind, n, text, ints, texts⟩).1 : Nat))).setCell (p := ⟨X, 2, none⟩) hwX0 (.string (ofL (rItem m (pe, ps) ⟨kind, n, text, ints, texts⟩).2))
          have hX6 : X < (((w5.setCell ⟨X, 0, none⟩ (.int .i64 (m : Int))).setCell ⟨X, 1, none⟩ (.int .i64 ((rItem m (pe, ps) ⟨kind, n, text, ints, texts⟩).1 : Nat))).setCell ⟨X, 2, none⟩ (.string (ofL (rItem m (pe, ps) ⟨kind, n, text, ints, texts⟩).2))).heap.size := by
            have := b45.size
            simp
            omega
          have W6 : Hid (WS (((w5.setCell ⟨X, 0, none⟩ (.int .i64 (m : Int))).setCell ⟨X, 1, none⟩ (.int .i64 ((rItem m (pe, ps) ⟨kind, n, text, ints, texts⟩).1 : Nat))).setCell ⟨X, 2, none⟩ (.string (ofL (rItem m (pe, ps) ⟨kind, n, text, ints, texts⟩).2))) b a4 cap4 m (M.layItem m st ⟨kind, n, text, ints, texts⟩)) := w6
          have G6 : Hid ((((w5.setCell ⟨X, 0, none⟩ (.int .i64 (m : Int))).setCell ⟨X, 1, none⟩ (.int .i64 ((rItem m (pe, ps) ⟨kind, n, text, ints, texts⟩).1 : Nat))).setCell ⟨X, 2, none⟩ (.string (ofL (rItem m (pe, ps) ⟨kind, n, text, ints, texts⟩).2))).heap[X]? = some (.cells #[.int .i64 (m : Int), .int .i64 ((rItem m (pe, ps) ⟨kind, n, text, ints, texts⟩).1 : Nat), .string (ofL (rItem m (pe, ps) ⟨kind, n, text, ints, texts⟩).2)] 28 (0, 0))) := g6
          clear w6 g6 g5 q0 q1 q2 z0 z1 z2 D D0 D1 D2 D3 D4 D5 D6 D7 pt4 HW4 g4 g3 b45 B5 hb5
          go_wp2
          go_roundw
          case rel => exact ⟨k + 1, a4, cap4, (rItem m (pe, ps) ⟨kind, n, text, ints, texts⟩).1, (rItem m (pe, ps) ⟨kind, n, text, ints, texts⟩).2, by omega, by go_num, by rw [HFo.out]; exact W6.out, G6.out, by rw [HFo.out]; exact HSI.out, B6, hX6, hbX4⟩
          case measure => simp [intOf]; omega
      · rw [List.take_of_length_le (by omega)] at hw3 HS
        generalize (l.map (·.x)).foldl (M.layItem m) (0, []) = st at *
        obtain ⟨HD1, HD2⟩ := sim_done HS.out hw3.fit
        simp only at HD2
        subst HD2
        have HDN : Hid (rdn (st.1, ps) = st.2) := HD1
        clear HS HD1
        go_wp2_with fail
        refine (wdone_any b a' cap' m st wr hw3).mono ?_
        rintro x w4 ⟨rfl, hb4⟩
        have B4 := B3.trans (hb4.mono B3.size)
        have g4 := (hb4.block X hX3).trans g3
        obtain ⟨q0, q1, q2, _⟩ := row3 g4
        clear hw3 hb4 g3 g4
        go_wp2_with fail
        refine (refDone_any m st.1 ps w4).mono ?_
        rintro x w5 ⟨rfl, hb5⟩
        rw [HDN.out]
        have B5 := B4.trans (hb5.mono B4.size)
        clear hb5 q0 q1 q2
        generalize ofL st.2 = bytes
        generalize st.1 = e
        go_wp2_with fail
        refine (awake_any _).mono ?_
        rintro x w6 ⟨rfl, hb6⟩
        go_wp2
        go_ret
        exact ⟨rfl, B5.trans (hb6.mono B5.size)⟩

theorem own : ownKnob Try.prog.godebug = none := by kernel_rfl
theorem laidOut : laidOutB Try.prog = true := by kernel_rfl

set_option maxRecDepth 100000 in
theorem writes_lifted (os : Os) (started : os.Started) (H : Type) (enc : TypeId × Value → H) :
    ReturnsInHanded {} Try.checked os 3 .any (Rows.codecWritesSpec.pre6 enc Try.prog Try.f3 Rows.codecWritesRow.domain false) (Rows.codecWritesSpec.post enc Try.prog Try.f3 false true false false) := by
  refine returnsInHanded_of_change (C := Try.checked) own started (by kernel_rfl) Try.func3
    (ChangeSpec.witness6 (enc := enc) (C := Try.checked) false ⟨#[], #[.int .i64 0, .slice none 0 0], []⟩ 8 (by kernel_rfl) (by kernel_rfl) (by kernel_rfl) (by kernel_rfl)) ?_
  intro W base args ds gs before hval0 hW hcnd _
  have hval : ∀ (j : Nat) t v, Try.f3.params[j]? = some t → args[j]? = some v → Value.okWide Try.prog W .any base t v := hval0
  have hW' := hW
  obtain ⟨p, q, hA0, hV, rfl, hfz, hnd⟩ := hW
  have hA : DataW.TrodAll enc Try.prog W 0 (fun _ => true) true Try.f3.params.toList args.toList ds p := hA0
  rw [Try.params3] at hA hval
  obtain ⟨v0, vs0, d0, ds0, p0, q0, hargs, rfl, rfl, h0, r0⟩ := trodAll_cons hA
  obtain ⟨v1, vs1, d1, ds1, p1, q1, rfl, rfl, rfl, h1, r1⟩ := trodAll_cons r0
  obtain ⟨rfl, rfl, rfl⟩ := trodAll_nil r1
  obtain rfl : args = #[v0, v1] := by cases args; simp_all
  obtain ⟨rfl, rfl⟩ := trodVars_none hV
  obtain ⟨a0, rfl, rfl, rfl, w0⟩ := open_int Try.underlying3 (hval 0 3 v0 rfl rfl) h0
  obtain ⟨a1, len1, cap1, rfl⟩ := okWide_slice Try.underlying22 (hval 1 22 v1 rfl rfl)
  have k1 := h1
  have lt1 : ∀ x ∈ p1, x.block < W.heap.size := by obtain ⟨m, hm⟩ := k1; exact DataW.trod_lt m _ _ _ hm
  obtain ⟨l, hlen, hit, hm⟩ : ∃ l : List It, len1 = l.length ∧ Items W a1 l ∧ l.length ≤ maxLen := by
    obtain ⟨fuel, hf⟩ := h1
    obtain ⟨a', len', cap', l, hcs, hl, hi, hm⟩ := open_items hf
    simp [Value.cells] at hcs
    obtain ⟨rfl, rfl, rfl⟩ := hcs
    exact ⟨l, hl, hi, hm⟩
  clear hA0 hval0
  subst hlen
  refine (writes_walk a0 a1 cap1 l W (by have := bounds_i64 w0; omega) hm hit).mono fun e W' ⟨he, bel⟩ => ?_
  subst he
  exact ⟨_, rfl, _, _, _, [], _, [], hW', trodAll_mk1 (shut_bool Try.underlying4 _), (trodAll_cons_mk (shut_int Try.underlying3 w0) (trodAll_cons_mk (Below.trod laidOut (by kernel_rfl) (of_decide_eq_true (by kernel_rfl)) k1 bel lt1) trodAll_mk0)), rfl, bel.frame _, fun h => by cases h⟩

theorem writes_holds : Rows.CodecWritesSaid :=
  OpenClaim.holds_of_wide 3 Try.f3 rfl rfl rfl rfl rfl rfl rfl ⟨rfl, rfl, rfl, rfl, rfl⟩ rfl rfl rfl rfl rfl (by kernel_rfl) Try.func3 (by kernel_rfl)
    (of_decide_eq_true (by kernel_rfl)) (by unfold Func.isWrapper; first | (rw [if_pos (by decide +kernel)]; kernel_rfl) | (rw [if_neg (by decide +kernel)]; exact ⟨rfl, rfl⟩))
    (fun os started H enc _ => writes_lifted os started H enc)
#print axioms writes_holds


end Go.Proofs.Ytanpplndoemgoaa
