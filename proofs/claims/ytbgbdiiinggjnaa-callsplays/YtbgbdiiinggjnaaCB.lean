/-
  A call ends.
-/
import Derived.Test.YtbgbdiiinggjnaaCA
import Derived.Deep.CutRange
namespace Go.Proofs.Ytbgbdiiinggjnaa
open Go.RowKit
set_option linter.unusedVariables false
open M (E)
open Cl (K W Ms fup)

set_option maxRecDepth 100000 in
set_option maxHeartbeats 2000000 in
theorem endC_any {w : World} {base b bt m : Nat} {vt vo : Value} {n : Nat} {me next : Int} {O : List W} {P : List E} {f : Int → Option (Int × ByteArray)} (h : CI w base b bt m vt vo n me next O P f) (hb : base ≤ w.heap.size) (hl : O.length ≤ 64) (i : Nat) (hi : i < O.length) (id : Int) (hid : O[i].id = id) (h0 : 0 ≤ id) (h1 : id ≤ 9223372036854775807) (p1 : Int) (p2 : ByteArray) (hn : n < maxLen) :
    Calls Try.prog 34 #[.pointer (some ⟨b, 0, none⟩), .int .i64 i, .agg #[.int .i64 p1, .string p2]] w (COut w base b bt m vt vo (n + 1) me next (O.take i ++ O.drop (i + 1)) (M.stop P id) (fup f id (some (p1, p2))) (.tuple #[])) := by
  obtain ⟨W1, HW1⟩ : ∃ W1, Hid (w.alloc (.cells #[.int .i64 p1, .string p2] 82) = W1) := ⟨_, rfl⟩
  have HB1 : Hid (Below w.heap.size w W1) := by rw [← HW1.out]; exact bel1 w _
  have hbox : W1.heap[w.heap.size]? = some (.cells #[.int .i64 p1, .string p2] 82 (0, 0)) := by rw [← HW1.out]; exact heap_alloc_last w _
  have hX1 := h.keep HB1.out
  have hs1 : W1.heap.size = w.heap.size + 1 := by rw [← HW1.out]; simp
  have hmine := h.mine
  have hNM : ¬ fpc b bt m vt vo w.heap.size := fun e => by have := (hmine _ e).2; omega
  obtain ⟨⟨c0, c1, c2, c3, c4⟩, _⟩ := hX1.cells
  rcases hX1.own.rowW with ⟨_, e0⟩ | ⟨g, cap, cur, rfl, hbg, hr⟩
  · subst e0; simp at hi
  obtain ⟨a', cap', hv, hx, _⟩ := hX1.own.at
  cases hv
  obtain ⟨g0, off, ea, d0, d1, d2, d3, d4⟩ := hx.at'.getW i hi
  cases ea
  rw [hid, Nat.zero_add] at d2
  have hst := stop_any base bt vt P id W1 (by omega) hX1.tm
  have HX1 := Hid_of hX1
  have HNM := Hid_of hNM
  have HBX := Hid_of hbox
  clear hX1 hx h d0 d1 d3 d4 hmine hr hid hNM hbox
  go_enter Try.func34, Try.ntmps34
  go_upto_region 1 with fail
  rw [HW1.out]
  go_wp2_with fail
  refine hst.mono ?_
  rintro e w2 ⟨vt2, rfl, hx2, hc2⟩
  obtain ⟨hX2, hF2⟩ := HX1.out.timed hx2 hc2
  obtain ⟨⟨e0, e1, e2, e3, e4⟩, _⟩ := hX2.cells
  rcases hX2.own.rowW with ⟨q, _⟩ | ⟨g', cap', cur', hv, hbg', hr⟩
  · cases q
  cases hv
  have hd := deleteW i hbg' hr hi (by omega)
  have hadd : IntKind.i64.wrap ((i : Int) + 1) = (i : Int) + 1 := by rw [IntKind.wrap_i64]; omega
  have HX2 := Hid_of hX2
  have HF2 := Hid_of hF2
  clear hX2 hF2 hx2 hc2 hr hst
  go_wp2_with fail
  refine hd.mono ?_
  rintro e w3 ⟨vo3, rfl, ho3, hr3⟩
  obtain ⟨⟨k0, k1, k2, k3, k4⟩, kf⟩ := HX2.out.row1 hr3
  have kf3 := kf 3
  obtain ⟨a3, cap3, hv3, _⟩ := ho3.at
  obtain ⟨hX4, hF4⟩ := HX2.out.rowed hr3 ho3
  subst hv3
  obtain ⟨w4, HW4⟩ : ∃ w4, Hid (w3.setCell ⟨b, 3, none⟩ (.slice a3 (O.take i ++ O.drop (i + 1)).length cap3) = w4) := ⟨_, rfl⟩
  rw [HW4.out] at hX4 hF4
  have hF := HF2.out.trans hF4
  have hbox4 : w4.heap[w.heap.size]? = some (.cells #[.int .i64 p1, .string p2] 82 (0, 0)) := (hF.block _ (by omega) HNM.out).trans HBX.out
  obtain ⟨⟨q0, q1⟩, _⟩ := row2 hbox4
  obtain ⟨w5, hput, MI5, MT5⟩ := MI.put (w := w4.drew) hX4.mi id (lit_i h0 h1) (p1, p2) hn
  obtain ⟨⟨r0, r1, r2, r3, r4⟩, _⟩ := hX4.cells
  have hX4' : CI w4.drew base b bt m vt2 (.slice a3 (O.take i ++ O.drop (i + 1)).length cap3) n me next (O.take i ++ O.drop (i + 1)) (M.stop P id) f := hX4.keep (Below.drew (Below.refl _ _))
  obtain ⟨hX5, hF5⟩ := hX4'.mapped MI5 MT5
  have HK : Hid (COut w base b bt m vt (.slice (some ⟨g, 0, none⟩) O.length cap) (n + 1) me next (O.take i ++ O.drop (i + 1)) (M.stop P id) (fup f id (some (p1, p2))) (.tuple #[]) (.returned (.tuple #[])) w5) := ⟨_, _, rfl, hX5, (Fr.ofBelow HB1.out).trans (hF.drew.trans hF5)⟩
  have hput : (Instr.mapUpdate 63 (.map (some m)) (.int .i64 id) (.agg #[.int .i64 p1, .string p2])).run Try.prog w4.drew = .ok () w5 := hput
  clear hX4 hF4 hX4' hX5 hF5 hF hbox4 MI5 MT5 ho3 hr3 hd kf HX2 HF2 HX1 HNM HBX r0 r1 r2 r3 k0 k1 k2 k4 e0 e1 e2 e3 e4
  generalize (O.take i ++ O.drop (i + 1)) = O4 at *
  go_upto_region 4 with fail
  rw [HW4.out]
  go_region
  all_goals
    go_end0
    exact HK.out
end Go.Proofs.Ytbgbdiiinggjnaa
