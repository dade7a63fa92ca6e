/-
  The document's net: a byte is changed.
-/
import Derived.Test.YtjbodjjeenjbeaaRF
import Derived.Test.YtjbodjjeenjbeaaNF
namespace Go.Proofs.Ytjbodjjeenjbeaa
open Go.RowKit
set_option linter.unusedVariables false
open Nt (Pk)

theorem f19_res : Try.f19.results = #[.cell 8 30, .tmp 9] := rfl
set_option maxRecDepth 100000 in
set_option maxHeartbeats 1000000 in
theorem rspoil_no {w : World} {N : Int} {a : Option Addr} {cap : Nat} {ka : Option Addr} {kc : Nat} {K : List (Int × Int)} (h : RN w a cap [] ka kc K) (i at' by' : Int) :
    Calls Try.prog 19 #[.agg #[.int .i64 N, .slice a 0 cap, .slice ka K.length kc], .int .i64 i, .int .i64 at', .int .i64 by'] w (ROut w N a cap [] ka kc K [] K false) := by
  obtain ⟨W1, HW1⟩ : ∃ W1, Hid ((w.alloc (.cells #[.int .i64 N, .slice a 0 cap, .slice ka K.length kc] 30)).alloc (.cells #[.int .i64 0, .slice none 0 0, .slice none 0 0] 30) = W1) := ⟨_, rfl⟩
  have hB1 : Below w.heap.size w W1 := by rw [← HW1.out]; exact bel2 w _ _
  have hr1 : W1.heap[w.heap.size]? = some (.cells #[.int .i64 N, .slice a 0 cap, .slice ka K.length kc] 30 (0, 0)) := by rw [← HW1.out]; exact heap_alloc2_old w _ _
  have hr2 : W1.heap[w.heap.size + 1]? = some (.cells #[.int .i64 0, .slice none 0 0, .slice none 0 0] 30 (0, 0)) := by rw [← HW1.out]; exact heap_alloc2_new w _ _
  obtain ⟨j1, j2, j3, _⟩ := ref_lay (x := .int .i64 N) (v1 := .slice a 0 cap) (v2 := .slice ka K.length kc) hB1 hr2 (by omega)
  obtain ⟨⟨y0, y1, y2⟩, yf0, yf1, yf2⟩ := j1
  obtain ⟨⟨n0, n1, n2⟩, _⟩ := rw3 hr1
  have HQ1 := Hid_of j2
  have HQ2 : Hid (ROut w N a cap [] ka kc K [] K false (.returned (.tuple #[.agg #[.int .i64 N, .slice a 0 cap, .slice ka K.length kc], .bool false])) (put3 W1 (w.heap.size + 1) (.int .i64 N) (.slice a 0 cap) (.slice ka K.length kc))) := ⟨_, _, rfl, XRes.same, KRes.same, j3⟩
  clear h j2 j3 hr1 hr2 hB1
  go_enter Try.func19, Try.ntmps19
  go_upto_region 1 with fail
  rw [HW1.out]
  clear HW1
  go_wp2
  refine bodyPost_ret (v := .tuple #[.agg #[.int .i64 N, .slice a 0 cap, .slice ka K.length kc], .bool false]) ?_ rfl HQ2.out
  exact res3 f19_res _ _ (w.heap.size + 1) _ _ _ rfl HQ1.out
set_option maxRecDepth 100000 in
set_option maxHeartbeats 1000000 in
theorem rspoil_yes {w : World} {N : Int} {a : Option Addr} {cap : Nat} {R : List Pk} {ka : Option Addr} {kc : Nat} {K : List (Int × Int)} (h : RN w a cap R ka kc K) (i at' by' : Int) (hR : 0 < R.length) (j : Nat) (hjw : Nt.wr i R.length = j) (hj : j < R.length) :
    Calls Try.prog 19 #[.agg #[.int .i64 N, .slice a R.length cap, .slice ka K.length kc], .int .i64 i, .int .i64 at', .int .i64 by'] w (ROut w N a cap R ka kc K (R.set j ⟨R[j].a, R[j].b, Nt.spl R[j].s at' by'⟩) K true) := by
  obtain ⟨W1, HW1⟩ : ∃ W1, Hid ((w.alloc (.cells #[.int .i64 N, .slice a R.length cap, .slice ka K.length kc] 30)).alloc (.cells #[.int .i64 0, .slice none 0 0, .slice none 0 0] 30) = W1) := ⟨_, rfl⟩
  have hB1 : Below w.heap.size w W1 := by rw [← HW1.out]; exact bel2 w _ _
  have hr1 : W1.heap[w.heap.size]? = some (.cells #[.int .i64 N, .slice a R.length cap, .slice ka K.length kc] 30 (0, 0)) := by rw [← HW1.out]; exact heap_alloc2_old w _ _
  have hr2 : W1.heap[w.heap.size + 1]? = some (.cells #[.int .i64 0, .slice none 0 0, .slice none 0 0] 30 (0, 0)) := by rw [← HW1.out]; exact heap_alloc2_new w _ _
  have hRn := h.ok.n
  have d0 : ((R.length : Int) == 0) = false := by rw [beq_eq_false_iff_ne]; omega
  have hAt := fun W => rat_any i R.length hR (by omega) W
  rw [hjw] at hAt
  obtain ⟨⟨n0, n1, n2⟩, _⟩ := rw3 hr1
  have hLs := h.ok.s _ (List.getElem_mem hj)
  have hl1 : w.heap.size + 1 < W1.heap.size := (Array.getElem?_eq_some_iff.1 hr2).1
  obtain ⟨a2, c2, w2, hrun, o2, b2⟩ := run_copyP pt27 W1 27 a cap R (h.r.keep hB1) (by omega)
  obtain ⟨g, cg, hv, hbg, hgw, q2, _, _⟩ := o2.set j hj
  simp only [Value.slice.injEq, true_and] at hv
  obtain ⟨rfl, rfl⟩ := hv
  obtain ⟨s, hs⟩ : ∃ s, R[j].s = s := ⟨_, rfl⟩
  rw [hs] at hLs q2 ⊢
  obtain ⟨cp, w3, hcv, hbuf, hB3⟩ := buf_of_text s w2
  obtain ⟨Q, hQ⟩ : ∃ Q, Nt.wr at' s.size = Q := ⟨_, rfl⟩
  have hQl : Q < s.size := by rw [← hQ]; exact Nt.wr_lt at' hLs.1
  have hAt2 := fun W => rat_any at' s.size hLs.1 hLs.2 W
  rw [hQ] at hAt2
  have hQd : Q < s.data.toList.length := by rw [len_data]; exact hQl
  obtain ⟨zb, hzb⟩ : ∃ zb, s.data.toList[Q]? = some zb := ⟨_, List.getElem?_eq_getElem hQd⟩
  have HSP : Hid (Nt.spl s at' by' = ofL (s.data.toList.set Q (zb ^^^ Nt.lob by'))) := by
    refine Hid_of ?_
    unfold Nt.spl Nt.byteAt
    rw [hQ, hzb]
    rfl
  have hcell : w3.cell? ⟨w2.heap.size, Q, none⟩ = some (.int .u8 (zb.toNat : Int)) := by
    have h1 := hbuf.cell Q hQd
    have h2 : s.data.toList[Q]'hQd = zb := by
      rw [List.getElem?_eq_getElem hQd] at hzb
      simpa using hzb
    rw [h2] at h1
    exact h1
  have hfr := (hbuf.room Q (Nat.lt_of_lt_of_le hQd hbuf.le)).2
  have hset := hbuf.set Q hQd (zb ^^^ Nt.lob by')
  rw [← byte_xor_bits, Nt.lob_nat] at hset
  have hcle := hbuf.le
  rw [len_data] at hcle
  obtain ⟨W4, HW4⟩ : ∃ W4, Hid (w3.setCell ⟨w2.heap.size, Q, none⟩ (.int .u8 (bits .xor .u8 (zb.toNat : Int) (by' % 256))) = W4) := ⟨_, rfl⟩
  have hb4 : Buf W4 w2.heap.size w2.heap.size cp (s.data.toList.set Q (zb ^^^ Nt.lob by')) := by rw [← HW4.out]; exact hset
  have b4 : Below w2.heap.size w2 W4 := by rw [← HW4.out]; exact hB3.setCell (p := ⟨w2.heap.size, Q, none⟩) (Nat.le_refl _) _
  have hcv4 := hb4.convert (n := s.size) (by rw [List.length_set, len_data])
  rw [← HSP.out] at hcv4
  have o4 := o2.keep b4
  obtain ⟨g', cg', hv', _, _, q4, f4, set4⟩ := o4.set j hj
  simp only [Value.slice.injEq, true_and, Option.some.injEq, Addr.mk.injEq, and_true] at hv'
  obtain ⟨rfl, rfl⟩ := hv'
  rw [hs] at q4
  obtain ⟨W5, HW5⟩ : ∃ W5, Hid (W4.setCell ⟨g, j * 3 + 2, none⟩ (.string (Nt.spl s at' by')) = W5) := ⟨_, rfl⟩
  have o5 : OwnP 44 W5 W1.heap.size (.slice (some ⟨g, 0, none⟩) R.length c2) (R.set j ⟨R[j].a, R[j].b, Nt.spl s at' by'⟩) := by rw [← HW5.out]; exact set4 _
  have b15 : Below W1.heap.size W1 W5 := by rw [← HW5.out]; exact (bel_up b2 b4 (Nat.le_refl _)).setCell (p := ⟨g, j * 3 + 2, none⟩) hbg _
  obtain ⟨W6, HW6⟩ : ∃ W6, Hid (W5.setCell ⟨w.heap.size, 1, none⟩ (.slice (some ⟨g, 0, none⟩) R.length c2) = W6) := ⟨_, rfl⟩
  obtain ⟨e1, e2, e3, e4, e5, e6⟩ := ref_fin (bel_up hB1 b15 (Nat.le_refl _)) (bel_row hr1 b15) (bel_row hr2 b15) (by omega) (Nat.le_refl _) (by omega) W6 HW6.out
  have HQ1 := Hid_of e4
  have HQ2 : Hid (ROut w N a cap R ka kc K (R.set j ⟨R[j].a, R[j].b, Nt.spl s at' by'⟩) K true (.returned (.tuple #[.agg #[.int .i64 N, .slice (some ⟨g, 0, none⟩) R.length c2, .slice ka K.length kc], .bool true])) (put3 W6 (w.heap.size + 1) (.int .i64 N) (.slice (some ⟨g, 0, none⟩) R.length c2) (.slice ka K.length kc))) := by
    refine ⟨_, _, rfl, .inr (OwnP.low (o5.keepBut fun k hk hv => e6 k ?_ ?_) hB1.size), KRes.same, e5⟩
    · have := (o5.lt hv).1; omega
    · have := (o5.lt hv).1; omega
  obtain ⟨x1, x2⟩ := e1
  obtain ⟨y0, y1, y2⟩ := e2
  obtain ⟨⟨z0, z1, z2⟩, zf0, zf1, zf2⟩ := e3
  have hji : (j : Int) < (R.length : Int) := by omega
  have hQi : (Q : Int) < (s.size : Int) := by omega
  generalize Nt.spl s at' by' = T at *
  generalize R.set j ⟨R[j].a, R[j].b, T⟩ = RR at *
  clear h hr1 hr2 hB1 hl1 o2 b2 hbg hgw hs hbuf hB3 hQ hQl hQd hzb HSP hset hb4 b4 o4 set4 o5 b15 e4 e5 e6 hLs hjw hR
  go_enter Try.func19, Try.ntmps19
  go_upto_region 1 with fail
  rw [HW1.out]
  clear HW1
  go_wp2_with (at_builtin; refine wpList_append_known rfl _ _ 27 rfl _ _ rfl rfl _ _ hrun ?_)
  refine (hAt _).mono ?_
  rintro e wx ⟨rfl, rfl⟩
  go_wp2_with fail
  refine (hAt2 _).mono ?_
  rintro e wx ⟨rfl, rfl⟩
  go_upto_region 8 with fail
  rw [HW4.out]
  go_upto_region 9 with fail
  rw [HW5.out]
  go_upto_region 10 with fail
  rw [HW6.out]
  clear HW4 HW5 HW6 hAt hAt2 hcell hfr hcv hcv4 q2 q4 f4 n0 n1 n2 x1 x2
  go_wp2
  refine bodyPost_ret (v := .tuple #[.agg #[.int .i64 N, .slice (some ⟨g, 0, none⟩) R.length c2, .slice ka K.length kc], .bool true]) ?_ rfl HQ2.out
  exact res3 f19_res _ _ (w.heap.size + 1) _ _ _ rfl HQ1.out
end Go.Proofs.Ytjbodjjeenjbeaa
