/-
  The document's net: one more of the same.
-/
import Derived.Test.YtjbodjjeenjbeaaRF
namespace Go.Proofs.Ytjbodjjeenjbeaa
open Go.RowKit
set_option linter.unusedVariables false
set_option linter.unusedSimpArgs false
open Nt (Pk)

theorem f17_res : Try.f17.results = #[.cell 4 30, .tmp 5] := rfl
set_option maxRecDepth 100000 in
set_option maxHeartbeats 1000000 in
theorem rdouble_no {w : World} {N : Int} {a : Option Addr} {cap : Nat} {R : List Pk} {ka : Option Addr} {kc : Nat} {K : List (Int × Int)} (h : RN w a cap R ka kc K) (i : Int) (hno : R.length = 0 ∨ ¬ R.length < 1024) :
    Calls Try.prog 17 #[.agg #[.int .i64 N, .slice a R.length cap, .slice ka K.length kc], .int .i64 i] w (ROut w N a cap R ka kc K R K false) := by
  obtain ⟨W1, HW1⟩ : ∃ W1, Hid ((w.alloc (.cells #[.int .i64 N, .slice a R.length cap, .slice ka K.length kc] 30)).alloc (.cells #[.int .i64 0, .slice none 0 0, .slice none 0 0] 30) = W1) := ⟨_, rfl⟩
  have hB1 : Below w.heap.size w W1 := by rw [← HW1.out]; exact bel2 w _ _
  have hr1 : W1.heap[w.heap.size]? = some (.cells #[.int .i64 N, .slice a R.length cap, .slice ka K.length kc] 30 (0, 0)) := by rw [← HW1.out]; exact heap_alloc2_old w _ _
  have hr2 : W1.heap[w.heap.size + 1]? = some (.cells #[.int .i64 0, .slice none 0 0, .slice none 0 0] 30 (0, 0)) := by rw [← HW1.out]; exact heap_alloc2_new w _ _
  obtain ⟨j1, j2, j3, _⟩ := ref_lay (x := .int .i64 N) (v1 := .slice a R.length cap) (v2 := .slice ka K.length kc) hB1 hr2 (by omega)
  obtain ⟨⟨y0, y1, y2⟩, yf0, yf1, yf2⟩ := j1
  obtain ⟨⟨n0, n1, n2⟩, _⟩ := rw3 hr1
  have HQ1 := Hid_of j2
  have HQ2 : Hid (ROut w N a cap R ka kc K R K false (.returned (.tuple #[.agg #[.int .i64 N, .slice a R.length cap, .slice ka K.length kc], .bool false])) (put3 W1 (w.heap.size + 1) (.int .i64 N) (.slice a R.length cap) (.slice ka K.length kc))) := ⟨_, _, rfl, XRes.same, KRes.same, j3⟩
  have hRn := h.ok.n
  clear h j2 j3 hr1 hr2 hB1
  rcases hno with h0 | h0
  · have d0 : ((R.length : Int) == 0) = true := by rw [beq_iff_eq]; omega
    have HL := Hid_of h0
    clear h0
    go_enter Try.func17, Try.ntmps17
    go_upto_region 1 with fail
    rw [HW1.out]
    clear HW1
    go_wp2
    refine bodyPost_ret (v := .tuple #[.agg #[.int .i64 N, .slice a R.length cap, .slice ka K.length kc], .bool false]) ?_ rfl HQ2.out
    exact res3 f17_res _ _ (w.heap.size + 1) _ _ _ rfl HQ1.out
  · have d0 : ((R.length : Int) == 0) = false := by rw [beq_eq_false_iff_ne]; omega
    have d1 : decide ((1024 : Int) ≤ (R.length : Int)) = true := decide_eq_true (by omega)
    clear h0
    go_enter Try.func17, Try.ntmps17
    go_upto_region 1 with fail
    rw [HW1.out]
    clear HW1
    go_wp2
    refine bodyPost_ret (v := .tuple #[.agg #[.int .i64 N, .slice a R.length cap, .slice ka K.length kc], .bool false]) ?_ rfl HQ2.out
    exact res3 f17_res _ _ (w.heap.size + 1) _ _ _ rfl HQ1.out
set_option maxRecDepth 100000 in
set_option maxHeartbeats 8000000 in
theorem rdouble_yes {w : World} {N : Int} {b off : Nat} {cap : Nat} {R : List Pk} {ka : Option Addr} {kc : Nat} {K : List (Int × Int)} (h : RN w (some ⟨b, off, none⟩) cap R ka kc K) (i : Int) (hR : 0 < R.length) (hn : R.length < 1024) (j : Nat) (hjw : Nt.wr i R.length = j) (hj : j < R.length) :
    Calls Try.prog 17 #[.agg #[.int .i64 N, .slice (some ⟨b, off, none⟩) R.length cap, .slice ka K.length kc], .int .i64 i] w (ROut w N (some ⟨b, off, none⟩) cap R ka kc K (R ++ [R[j]]) K true) := by
  obtain ⟨W1, HW1⟩ : ∃ W1, Hid ((w.alloc (.cells #[.int .i64 N, .slice (some ⟨b, off, none⟩) R.length cap, .slice ka K.length kc] 30)).alloc (.cells #[.int .i64 0, .slice none 0 0, .slice none 0 0] 30) = W1) := ⟨_, rfl⟩
  have hB1 : Below w.heap.size w W1 := by rw [← HW1.out]; exact bel2 w _ _
  have hr1 : W1.heap[w.heap.size]? = some (.cells #[.int .i64 N, .slice (some ⟨b, off, none⟩) R.length cap, .slice ka K.length kc] 30 (0, 0)) := by rw [← HW1.out]; exact heap_alloc2_old w _ _
  have hr2 : W1.heap[w.heap.size + 1]? = some (.cells #[.int .i64 0, .slice none 0 0, .slice none 0 0] 30 (0, 0)) := by rw [← HW1.out]; exact heap_alloc2_new w _ _
  have d0 : ((R.length : Int) == 0) = false := by rw [beq_eq_false_iff_ne]; omega
  have d1 : decide ((1024 : Int) ≤ (R.length : Int)) = false := decide_eq_false (by omega)
  have hAt := fun W => rat_any i R.length hR (by omega) W
  rw [hjw] at hAt
  obtain ⟨⟨n0, n1, n2⟩, _⟩ := rw3 hr1
  have hX1 := h.r.keep hB1
  obtain ⟨p, hp⟩ : ∃ p, R[j] = p := ⟨_, rfl⟩
  obtain ⟨pa, hpa⟩ : ∃ x, p.a = x := ⟨_, rfl⟩
  obtain ⟨pb, hpb⟩ : ∃ x, p.b = x := ⟨_, rfl⟩
  obtain ⟨ps, hps⟩ : ∃ x, p.s = x := ⟨_, rfl⟩
  have hpp : (⟨pa, pb, ps⟩ : Pk) = p := by rw [← hpa, ← hpb, ← hps]
  have HAT := Hid_of hX1.at'
  obtain ⟨va, ca, wa, runA1, oA, bA⟩ := run_copyP pt27 W1.drew 27 (some ⟨b, off, none⟩) cap R (hX1.keep ((Below.refl _ _).drew)) (by omega)
  obtain ⟨vb, cb, wb, runB1, oB, bB⟩ := run_copyP pt27 (W1.alloc (.cells #[.int .i64 pa, .int .i64 pb, .string ps] 44)).drew 27 (some ⟨b, off, none⟩) cap R (hX1.keep ((bel1 W1 _).drew)) (by omega)
  have bA' : Below W1.heap.size W1 wa := Below.trans ((Below.refl _ _).drew) bA
  have bB' : Below W1.heap.size W1 wb := Below.trans ((bel1 W1 (.cells #[.int .i64 pa, .int .i64 pb, .string ps] 44)).drew) (bB.mono (by simp))
  have honeB : wb.heap[W1.heap.size]? = some (.cells #[.int .i64 pa, .int .i64 pb, .string ps] 44 (0, 0)) := (bB.block W1.heap.size (by simp)).trans (heap_alloc_last W1 _)
  obtain ⟨va2, ca2, wa2, runA2, oA2, rA2⟩ := run_appP pt27 (wa.alloc (.cells #[.int .i64 pa, .int .i64 pb, .string ps] 44)) 27 W1.heap.size (.slice va R.length ca) R [⟨pa, pb, ps⟩] wa.heap.size 0 1 1 ((oA.keep (bel1 wa _)).low (Nat.le_refl _)) (atP_one (heap_alloc_last wa _)) rfl (by have := bA'.size; simp; omega) (by simp; omega)
  obtain ⟨vb2, cb2, wb2, runB2, oB2, rB2⟩ := run_appP pt27 wb 27 W1.heap.size (.slice vb R.length cb) R [⟨pa, pb, ps⟩] W1.heap.size 0 1 1 (oB.low (by simp)) (atP_one honeB) rfl bB'.size (by simp; omega)
  have bA2 : Below W1.heap.size W1 wa2 := Below.trans (bel_up bA' (bel1 wa (.cells #[.int .i64 pa, .int .i64 pb, .string ps] 44)) (Nat.le_refl _)) (rA2.below (fun k hk => (oA.lt hk).1) (by have := bA'.size; simp; omega))
  have bB2 : Below W1.heap.size W1 wb2 := Below.trans bB' (rB2.below (fun k hk => by have := (oB.lt hk).1; simp at this; omega) bB'.size)
  rw [hpp] at oA2 oB2
  have hl1 : w.heap.size + 1 < W1.heap.size := (Array.getElem?_eq_some_iff.1 hr2).1
  have HFIN : Hid (∀ (v' : Value) (w5 W6 : World), OwnP 44 w5 W1.heap.size v' (R ++ [p]) → Below W1.heap.size W1 w5 → w5.setCell ⟨w.heap.size, 1, none⟩ v' = W6 →
      (w5.cell? ⟨w.heap.size, 1, none⟩ = some (.slice (some ⟨b, off, none⟩) R.length cap) ∧ w5.frozen? ⟨w.heap.size, 1, none⟩ = false) ∧ (W6.cell? ⟨w.heap.size, 0, none⟩ = some (.int .i64 N) ∧ W6.cell? ⟨w.heap.size, 1, none⟩ = some v' ∧ W6.cell? ⟨w.heap.size, 2, none⟩ = some (.slice ka K.length kc)) ∧ ((W6.cell? ⟨w.heap.size + 1, 0, none⟩ = some (.int .i64 0) ∧ W6.cell? ⟨w.heap.size + 1, 1, none⟩ = some (.slice none 0 0) ∧ W6.cell? ⟨w.heap.size + 1, 2, none⟩ = some (.slice none 0 0)) ∧ (W6.frozen? ⟨w.heap.size + 1, 0, none⟩ = false ∧ W6.frozen? ⟨w.heap.size + 1, 1, none⟩ = false ∧ W6.frozen? ⟨w.heap.size + 1, 2, none⟩ = false)) ∧ (put3 W6 (w.heap.size + 1) (.int .i64 N) v' (.slice ka K.length kc)).heap[w.heap.size + 1]? = some (.cells #[.int .i64 N, v', .slice ka K.length kc] 30 (0, 0)) ∧ ROut w N (some ⟨b, off, none⟩) cap R ka kc K (R ++ [p]) K true (.returned (.tuple #[.agg #[.int .i64 N, v', .slice ka K.length kc], .bool true])) (put3 W6 (w.heap.size + 1) (.int .i64 N) v' (.slice ka K.length kc))) := by
    intro v' w5 W6 ho hb5 hW6
    obtain ⟨e1, e2, e3, e4, e5, e6⟩ := ref_fin (bel_up hB1 hb5 (Nat.le_refl _)) (bel_row hr1 hb5) (bel_row hr2 hb5) (by omega) (Nat.le_refl _) (by omega) W6 hW6
    exact ⟨e1, e2, e3, e4, _, _, rfl, .inr (OwnP.low (ho.keepBut fun k hk hv => e6 k (by have := (ho.lt hv).1; omega) (by have := (ho.lt hv).1; omega)) hB1.size), KRes.same, e5⟩
  obtain ⟨WA6, hWA6⟩ : ∃ W, wa2.setCell ⟨w.heap.size, 1, none⟩ (.slice va2 (R.length + 1) ca2) = W := ⟨_, rfl⟩
  obtain ⟨WB6, hWB6⟩ : ∃ W, wb2.setCell ⟨w.heap.size, 1, none⟩ (.slice vb2 (R.length + 1) cb2) = W := ⟨_, rfl⟩
  have kA := HFIN.out (.slice va2 (R.length + 1) ca2) wa2 WA6 oA2 bA2 hWA6
  have kB := HFIN.out (.slice vb2 (R.length + 1) cb2) wb2 WB6 oB2 bB2 hWB6
  have HWA6 := Hid_of hWA6
  have HWB6 := Hid_of hWB6
  obtain ⟨⟨xA1, xA2⟩, ⟨xA3, xA4, xA5⟩, ⟨⟨xA6, xA7, xA8⟩, xA9, xA10, xA11⟩, xA12, xA13⟩ := kA
  obtain ⟨⟨xB1, xB2⟩, ⟨xB3, xB4, xB5⟩, ⟨⟨xB6, xB7, xB8⟩, xB9, xB10, xB11⟩, xB12, xB13⟩ := kB
  have HA12 := Hid_of xA12
  have HA13 := Hid_of xA13
  have HB12 := Hid_of xB12
  have HB13 := Hid_of xB13
  have HXA := Hid_of (And.intro xA3 (And.intro xA4 (And.intro xA5 (And.intro xA6 (And.intro xA7 (And.intro xA8 (And.intro xA9 (And.intro xA10 xA11))))))))
  have HXB := Hid_of (And.intro xB3 (And.intro xB4 (And.intro xB5 (And.intro xB6 (And.intro xB7 (And.intro xB8 (And.intro xB9 (And.intro xB10 xB11))))))))
  have n1' := cell_up n1 (.cells #[.int .i64 pa, .int .i64 pb, .string ps] 44)
  have n1a : wa.cell? ⟨w.heap.size, 1, none⟩ = some (.slice (some ⟨b, off, none⟩) R.length cap) := (rw3 (bel_row hr1 bA')).1.2.1
  obtain ⟨b', off', e, q0, q1, q2⟩ := hX1.at' j hj
  cases e
  obtain ⟨b', off', e, r0, r1, r2⟩ := (hX1.keep bA').at' j hj
  cases e
  rw [hp] at q0 q1 q2 r0 r1 r2
  rw [hpa] at q0 r0
  rw [hpb] at q1 r1
  rw [hps] at q2 r2
  have hji : (j : Int) < (R.length : Int) := by omega
  rw [hp]
  clear HFIN h hX1 HAT hpa hpb hps hpp oA oB bA bB bA' bB' honeB oA2 oB2 rA2 rB2 bA2 bB2 xA12 xA13 xB12 xB13 xA3 xA4 xA5 xA6 xA7 xA8 xA9 xA10 xA11 xB3 xB4 xB5 xB6 xB7 xB8 xB9 xB10 xB11 hr1 hr2 hWA6 hWB6 hl1 hB1 hp hjw
  go_enter Try.func17, Try.ntmps17
  go_upto_region 1 with fail
  rw [HW1.out]
  clear HW1
  go_upto_region 3 with fail
  go_region_law (first
    | (go_simp; go_at_call 36; refine (hAt _).mono ?_; rintro e w9 ⟨rfl, rfl⟩; go_simp)
    | (refine step_append_run rfl (.const (.slice none 0 0)) (.tmp 18) 27 rfl _ _ (by simp [Act.eval, Act.put]) (by simp [Act.eval, Act.put]) _ _ runA1 ?_)
    | (refine step_append_run rfl (.const (.slice none 0 0)) (.tmp 18) 27 rfl _ _ (by simp [Act.eval, Act.put]) (by simp [Act.eval, Act.put]) _ _ runB1 ?_)
    | (refine step_append_run rfl (.tmp 19) (.tmp 29) 27 rfl _ _ (by simp [Act.eval, Act.put]) (by simp [Act.eval, Act.put]) _ _ runA2 ?_)
    | (refine step_append_run rfl (.tmp 19) (.tmp 29) 27 rfl _ _ (by simp [Act.eval, Act.put]) (by simp [Act.eval, Act.put]) _ _ runB2 ?_))
  all_goals clear runA1 runA2 runB1 runB2 n0 n1 n2 n1' n1a q0 q1 q2 r0 r1 r2 xA1 xA2 xB1 xB2 hAt
  all_goals first
    | (rw [HWA6.out]
       obtain ⟨y0, y1, y2, y3, y4, y5, y6, y7, y8⟩ := HXA.out
       clear HXA HXB HWA6 HWB6 HB12 HB13
       go_wp2
       refine bodyPost_ret (v := .tuple #[.agg #[.int .i64 N, .slice va2 (R.length + 1) ca2, .slice ka K.length kc], .bool true]) ?_ rfl HA13.out
       exact res3 f17_res _ _ (w.heap.size + 1) _ _ _ rfl HA12.out)
    | (rw [HWB6.out]
       obtain ⟨y0, y1, y2, y3, y4, y5, y6, y7, y8⟩ := HXB.out
       clear HXA HXB HWA6 HWB6 HA12 HA13
       go_wp2
       refine bodyPost_ret (v := .tuple #[.agg #[.int .i64 N, .slice vb2 (R.length + 1) cb2, .slice ka K.length kc], .bool true]) ?_ rfl HB13.out
       exact res3 f17_res _ _ (w.heap.size + 1) _ _ _ rfl HB12.out)
end Go.Proofs.Ytjbodjjeenjbeaa
