/-
  The document's calls: one is answered.
-/
import Derived.Test.YtbgbdiiinggjnaaRD
namespace Go.Proofs.Ytbgbdiiinggjnaa
open Go.RowKit
set_option linter.unusedVariables false
open M (E)
open Cl (K W Ms fup Rel)

theorem ans_false {me : Int} {L : List K} {m : Ms} (h : Cl.isA me L m = false) : Cl.ans me L m = L := by unfold Cl.ans; rw [h]; rfl
/-- The three boxes of Answer. -/
structure AB (w : World) (me next : Int) (a : Option Addr) (cap : Nat) (L : List K) (m : Ms) (W : World) : Prop where
  c : W.heap[w.heap.size]? = some (.cells #[.int .i64 me, .int .i64 next, .slice a L.length cap] 29 (0, 0))
  m : W.heap[w.heap.size + 1]? = some (.cells #[.int .i64 m.k, .int .i64 m.f, .int .i64 m.t, .int .i64 m.i, .string m.b] 32 (0, 0))
  z : W.heap[w.heap.size + 2]? = some (.cells #[.int .i64 0, .int .i64 0, .slice none 0 0] 29 (0, 0))
  b : Below w.heap.size w W
theorem AB.keep {w : World} {me next : Int} {a : Option Addr} {cap : Nat} {L : List K} {m : Ms} {W W' : World} (h : AB w me next a cap L m W) (hb : Below W.heap.size W W') : AB w me next a cap L m W' :=
  ⟨(hb.block _ (Array.getElem?_eq_some_iff.1 h.c).1).trans h.c, (hb.block _ (Array.getElem?_eq_some_iff.1 h.m).1).trans h.m, (hb.block _ (Array.getElem?_eq_some_iff.1 h.z).1).trans h.z, bel_up h.b hb (Nat.le_refl _)⟩
theorem AB.new (w : World) (me next : Int) (a : Option Addr) (cap : Nat) (L : List K) (m : Ms) : AB w me next a cap L m (((w.alloc (.cells #[.int .i64 me, .int .i64 next, .slice a L.length cap] 29)).alloc (.cells #[.int .i64 m.k, .int .i64 m.f, .int .i64 m.t, .int .i64 m.i, .string m.b] 32)).alloc (.cells #[.int .i64 0, .int .i64 0, .slice none 0 0] 29)) := by
  have b1 := bel1 w (.cells #[.int .i64 me, .int .i64 next, .slice a L.length cap] 29)
  have b2 := bel1 (w.alloc (.cells #[.int .i64 me, .int .i64 next, .slice a L.length cap] 29)) (.cells #[.int .i64 m.k, .int .i64 m.f, .int .i64 m.t, .int .i64 m.i, .string m.b] 32)
  have b3 := bel1 ((w.alloc (.cells #[.int .i64 me, .int .i64 next, .slice a L.length cap] 29)).alloc (.cells #[.int .i64 m.k, .int .i64 m.f, .int .i64 m.t, .int .i64 m.i, .string m.b] 32)) (.cells #[.int .i64 0, .int .i64 0, .slice none 0 0] 29)
  refine ⟨?_, ?_, ?_, bel_up (bel_up b1 b2 (Nat.le_refl _)) b3 (Nat.le_refl _)⟩
  · exact (b3.block _ (by simp; omega)).trans ((b2.block _ (by simp)).trans (heap_alloc_last w _))
  · have := heap_alloc_last (w.alloc (.cells #[.int .i64 me, .int .i64 next, .slice a L.length cap] 29)) (.cells #[.int .i64 m.k, .int .i64 m.f, .int .i64 m.t, .int .i64 m.i, .string m.b] 32)
    have e : (w.alloc (.cells #[.int .i64 me, .int .i64 next, .slice a L.length cap] 29)).heap.size = w.heap.size + 1 := by simp
    rw [e] at this
    exact (b3.block _ (by simp)).trans this
  · have := heap_alloc_last ((w.alloc (.cells #[.int .i64 me, .int .i64 next, .slice a L.length cap] 29)).alloc (.cells #[.int .i64 m.k, .int .i64 m.f, .int .i64 m.t, .int .i64 m.i, .string m.b] 32)) (.cells #[.int .i64 0, .int .i64 0, .slice none 0 0] 29)
    have e : ((w.alloc (.cells #[.int .i64 me, .int .i64 next, .slice a L.length cap] 29)).alloc (.cells #[.int .i64 m.k, .int .i64 m.f, .int .i64 m.t, .int .i64 m.i, .string m.b] 32)).heap.size = w.heap.size + 2 := by simp
    rw [e] at this
    exact this
/-- What is left as it was. -/
theorem AB.no {w : World} {me next : Int} {a : Option Addr} {cap : Nat} {L : List K} {m : Ms} {W : World} (h : AB w me next a cap L m W) (hn : RN w a cap L) (hi : Cl.isA me L m = false) :
    ((W.cell? ⟨w.heap.size, 0, none⟩ = some (.int .i64 me) ∧ W.cell? ⟨w.heap.size, 1, none⟩ = some (.int .i64 next) ∧ W.cell? ⟨w.heap.size, 2, none⟩ = some (.slice a L.length cap)) ∧ ((W.cell? ⟨w.heap.size + 2, 0, none⟩ = some (.int .i64 0) ∧ W.cell? ⟨w.heap.size + 2, 1, none⟩ = some (.int .i64 0) ∧ W.cell? ⟨w.heap.size + 2, 2, none⟩ = some (.slice none 0 0)) ∧ (W.frozen? ⟨w.heap.size + 2, 0, none⟩ = false ∧ W.frozen? ⟨w.heap.size + 2, 1, none⟩ = false ∧ W.frozen? ⟨w.heap.size + 2, 2, none⟩ = false))) ∧
    (put3 W (w.heap.size + 2) (.int .i64 me) (.int .i64 next) (.slice a L.length cap)).heap[w.heap.size + 2]? = some (.cells #[.int .i64 me, .int .i64 next, .slice a L.length cap] 29 (0, 0)) ∧ RFOut w a me next (Cl.ans me L m) (.bool (Cl.isA me L m)) (.returned (.tuple #[.agg #[.int .i64 me, .int .i64 next, .slice a L.length cap], .bool false])) (put3 W (w.heap.size + 2) (.int .i64 me) (.int .i64 next) (.slice a L.length cap)) := by
  obtain ⟨j1, j2, j3, _⟩ := ref_lay (x := .int .i64 me) (v1 := .int .i64 next) (v2 := .slice a L.length cap) h.b h.z (by omega)
  refine ⟨⟨(rw3 h.c).1, j1⟩, j2, ?_⟩
  rw [ans_false hi, hi]
  exact ⟨a, cap, rfl, (hn.keep j3).x, Lie.same _ _ _, j3⟩
set_option maxRecDepth 100000 in
set_option maxHeartbeats 1000000 in
theorem ranswer_k {w : World} {a : Option Addr} {cap : Nat} {L : List K} (h : RN w a cap L) (hu : Cl.Up L) (me next : Int) (m : Ms) (hk : m.k ≠ 2) :
    Calls Try.prog 16 #[.agg #[.int .i64 me, .int .i64 next, .slice a L.length cap], .agg #[.int .i64 m.k, .int .i64 m.f, .int .i64 m.t, .int .i64 m.i, .string m.b]] w (RFOut w a me next (Cl.ans me L m) (.bool (Cl.isA me L m))) := by
  have Xhk := Hid_of hk
  clear hk
  obtain ⟨W1, HW1⟩ : ∃ W1, Hid (((w.alloc (.cells #[.int .i64 me, .int .i64 next, .slice a L.length cap] 29)).alloc (.cells #[.int .i64 m.k, .int .i64 m.f, .int .i64 m.t, .int .i64 m.i, .string m.b] 32)).alloc (.cells #[.int .i64 0, .int .i64 0, .slice none 0 0] 29) = W1) := ⟨_, rfl⟩
  have HA1 : Hid (AB w me next a cap L m W1) := by rw [← HW1.out]; exact AB.new w me next a cap L m
  have HRN := Hid_of h
  have hn := h.n
  have hf := find_any (h.keep HA1.out.b) me next m.i
  obtain ⟨⟨n0, n1, n2⟩, _⟩ := rw3 HA1.out.c
  obtain ⟨⟨m0, m1, m2, m3, m4⟩, _⟩ := rw5 HA1.out.m
  clear h
  go_enter Try.func16, Try.ntmps16
  go_upto_region 1 with fail
  rw [HW1.out]
  clear HW1
  go_wp2_with fail
  refine hf.mono ?_
  rintro e w2 ⟨r, rfl, hfi, hb2⟩
  have HA2 := Hid_of (HA1.out.keep hb2)
  clear n0 n1 n2 m0 m1 m2 m3 m4 hf hb2 HA1
  obtain ⟨⟨n0, n1, n2⟩, _⟩ := rw3 HA2.out.c
  obtain ⟨⟨m0, m1, m2, m3, m4⟩, _⟩ := rw5 HA2.out.m
  have hk := Xhk.out
  clear Xhk
  have HI : Hid (Cl.isA me L m = false) := Hid_of (show Cl.isA me L m = false by unfold Cl.isA; simp [hk])
  have d1 : (m.k != 2) = true := by simpa using hk
  have d2 : (m.k == 2) = false := by simpa using hk
  clear hfi hk
  go_wp2_with fail
  go_quiet (fail)
  obtain ⟨w3, hw3⟩ : ∃ w3, w2.drewN nq = w3 := ⟨_, rfl⟩
  have hb3 : Below w2.heap.size w2 w3 := by rw [← hw3]; exact below_drewN (Below.refl _ _) nq
  obtain ⟨⟨⟨x0, x1, x2⟩, ⟨y0, y1, y2⟩, yf0, yf1, yf2⟩, lq, hq⟩ := (HA2.out.keep hb3).no HRN.out HI.out
  have HQ1 := Hid_of lq
  have HQ2 := Hid_of hq
  rw [hw3]
  clear hw3 hb3 lq hq n0 n1 n2 m0 m1 m2 m3 m4
  go_wp2
  refine bodyPost_ret (v := .tuple #[.agg #[.int .i64 me, .int .i64 next, .slice a L.length cap], .bool false]) ?_ rfl HQ2.out
  exact res3 f16_res _ _ (w.heap.size + 2) _ _ _ rfl HQ1.out
set_option maxRecDepth 100000 in
set_option maxHeartbeats 1000000 in
theorem ranswer_t {w : World} {a : Option Addr} {cap : Nat} {L : List K} (h : RN w a cap L) (hu : Cl.Up L) (me next : Int) (m : Ms) (hk : m.k = 2) (ht : m.t ≠ me) :
    Calls Try.prog 16 #[.agg #[.int .i64 me, .int .i64 next, .slice a L.length cap], .agg #[.int .i64 m.k, .int .i64 m.f, .int .i64 m.t, .int .i64 m.i, .string m.b]] w (RFOut w a me next (Cl.ans me L m) (.bool (Cl.isA me L m))) := by
  have Xhk := Hid_of hk
  clear hk
  have Xht := Hid_of ht
  clear ht
  obtain ⟨W1, HW1⟩ : ∃ W1, Hid (((w.alloc (.cells #[.int .i64 me, .int .i64 next, .slice a L.length cap] 29)).alloc (.cells #[.int .i64 m.k, .int .i64 m.f, .int .i64 m.t, .int .i64 m.i, .string m.b] 32)).alloc (.cells #[.int .i64 0, .int .i64 0, .slice none 0 0] 29) = W1) := ⟨_, rfl⟩
  have HA1 : Hid (AB w me next a cap L m W1) := by rw [← HW1.out]; exact AB.new w me next a cap L m
  have HRN := Hid_of h
  have hn := h.n
  have hf := find_any (h.keep HA1.out.b) me next m.i
  obtain ⟨⟨n0, n1, n2⟩, _⟩ := rw3 HA1.out.c
  obtain ⟨⟨m0, m1, m2, m3, m4⟩, _⟩ := rw5 HA1.out.m
  clear h
  go_enter Try.func16, Try.ntmps16
  go_upto_region 1 with fail
  rw [HW1.out]
  clear HW1
  go_wp2_with fail
  refine hf.mono ?_
  rintro e w2 ⟨r, rfl, hfi, hb2⟩
  have HA2 := Hid_of (HA1.out.keep hb2)
  clear n0 n1 n2 m0 m1 m2 m3 m4 hf hb2 HA1
  obtain ⟨⟨n0, n1, n2⟩, _⟩ := rw3 HA2.out.c
  obtain ⟨⟨m0, m1, m2, m3, m4⟩, _⟩ := rw5 HA2.out.m
  have hk := Xhk.out
  clear Xhk
  have ht := Xht.out
  clear Xht
  have HI : Hid (Cl.isA me L m = false) := Hid_of (show Cl.isA me L m = false by unfold Cl.isA; simp [ht])
  have d1 : (m.t != me) = true := by simpa using ht
  have d2 : (m.t == me) = false := by simpa using ht
  rw [hk] at m0
  clear hfi hk ht
  go_wp2_with fail
  go_quiet (fail)
  obtain ⟨w3, hw3⟩ : ∃ w3, w2.drewN nq = w3 := ⟨_, rfl⟩
  have hb3 : Below w2.heap.size w2 w3 := by rw [← hw3]; exact below_drewN (Below.refl _ _) nq
  obtain ⟨⟨⟨x0, x1, x2⟩, ⟨y0, y1, y2⟩, yf0, yf1, yf2⟩, lq, hq⟩ := (HA2.out.keep hb3).no HRN.out HI.out
  have HQ1 := Hid_of lq
  have HQ2 := Hid_of hq
  rw [hw3]
  clear hw3 hb3 lq hq n0 n1 n2 m0 m1 m2 m3 m4
  go_wp2
  refine bodyPost_ret (v := .tuple #[.agg #[.int .i64 me, .int .i64 next, .slice a L.length cap], .bool false]) ?_ rfl HQ2.out
  exact res3 f16_res _ _ (w.heap.size + 2) _ _ _ rfl HQ1.out
set_option maxRecDepth 100000 in
set_option maxHeartbeats 1000000 in
theorem ranswer_n {w : World} {a : Option Addr} {cap : Nat} {L : List K} (h : RN w a cap L) (hu : Cl.Up L) (me next : Int) (m : Ms) (hk : m.k = 2) (ht : m.t = me) (hno : Cl.get L m.i = none) :
    Calls Try.prog 16 #[.agg #[.int .i64 me, .int .i64 next, .slice a L.length cap], .agg #[.int .i64 m.k, .int .i64 m.f, .int .i64 m.t, .int .i64 m.i, .string m.b]] w (RFOut w a me next (Cl.ans me L m) (.bool (Cl.isA me L m))) := by
  have Xhk := Hid_of hk
  clear hk
  have Xht := Hid_of ht
  clear ht
  have Xhno := Hid_of hno
  clear hno
  obtain ⟨W1, HW1⟩ : ∃ W1, Hid (((w.alloc (.cells #[.int .i64 me, .int .i64 next, .slice a L.length cap] 29)).alloc (.cells #[.int .i64 m.k, .int .i64 m.f, .int .i64 m.t, .int .i64 m.i, .string m.b] 32)).alloc (.cells #[.int .i64 0, .int .i64 0, .slice none 0 0] 29) = W1) := ⟨_, rfl⟩
  have HA1 : Hid (AB w me next a cap L m W1) := by rw [← HW1.out]; exact AB.new w me next a cap L m
  have HRN := Hid_of h
  have hn := h.n
  have hf := find_any (h.keep HA1.out.b) me next m.i
  obtain ⟨⟨n0, n1, n2⟩, _⟩ := rw3 HA1.out.c
  obtain ⟨⟨m0, m1, m2, m3, m4⟩, _⟩ := rw5 HA1.out.m
  clear h
  go_enter Try.func16, Try.ntmps16
  go_upto_region 1 with fail
  rw [HW1.out]
  clear HW1
  go_wp2_with fail
  refine hf.mono ?_
  rintro e w2 ⟨r, rfl, hfi, hb2⟩
  have HA2 := Hid_of (HA1.out.keep hb2)
  clear n0 n1 n2 m0 m1 m2 m3 m4 hf hb2 HA1
  obtain ⟨⟨n0, n1, n2⟩, _⟩ := rw3 HA2.out.c
  obtain ⟨⟨m0, m1, m2, m3, m4⟩, _⟩ := rw5 HA2.out.m
  have hk := Xhk.out
  clear Xhk
  have ht := Xht.out
  clear Xht
  have hno := Xhno.out
  clear Xhno
  have HKT : Hid (m.k = 2 ∧ m.t = me) := ⟨hk, ht⟩
  rw [hk] at m0
  rw [ht] at m2
  have hr0 : r = -1 := by
    rcases hfi.get hu with ⟨h1, _⟩ | ⟨j', hj', h1, h2, hg⟩
    · exact h1
    · rw [hno] at hg; cases hg
  subst hr0
  have HI : Hid (Cl.isA me L m = false) := Hid_of (show Cl.isA me L m = false by unfold Cl.isA; rw [hno]; simp)
  clear hfi hno hk ht
  go_wp2_with fail
  go_quiet (fail)
  obtain ⟨w3, hw3⟩ : ∃ w3, w2.drewN nq = w3 := ⟨_, rfl⟩
  have hb3 : Below w2.heap.size w2 w3 := by rw [← hw3]; exact below_drewN (Below.refl _ _) nq
  obtain ⟨⟨⟨x0, x1, x2⟩, ⟨y0, y1, y2⟩, yf0, yf1, yf2⟩, lq, hq⟩ := (HA2.out.keep hb3).no HRN.out HI.out
  have HQ1 := Hid_of lq
  have HQ2 := Hid_of hq
  rw [hw3]
  clear hw3 hb3 lq hq n0 n1 n2 m0 m1 m2 m3 m4
  go_wp2
  refine bodyPost_ret (v := .tuple #[.agg #[.int .i64 me, .int .i64 next, .slice a L.length cap], .bool false]) ?_ rfl HQ2.out
  exact res3 f16_res _ _ (w.heap.size + 2) _ _ _ rfl HQ1.out
set_option maxRecDepth 100000 in
set_option maxHeartbeats 1000000 in
theorem ranswer_s {w : World} {a : Option Addr} {cap : Nat} {L : List K} (h : RN w a cap L) (hu : Cl.Up L) (me next : Int) (m : Ms) (hk : m.k = 2) (ht : m.t = me) (j : Nat) (hj : j < L.length) (hid : L[j].id = m.i) (hst : L[j].st ≠ 1) :
    Calls Try.prog 16 #[.agg #[.int .i64 me, .int .i64 next, .slice a L.length cap], .agg #[.int .i64 m.k, .int .i64 m.f, .int .i64 m.t, .int .i64 m.i, .string m.b]] w (RFOut w a me next (Cl.ans me L m) (.bool (Cl.isA me L m))) := by
  have Xhk := Hid_of hk
  clear hk
  have Xht := Hid_of ht
  clear ht
  have Xhid := Hid_of hid
  clear hid
  have Xhst := Hid_of hst
  clear hst
  obtain ⟨W1, HW1⟩ : ∃ W1, Hid (((w.alloc (.cells #[.int .i64 me, .int .i64 next, .slice a L.length cap] 29)).alloc (.cells #[.int .i64 m.k, .int .i64 m.f, .int .i64 m.t, .int .i64 m.i, .string m.b] 32)).alloc (.cells #[.int .i64 0, .int .i64 0, .slice none 0 0] 29) = W1) := ⟨_, rfl⟩
  have HA1 : Hid (AB w me next a cap L m W1) := by rw [← HW1.out]; exact AB.new w me next a cap L m
  have HRN := Hid_of h
  have hn := h.n
  have hf := find_any (h.keep HA1.out.b) me next m.i
  obtain ⟨⟨n0, n1, n2⟩, _⟩ := rw3 HA1.out.c
  obtain ⟨⟨m0, m1, m2, m3, m4⟩, _⟩ := rw5 HA1.out.m
  clear h
  go_enter Try.func16, Try.ntmps16
  go_upto_region 1 with fail
  rw [HW1.out]
  clear HW1
  go_wp2_with fail
  refine hf.mono ?_
  rintro e w2 ⟨r, rfl, hfi, hb2⟩
  have HA2 := Hid_of (HA1.out.keep hb2)
  clear n0 n1 n2 m0 m1 m2 m3 m4 hf hb2 HA1
  obtain ⟨⟨n0, n1, n2⟩, _⟩ := rw3 HA2.out.c
  obtain ⟨⟨m0, m1, m2, m3, m4⟩, _⟩ := rw5 HA2.out.m
  have hk := Xhk.out
  clear Xhk
  have ht := Xht.out
  clear Xht
  have hid := Xhid.out
  clear Xhid
  have hst := Xhst.out
  clear Xhst
  have HKT : Hid (m.k = 2 ∧ m.t = me) := ⟨hk, ht⟩
  rw [hk] at m0
  rw [ht] at m2
  have hr0 : r = (j : Int) := by
    rcases hfi.get hu with ⟨_, hg⟩ | ⟨j', hj', h1, h2, _⟩
    · exact absurd rfl (Cl.get_none hg _ (List.getElem_mem hj) |> fun h => by rw [hid] at h; exact h)
    · rw [h1, hu.idx hj' hj (by rw [h2, hid])]
  subst hr0
  have hg : Cl.get L m.i = some L[j] := by rw [← hid]; exact Cl.get_mem hu (List.getElem_mem hj)
  have hrn := HRN.out.keep HA2.out.b
  obtain ⟨b0, off, rfl, d0, d1, d2, d3, d4, d5, d6⟩ := hrn.x.at'.getK j hj
  have hji : (j : Int) < (L.length : Int) := by omega
  have HI : Hid (Cl.isA me L m = false) := Hid_of (show Cl.isA me L m = false by unfold Cl.isA Cl.op; rw [hg]; simp [hst])
  have e1 : (L[j].st != 1) = true := by simpa using hst
  have e2 : (L[j].st == 1) = false := by simpa using hst
  clear hfi hg hst hrn hid d0 d1 d3 d4 d5 d6 hk ht
  generalize L[j].st = st at *
  go_wp2_with fail
  refine wp_region_held_drew (S := fun wq => wq.cell? ⟨w.heap.size, 0, none⟩ = some (.int .i64 me) ∧ wq.cell? ⟨w.heap.size, 2, none⟩ = some (.slice (some ⟨b0, off, none⟩) L.length cap) ∧ wq.cell? ⟨w.heap.size + 1, 0, none⟩ = some (.int .i64 2) ∧ wq.cell? ⟨w.heap.size + 1, 2, none⟩ = some (.int .i64 me) ∧ wq.cell? ⟨b0, off + j * 7 + 2, none⟩ = some (.int .i64 st)) (by kernel_rfl) ⟨n0, n2, m0, m2, d2⟩ (fun hHeld => ?_)
  refine wpAnyH_take (i := 0) (oi := ?p0s) (v := ?v0s) ?o0s (by kernel_rfl) (by kernel_rfl) (by kernel_rfl) ?q0s ?y0s hHeld ?r0s
  case o0s => simp only [List.getElem?_toArray, List.getElem?_cons_zero]; rfl
  case q0s => exact fun _ _ _ h => h
  case y0s => (refine Or.inl ⟨rfl, ?_⟩; intro wq hq; obtain ⟨q0, q1, q2, q3, q4⟩ := hq; go_simp; try with_reducible rfl)
  simp only [Act.put, List.setIfInBounds_toArray, List.set_cons_zero, List.set_cons_succ]
  refine wpAnyH_take (i := 1) (oi := ?p1s) (v := ?v1s) ?o1s (by kernel_rfl) (by kernel_rfl) (by kernel_rfl) ?q1s ?y1s hHeld ?r1s
  case o1s => simp only [List.getElem?_toArray, List.getElem?_cons_succ, List.getElem?_cons_zero]; rfl
  case q1s => exact fun _ _ _ h => h
  case y1s => (refine Or.inl ⟨rfl, ?_⟩; intro wq hq; obtain ⟨q0, q1, q2, q3, q4⟩ := hq; go_simp; try with_reducible rfl)
  simp only [Act.put, List.setIfInBounds_toArray, List.set_cons_zero, List.set_cons_succ]
  refine wpAnyH_take (i := 2) (oi := ?p2s) (v := ?v2s) ?o2s (by kernel_rfl) (by kernel_rfl) (by kernel_rfl) ?q2s ?y2s hHeld ?r2s
  case o2s => simp only [List.getElem?_toArray, List.getElem?_cons_succ, List.getElem?_cons_zero]; rfl
  case q2s => exact fun _ _ _ h => h
  case y2s => (refine Or.inl ⟨rfl, ?_⟩; intro wq hq; obtain ⟨q0, q1, q2, q3, q4⟩ := hq; go_simp; try with_reducible rfl)
  simp only [Act.put, List.setIfInBounds_toArray, List.set_cons_zero, List.set_cons_succ]
  refine wpAnyH_take (i := 3) (oi := ?p3s) (v := ?v3s) ?o3s (by kernel_rfl) (by kernel_rfl) (by kernel_rfl) ?q3s ?y3s hHeld ?r3s
  case o3s => simp only [List.getElem?_toArray, List.getElem?_cons_succ, List.getElem?_cons_zero]; rfl
  case q3s => exact fun _ _ _ h => h
  case y3s => (refine Or.inl ⟨rfl, ?_⟩; intro wq hq; obtain ⟨q0, q1, q2, q3, q4⟩ := hq; go_simp; try with_reducible rfl)
  simp only [Act.put, List.setIfInBounds_toArray, List.set_cons_zero, List.set_cons_succ]
  refine wpAnyH_take (i := 4) (oi := ?p4s) (v := ?v4s) ?o4s (by kernel_rfl) (by kernel_rfl) (by kernel_rfl) ?q4s ?y4s hHeld ?r4s
  case o4s => simp only [List.getElem?_toArray, List.getElem?_cons_succ, List.getElem?_cons_zero]; rfl
  case q4s => exact fun _ _ _ h => h
  case y4s => (refine Or.inl ⟨rfl, ?_⟩; intro wq hq; obtain ⟨q0, q1, q2, q3, q4⟩ := hq; go_simp; try with_reducible rfl)
  simp only [Act.put, List.setIfInBounds_toArray, List.set_cons_zero, List.set_cons_succ]
  refine wpAnyH_take (i := 5) (oi := ?p5s) (v := ?v5s) ?o5s (by kernel_rfl) (by kernel_rfl) (by kernel_rfl) ?q5s ?y5s hHeld ?r5s
  case o5s => simp only [List.getElem?_toArray, List.getElem?_cons_succ, List.getElem?_cons_zero]; rfl
  case q5s => exact fun _ _ _ h => h
  case y5s => (refine Or.inl ⟨rfl, ?_⟩; intro wq hq; obtain ⟨q0, q1, q2, q3, q4⟩ := hq; go_simp; try with_reducible rfl)
  simp only [Act.put, List.setIfInBounds_toArray, List.set_cons_zero, List.set_cons_succ]
  refine wpAnyH_take (i := 6) (oi := ?p6s) (v := ?v6s) ?o6s (by kernel_rfl) (by kernel_rfl) (by kernel_rfl) ?q6s ?y6s hHeld ?r6s
  case o6s => simp only [List.getElem?_toArray, List.getElem?_cons_succ, List.getElem?_cons_zero]; rfl
  case q6s => exact fun _ _ _ h => h
  case y6s => (refine Or.inl ⟨rfl, ?_⟩; intro wq hq; obtain ⟨q0, q1, q2, q3, q4⟩ := hq; go_simp; try with_reducible rfl)
  simp only [Act.put, List.setIfInBounds_toArray, List.set_cons_zero, List.set_cons_succ]
  refine wpAnyH_take (i := 7) (oi := ?p7s) (v := ?v7s) ?o7s (by kernel_rfl) (by kernel_rfl) (by kernel_rfl) ?q7s ?y7s hHeld ?r7s
  case o7s => simp only [List.getElem?_toArray, List.getElem?_cons_succ, List.getElem?_cons_zero]; rfl
  case q7s => exact fun _ _ _ h => h
  case y7s => (refine Or.inl ⟨rfl, ?_⟩; intro wq hq; obtain ⟨q0, q1, q2, q3, q4⟩ := hq; go_simp; try with_reducible rfl)
  simp only [Act.put, List.setIfInBounds_toArray, List.set_cons_zero, List.set_cons_succ]
  refine wpAnyH_take (i := 8) (oi := ?p8s) (v := ?v8s) ?o8s (by kernel_rfl) (by kernel_rfl) (by kernel_rfl) ?q8s ?y8s hHeld ?r8s
  case o8s => simp only [List.getElem?_toArray, List.getElem?_cons_succ, List.getElem?_cons_zero]; rfl
  case q8s => exact fun _ _ _ h => h
  case y8s => (refine Or.inl ⟨rfl, ?_⟩; intro wq hq; obtain ⟨q0, q1, q2, q3, q4⟩ := hq; go_simp; try with_reducible rfl)
  simp only [Act.put, List.setIfInBounds_toArray, List.set_cons_zero, List.set_cons_succ]
  refine wpAnyH_take (i := 9) (oi := ?p9s) (v := ?v9s) ?o9s (by kernel_rfl) (by kernel_rfl) (by kernel_rfl) ?q9s ?y9s hHeld ?r9s
  case o9s => simp only [List.getElem?_toArray, List.getElem?_cons_succ, List.getElem?_cons_zero]; rfl
  case q9s => exact fun _ _ _ h => h
  case y9s => (refine Or.inl ⟨rfl, ?_⟩; intro wq hq; obtain ⟨q0, q1, q2, q3, q4⟩ := hq; go_simp; try with_reducible rfl)
  simp only [Act.put, List.setIfInBounds_toArray, List.set_cons_zero, List.set_cons_succ]
  refine wpAnyH_take (i := 10) (oi := ?p10s) (v := ?v10s) ?o10s (by kernel_rfl) (by kernel_rfl) (by kernel_rfl) ?q10s ?y10s hHeld ?r10s
  case o10s => simp only [List.getElem?_toArray, List.getElem?_cons_succ, List.getElem?_cons_zero]; rfl
  case q10s => exact fun _ _ _ h => h
  case y10s => (refine Or.inl ⟨rfl, ?_⟩; intro wq hq; obtain ⟨q0, q1, q2, q3, q4⟩ := hq; go_simp; try with_reducible rfl)
  simp only [Act.put, List.setIfInBounds_toArray, List.set_cons_zero, List.set_cons_succ]
  refine wpAnyH_take (i := 11) (oi := ?p11s) (v := ?v11s) ?o11s (by kernel_rfl) (by kernel_rfl) (by kernel_rfl) ?q11s ?y11s hHeld ?r11s
  case o11s => simp only [List.getElem?_toArray, List.getElem?_cons_succ, List.getElem?_cons_zero]; rfl
  case q11s => exact fun _ _ _ h => h
  case y11s => (refine Or.inl ⟨rfl, ?_⟩; intro wq hq; obtain ⟨q0, q1, q2, q3, q4⟩ := hq; go_simp; try with_reducible rfl)
  simp only [Act.put, List.setIfInBounds_toArray, List.set_cons_zero, List.set_cons_succ]
  refine wpAnyH_take (i := 12) (oi := ?p12s) (v := ?v12s) ?o12s (by kernel_rfl) (by kernel_rfl) (by kernel_rfl) ?q12s ?y12s hHeld ?r12s
  case o12s => simp only [List.getElem?_toArray, List.getElem?_cons_succ, List.getElem?_cons_zero]; rfl
  case q12s => exact fun _ _ _ h => h
  case y12s => (refine Or.inl ⟨rfl, ?_⟩; intro wq hq; obtain ⟨q0, q1, q2, q3, q4⟩ := hq; go_simp; try with_reducible rfl)
  simp only [Act.put, List.setIfInBounds_toArray, List.set_cons_zero, List.set_cons_succ]
  refine wpAnyH_take (i := 13) (oi := ?p13s) (v := ?v13s) ?o13s (by kernel_rfl) (by kernel_rfl) (by kernel_rfl) ?q13s ?y13s hHeld ?r13s
  case o13s => simp only [List.getElem?_toArray, List.getElem?_cons_succ, List.getElem?_cons_zero]; rfl
  case q13s => exact fun _ _ _ h => h
  case y13s => (refine Or.inl ⟨rfl, ?_⟩; intro wq hq; obtain ⟨q0, q1, q2, q3, q4⟩ := hq; go_simp; try with_reducible rfl)
  simp only [Act.put, List.setIfInBounds_toArray, List.set_cons_zero, List.set_cons_succ]
  refine wpAnyH_take (i := 14) (oi := ?p14s) (v := ?v14s) ?o14s (by kernel_rfl) (by kernel_rfl) (by kernel_rfl) ?q14s ?y14s hHeld ?r14s
  case o14s => simp only [List.getElem?_toArray, List.getElem?_cons_succ, List.getElem?_cons_zero]; rfl
  case q14s => exact fun _ _ _ h => h
  case y14s => (refine Or.inl ⟨rfl, ?_⟩; intro wq hq; obtain ⟨q0, q1, q2, q3, q4⟩ := hq; go_simp; try with_reducible rfl)
  simp only [Act.put, List.setIfInBounds_toArray, List.set_cons_zero, List.set_cons_succ]
  refine wpAnyH_take (i := 15) (oi := ?p15s) (v := ?v15s) ?o15s (by kernel_rfl) (by kernel_rfl) (by kernel_rfl) ?q15s ?y15s hHeld ?r15s
  case o15s => simp only [List.getElem?_toArray, List.getElem?_cons_succ, List.getElem?_cons_zero]; rfl
  case q15s => exact fun _ _ _ h => h
  case y15s => (refine Or.inl ⟨rfl, ?_⟩; intro wq hq; obtain ⟨q0, q1, q2, q3, q4⟩ := hq; go_simp; try with_reducible rfl)
  simp only [Act.put, List.setIfInBounds_toArray, List.set_cons_zero, List.set_cons_succ]
  refine wpAnyH_take (i := 16) (oi := ?p16s) (v := ?v16s) ?o16s (by kernel_rfl) (by kernel_rfl) (by kernel_rfl) ?q16s ?y16s hHeld ?r16s
  case o16s => simp only [List.getElem?_toArray, List.getElem?_cons_succ, List.getElem?_cons_zero]; rfl
  case q16s => exact fun _ _ _ h => h
  case y16s => (refine Or.inl ⟨rfl, ?_⟩; intro wq hq; obtain ⟨q0, q1, q2, q3, q4⟩ := hq; go_simp; try with_reducible rfl)
  simp only [Act.put, List.setIfInBounds_toArray, List.set_cons_zero, List.set_cons_succ]
  refine wpAnyH_take (i := 17) (oi := ?p17s) (v := ?v17s) ?o17s (by kernel_rfl) (by kernel_rfl) (by kernel_rfl) ?q17s ?y17s hHeld ?r17s
  case o17s => simp only [List.getElem?_toArray, List.getElem?_cons_succ, List.getElem?_cons_zero]; rfl
  case q17s => exact fun _ _ _ h => h
  case y17s => (refine Or.inl ⟨rfl, ?_⟩; intro wq hq; obtain ⟨q0, q1, q2, q3, q4⟩ := hq; go_simp; try with_reducible rfl)
  simp only [Act.put, List.setIfInBounds_toArray, List.set_cons_zero, List.set_cons_succ]
  refine wpAnyH_take (i := 18) (oi := ?p18s) (v := ?v18s) ?o18s (by kernel_rfl) (by kernel_rfl) (by kernel_rfl) ?q18s ?y18s hHeld ?r18s
  case o18s => simp only [List.getElem?_toArray, List.getElem?_cons_succ, List.getElem?_cons_zero]; rfl
  case q18s => exact fun _ _ _ h => h
  case y18s => (refine Or.inl ⟨rfl, ?_⟩; intro wq hq; obtain ⟨q0, q1, q2, q3, q4⟩ := hq; go_simp; try with_reducible rfl)
  simp only [Act.put, List.setIfInBounds_toArray, List.set_cons_zero, List.set_cons_succ]
  refine wpAnyH_take (i := 19) (oi := ?p19s) (v := ?v19s) ?o19s (by kernel_rfl) (by kernel_rfl) (by kernel_rfl) ?q19s ?y19s hHeld ?r19s
  case o19s => simp only [List.getElem?_toArray, List.getElem?_cons_succ, List.getElem?_cons_zero]; rfl
  case q19s => exact fun _ _ _ h => h
  case y19s => (refine Or.inl ⟨rfl, ?_⟩; intro wq hq; obtain ⟨q0, q1, q2, q3, q4⟩ := hq; go_simp; try with_reducible rfl)
  simp only [Act.put, List.setIfInBounds_toArray, List.set_cons_zero, List.set_cons_succ]
  refine wpAnyH_take (i := 20) (oi := ?p20s) (v := ?v20s) ?o20s (by kernel_rfl) (by kernel_rfl) (by kernel_rfl) ?q20s ?y20s hHeld ?r20s
  case o20s => simp only [List.getElem?_toArray, List.getElem?_cons_succ, List.getElem?_cons_zero]; rfl
  case q20s => exact fun _ _ _ h => h
  case y20s => (refine Or.inl ⟨rfl, ?_⟩; intro wq hq; obtain ⟨q0, q1, q2, q3, q4⟩ := hq; go_simp; try with_reducible rfl)
  simp only [Act.put, List.setIfInBounds_toArray, List.set_cons_zero, List.set_cons_succ]
  refine wpAnyH_take (i := 21) (oi := ?p21s) (v := ?v21s) ?o21s (by kernel_rfl) (by kernel_rfl) (by kernel_rfl) ?q21s ?y21s hHeld ?r21s
  case o21s => simp only [List.getElem?_toArray, List.getElem?_cons_succ, List.getElem?_cons_zero]; rfl
  case q21s => exact fun _ _ _ h => h
  case y21s => (refine Or.inl ⟨rfl, ?_⟩; intro wq hq; obtain ⟨q0, q1, q2, q3, q4⟩ := hq; go_simp; try with_reducible rfl)
  simp only [Act.put, List.setIfInBounds_toArray, List.set_cons_zero, List.set_cons_succ]
  refine wpAnyH_take (i := 22) (oi := ?p22s) (v := ?v22s) ?o22s (by kernel_rfl) (by kernel_rfl) (by kernel_rfl) ?q22s ?y22s hHeld ?r22s
  case o22s => simp only [List.getElem?_toArray, List.getElem?_cons_succ, List.getElem?_cons_zero]; rfl
  case q22s => exact fun _ _ _ h => h
  case y22s => (refine Or.inl ⟨rfl, ?_⟩; intro wq hq; obtain ⟨q0, q1, q2, q3, q4⟩ := hq; go_simp; try with_reducible rfl)
  simp only [Act.put, List.setIfInBounds_toArray, List.set_cons_zero, List.set_cons_succ]
  refine wpAnyH_take (i := 23) (oi := ?p23s) (v := ?v23s) ?o23s (by kernel_rfl) (by kernel_rfl) (by kernel_rfl) ?q23s ?y23s hHeld ?r23s
  case o23s => simp only [List.getElem?_toArray, List.getElem?_cons_succ, List.getElem?_cons_zero]; rfl
  case q23s => exact fun _ _ _ h => h
  case y23s => (refine Or.inl ⟨rfl, ?_⟩; intro wq hq; obtain ⟨q0, q1, q2, q3, q4⟩ := hq; go_simp; try with_reducible rfl)
  simp only [Act.put, List.setIfInBounds_toArray, List.set_cons_zero, List.set_cons_succ]
  refine wpAnyH_take (i := 24) (oi := ?p24s) (v := undef) ?o24s (by kernel_rfl) (by kernel_rfl) (by kernel_rfl) ?q24s ?y24s hHeld ?r24s
  case o24s => simp only [List.getElem?_toArray, List.getElem?_cons_succ, List.getElem?_cons_zero]; rfl
  case q24s => exact fun _ _ _ h => h
  case y24s => exact Or.inr ⟨rfl, rfl⟩
  simp only [Act.put, List.setIfInBounds_toArray, List.set_cons_zero, List.set_cons_succ]
  refine wpAnyH_take (i := 25) (oi := ?p25s) (v := undef) ?o25s (by kernel_rfl) (by kernel_rfl) (by kernel_rfl) ?q25s ?y25s hHeld ?r25s
  case o25s => simp only [List.getElem?_toArray, List.getElem?_cons_succ, List.getElem?_cons_zero]; rfl
  case q25s => exact fun _ _ _ h => h
  case y25s => exact Or.inr ⟨rfl, rfl⟩
  simp only [Act.put, List.setIfInBounds_toArray, List.set_cons_zero, List.set_cons_succ]
  refine wpAnyH_take (i := 26) (oi := ?p26s) (v := undef) ?o26s (by kernel_rfl) (by kernel_rfl) (by kernel_rfl) ?q26s ?y26s hHeld ?r26s
  case o26s => simp only [List.getElem?_toArray, List.getElem?_cons_succ, List.getElem?_cons_zero]; rfl
  case q26s => exact fun _ _ _ h => h
  case y26s => exact Or.inr ⟨rfl, rfl⟩
  simp only [Act.put, List.setIfInBounds_toArray, List.set_cons_zero, List.set_cons_succ]
  refine wpAnyH_take (i := 27) (oi := ?p27s) (v := undef) ?o27s (by kernel_rfl) (by kernel_rfl) (by kernel_rfl) ?q27s ?y27s hHeld ?r27s
  case o27s => simp only [List.getElem?_toArray, List.getElem?_cons_succ, List.getElem?_cons_zero]; rfl
  case q27s => exact fun _ _ _ h => h
  case y27s => exact Or.inr ⟨rfl, rfl⟩
  simp only [Act.put, List.setIfInBounds_toArray, List.set_cons_zero, List.set_cons_succ]
  refine wpAnyH_take (i := 28) (oi := ?p28s) (v := undef) ?o28s (by kernel_rfl) (by kernel_rfl) (by kernel_rfl) ?q28s ?y28s hHeld ?r28s
  case o28s => simp only [List.getElem?_toArray, List.getElem?_cons_succ, List.getElem?_cons_zero]; rfl
  case q28s => exact fun _ _ _ h => h
  case y28s => exact Or.inr ⟨rfl, rfl⟩
  simp only [Act.put, List.setIfInBounds_toArray, List.set_cons_zero, List.set_cons_succ]
  refine wpAnyH_take (i := 29) (oi := ?p29s) (v := undef) ?o29s (by kernel_rfl) (by kernel_rfl) (by kernel_rfl) ?q29s ?y29s hHeld ?r29s
  case o29s => simp only [List.getElem?_toArray, List.getElem?_cons_succ, List.getElem?_cons_zero]; rfl
  case q29s => exact fun _ _ _ h => h
  case y29s => exact Or.inr ⟨rfl, rfl⟩
  simp only [Act.put, List.setIfInBounds_toArray, List.set_cons_zero, List.set_cons_succ]
  refine wpAnyH_take (i := 30) (oi := ?p30s) (v := undef) ?o30s (by kernel_rfl) (by kernel_rfl) (by kernel_rfl) ?q30s ?y30s hHeld ?r30s
  case o30s => simp only [List.getElem?_toArray, List.getElem?_cons_succ, List.getElem?_cons_zero]; rfl
  case q30s => exact fun _ _ _ h => h
  case y30s => exact Or.inr ⟨rfl, rfl⟩
  simp only [Act.put, List.setIfInBounds_toArray, List.set_cons_zero, List.set_cons_succ]
  refine wpAnyH_take (i := 31) (oi := ?p31s) (v := undef) ?o31s (by kernel_rfl) (by kernel_rfl) (by kernel_rfl) ?q31s ?y31s hHeld ?r31s
  case o31s => simp only [List.getElem?_toArray, List.getElem?_cons_succ, List.getElem?_cons_zero]; rfl
  case q31s => exact fun _ _ _ h => h
  case y31s => exact Or.inr ⟨rfl, rfl⟩
  simp only [Act.put, List.setIfInBounds_toArray, List.set_cons_zero, List.set_cons_succ]
  refine wpAnyH_take (i := 32) (oi := ?p32s) (v := undef) ?o32s (by kernel_rfl) (by kernel_rfl) (by kernel_rfl) ?q32s ?y32s hHeld ?r32s
  case o32s => simp only [List.getElem?_toArray, List.getElem?_cons_succ, List.getElem?_cons_zero]; rfl
  case q32s => exact fun _ _ _ h => h
  case y32s => exact Or.inr ⟨rfl, rfl⟩
  simp only [Act.put, List.setIfInBounds_toArray, List.set_cons_zero, List.set_cons_succ]
  refine wpAnyH_take (i := 33) (oi := ?p33s) (v := ?v33s) ?o33s (by kernel_rfl) (by kernel_rfl) (by kernel_rfl) ?q33s ?y33s hHeld ?r33s
  case o33s => simp only [List.getElem?_toArray, List.getElem?_cons_succ, List.getElem?_cons_zero]; rfl
  case q33s => exact fun _ _ _ h => h
  case y33s => (refine Or.inl ⟨rfl, ?_⟩; intro wq hq; obtain ⟨q0, q1, q2, q3, q4⟩ := hq; go_simp; try with_reducible rfl)
  simp only [Act.put, List.setIfInBounds_toArray, List.set_cons_zero, List.set_cons_succ]
  refine wpAnyH_done (by kernel_rfl) ?_ _
  obtain ⟨w3, hw3⟩ : ∃ w3, w2.drew = w3 := ⟨_, rfl⟩
  have hb3 : Below w2.heap.size w2 w3 := by rw [← hw3]; exact (Below.refl _ _).drew
  obtain ⟨⟨⟨x0, x1, x2⟩, ⟨y0, y1, y2⟩, yf0, yf1, yf2⟩, lq, hq⟩ := (HA2.out.keep hb3).no HRN.out HI.out
  have HQ1 := Hid_of lq
  have HQ2 := Hid_of hq
  rw [hw3]
  clear hw3 hb3 lq hq n0 n1 n2 m0 m1 m2 m3 m4
  go_wp2
  refine bodyPost_ret (v := .tuple #[.agg #[.int .i64 me, .int .i64 next, .slice (some ⟨b0, off, none⟩) L.length cap], .bool false]) ?_ rfl HQ2.out
  exact res3 f16_res _ _ (w.heap.size + 2) _ _ _ rfl HQ1.out
set_option maxRecDepth 100000 in
set_option maxHeartbeats 1000000 in
theorem ranswer_w {w : World} {a : Option Addr} {cap : Nat} {L : List K} (h : RN w a cap L) (hu : Cl.Up L) (me next : Int) (m : Ms) (hk : m.k = 2) (ht : m.t = me) (j : Nat) (hj : j < L.length) (hid : L[j].id = m.i) (hst : L[j].st = 1) (hwh : L[j].whom ≠ m.f) :
    Calls Try.prog 16 #[.agg #[.int .i64 me, .int .i64 next, .slice a L.length cap], .agg #[.int .i64 m.k, .int .i64 m.f, .int .i64 m.t, .int .i64 m.i, .string m.b]] w (RFOut w a me next (Cl.ans me L m) (.bool (Cl.isA me L m))) := by
  have Xhk := Hid_of hk
  clear hk
  have Xht := Hid_of ht
  clear ht
  have Xhid := Hid_of hid
  clear hid
  have Xhst := Hid_of hst
  clear hst
  have Xhwh := Hid_of hwh
  clear hwh
  obtain ⟨W1, HW1⟩ : ∃ W1, Hid (((w.alloc (.cells #[.int .i64 me, .int .i64 next, .slice a L.length cap] 29)).alloc (.cells #[.int .i64 m.k, .int .i64 m.f, .int .i64 m.t, .int .i64 m.i, .string m.b] 32)).alloc (.cells #[.int .i64 0, .int .i64 0, .slice none 0 0] 29) = W1) := ⟨_, rfl⟩
  have HA1 : Hid (AB w me next a cap L m W1) := by rw [← HW1.out]; exact AB.new w me next a cap L m
  have HRN := Hid_of h
  have hn := h.n
  have hf := find_any (h.keep HA1.out.b) me next m.i
  obtain ⟨⟨n0, n1, n2⟩, _⟩ := rw3 HA1.out.c
  obtain ⟨⟨m0, m1, m2, m3, m4⟩, _⟩ := rw5 HA1.out.m
  clear h
  go_enter Try.func16, Try.ntmps16
  go_upto_region 1 with fail
  rw [HW1.out]
  clear HW1
  go_wp2_with fail
  refine hf.mono ?_
  rintro e w2 ⟨r, rfl, hfi, hb2⟩
  have HA2 := Hid_of (HA1.out.keep hb2)
  clear n0 n1 n2 m0 m1 m2 m3 m4 hf hb2 HA1
  obtain ⟨⟨n0, n1, n2⟩, _⟩ := rw3 HA2.out.c
  obtain ⟨⟨m0, m1, m2, m3, m4⟩, _⟩ := rw5 HA2.out.m
  have hk := Xhk.out
  clear Xhk
  have ht := Xht.out
  clear Xht
  have hid := Xhid.out
  clear Xhid
  have hst := Xhst.out
  clear Xhst
  have hwh := Xhwh.out
  clear Xhwh
  have HKT : Hid (m.k = 2 ∧ m.t = me) := ⟨hk, ht⟩
  rw [hk] at m0
  rw [ht] at m2
  have hr0 : r = (j : Int) := by
    rcases hfi.get hu with ⟨_, hg⟩ | ⟨j', hj', h1, h2, _⟩
    · exact absurd rfl (Cl.get_none hg _ (List.getElem_mem hj) |> fun h => by rw [hid] at h; exact h)
    · rw [h1, hu.idx hj' hj (by rw [h2, hid])]
  subst hr0
  have hg : Cl.get L m.i = some L[j] := by rw [← hid]; exact Cl.get_mem hu (List.getElem_mem hj)
  have hrn := HRN.out.keep HA2.out.b
  obtain ⟨b0, off, rfl, d0, d1, d2, d3, d4, d5, d6⟩ := hrn.x.at'.getK j hj
  have hji : (j : Int) < (L.length : Int) := by omega
  have HI : Hid (Cl.isA me L m = false) := Hid_of (show Cl.isA me L m = false by unfold Cl.isA; rw [hg]; simp [hwh])
  have e1 : (L[j].whom != m.f) = true := by simpa using hwh
  have e2 : (L[j].whom == m.f) = false := by simpa using hwh
  rw [hst] at d2
  clear hfi hg hst hrn hid d0 d3 d4 d5 d6 hwh hk ht
  generalize L[j].whom = wh at *
  go_wp2_with fail
  go_quiet (fail)
  obtain ⟨w3, hw3⟩ : ∃ w3, w2.drewN nq = w3 := ⟨_, rfl⟩
  have hb3 : Below w2.heap.size w2 w3 := by rw [← hw3]; exact below_drewN (Below.refl _ _) nq
  obtain ⟨⟨⟨x0, x1, x2⟩, ⟨y0, y1, y2⟩, yf0, yf1, yf2⟩, lq, hq⟩ := (HA2.out.keep hb3).no HRN.out HI.out
  have HQ1 := Hid_of lq
  have HQ2 := Hid_of hq
  rw [hw3]
  clear hw3 hb3 lq hq n0 n1 n2 m0 m1 m2 m3 m4
  go_wp2
  refine bodyPost_ret (v := .tuple #[.agg #[.int .i64 me, .int .i64 next, .slice (some ⟨b0, off, none⟩) L.length cap], .bool false]) ?_ rfl HQ2.out
  exact res3 f16_res _ _ (w.heap.size + 2) _ _ _ rfl HQ1.out
set_option maxRecDepth 100000 in
set_option maxHeartbeats 1000000 in
theorem ranswer_y {w : World} {a : Option Addr} {cap : Nat} {L : List K} (h : RN w a cap L) (hu : Cl.Up L) (me next : Int) (m : Ms) (hk : m.k = 2) (ht : m.t = me) (j : Nat) (hj : j < L.length) (hid : L[j].id = m.i) (hst : L[j].st = 1) (hwh : L[j].whom = m.f) :
    Calls Try.prog 16 #[.agg #[.int .i64 me, .int .i64 next, .slice a L.length cap], .agg #[.int .i64 m.k, .int .i64 m.f, .int .i64 m.t, .int .i64 m.i, .string m.b]] w (RFOut w a me next (Cl.ans me L m) (.bool (Cl.isA me L m))) := by
  have Xhk := Hid_of hk
  clear hk
  have Xht := Hid_of ht
  clear ht
  have Xhid := Hid_of hid
  clear hid
  have Xhst := Hid_of hst
  clear hst
  have Xhwh := Hid_of hwh
  clear hwh
  obtain ⟨W1, HW1⟩ : ∃ W1, Hid (((w.alloc (.cells #[.int .i64 me, .int .i64 next, .slice a L.length cap] 29)).alloc (.cells #[.int .i64 m.k, .int .i64 m.f, .int .i64 m.t, .int .i64 m.i, .string m.b] 32)).alloc (.cells #[.int .i64 0, .int .i64 0, .slice none 0 0] 29) = W1) := ⟨_, rfl⟩
  have HA1 : Hid (AB w me next a cap L m W1) := by rw [← HW1.out]; exact AB.new w me next a cap L m
  have HRN := Hid_of h
  have hn := h.n
  have hf := find_any (h.keep HA1.out.b) me next m.i
  obtain ⟨⟨n0, n1, n2⟩, _⟩ := rw3 HA1.out.c
  obtain ⟨⟨m0, m1, m2, m3, m4⟩, _⟩ := rw5 HA1.out.m
  clear h
  go_enter Try.func16, Try.ntmps16
  go_upto_region 1 with fail
  rw [HW1.out]
  clear HW1
  go_wp2_with fail
  refine hf.mono ?_
  rintro e w2 ⟨r, rfl, hfi, hb2⟩
  have HA2 := Hid_of (HA1.out.keep hb2)
  clear n0 n1 n2 m0 m1 m2 m3 m4 hf hb2 HA1
  obtain ⟨⟨n0, n1, n2⟩, _⟩ := rw3 HA2.out.c
  obtain ⟨⟨m0, m1, m2, m3, m4⟩, _⟩ := rw5 HA2.out.m
  have hk := Xhk.out
  clear Xhk
  have ht := Xht.out
  clear Xht
  have hid := Xhid.out
  clear Xhid
  have hst := Xhst.out
  clear Xhst
  have hwh := Xhwh.out
  clear Xhwh
  have HKT : Hid (m.k = 2 ∧ m.t = me) := ⟨hk, ht⟩
  rw [hk] at m0
  rw [ht] at m2
  have hr0 : r = (j : Int) := by
    rcases hfi.get hu with ⟨_, hg⟩ | ⟨j', hj', h1, h2, _⟩
    · exact absurd rfl (Cl.get_none hg _ (List.getElem_mem hj) |> fun h => by rw [hid] at h; exact h)
    · rw [h1, hu.idx hj' hj (by rw [h2, hid])]
  subst hr0
  have hg : Cl.get L m.i = some L[j] := by rw [← hid]; exact Cl.get_mem hu (List.getElem_mem hj)
  have hrn := HRN.out.keep HA2.out.b
  obtain ⟨b0, off, rfl, d0, d1, d2, d3, d4, d5, d6⟩ := hrn.x.at'.getK j hj
  have hji : (j : Int) < (L.length : Int) := by omega
  have HI : Hid (Cl.isA me L m = true) := Hid_of (show Cl.isA me L m = true by unfold Cl.isA Cl.op; rw [hg]; simp [HKT.out.1, HKT.out.2, hst, hwh])
  have HAN : Hid (Cl.ans me L m = L.set j (Cl.ansK m.b L[j])) := Hid_of (show Cl.ans me L m = L.set j (Cl.ansK m.b L[j]) by unfold Cl.ans; rw [HI.out]; exact Cl.upd_at hu _ hj hid)
  rw [hwh] at d1
  rw [hst] at d2
  clear hfi hg hst hid d0 d3 d4 d5 d6 hwh hk ht
  go_wp2_with fail
  go_quiet (fail)
  obtain ⟨w3, hw3⟩ : ∃ w3, w2.drewN nq = w3 := ⟨_, rfl⟩
  have hb3 : Below w2.heap.size w2 w3 := by rw [← hw3]; exact below_drewN (Below.refl _ _) nq
  rw [hw3]
  have hA3 := HA2.out.keep hb3
  have hrn3 := hrn.keep hb3
  clear hw3 hb3 n0 n1 n2 m0 m1 m2 m3 m4 d1 d2 hrn HA2
  obtain ⟨⟨n0, n1, n2⟩, _⟩ := rw3 hA3.c
  obtain ⟨a4, c4, w4, hrun, o4, b4⟩ := run_copyL tiK w3 27 (some ⟨b0, off, none⟩) cap L hrn3.x (by omega)
  obtain ⟨g, cap4, hv, hbg, hgl, hc2, hfz, hset⟩ := o4.set1 j hj 2 (by decide)
  cases hv
  have o5 := hset ⟨L[j].id, L[j].whom, 2, L[j].sent, L[j].due, L[j].body, L[j].reply⟩ (.int .i64 2) rfl
  obtain ⟨w5, hw5⟩ : ∃ w5, w4.setCell ⟨g, j * 7 + 2, none⟩ (.int .i64 2) = w5 := ⟨_, rfl⟩
  have o5' : OwnL kl 68 w5 w3.heap.size (.slice (some ⟨g, 0, none⟩) L.length c4) (L.set j ⟨L[j].id, L[j].whom, 2, L[j].sent, L[j].due, L[j].body, L[j].reply⟩) := by rw [← hw5]; exact o5
  obtain ⟨g', cap5, hv5, hbg5, hgl5, hc6, hfz5, hset5⟩ := o5'.set1 j (by simpa using hj) 6 (by decide)
  rw [List.length_set] at hv5
  cases hv5
  have o6 := hset5 (Cl.ansK m.b L[j]) (.string m.b) (by simp only [List.getElem_set_self]; rfl)
  rw [List.set_set] at o6
  obtain ⟨w6, hw6⟩ : ∃ w6, w5.setCell ⟨g, j * 7 + 6, none⟩ (.string m.b) = w6 := ⟨_, rfl⟩
  have o6' : OwnL kl 68 w6 w3.heap.size (.slice (some ⟨g, 0, none⟩) L.length c4) (L.set j (Cl.ansK m.b L[j])) := by rw [← hw6]; exact o6
  have b5 : Below w3.heap.size w3 w5 := by rw [← hw5]; exact b4.setCell (p := ⟨g, j * 7 + 2, none⟩) hbg _
  have b6 : Below w3.heap.size w3 w6 := by rw [← hw6]; exact b5.setCell (p := ⟨g, j * 7 + 6, none⟩) hbg _
  obtain ⟨⟨mm0, mm1, mm2, mm3, m4⟩, _⟩ := rw5 (hA3.keep b5).m
  replace hc2 : w4.cell? ⟨g, j * 7 + 2, none⟩ = some (.int .i64 L[j].st) := hc2
  have hc6' : w5.cell? ⟨g, j * 7 + 6, none⟩ = some (.string L[j].reply) := by
    have := hc6
    simp only [List.getElem_set_self] at this
    exact this
  have hf2 := hfz (j * 7 + 2)
  have hf6 := hfz5 (j * 7 + 6)
  obtain ⟨⟨u2, uf2⟩, W7, hW7, ⟨v0, v1, v2⟩, ⟨⟨z0, z1, z2⟩, zf0, zf1, zf2⟩, lq, hx7, hli, hb7, _⟩ := ref_fin (a := some ⟨b0, off, none⟩) hA3.c hA3.z hA3.b (by omega) (Nat.le_refl _) (by omega) b6 o6' (by simp)
  have HW5 := Hid_of hw5
  have HW6 := Hid_of hw6
  have HW7 := Hid_of hW7
  have HQ1 := Hid_of lq
  have HQ2 : Hid (RFOut w (some ⟨b0, off, none⟩) me next (Cl.ans me L m) (.bool (Cl.isA me L m)) (.returned (.tuple #[.agg #[.int .i64 me, .int .i64 next, .slice (some ⟨g, 0, none⟩) L.length c4], .bool true])) (put3 W7 (w.heap.size + 2) (.int .i64 me) (.int .i64 next) (.slice (some ⟨g, 0, none⟩) L.length c4))) := by
    rw [HI.out, HAN.out]
    exact ⟨_, c4, by rw [List.length_set], hx7, hli, hb7⟩
  replace hrun : ∀ ty, (Builtin.append_ #[27, 27] ty #[.slice none 0 0, .slice (some ⟨b0, off, none⟩) L.length cap]).run Try.prog w3 = .ok (.slice (some ⟨g, 0, none⟩) L.length c4) w4 := fun ty => (append_ty _ _ _ ty 27).trans hrun
  clear hA3 hrn3 o4 o5 o5' o6 o6' b4 b5 b6 hset hset5 hc6 hfz hfz5 lq hx7 hli hb7 hW7 hw5 hw6 HRN HAN HI
  generalize L[j].st = st at *
  generalize L[j].reply = rp at *
  go_upto_region 5 with (at_builtin; refine wpList_append_known rfl _ _ 27 rfl _ _ rfl rfl _ _ (hrun _) ?_)
  go_upto_region 6 with fail
  rw [HW5.out]
  go_upto_region 7 with fail
  rw [HW6.out]
  go_upto_region 8 with fail
  rw [HW7.out]
  go_wp2
  refine bodyPost_ret (v := .tuple #[.agg #[.int .i64 me, .int .i64 next, .slice (some ⟨g, 0, none⟩) L.length c4], .bool true]) ?_ rfl HQ2.out
  exact res3 f16_res _ _ (w.heap.size + 2) _ _ _ rfl HQ1.out
theorem ranswer_any {w : World} {a : Option Addr} {cap : Nat} {L : List K} (h : RN w a cap L) (hu : Cl.Up L) (me next : Int) (m : Ms) :
    Calls Try.prog 16 #[.agg #[.int .i64 me, .int .i64 next, .slice a L.length cap], .agg #[.int .i64 m.k, .int .i64 m.f, .int .i64 m.t, .int .i64 m.i, .string m.b]] w (RFOut w a me next (Cl.ans me L m) (.bool (Cl.isA me L m))) := by
  by_cases hk : m.k = 2
  case neg => exact ranswer_k h hu me next m hk
  by_cases ht : m.t = me
  case neg => exact ranswer_t h hu me next m hk ht
  cases hg : Cl.get L m.i with
  | none => exact ranswer_n h hu me next m hk ht hg
  | some k =>
    obtain ⟨h1, h2⟩ := Cl.get_some hg
    obtain ⟨j, hj, rfl⟩ := List.getElem_of_mem h1
    by_cases hst : L[j].st = 1
    case neg => exact ranswer_s h hu me next m hk ht j hj h2 hst
    by_cases hwh : L[j].whom = m.f
    case neg => exact ranswer_w h hu me next m hk ht j hj h2 hst hwh
    exact ranswer_y h hu me next m hk ht j hj h2 hst hwh
end Go.Proofs.Ytbgbdiiinggjnaa
