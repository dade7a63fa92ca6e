/-
  The document's call.
-/
import Derived.Test.YtbgbdiiinggjnaaRB
namespace Go.Proofs.Ytbgbdiiinggjnaa
open Go.RowKit
set_option linter.unusedVariables false
open M (E)
open Cl (K W Ms fup Rel)

def put3 (w : World) (g : Nat) (a b c : Value) : World := ((w.setCell ⟨g, 0, none⟩ a).setCell ⟨g, 1, none⟩ b).setCell ⟨g, 2, none⟩ c
theorem put3_row {w : World} {g : Nat} {t : TypeId} {v0 v1 v2 : Value} (h : w.heap[g]? = some (.cells #[v0, v1, v2] t (0, 0))) (a b c : Value) : (put3 w g a b c).heap[g]? = some (.cells #[a, b, c] t (0, 0)) :=
  heap_setCell_same _ g 2 _ _ c (heap_setCell_same _ g 1 _ _ b (heap_setCell_same w g 0 _ _ a h))
theorem put3_oth {w : World} {g k : Nat} (h : k ≠ g) (a b c : Value) : (put3 w g a b c).heap[k]? = w.heap[k]? := by
  unfold put3
  rw [heap_setCell_other _ ⟨g, 2, none⟩ k c h, heap_setCell_other _ ⟨g, 1, none⟩ k b h, heap_setCell_other _ ⟨g, 0, none⟩ k a h]
theorem put3_size (w : World) (g : Nat) (a b c : Value) : (put3 w g a b c).heap.size = w.heap.size := by simp [put3]
theorem put3_bel {w0 w : World} {B g : Nat} (h : Below B w0 w) (hg : B ≤ g) (a b c : Value) : Below B w0 (put3 w g a b c) :=
  ((h.setCell (p := ⟨g, 0, none⟩) hg a).setCell (p := ⟨g, 1, none⟩) hg b).setCell (p := ⟨g, 2, none⟩) hg c
theorem res3 {fn : Func} {p u : Tmp} (h : fn.results = #[.cell p 29, .tmp u]) (tmps : Array Value) (w : World) (g : Nat) (v0 v1 v2 : Value) (hp : tmps.getD p undef = .pointer (some ⟨g, 0, none⟩)) (hg : w.heap[g]? = some (.cells #[v0, v1, v2] 29 (0, 0))) :
    (results fn tmps).run Try.prog w = .ok (.tuple #[.agg #[v0, v1, v2], tmps.getD u undef]) w := by
  have hp' : tmps[p]?.getD undef = .pointer (some ⟨g, 0, none⟩) := by simpa using hp
  rw [results_cell_tmp h]
  simp [asAddr, hp', run_loadVar_row w g 29 29 #[v0, v1, v2] (0, 0) _ hg Try.underlying29 rfl Try.size29]
theorem results_cell_tmps {fn : Func} {p u u' : Tmp} {ty : TypeId} (h : fn.results = #[.cell p ty, .tmp u, .tmp u']) (tmps : Array Value) (P : Program) (w : World) :
    (results fn tmps).run P w = ((asAddr (tmps.getD p undef)).run P w).andThen fun a w₁ => ((loadVar ty a).run P w₁).andThen fun v w₂ => .ok (.tuple #[v, tmps.getD u undef, tmps.getD u' undef]) w₂ := by
  simp only [results, h]
  simp [Sem.run_bind, Result.andThen]
theorem res4 {fn : Func} {p u u' : Tmp} (h : fn.results = #[.cell p 29, .tmp u, .tmp u']) (tmps : Array Value) (w : World) (g : Nat) (v0 v1 v2 : Value) (hp : tmps.getD p undef = .pointer (some ⟨g, 0, none⟩)) (hg : w.heap[g]? = some (.cells #[v0, v1, v2] 29 (0, 0))) :
    (results fn tmps).run Try.prog w = .ok (.tuple #[.agg #[v0, v1, v2], tmps.getD u undef, tmps.getD u' undef]) w := by
  have hp' : tmps[p]?.getD undef = .pointer (some ⟨g, 0, none⟩) := by simpa using hp
  rw [results_cell_tmps h]
  simp [asAddr, hp', run_loadVar_row w g 29 29 #[v0, v1, v2] (0, 0) _ hg Try.underlying29 rfl Try.size29]
/-- Calls are laid into their result's box. -/
theorem ref_lay {w w2 : World} {r : Nat} {x v1 v2 z0 z1 z2 : Value} (hB : Below w.heap.size w w2) (hr : w2.heap[r]? = some (.cells #[z0, z1, z2] 29 (0, 0))) (hrw : w.heap.size ≤ r) :
    ((w2.cell? ⟨r, 0, none⟩ = some z0 ∧ w2.cell? ⟨r, 1, none⟩ = some z1 ∧ w2.cell? ⟨r, 2, none⟩ = some z2) ∧ (w2.frozen? ⟨r, 0, none⟩ = false ∧ w2.frozen? ⟨r, 1, none⟩ = false ∧ w2.frozen? ⟨r, 2, none⟩ = false)) ∧ (put3 w2 r x v1 v2).heap[r]? = some (.cells #[x, v1, v2] 29 (0, 0)) ∧ Below w.heap.size w (put3 w2 r x v1 v2) ∧ ∀ k, k ≠ r → (put3 w2 r x v1 v2).heap[k]? = w2.heap[k]? := by
  obtain ⟨h1, h2⟩ := rw3 hr
  exact ⟨⟨h1, h2 0, h2 1, h2 2⟩, put3_row hr _ _ _, put3_bel hB hrw _ _ _, fun k hk => put3_oth hk _ _ _⟩
theorem f11_res : Try.f11.results = #[.cell 8 29, .tmp 9, .tmp 10] := rfl
/-- What Call leaves. -/
def RCOut (w : World) (a : Option Addr) (me next : Int) (L : List K) (id code : Int) (e : Ending) (w' : World) : Prop := ∃ a' cap', e = .returned (.tuple #[.agg #[.int .i64 me, .int .i64 next, .slice a' L.length cap'], .int .i64 id, .int .i64 code]) ∧ XL kl w' a' cap' L ∧ Lie w a w' a' ∧ Below w.heap.size w w'
theorem nums_opn (L : List K) : (Cl.nums L).length = (Cl.opn L).length := by unfold Cl.nums; rw [List.length_map]
set_option maxRecDepth 100000 in
set_option maxHeartbeats 1000000 in
theorem rcall_lo {w : World} {a : Option Addr} {cap : Nat} {L : List K} (h : RN w a cap L) (me next x : Int) (s : ByteArray) (hs : s.size ≤ maxLen) (now : Int) (h1 : x < 0) :
    Calls Try.prog 11 #[.agg #[.int .i64 me, .int .i64 next, .slice a L.length cap], .int .i64 x, .string s, .int .i64 now] w (RCOut w a me next L 0 1) := by
  obtain ⟨W1, HW1⟩ : ∃ W1, Hid ((w.alloc (.cells #[.int .i64 me, .int .i64 next, .slice a L.length cap] 29)).alloc (.cells #[.int .i64 0, .int .i64 0, .slice none 0 0] 29) = W1) := ⟨_, rfl⟩
  have HB1 : Hid (Below w.heap.size w W1) := by rw [← HW1.out]; exact bel_up (bel1 w _) (bel1 _ _) (Nat.le_refl _)
  obtain ⟨hr1, hr2⟩ : W1.heap[w.heap.size]? = some (.cells #[.int .i64 me, .int .i64 next, .slice a L.length cap] 29 (0, 0)) ∧ W1.heap[w.heap.size + 1]? = some (.cells #[.int .i64 0, .int .i64 0, .slice none 0 0] 29 (0, 0)) := by
    rw [← HW1.out]
    refine ⟨(Below.heap_alloc _ _ _ (by simp)).trans (heap_alloc_last w _), ?_⟩
    have := heap_alloc_last (w.alloc (.cells #[.int .i64 me, .int .i64 next, .slice a L.length cap] 29)) (.cells #[.int .i64 0, .int .i64 0, .slice none 0 0] 29)
    simpa using this
  have HROW : Hid (∀ W, Below W1.heap.size W1 W → W.heap[w.heap.size]? = some (.cells #[.int .i64 me, .int .i64 next, .slice a L.length cap] 29 (0, 0)) ∧ W.heap[w.heap.size + 1]? = some (.cells #[.int .i64 0, .int .i64 0, .slice none 0 0] 29 (0, 0)) ∧ Below w.heap.size w W) := fun W hW => ⟨(hW.block _ (Array.getElem?_eq_some_iff.1 hr1).1).trans hr1, (hW.block _ (Array.getElem?_eq_some_iff.1 hr2).1).trans hr2, bel_up HB1.out hW (Nat.le_refl _)⟩
  have HRN := Hid_of h
  have hn := h.n
  unfold maxLen at hs
  obtain ⟨⟨n0, n1, n2⟩, _⟩ := rw3 hr1
  clear h hr1 hr2 n0 n1 n2
  obtain ⟨r1, r2, rB⟩ := HROW.out W1 (Below.refl _ _)
  obtain ⟨j1, j2, j3, _⟩ := ref_lay (x := .int .i64 me) (v1 := .int .i64 next) (v2 := .slice a L.length cap) rB r2 (by omega)
  obtain ⟨⟨y0, y1, y2⟩, yf0, yf1, yf2⟩ := j1
  obtain ⟨⟨n0, n1, n2⟩, _⟩ := rw3 r1
  have HQ1 := Hid_of j2
  have HQ2 : Hid (RCOut w a me next L 0 1 (.returned (.tuple #[.agg #[.int .i64 me, .int .i64 next, .slice a L.length cap], .int .i64 0, .int .i64 1])) (put3 W1 (w.heap.size + 1) (.int .i64 me) (.int .i64 next) (.slice a L.length cap))) := ⟨a, cap, rfl, (HRN.out.keep j3).x, Lie.same _ _ _, j3⟩
  clear j2 j3 r1 r2 rB HROW HRN
  go_enter Try.func11, Try.ntmps11
  go_upto_region 1 with fail
  rw [HW1.out]
  go_wp2
  refine bodyPost_ret (v := .tuple #[.agg #[.int .i64 me, .int .i64 next, .slice a L.length cap], .int .i64 0, .int .i64 1]) ?_ rfl HQ2.out
  exact res4 f11_res _ _ (w.heap.size + 1) _ _ _ rfl HQ1.out
set_option maxRecDepth 100000 in
set_option maxHeartbeats 1000000 in
theorem rcall_hi {w : World} {a : Option Addr} {cap : Nat} {L : List K} (h : RN w a cap L) (me next x : Int) (s : ByteArray) (hs : s.size ≤ maxLen) (now : Int) (h0 : ¬ x < 0) (h1 : 63 < x) :
    Calls Try.prog 11 #[.agg #[.int .i64 me, .int .i64 next, .slice a L.length cap], .int .i64 x, .string s, .int .i64 now] w (RCOut w a me next L 0 1) := by
  obtain ⟨W1, HW1⟩ : ∃ W1, Hid ((w.alloc (.cells #[.int .i64 me, .int .i64 next, .slice a L.length cap] 29)).alloc (.cells #[.int .i64 0, .int .i64 0, .slice none 0 0] 29) = W1) := ⟨_, rfl⟩
  have HB1 : Hid (Below w.heap.size w W1) := by rw [← HW1.out]; exact bel_up (bel1 w _) (bel1 _ _) (Nat.le_refl _)
  obtain ⟨hr1, hr2⟩ : W1.heap[w.heap.size]? = some (.cells #[.int .i64 me, .int .i64 next, .slice a L.length cap] 29 (0, 0)) ∧ W1.heap[w.heap.size + 1]? = some (.cells #[.int .i64 0, .int .i64 0, .slice none 0 0] 29 (0, 0)) := by
    rw [← HW1.out]
    refine ⟨(Below.heap_alloc _ _ _ (by simp)).trans (heap_alloc_last w _), ?_⟩
    have := heap_alloc_last (w.alloc (.cells #[.int .i64 me, .int .i64 next, .slice a L.length cap] 29)) (.cells #[.int .i64 0, .int .i64 0, .slice none 0 0] 29)
    simpa using this
  have HROW : Hid (∀ W, Below W1.heap.size W1 W → W.heap[w.heap.size]? = some (.cells #[.int .i64 me, .int .i64 next, .slice a L.length cap] 29 (0, 0)) ∧ W.heap[w.heap.size + 1]? = some (.cells #[.int .i64 0, .int .i64 0, .slice none 0 0] 29 (0, 0)) ∧ Below w.heap.size w W) := fun W hW => ⟨(hW.block _ (Array.getElem?_eq_some_iff.1 hr1).1).trans hr1, (hW.block _ (Array.getElem?_eq_some_iff.1 hr2).1).trans hr2, bel_up HB1.out hW (Nat.le_refl _)⟩
  have HRN := Hid_of h
  have hn := h.n
  unfold maxLen at hs
  obtain ⟨⟨n0, n1, n2⟩, _⟩ := rw3 hr1
  clear h hr1 hr2 n0 n1 n2
  obtain ⟨r1, r2, rB⟩ := HROW.out W1 (Below.refl _ _)
  obtain ⟨j1, j2, j3, _⟩ := ref_lay (x := .int .i64 me) (v1 := .int .i64 next) (v2 := .slice a L.length cap) rB r2 (by omega)
  obtain ⟨⟨y0, y1, y2⟩, yf0, yf1, yf2⟩ := j1
  obtain ⟨⟨n0, n1, n2⟩, _⟩ := rw3 r1
  have HQ1 := Hid_of j2
  have HQ2 : Hid (RCOut w a me next L 0 1 (.returned (.tuple #[.agg #[.int .i64 me, .int .i64 next, .slice a L.length cap], .int .i64 0, .int .i64 1])) (put3 W1 (w.heap.size + 1) (.int .i64 me) (.int .i64 next) (.slice a L.length cap))) := ⟨a, cap, rfl, (HRN.out.keep j3).x, Lie.same _ _ _, j3⟩
  clear j2 j3 r1 r2 rB HROW HRN
  go_enter Try.func11, Try.ntmps11
  go_upto_region 1 with fail
  rw [HW1.out]
  go_wp2
  refine bodyPost_ret (v := .tuple #[.agg #[.int .i64 me, .int .i64 next, .slice a L.length cap], .int .i64 0, .int .i64 1]) ?_ rfl HQ2.out
  exact res4 f11_res _ _ (w.heap.size + 1) _ _ _ rfl HQ1.out
set_option maxRecDepth 100000 in
set_option maxHeartbeats 1000000 in
theorem rcall_mo {w : World} {a : Option Addr} {cap : Nat} {L : List K} (h : RN w a cap L) (me next x : Int) (s : ByteArray) (hs : s.size ≤ maxLen) (now : Int) (h0 : ¬ x < 0) (h1 : ¬ 63 < x) (h2 : Cl.moment now = false) :
    Calls Try.prog 11 #[.agg #[.int .i64 me, .int .i64 next, .slice a L.length cap], .int .i64 x, .string s, .int .i64 now] w (RCOut w a me next L 0 1) := by
  obtain ⟨W1, HW1⟩ : ∃ W1, Hid ((w.alloc (.cells #[.int .i64 me, .int .i64 next, .slice a L.length cap] 29)).alloc (.cells #[.int .i64 0, .int .i64 0, .slice none 0 0] 29) = W1) := ⟨_, rfl⟩
  have HB1 : Hid (Below w.heap.size w W1) := by rw [← HW1.out]; exact bel_up (bel1 w _) (bel1 _ _) (Nat.le_refl _)
  obtain ⟨hr1, hr2⟩ : W1.heap[w.heap.size]? = some (.cells #[.int .i64 me, .int .i64 next, .slice a L.length cap] 29 (0, 0)) ∧ W1.heap[w.heap.size + 1]? = some (.cells #[.int .i64 0, .int .i64 0, .slice none 0 0] 29 (0, 0)) := by
    rw [← HW1.out]
    refine ⟨(Below.heap_alloc _ _ _ (by simp)).trans (heap_alloc_last w _), ?_⟩
    have := heap_alloc_last (w.alloc (.cells #[.int .i64 me, .int .i64 next, .slice a L.length cap] 29)) (.cells #[.int .i64 0, .int .i64 0, .slice none 0 0] 29)
    simpa using this
  have HROW : Hid (∀ W, Below W1.heap.size W1 W → W.heap[w.heap.size]? = some (.cells #[.int .i64 me, .int .i64 next, .slice a L.length cap] 29 (0, 0)) ∧ W.heap[w.heap.size + 1]? = some (.cells #[.int .i64 0, .int .i64 0, .slice none 0 0] 29 (0, 0)) ∧ Below w.heap.size w W) := fun W hW => ⟨(hW.block _ (Array.getElem?_eq_some_iff.1 hr1).1).trans hr1, (hW.block _ (Array.getElem?_eq_some_iff.1 hr2).1).trans hr2, bel_up HB1.out hW (Nat.le_refl _)⟩
  have HRN := Hid_of h
  have hn := h.n
  unfold maxLen at hs
  obtain ⟨⟨n0, n1, n2⟩, _⟩ := rw3 hr1
  have hm := rmoment_any now
  rw [h2] at hm
  clear h hr1 hr2 n0 n1 n2
  obtain ⟨r1, r2, rB⟩ := HROW.out W1 (Below.refl _ _)
  obtain ⟨j1, j2, j3, _⟩ := ref_lay (x := .int .i64 me) (v1 := .int .i64 next) (v2 := .slice a L.length cap) rB r2 (by omega)
  obtain ⟨⟨y0, y1, y2⟩, yf0, yf1, yf2⟩ := j1
  obtain ⟨⟨n0, n1, n2⟩, _⟩ := rw3 r1
  have HQ1 := Hid_of j2
  have HQ2 : Hid (RCOut w a me next L 0 1 (.returned (.tuple #[.agg #[.int .i64 me, .int .i64 next, .slice a L.length cap], .int .i64 0, .int .i64 1])) (put3 W1 (w.heap.size + 1) (.int .i64 me) (.int .i64 next) (.slice a L.length cap))) := ⟨a, cap, rfl, (HRN.out.keep j3).x, Lie.same _ _ _, j3⟩
  clear j2 j3 r1 r2 rB HROW HRN
  go_enter Try.func11, Try.ntmps11
  go_upto_region 1 with fail
  rw [HW1.out]
  go_wp2_with fail
  refine (hm _).mono ?_
  rintro e w0 ⟨rfl, rfl⟩
  go_wp2
  refine bodyPost_ret (v := .tuple #[.agg #[.int .i64 me, .int .i64 next, .slice a L.length cap], .int .i64 0, .int .i64 1]) ?_ rfl HQ2.out
  exact res4 f11_res _ _ (w.heap.size + 1) _ _ _ rfl HQ1.out
set_option maxRecDepth 100000 in
set_option maxHeartbeats 1000000 in
theorem rcall_sz {w : World} {a : Option Addr} {cap : Nat} {L : List K} (h : RN w a cap L) (me next x : Int) (s : ByteArray) (hs : s.size ≤ maxLen) (now : Int) (h0 : ¬ x < 0) (h1 : ¬ 63 < x) (h2 : Cl.moment now = true) (h3 : 4096 < s.size) :
    Calls Try.prog 11 #[.agg #[.int .i64 me, .int .i64 next, .slice a L.length cap], .int .i64 x, .string s, .int .i64 now] w (RCOut w a me next L 0 2) := by
  obtain ⟨W1, HW1⟩ : ∃ W1, Hid ((w.alloc (.cells #[.int .i64 me, .int .i64 next, .slice a L.length cap] 29)).alloc (.cells #[.int .i64 0, .int .i64 0, .slice none 0 0] 29) = W1) := ⟨_, rfl⟩
  have HB1 : Hid (Below w.heap.size w W1) := by rw [← HW1.out]; exact bel_up (bel1 w _) (bel1 _ _) (Nat.le_refl _)
  obtain ⟨hr1, hr2⟩ : W1.heap[w.heap.size]? = some (.cells #[.int .i64 me, .int .i64 next, .slice a L.length cap] 29 (0, 0)) ∧ W1.heap[w.heap.size + 1]? = some (.cells #[.int .i64 0, .int .i64 0, .slice none 0 0] 29 (0, 0)) := by
    rw [← HW1.out]
    refine ⟨(Below.heap_alloc _ _ _ (by simp)).trans (heap_alloc_last w _), ?_⟩
    have := heap_alloc_last (w.alloc (.cells #[.int .i64 me, .int .i64 next, .slice a L.length cap] 29)) (.cells #[.int .i64 0, .int .i64 0, .slice none 0 0] 29)
    simpa using this
  have HROW : Hid (∀ W, Below W1.heap.size W1 W → W.heap[w.heap.size]? = some (.cells #[.int .i64 me, .int .i64 next, .slice a L.length cap] 29 (0, 0)) ∧ W.heap[w.heap.size + 1]? = some (.cells #[.int .i64 0, .int .i64 0, .slice none 0 0] 29 (0, 0)) ∧ Below w.heap.size w W) := fun W hW => ⟨(hW.block _ (Array.getElem?_eq_some_iff.1 hr1).1).trans hr1, (hW.block _ (Array.getElem?_eq_some_iff.1 hr2).1).trans hr2, bel_up HB1.out hW (Nat.le_refl _)⟩
  have HRN := Hid_of h
  have hn := h.n
  unfold maxLen at hs
  obtain ⟨⟨n0, n1, n2⟩, _⟩ := rw3 hr1
  have hm := rmoment_any now
  rw [h2] at hm
  have d3 : decide ((4096 : Int) < (s.size : Int)) = true := decide_eq_true (by omega)
  clear h2 h3
  clear h hr1 hr2 n0 n1 n2
  obtain ⟨r1, r2, rB⟩ := HROW.out W1 (Below.refl _ _)
  obtain ⟨j1, j2, j3, _⟩ := ref_lay (x := .int .i64 me) (v1 := .int .i64 next) (v2 := .slice a L.length cap) rB r2 (by omega)
  obtain ⟨⟨y0, y1, y2⟩, yf0, yf1, yf2⟩ := j1
  obtain ⟨⟨n0, n1, n2⟩, _⟩ := rw3 r1
  have HQ1 := Hid_of j2
  have HQ2 : Hid (RCOut w a me next L 0 2 (.returned (.tuple #[.agg #[.int .i64 me, .int .i64 next, .slice a L.length cap], .int .i64 0, .int .i64 2])) (put3 W1 (w.heap.size + 1) (.int .i64 me) (.int .i64 next) (.slice a L.length cap))) := ⟨a, cap, rfl, (HRN.out.keep j3).x, Lie.same _ _ _, j3⟩
  clear j2 j3 r1 r2 rB HROW HRN
  go_enter Try.func11, Try.ntmps11
  go_upto_region 1 with fail
  rw [HW1.out]
  go_wp2_with fail
  refine (hm _).mono ?_
  rintro e w0 ⟨rfl, rfl⟩
  go_wp2
  refine bodyPost_ret (v := .tuple #[.agg #[.int .i64 me, .int .i64 next, .slice a L.length cap], .int .i64 0, .int .i64 2]) ?_ rfl HQ2.out
  exact res4 f11_res _ _ (w.heap.size + 1) _ _ _ rfl HQ1.out
set_option maxRecDepth 100000 in
set_option maxHeartbeats 1000000 in
theorem rcall_fu {w : World} {a : Option Addr} {cap : Nat} {L : List K} (h : RN w a cap L) (me next x : Int) (s : ByteArray) (hs : s.size ≤ maxLen) (now : Int) (h0 : ¬ x < 0) (h1 : ¬ 63 < x) (h2 : Cl.moment now = true) (h3 : ¬ 4096 < s.size) (h4 : 64 ≤ (Cl.nums L).length) :
    Calls Try.prog 11 #[.agg #[.int .i64 me, .int .i64 next, .slice a L.length cap], .int .i64 x, .string s, .int .i64 now] w (RCOut w a me next L 0 5) := by
  obtain ⟨W1, HW1⟩ : ∃ W1, Hid ((w.alloc (.cells #[.int .i64 me, .int .i64 next, .slice a L.length cap] 29)).alloc (.cells #[.int .i64 0, .int .i64 0, .slice none 0 0] 29) = W1) := ⟨_, rfl⟩
  have HB1 : Hid (Below w.heap.size w W1) := by rw [← HW1.out]; exact bel_up (bel1 w _) (bel1 _ _) (Nat.le_refl _)
  obtain ⟨hr1, hr2⟩ : W1.heap[w.heap.size]? = some (.cells #[.int .i64 me, .int .i64 next, .slice a L.length cap] 29 (0, 0)) ∧ W1.heap[w.heap.size + 1]? = some (.cells #[.int .i64 0, .int .i64 0, .slice none 0 0] 29 (0, 0)) := by
    rw [← HW1.out]
    refine ⟨(Below.heap_alloc _ _ _ (by simp)).trans (heap_alloc_last w _), ?_⟩
    have := heap_alloc_last (w.alloc (.cells #[.int .i64 me, .int .i64 next, .slice a L.length cap] 29)) (.cells #[.int .i64 0, .int .i64 0, .slice none 0 0] 29)
    simpa using this
  have HROW : Hid (∀ W, Below W1.heap.size W1 W → W.heap[w.heap.size]? = some (.cells #[.int .i64 me, .int .i64 next, .slice a L.length cap] 29 (0, 0)) ∧ W.heap[w.heap.size + 1]? = some (.cells #[.int .i64 0, .int .i64 0, .slice none 0 0] 29 (0, 0)) ∧ Below w.heap.size w W) := fun W hW => ⟨(hW.block _ (Array.getElem?_eq_some_iff.1 hr1).1).trans hr1, (hW.block _ (Array.getElem?_eq_some_iff.1 hr2).1).trans hr2, bel_up HB1.out hW (Nat.le_refl _)⟩
  have HRN := Hid_of h
  have hn := h.n
  unfold maxLen at hs
  obtain ⟨⟨n0, n1, n2⟩, _⟩ := rw3 hr1
  have hm := rmoment_any now
  rw [h2] at hm
  have d3 : decide ((4096 : Int) < (s.size : Int)) = false := decide_eq_false (by omega)
  have d4 : decide ((64 : Int) ≤ ((Cl.nums L).length : Int)) = true := decide_eq_true (by omega)
  clear h2 h3 h4
  have hop := ropen_any (h.keep HB1.out) me next
  clear h hr1 hr2
  go_enter Try.func11, Try.ntmps11
  go_upto_region 1 with fail
  rw [HW1.out]
  go_wp2_with fail
  refine (hm _).mono ?_
  rintro e w0 ⟨rfl, rfl⟩
  go_wp2_with fail
  refine hop.mono ?_
  rintro e w2 ⟨a2, cap2, rfl, _, _, hb2⟩
  have hb2x := hb2
  clear hb2 hop
  obtain ⟨r1, r2, rB⟩ := HROW.out w2 hb2x
  obtain ⟨j1, j2, j3, _⟩ := ref_lay (x := .int .i64 me) (v1 := .int .i64 next) (v2 := .slice a L.length cap) rB r2 (by omega)
  obtain ⟨⟨y0, y1, y2⟩, yf0, yf1, yf2⟩ := j1
  obtain ⟨⟨n0, n1, n2⟩, _⟩ := rw3 r1
  have HQ1 := Hid_of j2
  have HQ2 : Hid (RCOut w a me next L 0 5 (.returned (.tuple #[.agg #[.int .i64 me, .int .i64 next, .slice a L.length cap], .int .i64 0, .int .i64 5])) (put3 w2 (w.heap.size + 1) (.int .i64 me) (.int .i64 next) (.slice a L.length cap))) := ⟨a, cap, rfl, (HRN.out.keep j3).x, Lie.same _ _ _, j3⟩
  clear hb2x j2 j3 r1 r2 rB HROW HRN
  generalize (Cl.nums L).length = nl at *
  go_wp2
  refine bodyPost_ret (v := .tuple #[.agg #[.int .i64 me, .int .i64 next, .slice a L.length cap], .int .i64 0, .int .i64 5]) ?_ rfl HQ2.out
  exact res4 f11_res _ _ (w.heap.size + 1) _ _ _ rfl HQ1.out
set_option maxRecDepth 100000 in
set_option maxHeartbeats 1000000 in
theorem rcall_en {w : World} {a : Option Addr} {cap : Nat} {L : List K} (h : RN w a cap L) (me next x : Int) (s : ByteArray) (hs : s.size ≤ maxLen) (now : Int) (h0 : ¬ x < 0) (h1 : ¬ 63 < x) (h2 : Cl.moment now = true) (h3 : ¬ 4096 < s.size) (h4 : ¬ 64 ≤ (Cl.nums L).length) (h5 : 2147483647 ≤ next) :
    Calls Try.prog 11 #[.agg #[.int .i64 me, .int .i64 next, .slice a L.length cap], .int .i64 x, .string s, .int .i64 now] w (RCOut w a me next L 0 5) := by
  obtain ⟨W1, HW1⟩ : ∃ W1, Hid ((w.alloc (.cells #[.int .i64 me, .int .i64 next, .slice a L.length cap] 29)).alloc (.cells #[.int .i64 0, .int .i64 0, .slice none 0 0] 29) = W1) := ⟨_, rfl⟩
  have HB1 : Hid (Below w.heap.size w W1) := by rw [← HW1.out]; exact bel_up (bel1 w _) (bel1 _ _) (Nat.le_refl _)
  obtain ⟨hr1, hr2⟩ : W1.heap[w.heap.size]? = some (.cells #[.int .i64 me, .int .i64 next, .slice a L.length cap] 29 (0, 0)) ∧ W1.heap[w.heap.size + 1]? = some (.cells #[.int .i64 0, .int .i64 0, .slice none 0 0] 29 (0, 0)) := by
    rw [← HW1.out]
    refine ⟨(Below.heap_alloc _ _ _ (by simp)).trans (heap_alloc_last w _), ?_⟩
    have := heap_alloc_last (w.alloc (.cells #[.int .i64 me, .int .i64 next, .slice a L.length cap] 29)) (.cells #[.int .i64 0, .int .i64 0, .slice none 0 0] 29)
    simpa using this
  have HROW : Hid (∀ W, Below W1.heap.size W1 W → W.heap[w.heap.size]? = some (.cells #[.int .i64 me, .int .i64 next, .slice a L.length cap] 29 (0, 0)) ∧ W.heap[w.heap.size + 1]? = some (.cells #[.int .i64 0, .int .i64 0, .slice none 0 0] 29 (0, 0)) ∧ Below w.heap.size w W) := fun W hW => ⟨(hW.block _ (Array.getElem?_eq_some_iff.1 hr1).1).trans hr1, (hW.block _ (Array.getElem?_eq_some_iff.1 hr2).1).trans hr2, bel_up HB1.out hW (Nat.le_refl _)⟩
  have HRN := Hid_of h
  have hn := h.n
  unfold maxLen at hs
  obtain ⟨⟨n0, n1, n2⟩, _⟩ := rw3 hr1
  have hm := rmoment_any now
  rw [h2] at hm
  have d3 : decide ((4096 : Int) < (s.size : Int)) = false := decide_eq_false (by omega)
  have d4 : decide ((64 : Int) ≤ ((Cl.nums L).length : Int)) = false := decide_eq_false (by omega)
  clear h2 h3 h4
  have hop := ropen_any (h.keep HB1.out) me next
  clear h hr1 hr2
  go_enter Try.func11, Try.ntmps11
  go_upto_region 1 with fail
  rw [HW1.out]
  go_wp2_with fail
  refine (hm _).mono ?_
  rintro e w0 ⟨rfl, rfl⟩
  go_wp2_with fail
  refine hop.mono ?_
  rintro e w2 ⟨a2, cap2, rfl, _, _, hb2⟩
  have hb2x := hb2
  clear hb2 hop
  obtain ⟨r1, r2, rB⟩ := HROW.out w2 hb2x
  obtain ⟨j1, j2, j3, _⟩ := ref_lay (x := .int .i64 me) (v1 := .int .i64 next) (v2 := .slice a L.length cap) rB r2 (by omega)
  obtain ⟨⟨y0, y1, y2⟩, yf0, yf1, yf2⟩ := j1
  obtain ⟨⟨n0, n1, n2⟩, _⟩ := rw3 r1
  have HQ1 := Hid_of j2
  have HQ2 : Hid (RCOut w a me next L 0 5 (.returned (.tuple #[.agg #[.int .i64 me, .int .i64 next, .slice a L.length cap], .int .i64 0, .int .i64 5])) (put3 w2 (w.heap.size + 1) (.int .i64 me) (.int .i64 next) (.slice a L.length cap))) := ⟨a, cap, rfl, (HRN.out.keep j3).x, Lie.same _ _ _, j3⟩
  clear hb2x j2 j3 r1 r2 rB HROW HRN
  generalize (Cl.nums L).length = nl at *
  go_wp2
  refine bodyPost_ret (v := .tuple #[.agg #[.int .i64 me, .int .i64 next, .slice a L.length cap], .int .i64 0, .int .i64 5]) ?_ rfl HQ2.out
  exact res4 f11_res _ _ (w.heap.size + 1) _ _ _ rfl HQ1.out
set_option maxRecDepth 100000 in
set_option maxHeartbeats 2000000 in
theorem rcall_ok {w : World} {a : Option Addr} {cap : Nat} {L : List K} (h : RN w a cap L) (me next x : Int) (s : ByteArray) (hs : s.size ≤ maxLen) (now : Int) (h0 : ¬ x < 0) (h1 : ¬ 63 < x) (h2 : Cl.moment now = true) (h3 : ¬ 4096 < s.size) (h4 : ¬ 64 ≤ (Cl.nums L).length) (h5 : ¬ 2147483647 ≤ next) (h6 : 0 ≤ next) :
    Calls Try.prog 11 #[.agg #[.int .i64 me, .int .i64 next, .slice a L.length cap], .int .i64 x, .string s, .int .i64 now] w (RCOut w a me (next + 1) (L ++ [(Cl.newK next x now s)]) next 0) := by
  obtain ⟨W1, HW1⟩ : ∃ W1, Hid ((w.alloc (.cells #[.int .i64 me, .int .i64 next, .slice a L.length cap] 29)).alloc (.cells #[.int .i64 0, .int .i64 0, .slice none 0 0] 29) = W1) := ⟨_, rfl⟩
  have HB1 : Hid (Below w.heap.size w W1) := by rw [← HW1.out]; exact bel_up (bel1 w _) (bel1 _ _) (Nat.le_refl _)
  obtain ⟨hr1, hr2⟩ : W1.heap[w.heap.size]? = some (.cells #[.int .i64 me, .int .i64 next, .slice a L.length cap] 29 (0, 0)) ∧ W1.heap[w.heap.size + 1]? = some (.cells #[.int .i64 0, .int .i64 0, .slice none 0 0] 29 (0, 0)) := by
    rw [← HW1.out]
    refine ⟨(Below.heap_alloc _ _ _ (by simp)).trans (heap_alloc_last w _), ?_⟩
    have := heap_alloc_last (w.alloc (.cells #[.int .i64 me, .int .i64 next, .slice a L.length cap] 29)) (.cells #[.int .i64 0, .int .i64 0, .slice none 0 0] 29)
    simpa using this
  have HROW : Hid (∀ W, Below W1.heap.size W1 W → W.heap[w.heap.size]? = some (.cells #[.int .i64 me, .int .i64 next, .slice a L.length cap] 29 (0, 0)) ∧ W.heap[w.heap.size + 1]? = some (.cells #[.int .i64 0, .int .i64 0, .slice none 0 0] 29 (0, 0)) ∧ Below w.heap.size w W) := fun W hW => ⟨(hW.block _ (Array.getElem?_eq_some_iff.1 hr1).1).trans hr1, (hW.block _ (Array.getElem?_eq_some_iff.1 hr2).1).trans hr2, bel_up HB1.out hW (Nat.le_refl _)⟩
  have HRN := Hid_of h
  have hn := h.n
  unfold maxLen at hs
  obtain ⟨⟨n0, n1, n2⟩, _⟩ := rw3 hr1
  have hm := rmoment_any now
  rw [h2] at hm
  have d3 : decide ((4096 : Int) < (s.size : Int)) = false := decide_eq_false (by omega)
  have d4 : decide ((64 : Int) ≤ ((Cl.nums L).length : Int)) = false := decide_eq_false (by omega)
  have hop := ropen_any (h.keep HB1.out) me next
  have hadd : IntKind.i64.wrap (next + 1) = next + 1 := by rw [IntKind.wrap_i64]; omega
  have hsub : IntKind.i64.wrap next = next := by rw [IntKind.wrap_i64]; omega
  clear h hr1 hr2 h2 h3 h4
  go_enter Try.func11, Try.ntmps11
  go_upto_region 1 with fail
  rw [HW1.out]
  go_wp2_with fail
  refine (hm _).mono ?_
  rintro e w0 ⟨rfl, rfl⟩
  go_wp2_with fail
  refine hop.mono ?_
  rintro e w2 ⟨a2, cap2, rfl, _, _, hb2⟩
  have hb2x := hb2
  clear hb2 hop
  obtain ⟨r1, r2, rB⟩ := HROW.out w2 hb2x
  have hrn := HRN.out.keep rB
  have HM := Hid_of (And.intro r1 (And.intro r2 rB))
  clear HROW HRN hb2x n0 n1 n2
  obtain ⟨⟨n0, n1, n2⟩, _⟩ := rw3 r1
  generalize (Cl.nums L).length = nl at *
  go_upto_region 7 with fail
  obtain ⟨wd, hwd⟩ : ∃ wd, w2.drew = wd := ⟨_, rfl⟩
  have bd : Below w2.heap.size w2 wd := by rw [← hwd]; exact (Below.refl _ _).drew
  have hsd : wd.heap.size = w2.heap.size := by rw [← hwd]; rfl
  have hrd := hrn.keep bd
  obtain ⟨va, ca, wa, runA1, oA, bA⟩ := run_copyL tiK wd 27 a cap L hrd.x (by omega)
  obtain ⟨vb, cb, wb, runB1, oB, bB⟩ := run_copyL tiK (wd.alloc (.cells #[.int .i64 next, .int .i64 x, .int .i64 1, .int .i64 0, .int .i64 now, .string s, .string ⟨#[]⟩] 68)) 27 a cap L (hrd.keep (bel1 wd _)).x (by omega)
  have bA' : Below w2.heap.size w2 wa := bel_up bd bA (Nat.le_refl _)
  have bBb : Below w2.heap.size w2 (wd.alloc (.cells #[.int .i64 next, .int .i64 x, .int .i64 1, .int .i64 0, .int .i64 now, .string s, .string ⟨#[]⟩] 68)) := bel_up bd (bel1 wd _) (Nat.le_refl _)
  have bB' : Below w2.heap.size w2 wb := bel_up bBb bB (Nat.le_refl _)
  have honeB : wb.heap[wd.heap.size]? = some (.cells #[.int .i64 next, .int .i64 x, .int .i64 1, .int .i64 0, .int .i64 now, .string s, .string ⟨#[]⟩] 68 (0, 0)) := (bB.block wd.heap.size (by simp)).trans (heap_alloc_last wd _)
  obtain ⟨va2, ca2, wa2, runA2, oA2, rA2⟩ := run_appL tiK (wa.alloc (.cells #[.int .i64 next, .int .i64 x, .int .i64 1, .int .i64 0, .int .i64 now, .string s, .string ⟨#[]⟩] 68)) 27 w2.heap.size (.slice va L.length ca) L [(Cl.newK next x now s)] wa.heap.size 0 1 1 ((oA.keep (bel1 wa _)).low (by omega)) (atL_one (Y := kl) (t := 68) (heap_alloc_last wa _)) rfl (by have := bA'.size; simp; omega) (by simp; omega)
  obtain ⟨vb2, cb2, wb2, runB2, oB2, rB2⟩ := run_appL tiK wb 27 w2.heap.size (.slice vb L.length cb) L [(Cl.newK next x now s)] wd.heap.size 0 1 1 (oB.low (by simp; omega)) (atL_one (Y := kl) (t := 68) honeB) rfl bB'.size (by simp; omega)
  have bA2 : Below w2.heap.size w2 wa2 := Below.trans (bel_up bA' (bel1 wa (.cells #[.int .i64 next, .int .i64 x, .int .i64 1, .int .i64 0, .int .i64 now, .string s, .string ⟨#[]⟩] 68)) (Nat.le_refl _)) (rA2.below (fun k hk => by have := (oA.lt hk).1; omega) (by have := bA'.size; simp; omega))
  have bB2 : Below w2.heap.size w2 wb2 := Below.trans bB' (rB2.below (fun k hk => by have := (oB.lt hk).1; simp at this; omega) bB'.size)
  replace runA2 : (Builtin.append_ #[27, 27] 27 #[.slice va L.length ca, .slice (some ⟨wa.heap.size, 0, none⟩) 1 1]).run Try.prog (wa.alloc (.cells #[.int .i64 next, .int .i64 x, .int .i64 1, .int .i64 0, .int .i64 now, .string s, .string ⟨#[]⟩] 68)) = .ok (.slice va2 (L.length + 1) ca2) wa2 := runA2
  replace runB2 : (Builtin.append_ #[27, 27] 27 #[.slice vb L.length cb, .slice (some ⟨wd.heap.size, 0, none⟩) 1 1]).run Try.prog wb = .ok (.slice vb2 (L.length + 1) cb2) wb2 := runB2
  have HFIN : Hid (∀ (a' : Option Addr) (c' : Nat) (w5 : World), OwnL kl 68 w5 w2.heap.size (.slice a' (L.length + 1) c') (L ++ [(Cl.newK next x now s)]) → Below w2.heap.size w2 w5 →
      (w5.cell? ⟨w.heap.size, 2, none⟩ = some (.slice a L.length cap) ∧ w5.frozen? ⟨w.heap.size, 2, none⟩ = false ∧ w5.cell? ⟨w.heap.size, 1, none⟩ = some (.int .i64 next)) ∧ ∃ W6, w5.setCell ⟨w.heap.size, 2, none⟩ (.slice a' (L.length + 1) c') = W6 ∧ (W6.cell? ⟨w.heap.size, 1, none⟩ = some (.int .i64 next) ∧ W6.frozen? ⟨w.heap.size, 1, none⟩ = false) ∧ ∃ W7, W6.setCell ⟨w.heap.size, 1, none⟩ (.int .i64 (next + 1)) = W7 ∧
      (W7.cell? ⟨w.heap.size, 0, none⟩ = some (.int .i64 me) ∧ W7.cell? ⟨w.heap.size, 1, none⟩ = some (.int .i64 (next + 1)) ∧ W7.cell? ⟨w.heap.size, 2, none⟩ = some (.slice a' (L.length + 1) c')) ∧ ((W7.cell? ⟨w.heap.size + 1, 0, none⟩ = some (.int .i64 0) ∧ W7.cell? ⟨w.heap.size + 1, 1, none⟩ = some (.int .i64 0) ∧ W7.cell? ⟨w.heap.size + 1, 2, none⟩ = some (.slice none 0 0)) ∧ (W7.frozen? ⟨w.heap.size + 1, 0, none⟩ = false ∧ W7.frozen? ⟨w.heap.size + 1, 1, none⟩ = false ∧ W7.frozen? ⟨w.heap.size + 1, 2, none⟩ = false)) ∧
      ((put3 W7 (w.heap.size + 1) (.int .i64 me) (.int .i64 (next + 1)) (.slice a' (L.length + 1) c')).drew.heap[w.heap.size + 1]? = some (.cells #[.int .i64 me, .int .i64 (next + 1), .slice a' (L.length + 1) c'] 29 (0, 0)) ∧ RCOut w a me (next + 1) (L ++ [(Cl.newK next x now s)]) next 0 (.returned (.tuple #[.agg #[.int .i64 me, .int .i64 (next + 1), .slice a' (L.length + 1) c'], .int .i64 next, .int .i64 0])) (put3 W7 (w.heap.size + 1) (.int .i64 me) (.int .i64 (next + 1)) (.slice a' (L.length + 1) c')).drew ∧
      ((put3 W7 (w.heap.size + 1) (.int .i64 me) (.int .i64 (next + 1)) (.slice a' (L.length + 1) c')).drew.cell? ⟨w.heap.size, 0, none⟩ = some (.int .i64 me) ∧ (put3 W7 (w.heap.size + 1) (.int .i64 me) (.int .i64 (next + 1)) (.slice a' (L.length + 1) c')).drew.cell? ⟨w.heap.size, 1, none⟩ = some (.int .i64 (next + 1)) ∧ (put3 W7 (w.heap.size + 1) (.int .i64 me) (.int .i64 (next + 1)) (.slice a' (L.length + 1) c')).drew.cell? ⟨w.heap.size, 2, none⟩ = some (.slice a' (L.length + 1) c')))) := by
    intro a' c' w5 ho hb5
    obtain ⟨q1, q2, qB⟩ := HM.out
    have p1 : w5.heap[w.heap.size]? = some (.cells #[.int .i64 me, .int .i64 next, .slice a L.length cap] 29 (0, 0)) := (hb5.block _ (Array.getElem?_eq_some_iff.1 q1).1).trans q1
    have p2 : w5.heap[w.heap.size + 1]? = some (.cells #[.int .i64 0, .int .i64 0, .slice none 0 0] 29 (0, 0)) := (hb5.block _ (Array.getElem?_eq_some_iff.1 q2).1).trans q2
    have hl2 := (Array.getElem?_eq_some_iff.1 q2).1
    obtain ⟨⟨x0, x1, x2⟩, xf⟩ := rw3 p1
    obtain ⟨W6, hW6⟩ : ∃ W6, w5.setCell ⟨w.heap.size, 2, none⟩ (.slice a' (L.length + 1) c') = W6 := ⟨_, rfl⟩
    have p6 : W6.heap[w.heap.size]? = some (.cells #[.int .i64 me, .int .i64 next, .slice a' (L.length + 1) c'] 29 (0, 0)) := by rw [← hW6]; exact heap_setCell_same w5 _ 2 _ _ _ p1
    have o6 : ∀ k, k ≠ w.heap.size → W6.heap[k]? = w5.heap[k]? := fun k hk => by rw [← hW6]; exact heap_setCell_other w5 ⟨w.heap.size, 2, none⟩ k _ hk
    obtain ⟨⟨y0, y1, y2⟩, yf⟩ := rw3 p6
    obtain ⟨W7, hW7⟩ : ∃ W7, W6.setCell ⟨w.heap.size, 1, none⟩ (.int .i64 (next + 1)) = W7 := ⟨_, rfl⟩
    have p7 : W7.heap[w.heap.size]? = some (.cells #[.int .i64 me, .int .i64 (next + 1), .slice a' (L.length + 1) c'] 29 (0, 0)) := by rw [← hW7]; exact heap_setCell_same W6 _ 1 _ _ _ p6
    have o7 : ∀ k, k ≠ w.heap.size → W7.heap[k]? = w5.heap[k]? := fun k hk => by rw [← hW7]; exact (heap_setCell_other W6 ⟨w.heap.size, 1, none⟩ k _ hk).trans (o6 k hk)
    have b7 : Below w.heap.size w W7 := by rw [← hW7, ← hW6]; exact ((bel_up qB hb5 (Nat.le_refl _)).setCell (p := ⟨w.heap.size, 2, none⟩) (Nat.le_refl _) _).setCell (p := ⟨w.heap.size, 1, none⟩) (Nat.le_refl _) _
    have r7 : W7.heap[w.heap.size + 1]? = some (.cells #[.int .i64 0, .int .i64 0, .slice none 0 0] 29 (0, 0)) := (o7 _ (by omega)).trans p2
    obtain ⟨⟨k1, k2⟩, j2, j3, j4⟩ := ref_lay (w2 := W7) (x := .int .i64 me) (v1 := .int .i64 (next + 1)) (v2 := .slice a' (L.length + 1) c') b7 r7 (by omega)
    have p8 : (put3 W7 (w.heap.size + 1) (.int .i64 me) (.int .i64 (next + 1)) (.slice a' (L.length + 1) c')).drew.heap[w.heap.size]? = some (.cells #[.int .i64 me, .int .i64 (next + 1), .slice a' (L.length + 1) c'] 29 (0, 0)) := (j4 _ (by omega)).trans p7
    have ho8 := ho.keepBut (w1 := (put3 W7 (w.heap.size + 1) (.int .i64 me) (.int .i64 (next + 1)) (.slice a' (L.length + 1) c')).drew) fun k hk hu => by
      have := (ho.lt hu).1
      exact (j4 k (by omega)).trans (o7 k (by omega))
    obtain ⟨a8, c8, hv8, hx8, hbl8⟩ := ho8.at
    rw [List.length_append, List.length_singleton] at hv8
    cases hv8
    refine ⟨⟨x2, xf 2, x1⟩, W6, hW6, ⟨y1, yf 1⟩, W7, hW7, (rw3 p7).1, ⟨k1, k2⟩, j2, ⟨a', c', by rw [List.length_append]; rfl, hx8, ⟨fun k hk => .inr ?_⟩, j3.drew⟩, (rw3 p8).1⟩
    obtain ⟨t1, t2, t3⟩ := hbl8 k hk
    exact ⟨by omega, t3⟩
  have kA := HFIN.out va2 ca2 wa2 oA2 bA2
  have kB := HFIN.out vb2 cb2 wb2 oB2 bB2
  obtain ⟨⟨xA1, xA2, xA0⟩, WA6, hWA6, ⟨xA3, xA4⟩, WA7, hWA7, cA, ⟨zA, fA⟩, lA, QA, sA⟩ := kA
  obtain ⟨⟨xB1, xB2, xB0⟩, WB6, hWB6, ⟨xB3, xB4⟩, WB7, hWB7, cB, ⟨zB, fB⟩, lB, QB, sB⟩ := kB
  have HWA6 := Hid_of hWA6
  have HWB6 := Hid_of hWB6
  have HWA7 := Hid_of hWA7
  have HWB7 := Hid_of hWB7
  have HlA := Hid_of lA
  have HlB := Hid_of lB
  have HQA := Hid_of QA
  have HQB := Hid_of QB
  have HsA := Hid_of sA
  have HsB := Hid_of sB
  have ncell : ∀ W, Below w2.heap.size w2 W → W.cell? ⟨w.heap.size, 1, none⟩ = some (.int .i64 next) ∧ W.cell? ⟨w.heap.size, 2, none⟩ = some (.slice a L.length cap) := fun W hW => by
    have := rw3 ((hW.block _ (Array.getElem?_eq_some_iff.1 HM.out.1).1).trans HM.out.1)
    exact ⟨this.1.2.1, this.1.2.2⟩
  obtain ⟨Sd, Nd⟩ := ncell wd bd
  obtain ⟨Sa, _⟩ := ncell wa bA'
  obtain ⟨Sa1, _⟩ := ncell (wa.alloc (.cells #[.int .i64 next, .int .i64 x, .int .i64 1, .int .i64 0, .int .i64 now, .string s, .string ⟨#[]⟩] 68)) (bel_up bA' (bel1 wa _) (Nat.le_refl _))
  obtain ⟨Sb0, Nb0⟩ := ncell (wd.alloc (.cells #[.int .i64 next, .int .i64 x, .int .i64 1, .int .i64 0, .int .i64 now, .string s, .string ⟨#[]⟩] 68)) bBb
  obtain ⟨Sb, _⟩ := ncell wb bB'
  clear HFIN HM hrn hrd oA oB bA bB bA' bB' bBb honeB oA2 oB2 rA2 rB2 bA2 bB2 bd hsd r1 r2 rB ncell hWA6 hWA7 hWB6 hWB7 lA lB QA QB sA sB
  refine wp_region_held_drew (S := fun wq => wq.cell? ⟨w.heap.size, 1, none⟩ = some (.int .i64 next)) (by kernel_rfl) n1 (fun hHeld => ?_)
  rw [hwd] at hHeld ⊢
  clear hwd n0 n1 n2
  refine wpAnyH_take (i := 0) (oi := ?p0x1) (v := ?v0x1) ?o0x1 (by kernel_rfl) (by kernel_rfl) (by kernel_rfl) ?q0x1 ?y0x1 hHeld ?r0x1
  case o0x1 => (simp only [List.getElem?_toArray, List.getElem?_cons_zero]; try rfl)
  case q0x1 => exact fun _ _ _ h => h
  case y0x1 => (refine Or.inl ⟨rfl, ?_⟩; intro wq hq; obtain q1 := hq; go_simp; try with_reducible rfl)
  simp only [Act.put, List.setIfInBounds_toArray, List.set_cons_zero, List.set_cons_succ]
  refine wpAnyH_take (i := 3) (oi := ?p3x2) (v := ?v3x2) ?o3x2 (by kernel_rfl) (by kernel_rfl) (by kernel_rfl) ?q3x2 ?y3x2 hHeld ?r3x2
  case o3x2 => (simp only [List.getElem?_toArray, List.getElem?_cons_succ, List.getElem?_cons_zero]; try rfl)
  case q3x2 => exact fun _ _ _ h => h
  case y3x2 => (refine Or.inl ⟨rfl, ?_⟩; intro wq hq; obtain q1 := hq; go_simp; try with_reducible rfl)
  simp only [Act.put, List.setIfInBounds_toArray, List.set_cons_zero, List.set_cons_succ]
  refine wpAnyH_take (i := 4) (oi := ?p4x3) (v := ?v4x3) ?o4x3 (by kernel_rfl) (by kernel_rfl) (by kernel_rfl) ?q4x3 ?y4x3 hHeld ?r4x3
  case o4x3 => (simp only [List.getElem?_toArray, List.getElem?_cons_succ, List.getElem?_cons_zero]; try rfl)
  case q4x3 => exact fun _ _ _ h => h
  case y4x3 => (refine Or.inl ⟨rfl, ?_⟩; intro wq hq; obtain q1 := hq; go_simp; try with_reducible rfl)
  simp only [Act.put, List.setIfInBounds_toArray, List.set_cons_zero, List.set_cons_succ]
  refine wpAnyH_take (i := 5) (oi := ?p5x4) (v := ?v5x4) ?o5x4 (by kernel_rfl) (by kernel_rfl) (by kernel_rfl) ?q5x4 ?y5x4 hHeld ?r5x4
  case o5x4 => (simp only [List.getElem?_toArray, List.getElem?_cons_succ, List.getElem?_cons_zero]; try rfl)
  case q5x4 => exact fun _ _ _ h => h
  case y5x4 => (refine Or.inl ⟨rfl, ?_⟩; intro wq hq; obtain q1 := hq; go_simp; try with_reducible rfl)
  simp only [Act.put, List.setIfInBounds_toArray, List.set_cons_zero, List.set_cons_succ]
  refine wpAnyH_take (i := 6) (oi := ?p6x5) (v := ?v6x5) ?o6x5 (by kernel_rfl) (by kernel_rfl) (by kernel_rfl) ?q6x5 ?y6x5 hHeld ?r6x5
  case o6x5 => (simp only [List.getElem?_toArray, List.getElem?_cons_succ, List.getElem?_cons_zero]; try rfl)
  case q6x5 => exact fun _ _ _ h => h
  case y6x5 => (refine Or.inl ⟨rfl, ?_⟩; intro wq hq; obtain q1 := hq; go_simp; try with_reducible rfl)
  simp only [Act.put, List.setIfInBounds_toArray, List.set_cons_zero, List.set_cons_succ]
  refine wpAnyH_take (i := 7) (oi := ?p7x6) (v := ?v7x6) ?o7x6 (by kernel_rfl) (by kernel_rfl) (by kernel_rfl) ?q7x6 ?y7x6 hHeld ?r7x6
  case o7x6 => (simp only [List.getElem?_toArray, List.getElem?_cons_succ, List.getElem?_cons_zero]; try rfl)
  case q7x6 => exact fun _ _ _ h => h
  case y7x6 => (refine Or.inl ⟨rfl, ?_⟩; intro wq hq; obtain q1 := hq; go_simp; try with_reducible rfl)
  simp only [Act.put, List.setIfInBounds_toArray, List.set_cons_zero, List.set_cons_succ]
  refine wpAnyH_take (i := 8) (oi := ?p8x7) (v := ?v8x7) ?o8x7 (by kernel_rfl) (by kernel_rfl) (by kernel_rfl) ?q8x7 ?y8x7 hHeld ?r8x7
  case o8x7 => (simp only [List.getElem?_toArray, List.getElem?_cons_succ, List.getElem?_cons_zero]; try rfl)
  case q8x7 => exact fun _ _ _ h => h
  case y8x7 => (refine Or.inl ⟨rfl, ?_⟩; intro wq hq; obtain q1 := hq; go_simp; try with_reducible rfl)
  simp only [Act.put, List.setIfInBounds_toArray, List.set_cons_zero, List.set_cons_succ]
  refine wpAnyH_ready (rs := [1, 9]) (by kernel_rfl) (by simp) ?_
  refine (AllReadyH.cons (o := ?p1x8) ?o1x8 ?s1x8 (AllReadyH.cons (o := ?p9x8) ?o9x8 ?s9x8 AllReadyH.nil))
  case o1x8 => (simp only [List.getElem?_toArray, List.getElem?_cons_succ, List.getElem?_cons_zero]; try rfl)
  case o9x8 => (simp only [List.getElem?_toArray, List.getElem?_cons_succ, List.getElem?_cons_zero]; try rfl)
  case s1x8 =>
    intro Kk hK
    go_simp
    refine hK.out _ _ Sd (fun hHeld => ?_)
    clear hK Kk
    refine wpAnyH_ready (rs := [2, 9]) (by kernel_rfl) (by simp) ?_
    refine (AllReadyH.cons (o := ?p2x9) ?o2x9 ?s2x9 (AllReadyH.cons (o := ?p9x9) ?o9x9 ?s9x9 AllReadyH.nil))
    case o2x9 => (simp only [List.getElem?_toArray, List.getElem?_cons_succ, List.getElem?_cons_zero]; try rfl)
    case o9x9 => (simp only [List.getElem?_toArray, List.getElem?_cons_succ, List.getElem?_cons_zero]; try rfl)
    case s2x9 =>
      intro Kk hK
      refine step_append_known rfl (.const (.slice none 0 0)) (.tmp 41) 27 rfl _ _ rfl rfl _ _ runA1 ?_
      refine hK.out _ _ Sa (fun hHeld => ?_)
      clear hK Kk
      simp only [Act.put, List.setIfInBounds_toArray, List.set_cons_zero, List.set_cons_succ]
      refine wpAnyH_ready (rs := [9]) (by kernel_rfl) (by simp) ?_
      refine (AllReadyH.cons (o := ?p9x10) ?o9x10 ?s9x10 AllReadyH.nil)
      case o9x10 => (simp only [List.getElem?_toArray, List.getElem?_cons_succ, List.getElem?_cons_zero]; try rfl)
      intro Kk hK
      go_simp
      refine hK.out _ _ Sa1 (fun hHeld => ?_)
      clear hK Kk
      refine wpAnyH_ready (rs := [10]) (by kernel_rfl) (by simp) ?_
      refine (AllReadyH.cons (o := ?p10x11) ?o10x11 ?s10x11 AllReadyH.nil)
      case o10x11 => (simp only [List.getElem?_toArray, List.getElem?_cons_succ, List.getElem?_cons_zero]; try rfl)
      intro Kk hK
      refine step_append_known rfl (.tmp 42) (.tmp 49) 27 rfl _ _ rfl rfl _ _ runA2 ?_
      refine hK.out _ _ xA0 (fun hHeld => ?_)
      clear hK Kk
      simp only [Act.put, List.setIfInBounds_toArray, List.set_cons_zero, List.set_cons_succ]
      refine wpAnyH_take (i := 11) (oi := ?p11x12) (v := ?v11x12) ?o11x12 (by kernel_rfl) (by kernel_rfl) (by kernel_rfl) ?q11x12 ?y11x12 hHeld ?r11x12
      case o11x12 => (simp only [List.getElem?_toArray, List.getElem?_cons_succ, List.getElem?_cons_zero]; try rfl)
      case q11x12 => exact fun _ _ _ h => h
      case y11x12 => (refine Or.inl ⟨rfl, ?_⟩; intro wq hq; obtain q1 := hq; go_simp; try with_reducible rfl)
      simp only [Act.put, List.setIfInBounds_toArray, List.set_cons_zero, List.set_cons_succ]
      refine wpAnyH_ready (rs := [12]) (by kernel_rfl) (by simp) ?_
      refine (AllReadyH.cons (o := ?p12x13) ?o12x13 ?s12x13 AllReadyH.nil)
      case o12x13 => (simp only [List.getElem?_toArray, List.getElem?_cons_succ, List.getElem?_cons_zero]; try rfl)
      intro Kk hK
      go_simp
      refine hK.out _ _ (by rw [HWA6.out]; exact xA3) (fun hHeld => ?_)
      clear hK Kk
      refine wpAnyH_done (by kernel_rfl) ?_ _
      rw [HWA6.out]
      clear runA1 runA2 runB1 runB2
      go_upto_region 9 with fail
      rw [HWA7.out]
      obtain ⟨z0, z1, z2⟩ := zA
      obtain ⟨f0, f1, f2⟩ := fA
      refine wp_region_held_drew (S := fun wq => wq.cell? ⟨w.heap.size, 0, none⟩ = some (.int .i64 me) ∧ wq.cell? ⟨w.heap.size, 1, none⟩ = some (.int .i64 (next + 1)) ∧ wq.cell? ⟨w.heap.size, 2, none⟩ = some (.slice va2 (L.length + 1) ca2)) (by kernel_rfl) cA (fun hHeld => ?_)
      refine wpAnyH_take (i := 0) (oi := ?p0zA14) (v := ?v0zA14) ?o0zA14 (by kernel_rfl) (by kernel_rfl) (by kernel_rfl) ?q0zA14 ?y0zA14 hHeld ?r0zA14
      case o0zA14 => simp only [List.getElem?_toArray, List.getElem?_cons_zero]; rfl
      case q0zA14 => exact fun _ _ _ h => h
      case y0zA14 => (refine Or.inl ⟨rfl, ?_⟩; intro wq hq; obtain ⟨q0, q1, q2⟩ := hq; go_simp; try with_reducible rfl)
      simp only [Act.put, List.setIfInBounds_toArray, List.set_cons_zero, List.set_cons_succ]
      refine wpAnyH_take (i := 1) (oi := ?p1zA14) (v := ?v1zA14) ?o1zA14 (by kernel_rfl) (by kernel_rfl) (by kernel_rfl) ?q1zA14 ?y1zA14 hHeld ?r1zA14
      case o1zA14 => simp only [List.getElem?_toArray, List.getElem?_cons_succ, List.getElem?_cons_zero]; rfl
      case q1zA14 => exact fun _ _ _ h => h
      case y1zA14 => (refine Or.inl ⟨rfl, ?_⟩; intro wq hq; obtain ⟨q0, q1, q2⟩ := hq; go_simp; try with_reducible rfl)
      simp only [Act.put, List.setIfInBounds_toArray, List.set_cons_zero, List.set_cons_succ]
      refine wpAnyH_take (i := 2) (oi := ?p2zA14) (v := ?v2zA14) ?o2zA14 (by kernel_rfl) (by kernel_rfl) (by kernel_rfl) ?q2zA14 ?y2zA14 hHeld ?r2zA14
      case o2zA14 => simp only [List.getElem?_toArray, List.getElem?_cons_succ, List.getElem?_cons_zero]; rfl
      case q2zA14 => exact fun _ _ _ h => h
      case y2zA14 => (refine Or.inl ⟨rfl, ?_⟩; intro wq hq; obtain ⟨q0, q1, q2⟩ := hq; go_simp; try with_reducible rfl)
      simp only [Act.put, List.setIfInBounds_toArray, List.set_cons_zero, List.set_cons_succ]
      refine wpAnyH_take (i := 3) (oi := ?p3zA14) (v := ?v3zA14) ?o3zA14 (by kernel_rfl) (by kernel_rfl) (by kernel_rfl) ?q3zA14 ?y3zA14 hHeld ?r3zA14
      case o3zA14 => simp only [List.getElem?_toArray, List.getElem?_cons_succ, List.getElem?_cons_zero]; rfl
      case q3zA14 => exact fun _ _ _ h => h
      case y3zA14 => (refine Or.inl ⟨rfl, ?_⟩; intro wq hq; obtain ⟨q0, q1, q2⟩ := hq; go_simp; try with_reducible rfl)
      simp only [Act.put, List.setIfInBounds_toArray, List.set_cons_zero, List.set_cons_succ]
      refine wpAnyH_ready (rs := [4]) (by kernel_rfl) (by simp) ?_
      refine AllReadyH.cons (o := ?p4zA14) ?o4zA14 ?s4zA14 AllReadyH.nil
      case o4zA14 => simp only [List.getElem?_toArray, List.getElem?_cons_succ, List.getElem?_cons_zero]; rfl
      intro K hK
      go_simp
      refine hK.out _ _ HsA.out (fun hHeld => ?_)
      clear hK K
      refine wpAnyH_take (i := 5) (oi := ?p5zA14) (v := ?v5zA14) ?o5zA14 (by kernel_rfl) (by kernel_rfl) (by kernel_rfl) ?q5zA14 ?y5zA14 hHeld ?r5zA14
      case o5zA14 => simp only [List.getElem?_toArray, List.getElem?_cons_succ, List.getElem?_cons_zero]; rfl
      case q5zA14 => exact fun _ _ _ h => h
      case y5zA14 => (refine Or.inl ⟨rfl, ?_⟩; intro wq hq; obtain ⟨q0, q1, q2⟩ := hq; go_simp; try with_reducible rfl)
      simp only [Act.put, List.setIfInBounds_toArray, List.set_cons_zero, List.set_cons_succ]
      refine wpAnyH_take (i := 6) (oi := ?p6zA14) (v := ?v6zA14) ?o6zA14 (by kernel_rfl) (by kernel_rfl) (by kernel_rfl) ?q6zA14 ?y6zA14 hHeld ?r6zA14
      case o6zA14 => simp only [List.getElem?_toArray, List.getElem?_cons_succ, List.getElem?_cons_zero]; rfl
      case q6zA14 => exact fun _ _ _ h => h
      case y6zA14 => (refine Or.inl ⟨rfl, ?_⟩; intro wq hq; obtain ⟨q0, q1, q2⟩ := hq; go_simp; try with_reducible rfl)
      simp only [Act.put, List.setIfInBounds_toArray, List.set_cons_zero, List.set_cons_succ]
      refine wpAnyH_done (by kernel_rfl) ?_ _
      go_wp2
      refine bodyPost_ret (v := .tuple #[.agg #[.int .i64 me, .int .i64 (next + 1), .slice va2 (L.length + 1) ca2], .int .i64 next, .int .i64 0]) ?_ rfl HQA.out
      refine (res4 f11_res _ _ (w.heap.size + 1) _ _ _ ?_ HlA.out).trans ?_
      · rfl
      · rfl
    case s9x9 =>
      intro Kk hK
      go_simp
      refine hK.out _ _ Sb0 (fun hHeld => ?_)
      clear hK Kk
      refine wpAnyH_ready (rs := [2]) (by kernel_rfl) (by simp) ?_
      refine (AllReadyH.cons (o := ?p2x15) ?o2x15 ?s2x15 AllReadyH.nil)
      case o2x15 => (simp only [List.getElem?_toArray, List.getElem?_cons_succ, List.getElem?_cons_zero]; try rfl)
      intro Kk hK
      refine step_append_known rfl (.const (.slice none 0 0)) (.tmp 41) 27 rfl _ _ rfl rfl _ _ runB1 ?_
      refine hK.out _ _ Sb (fun hHeld => ?_)
      clear hK Kk
      simp only [Act.put, List.setIfInBounds_toArray, List.set_cons_zero, List.set_cons_succ]
      refine wpAnyH_ready (rs := [10]) (by kernel_rfl) (by simp) ?_
      refine (AllReadyH.cons (o := ?p10x16) ?o10x16 ?s10x16 AllReadyH.nil)
      case o10x16 => (simp only [List.getElem?_toArray, List.getElem?_cons_succ, List.getElem?_cons_zero]; try rfl)
      intro Kk hK
      refine step_append_known rfl (.tmp 42) (.tmp 49) 27 rfl _ _ rfl rfl _ _ runB2 ?_
      refine hK.out _ _ xB0 (fun hHeld => ?_)
      clear hK Kk
      simp only [Act.put, List.setIfInBounds_toArray, List.set_cons_zero, List.set_cons_succ]
      refine wpAnyH_take (i := 11) (oi := ?p11x17) (v := ?v11x17) ?o11x17 (by kernel_rfl) (by kernel_rfl) (by kernel_rfl) ?q11x17 ?y11x17 hHeld ?r11x17
      case o11x17 => (simp only [List.getElem?_toArray, List.getElem?_cons_succ, List.getElem?_cons_zero]; try rfl)
      case q11x17 => exact fun _ _ _ h => h
      case y11x17 => (refine Or.inl ⟨rfl, ?_⟩; intro wq hq; obtain q1 := hq; go_simp; try with_reducible rfl)
      simp only [Act.put, List.setIfInBounds_toArray, List.set_cons_zero, List.set_cons_succ]
      refine wpAnyH_ready (rs := [12]) (by kernel_rfl) (by simp) ?_
      refine (AllReadyH.cons (o := ?p12x18) ?o12x18 ?s12x18 AllReadyH.nil)
      case o12x18 => (simp only [List.getElem?_toArray, List.getElem?_cons_succ, List.getElem?_cons_zero]; try rfl)
      intro Kk hK
      go_simp
      refine hK.out _ _ (by rw [HWB6.out]; exact xB3) (fun hHeld => ?_)
      clear hK Kk
      refine wpAnyH_done (by kernel_rfl) ?_ _
      rw [HWB6.out]
      clear runA1 runA2 runB1 runB2
      go_upto_region 9 with fail
      rw [HWB7.out]
      obtain ⟨z0, z1, z2⟩ := zB
      obtain ⟨f0, f1, f2⟩ := fB
      refine wp_region_held_drew (S := fun wq => wq.cell? ⟨w.heap.size, 0, none⟩ = some (.int .i64 me) ∧ wq.cell? ⟨w.heap.size, 1, none⟩ = some (.int .i64 (next + 1)) ∧ wq.cell? ⟨w.heap.size, 2, none⟩ = some (.slice vb2 (L.length + 1) cb2)) (by kernel_rfl) cB (fun hHeld => ?_)
      refine wpAnyH_take (i := 0) (oi := ?p0zB19) (v := ?v0zB19) ?o0zB19 (by kernel_rfl) (by kernel_rfl) (by kernel_rfl) ?q0zB19 ?y0zB19 hHeld ?r0zB19
      case o0zB19 => simp only [List.getElem?_toArray, List.getElem?_cons_zero]; rfl
      case q0zB19 => exact fun _ _ _ h => h
      case y0zB19 => (refine Or.inl ⟨rfl, ?_⟩; intro wq hq; obtain ⟨q0, q1, q2⟩ := hq; go_simp; try with_reducible rfl)
      simp only [Act.put, List.setIfInBounds_toArray, List.set_cons_zero, List.set_cons_succ]
      refine wpAnyH_take (i := 1) (oi := ?p1zB19) (v := ?v1zB19) ?o1zB19 (by kernel_rfl) (by kernel_rfl) (by kernel_rfl) ?q1zB19 ?y1zB19 hHeld ?r1zB19
      case o1zB19 => simp only [List.getElem?_toArray, List.getElem?_cons_succ, List.getElem?_cons_zero]; rfl
      case q1zB19 => exact fun _ _ _ h => h
      case y1zB19 => (refine Or.inl ⟨rfl, ?_⟩; intro wq hq; obtain ⟨q0, q1, q2⟩ := hq; go_simp; try with_reducible rfl)
      simp only [Act.put, List.setIfInBounds_toArray, List.set_cons_zero, List.set_cons_succ]
      refine wpAnyH_take (i := 2) (oi := ?p2zB19) (v := ?v2zB19) ?o2zB19 (by kernel_rfl) (by kernel_rfl) (by kernel_rfl) ?q2zB19 ?y2zB19 hHeld ?r2zB19
      case o2zB19 => simp only [List.getElem?_toArray, List.getElem?_cons_succ, List.getElem?_cons_zero]; rfl
      case q2zB19 => exact fun _ _ _ h => h
      case y2zB19 => (refine Or.inl ⟨rfl, ?_⟩; intro wq hq; obtain ⟨q0, q1, q2⟩ := hq; go_simp; try with_reducible rfl)
      simp only [Act.put, List.setIfInBounds_toArray, List.set_cons_zero, List.set_cons_succ]
      refine wpAnyH_take (i := 3) (oi := ?p3zB19) (v := ?v3zB19) ?o3zB19 (by kernel_rfl) (by kernel_rfl) (by kernel_rfl) ?q3zB19 ?y3zB19 hHeld ?r3zB19
      case o3zB19 => simp only [List.getElem?_toArray, List.getElem?_cons_succ, List.getElem?_cons_zero]; rfl
      case q3zB19 => exact fun _ _ _ h => h
      case y3zB19 => (refine Or.inl ⟨rfl, ?_⟩; intro wq hq; obtain ⟨q0, q1, q2⟩ := hq; go_simp; try with_reducible rfl)
      simp only [Act.put, List.setIfInBounds_toArray, List.set_cons_zero, List.set_cons_succ]
      refine wpAnyH_ready (rs := [4]) (by kernel_rfl) (by simp) ?_
      refine AllReadyH.cons (o := ?p4zB19) ?o4zB19 ?s4zB19 AllReadyH.nil
      case o4zB19 => simp only [List.getElem?_toArray, List.getElem?_cons_succ, List.getElem?_cons_zero]; rfl
      intro K hK
      go_simp
      refine hK.out _ _ HsB.out (fun hHeld => ?_)
      clear hK K
      refine wpAnyH_take (i := 5) (oi := ?p5zB19) (v := ?v5zB19) ?o5zB19 (by kernel_rfl) (by kernel_rfl) (by kernel_rfl) ?q5zB19 ?y5zB19 hHeld ?r5zB19
      case o5zB19 => simp only [List.getElem?_toArray, List.getElem?_cons_succ, List.getElem?_cons_zero]; rfl
      case q5zB19 => exact fun _ _ _ h => h
      case y5zB19 => (refine Or.inl ⟨rfl, ?_⟩; intro wq hq; obtain ⟨q0, q1, q2⟩ := hq; go_simp; try with_reducible rfl)
      simp only [Act.put, List.setIfInBounds_toArray, List.set_cons_zero, List.set_cons_succ]
      refine wpAnyH_take (i := 6) (oi := ?p6zB19) (v := ?v6zB19) ?o6zB19 (by kernel_rfl) (by kernel_rfl) (by kernel_rfl) ?q6zB19 ?y6zB19 hHeld ?r6zB19
      case o6zB19 => simp only [List.getElem?_toArray, List.getElem?_cons_succ, List.getElem?_cons_zero]; rfl
      case q6zB19 => exact fun _ _ _ h => h
      case y6zB19 => (refine Or.inl ⟨rfl, ?_⟩; intro wq hq; obtain ⟨q0, q1, q2⟩ := hq; go_simp; try with_reducible rfl)
      simp only [Act.put, List.setIfInBounds_toArray, List.set_cons_zero, List.set_cons_succ]
      refine wpAnyH_done (by kernel_rfl) ?_ _
      go_wp2
      refine bodyPost_ret (v := .tuple #[.agg #[.int .i64 me, .int .i64 (next + 1), .slice vb2 (L.length + 1) cb2], .int .i64 next, .int .i64 0]) ?_ rfl HQB.out
      refine (res4 f11_res _ _ (w.heap.size + 1) _ _ _ ?_ HlB.out).trans ?_
      · rfl
      · rfl
  case s9x8 =>
    intro Kk hK
    go_simp
    refine hK.out _ _ Sb0 (fun hHeld => ?_)
    clear hK Kk
    refine wpAnyH_ready (rs := [1]) (by kernel_rfl) (by simp) ?_
    refine (AllReadyH.cons (o := ?p1x20) ?o1x20 ?s1x20 AllReadyH.nil)
    case o1x20 => (simp only [List.getElem?_toArray, List.getElem?_cons_succ, List.getElem?_cons_zero]; try rfl)
    intro Kk hK
    go_simp
    refine hK.out _ _ Sb0 (fun hHeld => ?_)
    clear hK Kk
    refine wpAnyH_ready (rs := [2]) (by kernel_rfl) (by simp) ?_
    refine (AllReadyH.cons (o := ?p2x21) ?o2x21 ?s2x21 AllReadyH.nil)
    case o2x21 => (simp only [List.getElem?_toArray, List.getElem?_cons_succ, List.getElem?_cons_zero]; try rfl)
    intro Kk hK
    refine step_append_known rfl (.const (.slice none 0 0)) (.tmp 41) 27 rfl _ _ rfl rfl _ _ runB1 ?_
    refine hK.out _ _ Sb (fun hHeld => ?_)
    clear hK Kk
    simp only [Act.put, List.setIfInBounds_toArray, List.set_cons_zero, List.set_cons_succ]
    refine wpAnyH_ready (rs := [10]) (by kernel_rfl) (by simp) ?_
    refine (AllReadyH.cons (o := ?p10x22) ?o10x22 ?s10x22 AllReadyH.nil)
    case o10x22 => (simp only [List.getElem?_toArray, List.getElem?_cons_succ, List.getElem?_cons_zero]; try rfl)
    intro Kk hK
    refine step_append_known rfl (.tmp 42) (.tmp 49) 27 rfl _ _ rfl rfl _ _ runB2 ?_
    refine hK.out _ _ xB0 (fun hHeld => ?_)
    clear hK Kk
    simp only [Act.put, List.setIfInBounds_toArray, List.set_cons_zero, List.set_cons_succ]
    refine wpAnyH_take (i := 11) (oi := ?p11x23) (v := ?v11x23) ?o11x23 (by kernel_rfl) (by kernel_rfl) (by kernel_rfl) ?q11x23 ?y11x23 hHeld ?r11x23
    case o11x23 => (simp only [List.getElem?_toArray, List.getElem?_cons_succ, List.getElem?_cons_zero]; try rfl)
    case q11x23 => exact fun _ _ _ h => h
    case y11x23 => (refine Or.inl ⟨rfl, ?_⟩; intro wq hq; obtain q1 := hq; go_simp; try with_reducible rfl)
    simp only [Act.put, List.setIfInBounds_toArray, List.set_cons_zero, List.set_cons_succ]
    refine wpAnyH_ready (rs := [12]) (by kernel_rfl) (by simp) ?_
    refine (AllReadyH.cons (o := ?p12x24) ?o12x24 ?s12x24 AllReadyH.nil)
    case o12x24 => (simp only [List.getElem?_toArray, List.getElem?_cons_succ, List.getElem?_cons_zero]; try rfl)
    intro Kk hK
    go_simp
    refine hK.out _ _ (by rw [HWB6.out]; exact xB3) (fun hHeld => ?_)
    clear hK Kk
    refine wpAnyH_done (by kernel_rfl) ?_ _
    rw [HWB6.out]
    clear runA1 runA2 runB1 runB2
    go_upto_region 9 with fail
    rw [HWB7.out]
    obtain ⟨z0, z1, z2⟩ := zB
    obtain ⟨f0, f1, f2⟩ := fB
    refine wp_region_held_drew (S := fun wq => wq.cell? ⟨w.heap.size, 0, none⟩ = some (.int .i64 me) ∧ wq.cell? ⟨w.heap.size, 1, none⟩ = some (.int .i64 (next + 1)) ∧ wq.cell? ⟨w.heap.size, 2, none⟩ = some (.slice vb2 (L.length + 1) cb2)) (by kernel_rfl) cB (fun hHeld => ?_)
    refine wpAnyH_take (i := 0) (oi := ?p0zB25) (v := ?v0zB25) ?o0zB25 (by kernel_rfl) (by kernel_rfl) (by kernel_rfl) ?q0zB25 ?y0zB25 hHeld ?r0zB25
    case o0zB25 => simp only [List.getElem?_toArray, List.getElem?_cons_zero]; rfl
    case q0zB25 => exact fun _ _ _ h => h
    case y0zB25 => (refine Or.inl ⟨rfl, ?_⟩; intro wq hq; obtain ⟨q0, q1, q2⟩ := hq; go_simp; try with_reducible rfl)
    simp only [Act.put, List.setIfInBounds_toArray, List.set_cons_zero, List.set_cons_succ]
    refine wpAnyH_take (i := 1) (oi := ?p1zB25) (v := ?v1zB25) ?o1zB25 (by kernel_rfl) (by kernel_rfl) (by kernel_rfl) ?q1zB25 ?y1zB25 hHeld ?r1zB25
    case o1zB25 => simp only [List.getElem?_toArray, List.getElem?_cons_succ, List.getElem?_cons_zero]; rfl
    case q1zB25 => exact fun _ _ _ h => h
    case y1zB25 => (refine Or.inl ⟨rfl, ?_⟩; intro wq hq; obtain ⟨q0, q1, q2⟩ := hq; go_simp; try with_reducible rfl)
    simp only [Act.put, List.setIfInBounds_toArray, List.set_cons_zero, List.set_cons_succ]
    refine wpAnyH_take (i := 2) (oi := ?p2zB25) (v := ?v2zB25) ?o2zB25 (by kernel_rfl) (by kernel_rfl) (by kernel_rfl) ?q2zB25 ?y2zB25 hHeld ?r2zB25
    case o2zB25 => simp only [List.getElem?_toArray, List.getElem?_cons_succ, List.getElem?_cons_zero]; rfl
    case q2zB25 => exact fun _ _ _ h => h
    case y2zB25 => (refine Or.inl ⟨rfl, ?_⟩; intro wq hq; obtain ⟨q0, q1, q2⟩ := hq; go_simp; try with_reducible rfl)
    simp only [Act.put, List.setIfInBounds_toArray, List.set_cons_zero, List.set_cons_succ]
    refine wpAnyH_take (i := 3) (oi := ?p3zB25) (v := ?v3zB25) ?o3zB25 (by kernel_rfl) (by kernel_rfl) (by kernel_rfl) ?q3zB25 ?y3zB25 hHeld ?r3zB25
    case o3zB25 => simp only [List.getElem?_toArray, List.getElem?_cons_succ, List.getElem?_cons_zero]; rfl
    case q3zB25 => exact fun _ _ _ h => h
    case y3zB25 => (refine Or.inl ⟨rfl, ?_⟩; intro wq hq; obtain ⟨q0, q1, q2⟩ := hq; go_simp; try with_reducible rfl)
    simp only [Act.put, List.setIfInBounds_toArray, List.set_cons_zero, List.set_cons_succ]
    refine wpAnyH_ready (rs := [4]) (by kernel_rfl) (by simp) ?_
    refine AllReadyH.cons (o := ?p4zB25) ?o4zB25 ?s4zB25 AllReadyH.nil
    case o4zB25 => simp only [List.getElem?_toArray, List.getElem?_cons_succ, List.getElem?_cons_zero]; rfl
    intro K hK
    go_simp
    refine hK.out _ _ HsB.out (fun hHeld => ?_)
    clear hK K
    refine wpAnyH_take (i := 5) (oi := ?p5zB25) (v := ?v5zB25) ?o5zB25 (by kernel_rfl) (by kernel_rfl) (by kernel_rfl) ?q5zB25 ?y5zB25 hHeld ?r5zB25
    case o5zB25 => simp only [List.getElem?_toArray, List.getElem?_cons_succ, List.getElem?_cons_zero]; rfl
    case q5zB25 => exact fun _ _ _ h => h
    case y5zB25 => (refine Or.inl ⟨rfl, ?_⟩; intro wq hq; obtain ⟨q0, q1, q2⟩ := hq; go_simp; try with_reducible rfl)
    simp only [Act.put, List.setIfInBounds_toArray, List.set_cons_zero, List.set_cons_succ]
    refine wpAnyH_take (i := 6) (oi := ?p6zB25) (v := ?v6zB25) ?o6zB25 (by kernel_rfl) (by kernel_rfl) (by kernel_rfl) ?q6zB25 ?y6zB25 hHeld ?r6zB25
    case o6zB25 => simp only [List.getElem?_toArray, List.getElem?_cons_succ, List.getElem?_cons_zero]; rfl
    case q6zB25 => exact fun _ _ _ h => h
    case y6zB25 => (refine Or.inl ⟨rfl, ?_⟩; intro wq hq; obtain ⟨q0, q1, q2⟩ := hq; go_simp; try with_reducible rfl)
    simp only [Act.put, List.setIfInBounds_toArray, List.set_cons_zero, List.set_cons_succ]
    refine wpAnyH_done (by kernel_rfl) ?_ _
    go_wp2
    refine bodyPost_ret (v := .tuple #[.agg #[.int .i64 me, .int .i64 (next + 1), .slice vb2 (L.length + 1) cb2], .int .i64 next, .int .i64 0]) ?_ rfl HQB.out
    refine (res4 f11_res _ _ (w.heap.size + 1) _ _ _ ?_ HlB.out).trans ?_
    · rfl
    · rfl
theorem rcall_any {w : World} {a : Option Addr} {cap : Nat} {L : List K} (h : RN w a cap L) (me next x : Int) (s : ByteArray) (hs : s.size ≤ maxLen) (now : Int) (h6 : 0 ≤ next) :
    Calls Try.prog 11 #[.agg #[.int .i64 me, .int .i64 next, .slice a L.length cap], .int .i64 x, .string s, .int .i64 now] w (RCOut w a me (Cl.callX (Cl.opn L).length next x s.size now) (Cl.callL L next x now s) (Cl.callN (Cl.opn L).length next x s.size now) (Cl.ccode (Cl.opn L).length next x s.size now)) := by
  have hno := nums_opn L
  have hbad : ∀ c : Int, c ≠ 0 → Cl.ccode (Cl.opn L).length next x s.size now = c → Calls Try.prog 11 #[.agg #[.int .i64 me, .int .i64 next, .slice a L.length cap], .int .i64 x, .string s, .int .i64 now] w (RCOut w a me next L 0 c) → Calls Try.prog 11 #[.agg #[.int .i64 me, .int .i64 next, .slice a L.length cap], .int .i64 x, .string s, .int .i64 now] w (RCOut w a me (Cl.callX (Cl.opn L).length next x s.size now) (Cl.callL L next x now s) (Cl.callN (Cl.opn L).length next x s.size now) (Cl.ccode (Cl.opn L).length next x s.size now)) := fun c hc he hk => by
    unfold Cl.callX Cl.callL Cl.callN
    rw [he, if_neg hc, if_neg hc, if_neg hc]
    exact hk
  by_cases h0 : x < 0
  · exact hbad 1 (by decide) (if_pos (.inl h0)) (rcall_lo h me next x s hs now h0)
  by_cases h1 : 63 < x
  · exact hbad 1 (by decide) (if_pos (.inr (.inl h1))) (rcall_hi h me next x s hs now h0 h1)
  cases h2 : Cl.moment now with
  | false => exact hbad 1 (by decide) (if_pos (.inr (.inr h2))) (rcall_mo h me next x s hs now h0 h1 h2)
  | true =>
    have hc0 : Cl.ccode (Cl.opn L).length next x s.size now = if 4096 < (s.size : Int) then 2 else if 64 ≤ (Cl.opn L).length ∨ 2147483647 ≤ next then 5 else 0 := if_neg (by rw [h2]; simp; omega)
    by_cases h3 : 4096 < s.size
    · exact hbad 2 (by decide) (by rw [hc0]; exact if_pos (by omega)) (rcall_sz h me next x s hs now h0 h1 h2 h3)
    rw [if_neg (by omega)] at hc0
    by_cases h4 : 64 ≤ (Cl.nums L).length
    · exact hbad 5 (by decide) (by rw [hc0]; exact if_pos (.inl (by omega))) (rcall_fu h me next x s hs now h0 h1 h2 h3 h4)
    by_cases h5 : 2147483647 ≤ next
    · exact hbad 5 (by decide) (by rw [hc0]; exact if_pos (.inr h5)) (rcall_en h me next x s hs now h0 h1 h2 h3 h4 h5)
    · have hc : Cl.ccode (Cl.opn L).length next x s.size now = 0 := by rw [hc0]; exact if_neg (by omega)
      unfold Cl.callX Cl.callL Cl.callN
      rw [hc, if_pos rfl, if_pos rfl, if_pos rfl]
      exact rcall_ok h me next x s hs now h0 h1 h2 h3 h4 h5 h6
end Go.Proofs.Ytbgbdiiinggjnaa
