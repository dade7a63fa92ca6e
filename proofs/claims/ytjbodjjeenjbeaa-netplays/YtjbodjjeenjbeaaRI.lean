/-
  The document's net: a link is cut, or not.
-/
import Derived.Test.YtjbodjjeenjbeaaRC
namespace Go.Proofs.Ytjbodjjeenjbeaa
open Go.RowKit
set_option linter.unusedVariables false
open Nt (Pk)

theorem f21_res : Try.f21.results = #[.cell 8 30, .tmp 9] := rfl
/-- The first links but one. -/
def fltK (K : List (Int × Int)) (lo hi : Int) (q : Nat) : List (Int × Int) := (K.take q).filter fun z => decide (z ≠ (lo, hi))
theorem fltK_zero (K : List (Int × Int)) (lo hi : Int) : fltK K lo hi 0 = [] := rfl
theorem fltK_len (K : List (Int × Int)) (lo hi : Int) (q : Nat) : (fltK K lo hi q).length ≤ K.length := by
  unfold fltK
  have h1 := List.length_filter_le (fun z => decide (z ≠ (lo, hi))) (K.take q)
  have h2 : (K.take q).length ≤ K.length := by rw [List.length_take]; omega
  omega
theorem fltK_out (K : List (Int × Int)) (lo hi : Int) (q : Nat) (h : q < K.length) (e : K[q].1 = lo ∧ K[q].2 = hi) : fltK K lo hi (q + 1) = fltK K lo hi q := by
  have hk : K[q] = (lo, hi) := Prod.ext e.1 e.2
  unfold fltK
  rw [List.take_succ_eq_append_getElem h, List.filter_append, hk]
  simp
theorem fltK_in (K : List (Int × Int)) (lo hi : Int) (q : Nat) (h : q < K.length) (e : ¬ (K[q].1 = lo ∧ K[q].2 = hi)) : fltK K lo hi (q + 1) = fltK K lo hi q ++ [(K[q].1, K[q].2)] := by
  have hk : K[q] ≠ (lo, hi) := fun h => e (by rw [h]; exact ⟨rfl, rfl⟩)
  unfold fltK
  rw [List.take_succ_eq_append_getElem h, List.filter_append]
  simp [hk]
theorem fltK_all (K : List (Int × Int)) (lo hi : Int) : fltK K lo hi K.length = Nt.cutK K lo hi false := by
  unfold fltK Nt.cutK
  rw [List.take_length]
  simp
theorem fltK_all1 (K : List (Int × Int)) (lo hi : Int) : fltK K lo hi K.length ++ [(lo, hi)] = Nt.cutK K lo hi true := by
  unfold fltK Nt.cutK
  rw [List.take_length]
  rfl
theorem ref_fin2 {w w2 : World} {p r : Nat} {x v1 v2 v' z0 z1 z2 : Value} (hB : Below w.heap.size w w2) (hp : w2.heap[p]? = some (.cells #[x, v1, v2] 30 (0, 0))) (hr : w2.heap[r]? = some (.cells #[z0, z1, z2] 30 (0, 0))) (hpr : p ≠ r) (hpw : w.heap.size ≤ p) (hrw : w.heap.size ≤ r) (W3 : World) (hW3 : w2.setCell ⟨p, 2, none⟩ v' = W3) :
    (w2.cell? ⟨p, 2, none⟩ = some v2 ∧ w2.frozen? ⟨p, 2, none⟩ = false) ∧ (W3.cell? ⟨p, 0, none⟩ = some x ∧ W3.cell? ⟨p, 1, none⟩ = some v1 ∧ W3.cell? ⟨p, 2, none⟩ = some v') ∧ ((W3.cell? ⟨r, 0, none⟩ = some z0 ∧ W3.cell? ⟨r, 1, none⟩ = some z1 ∧ W3.cell? ⟨r, 2, none⟩ = some z2) ∧ (W3.frozen? ⟨r, 0, none⟩ = false ∧ W3.frozen? ⟨r, 1, none⟩ = false ∧ W3.frozen? ⟨r, 2, none⟩ = false)) ∧ (put3 W3 r x v1 v').heap[r]? = some (.cells #[x, v1, v'] 30 (0, 0)) ∧ Below w.heap.size w (put3 W3 r x v1 v') ∧ ∀ k, k ≠ p → k ≠ r → (put3 W3 r x v1 v').heap[k]? = w2.heap[k]? := by
  obtain ⟨⟨_, _, k1⟩, k2⟩ := rw3 hp
  have hp3 : W3.heap[p]? = some (.cells #[x, v1, v'] 30 (0, 0)) := by rw [← hW3]; exact heap_setCell_same w2 p 2 _ _ _ hp
  have hr3 : W3.heap[r]? = some (.cells #[z0, z1, z2] 30 (0, 0)) := by rw [← hW3]; exact (heap_setCell_other w2 ⟨p, 2, none⟩ r _ (fun e => hpr e.symm)).trans hr
  have hB3 : Below w.heap.size w W3 := by rw [← hW3]; exact hB.setCell (p := ⟨p, 2, none⟩) hpw _
  obtain ⟨j1, j2, j3, j4⟩ := ref_lay (x := x) (v1 := v1) (v2 := v') hB3 hr3 hrw
  refine ⟨⟨k1, k2 2⟩, (rw3 hp3).1, j1, j2, j3, fun k hk1 hk2 => (j4 k hk2).trans ?_⟩
  rw [← hW3]
  exact heap_setCell_other w2 ⟨p, 2, none⟩ k _ hk1
set_option maxRecDepth 100000 in
set_option maxHeartbeats 1000000 in
theorem rcutn_x {w : World} {N : Int} {a : Option Addr} {cap : Nat} {R : List Pk} {ka : Option Addr} {kc : Nat} {K : List (Int × Int)} (h : RN w a cap R ka kc K) (x y : Int) (on : Bool) (hx : Nt.node N x = false) :
    Calls Try.prog 21 #[.agg #[.int .i64 N, .slice a R.length cap, .slice ka K.length kc], .int .i64 x, .int .i64 y, .bool on] w (ROut w N a cap R ka kc K R K false) := by
  obtain ⟨W1, HW1⟩ : ∃ W1, Hid ((w.alloc (.cells #[.int .i64 N, .slice a R.length cap, .slice ka K.length kc] 30)).alloc (.cells #[.int .i64 0, .slice none 0 0, .slice none 0 0] 30) = W1) := ⟨_, rfl⟩
  have hB1 : Below w.heap.size w W1 := by rw [← HW1.out]; exact bel2 w _ _
  have hr1 : W1.heap[w.heap.size]? = some (.cells #[.int .i64 N, .slice a R.length cap, .slice ka K.length kc] 30 (0, 0)) := by rw [← HW1.out]; exact heap_alloc2_old w _ _
  have hr2 : W1.heap[w.heap.size + 1]? = some (.cells #[.int .i64 0, .slice none 0 0, .slice none 0 0] 30 (0, 0)) := by rw [← HW1.out]; exact heap_alloc2_new w _ _
  have HROW : Hid (∀ w', Below W1.heap.size W1 w' → w'.heap[w.heap.size]? = some (.cells #[.int .i64 N, .slice a R.length cap, .slice ka K.length kc] 30 (0, 0)) ∧ w'.heap[w.heap.size + 1]? = some (.cells #[.int .i64 0, .slice none 0 0, .slice none 0 0] 30 (0, 0)) ∧ Below w.heap.size w w') := fun w' hb' => ⟨bel_row hr1 hb', bel_row hr2 hb', bel_up hB1 hb' (Nat.le_refl _)⟩
  obtain ⟨⟨n0, n1, n2⟩, _⟩ := rw3 hr1
  have cX := fun W => rnode_any N (.slice a R.length cap) (.slice ka K.length kc) x W
  rw [hx] at cX
  clear h hr1 hr2
  go_enter Try.func21, Try.ntmps21
  go_upto_region 1 with fail
  rw [HW1.out]
  clear HW1
  go_wp2_with fail
  refine (cX _).mono ?_
  rintro e w2 ⟨rfl, hb2⟩
  obtain ⟨r1, r2, rB⟩ := HROW.out w2 hb2
  clear n0 n1 n2 cX
  obtain ⟨j1, j2, j3, _⟩ := ref_lay (x := .int .i64 N) (v1 := .slice a R.length cap) (v2 := .slice ka K.length kc) rB r2 (by omega)
  obtain ⟨⟨y0, y1, y2⟩, yf0, yf1, yf2⟩ := j1
  obtain ⟨⟨m0, m1, m2⟩, _⟩ := rw3 r1
  have HQ1 := Hid_of j2
  have HQ2 : Hid (ROut w N a cap R ka kc K R K false (.returned (.tuple #[.agg #[.int .i64 N, .slice a R.length cap, .slice ka K.length kc], .bool false])) (put3 w2 (w.heap.size + 1) (.int .i64 N) (.slice a R.length cap) (.slice ka K.length kc))) := ⟨_, _, rfl, XRes.same, KRes.same, j3⟩
  clear j2 j3 r1 r2 rB HROW
  go_wp2
  refine bodyPost_ret (v := .tuple #[.agg #[.int .i64 N, .slice a R.length cap, .slice ka K.length kc], .bool false]) ?_ rfl HQ2.out
  exact res3 f21_res _ _ (w.heap.size + 1) _ _ _ rfl HQ1.out
set_option maxRecDepth 100000 in
set_option maxHeartbeats 1000000 in
theorem rcutn_y {w : World} {N : Int} {a : Option Addr} {cap : Nat} {R : List Pk} {ka : Option Addr} {kc : Nat} {K : List (Int × Int)} (h : RN w a cap R ka kc K) (x y : Int) (on : Bool) (hx : Nt.node N x = true) (hy : Nt.node N y = false) :
    Calls Try.prog 21 #[.agg #[.int .i64 N, .slice a R.length cap, .slice ka K.length kc], .int .i64 x, .int .i64 y, .bool on] w (ROut w N a cap R ka kc K R K false) := by
  obtain ⟨W1, HW1⟩ : ∃ W1, Hid ((w.alloc (.cells #[.int .i64 N, .slice a R.length cap, .slice ka K.length kc] 30)).alloc (.cells #[.int .i64 0, .slice none 0 0, .slice none 0 0] 30) = W1) := ⟨_, rfl⟩
  have hB1 : Below w.heap.size w W1 := by rw [← HW1.out]; exact bel2 w _ _
  have hr1 : W1.heap[w.heap.size]? = some (.cells #[.int .i64 N, .slice a R.length cap, .slice ka K.length kc] 30 (0, 0)) := by rw [← HW1.out]; exact heap_alloc2_old w _ _
  have hr2 : W1.heap[w.heap.size + 1]? = some (.cells #[.int .i64 0, .slice none 0 0, .slice none 0 0] 30 (0, 0)) := by rw [← HW1.out]; exact heap_alloc2_new w _ _
  have HROW : Hid (∀ w', Below W1.heap.size W1 w' → w'.heap[w.heap.size]? = some (.cells #[.int .i64 N, .slice a R.length cap, .slice ka K.length kc] 30 (0, 0)) ∧ w'.heap[w.heap.size + 1]? = some (.cells #[.int .i64 0, .slice none 0 0, .slice none 0 0] 30 (0, 0)) ∧ Below w.heap.size w w') := fun w' hb' => ⟨bel_row hr1 hb', bel_row hr2 hb', bel_up hB1 hb' (Nat.le_refl _)⟩
  obtain ⟨⟨n0, n1, n2⟩, _⟩ := rw3 hr1
  have cX := fun W => rnode_any N (.slice a R.length cap) (.slice ka K.length kc) x W
  rw [hx] at cX
  have cY := fun W => rnode_any N (.slice a R.length cap) (.slice ka K.length kc) y W
  rw [hy] at cY
  clear h hr1 hr2
  go_enter Try.func21, Try.ntmps21
  go_upto_region 1 with fail
  rw [HW1.out]
  clear HW1
  go_wp2_with fail
  refine (cX _).mono ?_
  rintro e w2 ⟨rfl, hb2⟩
  obtain ⟨r1, r2, rB⟩ := HROW.out w2 hb2
  clear n0 n1 n2 cX
  obtain ⟨⟨n0, n1, n2⟩, _⟩ := rw3 r1
  go_wp2_with fail
  refine (cY _).mono ?_
  rintro e w3 ⟨rfl, hb3⟩
  have hb3' := bel_up hb2 hb3 (Nat.le_refl _)
  obtain ⟨r1, r2, rB⟩ := HROW.out w3 hb3'
  clear n0 n1 n2 cY
  obtain ⟨j1, j2, j3, _⟩ := ref_lay (x := .int .i64 N) (v1 := .slice a R.length cap) (v2 := .slice ka K.length kc) rB r2 (by omega)
  obtain ⟨⟨y0, y1, y2⟩, yf0, yf1, yf2⟩ := j1
  obtain ⟨⟨m0, m1, m2⟩, _⟩ := rw3 r1
  have HQ1 := Hid_of j2
  have HQ2 : Hid (ROut w N a cap R ka kc K R K false (.returned (.tuple #[.agg #[.int .i64 N, .slice a R.length cap, .slice ka K.length kc], .bool false])) (put3 w3 (w.heap.size + 1) (.int .i64 N) (.slice a R.length cap) (.slice ka K.length kc))) := ⟨_, _, rfl, XRes.same, KRes.same, j3⟩
  clear j2 j3 r1 r2 rB HROW
  go_wp2
  refine bodyPost_ret (v := .tuple #[.agg #[.int .i64 N, .slice a R.length cap, .slice ka K.length kc], .bool false]) ?_ rfl HQ2.out
  exact res3 f21_res _ _ (w.heap.size + 1) _ _ _ rfl HQ1.out
set_option maxRecDepth 100000 in
set_option maxHeartbeats 2000000 in
theorem rcutn_yes {w : World} {N : Int} {a : Option Addr} {cap : Nat} {R : List Pk} {ka : Option Addr} {kc : Nat} {K : List (Int × Int)} (h : RN w a cap R ka kc K) (x y : Int) (on : Bool) (hx : Nt.node N x = true) (hy : Nt.node N y = true) :
    Calls Try.prog 21 #[.agg #[.int .i64 N, .slice a R.length cap, .slice ka K.length kc], .int .i64 x, .int .i64 y, .bool on] w (ROut w N a cap R ka kc K R (Nt.cutK K (min x y) (max x y) on) true) := by
  obtain ⟨W1, HW1⟩ : ∃ W1, Hid ((w.alloc (.cells #[.int .i64 N, .slice a R.length cap, .slice ka K.length kc] 30)).alloc (.cells #[.int .i64 0, .slice none 0 0, .slice none 0 0] 30) = W1) := ⟨_, rfl⟩
  have hB1 : Below w.heap.size w W1 := by rw [← HW1.out]; exact bel2 w _ _
  have hr1 : W1.heap[w.heap.size]? = some (.cells #[.int .i64 N, .slice a R.length cap, .slice ka K.length kc] 30 (0, 0)) := by rw [← HW1.out]; exact heap_alloc2_old w _ _
  have hr2 : W1.heap[w.heap.size + 1]? = some (.cells #[.int .i64 0, .slice none 0 0, .slice none 0 0] 30 (0, 0)) := by rw [← HW1.out]; exact heap_alloc2_new w _ _
  have HROW : Hid (∀ w', Below W1.heap.size W1 w' → w'.heap[w.heap.size]? = some (.cells #[.int .i64 N, .slice a R.length cap, .slice ka K.length kc] 30 (0, 0)) ∧ w'.heap[w.heap.size + 1]? = some (.cells #[.int .i64 0, .slice none 0 0, .slice none 0 0] 30 (0, 0)) ∧ Below w.heap.size w w') := fun w' hb' => ⟨bel_row hr1 hb', bel_row hr2 hb', bel_up hB1 hb' (Nat.le_refl _)⟩
  obtain ⟨⟨n0, n1, n2⟩, _⟩ := rw3 hr1
  have HKL := Hid_of h.k
  have hkk := h.n
  have cX := fun W => rnode_any N (.slice a R.length cap) (.slice ka K.length kc) x W
  rw [hx] at cX
  have cY := fun W => rnode_any N (.slice a R.length cap) (.slice ka K.length kc) y W
  rw [hy] at cY
  have hl1 : w.heap.size + 1 < W1.heap.size := (Array.getElem?_eq_some_iff.1 hr2).1
  clear h hr1 hr2
  obtain ⟨lo, hlo⟩ : ∃ z, min x y = z := ⟨_, rfl⟩
  obtain ⟨hi, hhi⟩ : ∃ z, max x y = z := ⟨_, rfl⟩
  rw [hlo, hhi]
  go_enter Try.func21, Try.ntmps21
  go_upto_region 1 with fail
  rw [HW1.out]
  clear HW1
  go_wp2_with fail
  refine (cX _).mono ?_
  rintro e w2 ⟨rfl, hb2⟩
  obtain ⟨r1, r2, rB⟩ := HROW.out w2 hb2
  clear n0 n1 n2 cX
  obtain ⟨⟨n0, n1, n2⟩, _⟩ := rw3 r1
  go_wp2_with fail
  refine (cY _).mono ?_
  rintro e w3 ⟨rfl, hb3⟩
  have hb3' := bel_up hb2 hb3 (Nat.le_refl _)
  obtain ⟨r1, r2, rB⟩ := HROW.out w3 hb3'
  clear n0 n1 n2 cY
  clear hb2 hb3
  obtain ⟨⟨n0, n1, n2⟩, _⟩ := rw3 r1
  have HW3 := Hid_of (And.intro hb3' rB)
  have HL0 : Hid (OwnL w3 w3.heap.size (.slice none 0 0) (fltK K lo hi 0) ∧ Below w3.heap.size w3 w3) := ⟨by rw [fltK_zero]; exact OwnL.nil _ _, Below.refl _ _⟩
  have HR3 := Hid_of (And.intro r1 r2)
  have hl3 : w.heap.size + 1 < w3.heap.size := Nat.lt_of_lt_of_le hl1 hb3'.size
  -- what is returned
  have HFIN : Hid (∀ (v' : Value) (K' : List (Int × Int)) (w5 W6 : World), OwnL w5 w3.heap.size v' K' → Below w3.heap.size w3 w5 → w5.setCell ⟨w.heap.size, 2, none⟩ v' = W6 →
      (w5.cell? ⟨w.heap.size, 2, none⟩ = some (.slice ka K.length kc) ∧ w5.frozen? ⟨w.heap.size, 2, none⟩ = false) ∧ (W6.cell? ⟨w.heap.size, 0, none⟩ = some (.int .i64 N) ∧ W6.cell? ⟨w.heap.size, 1, none⟩ = some (.slice a R.length cap) ∧ W6.cell? ⟨w.heap.size, 2, none⟩ = some v') ∧ ((W6.cell? ⟨w.heap.size + 1, 0, none⟩ = some (.int .i64 0) ∧ W6.cell? ⟨w.heap.size + 1, 1, none⟩ = some (.slice none 0 0) ∧ W6.cell? ⟨w.heap.size + 1, 2, none⟩ = some (.slice none 0 0)) ∧ (W6.frozen? ⟨w.heap.size + 1, 0, none⟩ = false ∧ W6.frozen? ⟨w.heap.size + 1, 1, none⟩ = false ∧ W6.frozen? ⟨w.heap.size + 1, 2, none⟩ = false)) ∧ (put3 W6 (w.heap.size + 1) (.int .i64 N) (.slice a R.length cap) v').heap[w.heap.size + 1]? = some (.cells #[.int .i64 N, .slice a R.length cap, v'] 30 (0, 0)) ∧ ROut w N a cap R ka kc K R K' true (.returned (.tuple #[.agg #[.int .i64 N, .slice a R.length cap, v'], .bool true])) (put3 W6 (w.heap.size + 1) (.int .i64 N) (.slice a R.length cap) v')) := by
    intro v' K' w5 W6 ho hb5 hW6
    obtain ⟨t1, t2⟩ := HR3.out
    obtain ⟨e1, e2, e3, e4, e5, e6⟩ := ref_fin2 (bel_up HW3.out.2 hb5 (Nat.le_refl _)) (bel_row t1 hb5) (bel_row t2 hb5) (by omega) (Nat.le_refl _) (by omega) W6 hW6
    exact ⟨e1, e2, e3, e4, _, _, rfl, XRes.same, .inr (OwnL.low (ho.keepBut fun k hk hv => e6 k (by have := (ho.lt hv).1; omega) (by have := (ho.lt hv).1; omega)) HW3.out.2.size), e5⟩
  clear hb3' rB r1 r2 HROW hl1 hB1
  go_wp2_with fail
  go_loopw [10, 11] (fun lv iv wr => ∃ q : Nat, q ≤ K.length ∧ iv = .int .i64 q ∧ Hid (OwnL wr w3.heap.size lv (fltK K lo hi q) ∧ Below w3.heap.size w3 wr)) (fun _ iv _ => K.length - (intOf iv).toNat)
  case atStart => exact ⟨0, by omega, rfl, HL0⟩
  case round =>
    obtain ⟨q, hq, rfl, HL⟩ := hrel
    obtain ⟨⟨p0, p1, p2⟩, _⟩ := rw3 (bel_row HR3.out.1 HL.out.2)
    obtain ⟨la, lc, rfl, _⟩ := HL.out.1.at
    have hfl := fltK_len K lo hi q
    by_cases hlt : q < K.length
    · obtain ⟨kb, ko, rfl, s0, s1⟩ := (HKL.out.keep (bel_up HW3.out.2 HL.out.2 (Nat.le_refl _))) q hlt
      have e1 := ne85 K[q].1 K[q].2 lo hi
      have hqi : (q : Int) < (K.length : Int) := by omega
      by_cases he : K[q].1 = lo ∧ K[q].2 = hi
      · have hb : (!((K[q].1 == lo) && (K[q].2 == hi))) = false := by simp [he.1, he.2]
        rw [hb] at e1
        have HN : Hid (OwnL wr w3.heap.size (.slice la (fltK K lo hi q).length lc) (fltK K lo hi (q + 1)) ∧ Below w3.heap.size w3 wr) := Hid_of (by rw [fltK_out K lo hi q hlt he]; exact HL.out)
        clear hb he HKL HL
        generalize K[q].1 = u at *
        generalize K[q].2 = v at *
        generalize (fltK K lo hi q).length = fl at *
        go_wp2
        go_roundw
        case rel => exact ⟨q + 1, by omega, by go_num, HN⟩
        case measure => simp [intOf]; omega
      · have hb : (!((K[q].1 == lo) && (K[q].2 == hi))) = true := by
          cases h1 : (K[q].1 == lo) && (K[q].2 == hi)
          · rfl
          · simp only [Bool.and_eq_true, beq_iff_eq] at h1
            exact absurd h1 he
        rw [hb] at e1
        obtain ⟨W4, hW4⟩ : ∃ W4, wr.alloc (.cells #[.int .i64 K[q].1, .int .i64 K[q].2] 85) = W4 := ⟨_, rfl⟩
        have b4 : Below wr.heap.size wr W4 := by rw [← hW4]; exact bel1 wr _
        have hg4 : W4.heap[wr.heap.size]? = some (.cells #[.int .i64 K[q].1, .int .i64 K[q].2] 85 (0, 0)) := by rw [← hW4]; exact heap_alloc_last wr _
        have hs4 := b4.size
        have hs3 := HL.out.2.size
        obtain ⟨a', c', w5, hrun, o5, rw5⟩ := run_appL W4 28 w3.heap.size _ _ K[q].1 K[q].2 wr.heap.size (HL.out.1.keep b4) hg4 (by omega) (by omega)
        rw [← hW4] at hrun
        have HN : Hid (OwnL w5 w3.heap.size (.slice a' ((fltK K lo hi q).length + 1) c') (fltK K lo hi (q + 1)) ∧ Below w3.heap.size w3 w5) := by
          refine Hid_of ⟨by rw [fltK_in K lo hi q hlt he]; exact o5, ?_⟩
          exact (bel_up HL.out.2 b4 (Nat.le_refl _)).trans (rw5.below (fun k hk => (HL.out.1.lt hk).1) (by omega))
        clear hb he HKL HL o5 rw5 b4 hg4 hW4 hs4 hs3
        generalize K[q].1 = u at *
        generalize K[q].2 = v at *
        generalize (fltK K lo hi q).length = fl at *
        go_wp2_with (at_builtin; refine wpList_append_known rfl _ _ 28 rfl _ _ rfl rfl _ _ hrun ?_)
        go_roundw
        case rel => exact ⟨q + 1, by omega, by go_num, HN⟩
        case measure => simp [intOf]; omega
    · have hqe : q = K.length := by omega
      subst hqe
      cases on with
      | false =>
        have hcK : fltK K lo hi K.length = Nt.cutK K lo hi false := fltK_all K lo hi
        obtain ⟨fl, hfl2⟩ : ∃ fl, (fltK K lo hi K.length).length = fl := ⟨_, rfl⟩
        have o6 : OwnL wr w3.heap.size (.slice la fl lc) (Nt.cutK K lo hi false) := by rw [← hcK, ← hfl2]; exact HL.out.1
        rw [hfl2]
        obtain ⟨W6, hW6⟩ : ∃ W6, wr.setCell ⟨w.heap.size, 2, none⟩ (.slice la fl lc) = W6 := ⟨_, rfl⟩
        obtain ⟨⟨e1, e2⟩, ⟨y0, y1, y2⟩, ⟨⟨z0, z1, z2⟩, zf0, zf1, zf2⟩, e4, e5⟩ := HFIN.out _ _ wr W6 o6 HL.out.2 hW6
        have HW6 := Hid_of hW6
        have HQ1 := Hid_of e4
        have HQ2 := Hid_of e5
        clear HFIN HL HKL HR3 HW3 HL0 e4 e5 hW6 hcK o6 hfl hfl2
        generalize Nt.cutK K lo hi false = KK at *
        go_upto_region 12 with fail
        rw [HW6.out]
        clear HW6 e1 e2 p0 p1 p2
        go_wp2
        refine bodyPost_ret (v := .tuple #[.agg #[.int .i64 N, .slice a R.length cap, .slice la fl lc], .bool true]) ?_ rfl HQ2.out
        exact res3 f21_res _ _ (w.heap.size + 1) _ _ _ rfl HQ1.out
      | true =>
        have hcK : fltK K lo hi K.length ++ [(lo, hi)] = Nt.cutK K lo hi true := fltK_all1 K lo hi
        obtain ⟨W4, hW4⟩ : ∃ W4, wr.alloc (.cells #[.int .i64 lo, .int .i64 hi] 85) = W4 := ⟨_, rfl⟩
        have b4 : Below wr.heap.size wr W4 := by rw [← hW4]; exact bel1 wr _
        have hg4 : W4.heap[wr.heap.size]? = some (.cells #[.int .i64 lo, .int .i64 hi] 85 (0, 0)) := by rw [← hW4]; exact heap_alloc_last wr _
        have hs4 := b4.size
        have hs3 := HL.out.2.size
        obtain ⟨a', c', w5, hrun, o5, rw5⟩ := run_appL W4 28 w3.heap.size _ _ lo hi wr.heap.size (HL.out.1.keep b4) hg4 (by omega) (by omega)
        rw [← hW4] at hrun
        have b5 : Below w3.heap.size w3 w5 := (bel_up HL.out.2 b4 (Nat.le_refl _)).trans (rw5.below (fun k hk => (HL.out.1.lt hk).1) (by omega))
        rw [hcK] at o5
        obtain ⟨W6, hW6⟩ : ∃ W6, w5.setCell ⟨w.heap.size, 2, none⟩ (.slice a' ((fltK K lo hi K.length).length + 1) c') = W6 := ⟨_, rfl⟩
        obtain ⟨⟨e1, e2⟩, ⟨y0, y1, y2⟩, ⟨⟨z0, z1, z2⟩, zf0, zf1, zf2⟩, e4, e5⟩ := HFIN.out _ _ w5 W6 o5 b5 hW6
        have HW6 := Hid_of hW6
        have HQ1 := Hid_of e4
        have HQ2 := Hid_of e5
        clear HFIN HL HKL HR3 HW3 HL0 e4 e5 hW6 hcK o5 b5 rw5 b4 hg4 hW4 hs4 hs3
        generalize (fltK K lo hi K.length).length = fl at *
        generalize Nt.cutK K lo hi true = KK at *
        go_upto_region 12 with (at_builtin; refine wpList_append_known rfl _ _ 28 rfl _ _ rfl rfl _ _ hrun ?_)
        rw [HW6.out]
        clear HW6 e1 e2 p0 p1 p2 hrun
        go_wp2
        refine bodyPost_ret (v := .tuple #[.agg #[.int .i64 N, .slice a R.length cap, .slice a' (fl + 1) c'], .bool true]) ?_ rfl HQ2.out
        exact res3 f21_res _ _ (w.heap.size + 1) _ _ _ rfl HQ1.out
end Go.Proofs.Ytjbodjjeenjbeaa
