/-
  What was put is got as it was, whatever is put behind it, until it is deleted.
-/
import Derived.Test.YticjilpomdahbaaGreatP
namespace Go.Proofs.YticjilpomdahbaaGreat
open Go.RowKit
open M (ofL ofL_size ofL_of)
set_option linter.unusedVariables false

/-- The fragment is there. -/
def In (L : List Fr.Sl) (a c : Nat) (t : ByteArray) : Prop := ∃ j : Nat, L[j]? = some (some ((a, c), t))
theorem In.set {L : List Fr.Sl} {a c : Nat} {t : ByteArray} (h : In L a c t) (i : Nat) (x y : Fr.Sl) (hi : L[i]? = some y) (hy : Fr.isAt a c y = false) : In (L.set i x) a c t := by
  obtain ⟨j, hj⟩ := h
  refine ⟨j, ?_⟩
  rw [List.getElem?_set_ne (fun e => ?_)]
  · exact hj
  · subst e
    rw [hi] at hj
    cases hj
    rw [isAt_self] at hy
    cases hy
theorem In.put {L L' : List Fr.Sl} {a c : Nat} {t : ByteArray} (h : In L a c t) {p q : Int} {s : ByteArray} {r : Int} (hr : PutR L p q s r L') : In L' a c t := by
  rcases hr with ⟨_, rfl⟩ | ⟨_, i, a', c', _, _, hi, _, rfl⟩
  · exact h
  · exact h.set i _ none hi rfl
theorem In.del {L L' : List Fr.Sl} {a c : Nat} {t : ByteArray} (h : In L a c t) {p q : Int} {r : Int} (hne : (decide (p = a) && decide (q = c)) = false) (hr : DelR L p q r L') : In L' a c t := by
  rcases hr with ⟨_, rfl, _⟩ | ⟨_, i, a', c', t', e1, e2, hi, rfl⟩
  · exact h
  · refine h.set i _ _ hi ?_
    subst e1 e2
    simp only [Fr.isAt]
    exact hne
theorem In.twice {L L' : List Fr.Sl} {a c : Nat} {t : ByteArray} (h : In L a c t) {s : ByteArray} {r : Int} (hr : PutR L a c s r L') : r ≠ 0 := by
  rcases hr with ⟨h', _⟩ | ⟨_, i, a', c', e1, e2, hi, ha, _⟩
  · exact h'
  · obtain ⟨j, hj⟩ := h
    exact absurd hj (ha.ne j t)
theorem ab_gone {P : List M.Pl} {L : List Fr.Sl} (h : Fr.Good P L) {j a c : Nat} {t : ByteArray} (hj : L[j]? = some (some ((a, c), t))) : Ab (L.set j none) a c := by
  intro i x hx
  cases hb : Fr.isAt a c x with
  | false => rfl
  | true =>
    obtain ⟨a', c', t', rfl, e1, e2⟩ := isAt_iff hb
    have e1 : a = a' := by omega
    have e2 : c = c' := by omega
    subst e1 e2
    rw [List.getElem?_set] at hx
    split at hx
    · split at hx <;> cases hx
    · rename_i hne
      exact absurd (h.once j i _ _ _ hj hx) hne
/-- A deed's box. -/
def DB (w : World) (B : Nat) (k st p q : Int) (t : ByteArray) (keep : Nat) : Prop := w.heap[B]? = some (.cells #[.int .i64 k, .int .i64 st, .int .i64 p, .int .i64 q, .string t, .int .u64 (keep : Int)] 27 (0, 0))
theorem DB.c {w : World} {B : Nat} {k st p q : Int} {t : ByteArray} {keep : Nat} (h : DB w B k st p q t keep) : w.cell? ⟨B, 0, none⟩ = some (.int .i64 k) ∧ w.cell? ⟨B, 1, none⟩ = some (.int .i64 st) ∧ w.cell? ⟨B, 2, none⟩ = some (.int .i64 p) ∧ w.cell? ⟨B, 3, none⟩ = some (.int .i64 q) ∧ w.cell? ⟨B, 4, none⟩ = some (.string t) ∧ w.cell? ⟨B, 5, none⟩ = some (.int .u64 (keep : Int)) := by
  refine ⟨?_, ?_, ?_, ?_, ?_, ?_⟩
  all_goals rw [cell_of_row w B _ _ _ _ h]; rfl
theorem DB.keep {w w' : World} {B : Nat} {k st p q : Int} {t : ByteArray} {keep : Nat} (h : DB w B k st p q t keep) (hb : Below w.heap.size w w') : DB w' B k st p q t keep := bel_row h hb
theorem DB.dds {w : World} {B : Nat} {k st p q : Int} {t : ByteArray} {keep : Nat} (h : DB w B k st p q t keep) : Dds w (some ⟨B, 0, none⟩) [⟨k, st, p, q, t, keep⟩] := by
  intro j hj
  simp only [List.length_cons, List.length_nil, Nat.zero_add, Nat.lt_one_iff] at hj
  subst hj
  refine ⟨B, 0, rfl, fun o ho => ?_⟩
  rw [cell_of_row w B _ _ _ _ h]
  match o, ho with
  | 0, _ => rfl
  | 1, _ => rfl
  | 2, _ => rfl
  | 3, _ => rfl
  | 4, _ => rfl
  | 5, _ => rfl
set_option maxRecDepth 100000 in
set_option maxHeartbeats 1000000 in
theorem once_walk (n : Int) (a : Option Addr) (cap : Nat) (l : List Dd) (k st p q : Int) (t : ByteArray) (keep : Nat) (w : World) (hl : l.length ≤ maxLen) (hat : Dds w a l) (hok : ∀ d ∈ l, d.ok) (hd : (Dd.mk k st p q t keep).ok) :
    Calls Tryz.prog 4 #[.int .i64 n, .slice a l.length cap, .agg #[.int .i64 k, .int .i64 st, .int .i64 p, .int .i64 q, .string t, .int .u64 (keep : Int)]] w fun e w' => e = .returned (.bool true) ∧ Below w.heap.size w w' := by
  obtain ⟨W0, hW0⟩ : ∃ W0, w.alloc (.cells #[.int .i64 k, .int .i64 st, .int .i64 p, .int .i64 q, .string t, .int .u64 (keep : Int)] 27) = W0 := ⟨_, rfl⟩
  have hb0 : Below w.heap.size w W0 := by rw [← hW0]; exact bel1 w _
  have hB0 : DB W0 w.heap.size k st p q t keep := by rw [← hW0]; exact heap_alloc_last w _
  have hF0 := few_any n a cap l W0 hl (hat.keep hb0) hok
  have HW0 := Hid_of hW0
  have HB0 := Hid_of hb0
  have HDB0 := Hid_of hB0
  have HAT0 := Hid_of (hat.keep hb0)
  have HD := Hid_of hd
  obtain ⟨B, hB⟩ : ∃ B, w.heap.size = B := ⟨_, rfl⟩
  rw [hB] at HDB0
  obtain ⟨x0, x1, x2, x3, x4, x5⟩ := HDB0.out.c
  have HBB := Hid_of hB
  clear hW0 hb0 hB0 hat hok hd hB
  have hl' := hl
  unfold maxLen at hl'
  go_enter Tryz.func4, Tryz.ntmps4
  go_upto_region 1 with fail
  rw [HW0.out, HBB.out]
  clear HW0
  go_wp2_with fail
  refine hF0.mono ?_
  rintro e w1 ⟨fb, rfl, hfb, rfl⟩
  clear hF0
  cases fb with
  | false =>
    clear hfb
    go_wp2_with fail
    refine (awake_any _).mono ?_
    rintro x w2 ⟨rfl, hb⟩
    have HBX := Hid_of (bel_up HB0.out hb (Nat.le_refl _))
    clear hb
    go_wp2
    go_ret
    exact ⟨rfl, HBX.out⟩
  | true =>
    have hfew := hfb rfl
    clear hfb
    obtain ⟨W1, hW1⟩ : ∃ W1, w1.alloc (.cells #[.int .i64 k, .int .i64 st, .int .i64 p, .int .i64 q, .string t, .int .u64 (keep : Int)] 27) = W1 := ⟨_, rfl⟩
    have hb1 : Below w1.heap.size w1 W1 := by rw [← hW1]; exact bel1 w1 _
    have hB1 : DB W1 w1.heap.size k st p q t keep := by rw [← hW1]; exact heap_alloc_last w1 _
    have hF1 : Calls Tryz.prog 5 #[.int .i64 n, .slice (some ⟨w1.heap.size, 0, none⟩) 1 1] W1 (FewOut n [⟨k, st, p, q, t, keep⟩] W1) := few_any n (some ⟨w1.heap.size, 0, none⟩) 1 [⟨k, st, p, q, t, keep⟩] W1 (by simp; decide) hB1.dds (fun d hd => by simp at hd; subst hd; exact HD.out)
    have HW1 := Hid_of hW1
    have HB1 := Hid_of (bel_up HB0.out hb1 (Nat.le_refl _))
    have HDB1 := Hid_of (HDB0.out.keep hb1)
    have HAT1 := Hid_of (HAT0.out.keep hb1)
    have HFEW := Hid_of hfew
    clear hW1 hb1 hB1 hfew HB0 HDB0 HAT0
    go_wp2_with fail
    rw [HW1.out]
    refine hF1.mono ?_
    rintro e w2 ⟨fb, rfl, hfb, rfl⟩
    clear hF1 HW1 x0 x1 x2 x3 x4 x5
    cases fb with
    | false =>
      clear hfb
      go_wp2_with fail
      refine (awake_any _).mono ?_
      rintro x w3 ⟨rfl, hb⟩
      have HBX := Hid_of (bel_up HB1.out hb (Nat.le_refl _))
      clear hb
      go_wp2
      go_ret
      exact ⟨rfl, HBX.out⟩
    | true =>
      have hts : t.size ≤ 3000 := (hfb rfl).2.2 ⟨k, st, p, q, t, keep⟩ (by simp)
      clear hfb
      have hNW := newD n w2
      obtain ⟨hn1, hn2, -⟩ := cntOf_le n
      have hgn := new_good (cntOf n) hn1
      obtain ⟨N, hN⟩ : ∃ N, cntOf n = N := ⟨_, rfl⟩
      rw [hN] at hNW hgn hn1 hn2
      clear hN
      generalize new N = P0 at *
      generalize List.replicate (min (N / 9) 256) (none : Fr.Sl) = L0 at *
      have HGN := Hid_of hgn
      clear hgn
      go_wp2_with fail
      refine hNW.mono ?_
      rintro e w3 ⟨d, F3, rfl, S3⟩
      have c1 := openG S3 HGN.out.1 HGN.out.2
      clear hNW S3 HGN
      go_wp2_with fail
      refine c1.mono ?_
      rintro e w4 ⟨b, s, rfl, G4, -, -⟩
      have HBX : Hid (∀ W, Below w2.heap.size w2 W → DB W B k st p q t keep ∧ Dds W a l ∧ Below w.heap.size w W) := fun W hW => ⟨HDB1.out.keep hW, HAT1.out.keep hW, bel_up HB1.out hW (Nat.le_refl _)⟩
      obtain ⟨x0, x1, x2, x3, x4, x5⟩ := (HBX.out w4 G4.f.dev.bel).1.c
      have c2 := G4.put p q t (by unfold maxLen; omega)
      clear c1 G4 HB1 HDB1 HAT1
      go_wp2_with fail
      refine c2.mono ?_
      rintro e w5 ⟨r, F5, P5, L5, rfl, G5, -, hR⟩
      clear c2 x0 x1 x2 x3 x4 x5
      rcases hR with ⟨hr, rfl⟩ | ⟨rfl, i, a', c', rfl, rfl, hi, -, rfl⟩
      · have hne : (r != 0) = true := by simpa using hr
        have HB5 := Hid_of (HBX.out w5 G5.f.dev.bel).2.2
        clear G5 hr
        go_wp2_with fail
        refine (awake_any _).mono ?_
        rintro x w6 ⟨rfl, hb⟩
        have HB6 := Hid_of (bel_up HB5.out hb (Nat.le_refl _))
        clear hb
        go_wp2
        go_ret
        exact ⟨rfl, HB6.out⟩
      · have HIN : Hid (In (L0.set i (some ((a', c'), t))) a' c' t) := ⟨i, by rw [List.getElem?_set, if_pos rfl, if_pos (lt_of_some hi)]⟩
        have HG5 := Hid_of G5
        clear G5 hi
        go_wp2
        go_loopw [9] (fun i wr => ∃ (j : Nat) (G : Nat → Prop) (P : List M.Pl) (L : List Fr.Sl), j ≤ l.length ∧ i = .int .i64 j ∧ GS w2 wr b s d G N P L ∧ In L a' c' t) (fun i _ => l.length - (intOf i).toNat)
        case atStart => exact ⟨0, _, _, _, by omega, rfl, HG5.out, HIN.out⟩
        case round =>
          obtain ⟨j, G, P, L, hj, rfl, hG, hI⟩ := hrel
          clear HG5 HIN
          have hbx := HBX.out wr hG.f.dev.bel
          obtain ⟨x0, x1, x2, x3, x4, x5⟩ := hbx.1.c
          by_cases hlt : j < l.length
          · obtain ⟨bb, off, rfl, y0, y1, y2, y3, y4, y5⟩ := hbx.2.1.get j hlt
            have hsz := HFEW.out.2.2 l[j] (List.getElem_mem hlt)
            generalize ek : l[j].k = kk at *
            generalize ep : l[j].p = kp at *
            generalize eq : l[j].q = kq at *
            generalize et : l[j].txt = kt at *
            clear y1 y5
            have heq := eq24 kp kq a' c'
            have HCL : Hid (∀ W, Below w2.heap.size w2 W → (W.cell? ⟨bb, off + j * 6, none⟩ = some (.int .i64 kk) ∧ W.cell? ⟨bb, off + j * 6 + 2, none⟩ = some (.int .i64 kp) ∧ W.cell? ⟨bb, off + j * 6 + 3, none⟩ = some (.int .i64 kq) ∧ W.cell? ⟨bb, off + j * 6 + 4, none⟩ = some (.string kt))) := fun W hW => by
              obtain ⟨b', o', e', z0, z1, z2, z3, z4, z5⟩ := (HBX.out W hW).2.1.get j hlt
              cases e'
              rw [ek] at z0
              rw [ep] at z2
              rw [eq] at z3
              rw [et] at z4
              exact ⟨z0, z2, z3, z4⟩
            have HGS := Hid_of hG
            have HI := Hid_of hI
            clear ek ep eq et
            cases he : (decide (kp = (a' : Int)) && decide (kq = (c' : Int))) with
            | true =>
              rw [he] at heq
              simp only [Bool.and_eq_true, decide_eq_true_eq] at he
              obtain ⟨rfl, rfl⟩ := he
              clear hbx hG hI
              go_wp2_with fail
              go_region
              by_cases hk0 : kk = 0
              · subst hk0
                by_cases h512 : kt.size ≤ 512
                · have hle : decide ((kt.size : Int) ≤ 512) = true := decide_eq_true (by omega)
                  have hS2 := HGS.out.keep (w' := wr.drew.drew) (Below.drew (Below.drew (Below.refl _ _)))
                  have cP := hS2.put a' c' kt (by unfold maxLen; omega)
                  clear hS2
                  go_wp2_with fail
                  refine wp_region_held_drew (S := fun wq => wq.cell? ⟨bb, off + j * 6, none⟩ = some (.int .i64 0) ∧ wq.cell? ⟨bb, off + j * 6 + 2, none⟩ = some (.int .i64 a') ∧ wq.cell? ⟨bb, off + j * 6 + 3, none⟩ = some (.int .i64 c') ∧ wq.cell? ⟨bb, off + j * 6 + 4, none⟩ = some (.string kt)) (by kernel_rfl) ⟨y0, y2, y3, y4⟩ (fun hHeld => ?_)
                  refine wpAnyH_take (i := 0) (oi := ?p0c) (v := ?v0c) ?o0c (by kernel_rfl) (by kernel_rfl) (by kernel_rfl) ?q0c ?y0c hHeld ?r0c
                  case o0c => simp only [List.getElem?_toArray, List.getElem?_cons_zero]; rfl
                  case q0c => exact fun _ _ _ h => h
                  case y0c => (refine Or.inl ⟨rfl, ?_⟩; intro wq hq; obtain ⟨z0, z2, z3, z4⟩ := hq; go_simp; try with_reducible rfl)
                  simp only [Act.put, List.setIfInBounds_toArray, List.set_cons_zero, List.set_cons_succ]
                  refine wpAnyH_take (i := 1) (oi := ?p1c) (v := ?v1c) ?o1c (by kernel_rfl) (by kernel_rfl) (by kernel_rfl) ?q1c ?y1c hHeld ?r1c
                  case o1c => simp only [List.getElem?_toArray, List.getElem?_cons_succ, List.getElem?_cons_zero]; rfl
                  case q1c => exact fun _ _ _ h => h
                  case y1c => (refine Or.inl ⟨rfl, ?_⟩; intro wq hq; obtain ⟨z0, z2, z3, z4⟩ := hq; go_simp; try with_reducible rfl)
                  simp only [Act.put, List.setIfInBounds_toArray, List.set_cons_zero, List.set_cons_succ]
                  refine wpAnyH_take (i := 2) (oi := ?p2c) (v := ?v2c) ?o2c (by kernel_rfl) (by kernel_rfl) (by kernel_rfl) ?q2c ?y2c hHeld ?r2c
                  case o2c => simp only [List.getElem?_toArray, List.getElem?_cons_succ, List.getElem?_cons_zero]; rfl
                  case q2c => exact fun _ _ _ h => h
                  case y2c => (refine Or.inl ⟨rfl, ?_⟩; intro wq hq; obtain ⟨z0, z2, z3, z4⟩ := hq; go_simp; try with_reducible rfl)
                  simp only [Act.put, List.setIfInBounds_toArray, List.set_cons_zero, List.set_cons_succ]
                  refine wpAnyH_take (i := 3) (oi := ?p3c) (v := ?v3c) ?o3c (by kernel_rfl) (by kernel_rfl) (by kernel_rfl) ?q3c ?y3c hHeld ?r3c
                  case o3c => simp only [List.getElem?_toArray, List.getElem?_cons_succ, List.getElem?_cons_zero]; rfl
                  case q3c => exact fun _ _ _ h => h
                  case y3c => (refine Or.inl ⟨rfl, ?_⟩; intro wq hq; obtain ⟨z0, z2, z3, z4⟩ := hq; go_simp; try with_reducible rfl)
                  simp only [Act.put, List.setIfInBounds_toArray, List.set_cons_zero, List.set_cons_succ]
                  refine wpAnyH_take (i := 4) (oi := ?p4c) (v := ?v4c) ?o4c (by kernel_rfl) (by kernel_rfl) (by kernel_rfl) ?q4c ?y4c hHeld ?r4c
                  case o4c => simp only [List.getElem?_toArray, List.getElem?_cons_succ, List.getElem?_cons_zero]; rfl
                  case q4c => exact fun _ _ _ h => h
                  case y4c => (refine Or.inl ⟨rfl, ?_⟩; intro wq hq; obtain ⟨z0, z2, z3, z4⟩ := hq; go_simp; try with_reducible rfl)
                  simp only [Act.put, List.setIfInBounds_toArray, List.set_cons_zero, List.set_cons_succ]
                  refine wpAnyH_take (i := 5) (oi := ?p5c) (v := ?v5c) ?o5c (by kernel_rfl) (by kernel_rfl) (by kernel_rfl) ?q5c ?y5c hHeld ?r5c
                  case o5c => simp only [List.getElem?_toArray, List.getElem?_cons_succ, List.getElem?_cons_zero]; rfl
                  case q5c => exact fun _ _ _ h => h
                  case y5c => (refine Or.inl ⟨rfl, ?_⟩; intro wq hq; obtain ⟨z0, z2, z3, z4⟩ := hq; go_simp; try with_reducible rfl)
                  simp only [Act.put, List.setIfInBounds_toArray, List.set_cons_zero, List.set_cons_succ]
                  refine wpAnyH_take (i := 6) (oi := ?p6c) (v := ?v6c) ?o6c (by kernel_rfl) (by kernel_rfl) (by kernel_rfl) ?q6c ?y6c hHeld ?r6c
                  case o6c => simp only [List.getElem?_toArray, List.getElem?_cons_succ, List.getElem?_cons_zero]; rfl
                  case q6c => exact fun _ _ _ h => h
                  case y6c => (refine Or.inl ⟨rfl, ?_⟩; intro wq hq; obtain ⟨z0, z2, z3, z4⟩ := hq; go_simp; try with_reducible rfl)
                  simp only [Act.put, List.setIfInBounds_toArray, List.set_cons_zero, List.set_cons_succ]
                  refine wpAnyH_take (i := 7) (oi := ?p7c) (v := ?v7c) ?o7c (by kernel_rfl) (by kernel_rfl) (by kernel_rfl) ?q7c ?y7c hHeld ?r7c
                  case o7c => simp only [List.getElem?_toArray, List.getElem?_cons_succ, List.getElem?_cons_zero]; rfl
                  case q7c => exact fun _ _ _ h => h
                  case y7c => (refine Or.inl ⟨rfl, ?_⟩; intro wq hq; obtain ⟨z0, z2, z3, z4⟩ := hq; go_simp; try with_reducible rfl)
                  simp only [Act.put, List.setIfInBounds_toArray, List.set_cons_zero, List.set_cons_succ]
                  refine wpAnyH_take (i := 8) (oi := ?p8c) (v := ?v8c) ?o8c (by kernel_rfl) (by kernel_rfl) (by kernel_rfl) ?q8c ?y8c hHeld ?r8c
                  case o8c => simp only [List.getElem?_toArray, List.getElem?_cons_succ, List.getElem?_cons_zero]; rfl
                  case q8c => exact fun _ _ _ h => h
                  case y8c => (refine Or.inl ⟨rfl, ?_⟩; intro wq hq; obtain ⟨z0, z2, z3, z4⟩ := hq; go_simp; try with_reducible rfl)
                  simp only [Act.put, List.setIfInBounds_toArray, List.set_cons_zero, List.set_cons_succ]
                  refine wpAnyH_take (i := 9) (oi := ?p9c) (v := ?v9c) ?o9c (by kernel_rfl) (by kernel_rfl) (by kernel_rfl) ?q9c ?y9c hHeld ?r9c
                  case o9c => simp only [List.getElem?_toArray, List.getElem?_cons_succ, List.getElem?_cons_zero]; rfl
                  case q9c => exact fun _ _ _ h => h
                  case y9c => (refine Or.inl ⟨rfl, ?_⟩; intro wq hq; obtain ⟨z0, z2, z3, z4⟩ := hq; go_simp; try with_reducible rfl)
                  simp only [Act.put, List.setIfInBounds_toArray, List.set_cons_zero, List.set_cons_succ]
                  refine wpAnyH_take (i := 10) (oi := ?p10c) (v := ?v10c) ?o10c (by kernel_rfl) (by kernel_rfl) (by kernel_rfl) ?q10c ?y10c hHeld ?r10c
                  case o10c => simp only [List.getElem?_toArray, List.getElem?_cons_succ, List.getElem?_cons_zero]; rfl
                  case q10c => exact fun _ _ _ h => h
                  case y10c => (refine Or.inl ⟨rfl, ?_⟩; intro wq hq; obtain ⟨z0, z2, z3, z4⟩ := hq; go_simp; try with_reducible rfl)
                  simp only [Act.put, List.setIfInBounds_toArray, List.set_cons_zero, List.set_cons_succ]
                  refine wpAnyH_take (i := 11) (oi := ?p11c) (v := ?v11c) ?o11c (by kernel_rfl) (by kernel_rfl) (by kernel_rfl) ?q11c ?y11c hHeld ?r11c
                  case o11c => simp only [List.getElem?_toArray, List.getElem?_cons_succ, List.getElem?_cons_zero]; rfl
                  case q11c => exact fun _ _ _ h => h
                  case y11c => (refine Or.inl ⟨rfl, ?_⟩; intro wq hq; obtain ⟨z0, z2, z3, z4⟩ := hq; go_simp; try with_reducible rfl)
                  simp only [Act.put, List.setIfInBounds_toArray, List.set_cons_zero, List.set_cons_succ]
                  refine wpAnyH_take (i := 12) (oi := ?p12c) (v := ?v12c) ?o12c (by kernel_rfl) (by kernel_rfl) (by kernel_rfl) ?q12c ?y12c hHeld ?r12c
                  case o12c => simp only [List.getElem?_toArray, List.getElem?_cons_succ, List.getElem?_cons_zero]; rfl
                  case q12c => exact fun _ _ _ h => h
                  case y12c => (refine Or.inl ⟨rfl, ?_⟩; intro wq hq; obtain ⟨z0, z2, z3, z4⟩ := hq; go_simp; try with_reducible rfl)
                  simp only [Act.put, List.setIfInBounds_toArray, List.set_cons_zero, List.set_cons_succ]
                  refine wpAnyH_take (i := 13) (oi := ?p13c) (v := ?v13c) ?o13c (by kernel_rfl) (by kernel_rfl) (by kernel_rfl) ?q13c ?y13c hHeld ?r13c
                  case o13c => simp only [List.getElem?_toArray, List.getElem?_cons_succ, List.getElem?_cons_zero]; rfl
                  case q13c => exact fun _ _ _ h => h
                  case y13c => (refine Or.inl ⟨rfl, ?_⟩; intro wq hq; obtain ⟨z0, z2, z3, z4⟩ := hq; go_simp; try with_reducible rfl)
                  simp only [Act.put, List.setIfInBounds_toArray, List.set_cons_zero, List.set_cons_succ]
                  refine wpAnyH_take (i := 14) (oi := ?p14c) (v := ?v14c) ?o14c (by kernel_rfl) (by kernel_rfl) (by kernel_rfl) ?q14c ?y14c hHeld ?r14c
                  case o14c => simp only [List.getElem?_toArray, List.getElem?_cons_succ, List.getElem?_cons_zero]; rfl
                  case q14c => exact fun _ _ _ h => h
                  case y14c => (refine Or.inl ⟨rfl, ?_⟩; intro wq hq; obtain ⟨z0, z2, z3, z4⟩ := hq; go_simp; try with_reducible rfl)
                  simp only [Act.put, List.setIfInBounds_toArray, List.set_cons_zero, List.set_cons_succ]
                  refine wpAnyH_take (i := 15) (oi := ?p15c) (v := ?v15c) ?o15c (by kernel_rfl) (by kernel_rfl) (by kernel_rfl) ?q15c ?y15c hHeld ?r15c
                  case o15c => simp only [List.getElem?_toArray, List.getElem?_cons_succ, List.getElem?_cons_zero]; rfl
                  case q15c => exact fun _ _ _ h => h
                  case y15c => (refine Or.inl ⟨rfl, ?_⟩; intro wq hq; obtain ⟨z0, z2, z3, z4⟩ := hq; go_simp; try with_reducible rfl)
                  simp only [Act.put, List.setIfInBounds_toArray, List.set_cons_zero, List.set_cons_succ]
                  refine wpAnyH_take (i := 16) (oi := ?p16c) (v := ?v16c) ?o16c (by kernel_rfl) (by kernel_rfl) (by kernel_rfl) ?q16c ?y16c hHeld ?r16c
                  case o16c => simp only [List.getElem?_toArray, List.getElem?_cons_succ, List.getElem?_cons_zero]; rfl
                  case q16c => exact fun _ _ _ h => h
                  case y16c => (refine Or.inl ⟨rfl, ?_⟩; intro wq hq; obtain ⟨z0, z2, z3, z4⟩ := hq; go_simp; try with_reducible rfl)
                  simp only [Act.put, List.setIfInBounds_toArray, List.set_cons_zero, List.set_cons_succ]
                  refine wpAnyH_take (i := 17) (oi := ?p17c) (v := ?v17c) ?o17c (by kernel_rfl) (by kernel_rfl) (by kernel_rfl) ?q17c ?y17c hHeld ?r17c
                  case o17c => simp only [List.getElem?_toArray, List.getElem?_cons_succ, List.getElem?_cons_zero]; rfl
                  case q17c => exact fun _ _ _ h => h
                  case y17c => (refine Or.inl ⟨rfl, ?_⟩; intro wq hq; obtain ⟨z0, z2, z3, z4⟩ := hq; go_simp; try with_reducible rfl)
                  simp only [Act.put, List.setIfInBounds_toArray, List.set_cons_zero, List.set_cons_succ]
                  refine wpAnyH_take (i := 18) (oi := ?p18c) (v := ?v18c) ?o18c (by kernel_rfl) (by kernel_rfl) (by kernel_rfl) ?q18c ?y18c hHeld ?r18c
                  case o18c => simp only [List.getElem?_toArray, List.getElem?_cons_succ, List.getElem?_cons_zero]; rfl
                  case q18c => exact fun _ _ _ h => h
                  case y18c => (refine Or.inl ⟨rfl, ?_⟩; intro wq hq; obtain ⟨z0, z2, z3, z4⟩ := hq; go_simp; try with_reducible rfl)
                  simp only [Act.put, List.setIfInBounds_toArray, List.set_cons_zero, List.set_cons_succ]
                  refine wpAnyH_take (i := 19) (oi := ?p19c) (v := ?v19c) ?o19c (by kernel_rfl) (by kernel_rfl) (by kernel_rfl) ?q19c ?y19c hHeld ?r19c
                  case o19c => simp only [List.getElem?_toArray, List.getElem?_cons_succ, List.getElem?_cons_zero]; rfl
                  case q19c => exact fun _ _ _ h => h
                  case y19c => (refine Or.inl ⟨rfl, ?_⟩; intro wq hq; obtain ⟨z0, z2, z3, z4⟩ := hq; go_simp; try with_reducible rfl)
                  simp only [Act.put, List.setIfInBounds_toArray, List.set_cons_zero, List.set_cons_succ]
                  refine wpAnyH_take (i := 20) (oi := ?p20c) (v := ?v20c) ?o20c (by kernel_rfl) (by kernel_rfl) (by kernel_rfl) ?q20c ?y20c hHeld ?r20c
                  case o20c => simp only [List.getElem?_toArray, List.getElem?_cons_succ, List.getElem?_cons_zero]; rfl
                  case q20c => exact fun _ _ _ h => h
                  case y20c => (refine Or.inl ⟨rfl, ?_⟩; intro wq hq; obtain ⟨z0, z2, z3, z4⟩ := hq; go_simp; try with_reducible rfl)
                  simp only [Act.put, List.setIfInBounds_toArray, List.set_cons_zero, List.set_cons_succ]
                  refine wpAnyH_take (i := 21) (oi := ?p21c) (v := ?v21c) ?o21c (by kernel_rfl) (by kernel_rfl) (by kernel_rfl) ?q21c ?y21c hHeld ?r21c
                  case o21c => simp only [List.getElem?_toArray, List.getElem?_cons_succ, List.getElem?_cons_zero]; rfl
                  case q21c => exact fun _ _ _ h => h
                  case y21c => (refine Or.inl ⟨rfl, ?_⟩; intro wq hq; obtain ⟨z0, z2, z3, z4⟩ := hq; go_simp; try with_reducible rfl)
                  simp only [Act.put, List.setIfInBounds_toArray, List.set_cons_zero, List.set_cons_succ]
                  refine wpAnyH_take (i := 22) (oi := ?p22c) (v := ?v22c) ?o22c (by kernel_rfl) (by kernel_rfl) (by kernel_rfl) ?q22c ?y22c hHeld ?r22c
                  case o22c => simp only [List.getElem?_toArray, List.getElem?_cons_succ, List.getElem?_cons_zero]; rfl
                  case q22c => exact fun _ _ _ h => h
                  case y22c => (refine Or.inl ⟨rfl, ?_⟩; intro wq hq; obtain ⟨z0, z2, z3, z4⟩ := hq; go_simp; try with_reducible rfl)
                  simp only [Act.put, List.setIfInBounds_toArray, List.set_cons_zero, List.set_cons_succ]
                  refine wpAnyH_take (i := 23) (oi := ?p23c) (v := ?v23c) ?o23c (by kernel_rfl) (by kernel_rfl) (by kernel_rfl) ?q23c ?y23c hHeld ?r23c
                  case o23c => simp only [List.getElem?_toArray, List.getElem?_cons_succ, List.getElem?_cons_zero]; rfl
                  case q23c => exact fun _ _ _ h => h
                  case y23c => (refine Or.inl ⟨rfl, ?_⟩; intro wq hq; obtain ⟨z0, z2, z3, z4⟩ := hq; go_simp; try with_reducible rfl)
                  simp only [Act.put, List.setIfInBounds_toArray, List.set_cons_zero, List.set_cons_succ]
                  refine wpAnyH_take (i := 24) (oi := ?p24c) (v := ?v24c) ?o24c (by kernel_rfl) (by kernel_rfl) (by kernel_rfl) ?q24c ?y24c hHeld ?r24c
                  case o24c => simp only [List.getElem?_toArray, List.getElem?_cons_succ, List.getElem?_cons_zero]; rfl
                  case q24c => exact fun _ _ _ h => h
                  case y24c => (refine Or.inl ⟨rfl, ?_⟩; intro wq hq; obtain ⟨z0, z2, z3, z4⟩ := hq; go_simp; try with_reducible rfl)
                  simp only [Act.put, List.setIfInBounds_toArray, List.set_cons_zero, List.set_cons_succ]
                  refine wpAnyH_take (i := 25) (oi := ?p25c) (v := ?v25c) ?o25c (by kernel_rfl) (by kernel_rfl) (by kernel_rfl) ?q25c ?y25c hHeld ?r25c
                  case o25c => simp only [List.getElem?_toArray, List.getElem?_cons_succ, List.getElem?_cons_zero]; rfl
                  case q25c => exact fun _ _ _ h => h
                  case y25c => (refine Or.inl ⟨rfl, ?_⟩; intro wq hq; obtain ⟨z0, z2, z3, z4⟩ := hq; go_simp; try with_reducible rfl)
                  simp only [Act.put, List.setIfInBounds_toArray, List.set_cons_zero, List.set_cons_succ]
                  refine wpAnyH_take (i := 26) (oi := ?p26c) (v := ?v26c) ?o26c (by kernel_rfl) (by kernel_rfl) (by kernel_rfl) ?q26c ?y26c hHeld ?r26c
                  case o26c => simp only [List.getElem?_toArray, List.getElem?_cons_succ, List.getElem?_cons_zero]; rfl
                  case q26c => exact fun _ _ _ h => h
                  case y26c => (refine Or.inl ⟨rfl, ?_⟩; intro wq hq; obtain ⟨z0, z2, z3, z4⟩ := hq; go_simp; try with_reducible rfl)
                  simp only [Act.put, List.setIfInBounds_toArray, List.set_cons_zero, List.set_cons_succ]
                  refine wpAnyH_ready (rs := [27]) (by kernel_rfl) (by simp) ?_
                  refine AllReadyH.cons (o := ?p27c) ?o27c ?s27c AllReadyH.nil
                  case o27c => simp only [List.getElem?_toArray, List.getElem?_cons_succ, List.getElem?_cons_zero]; rfl
                  intro K hK
                  go_simp
                  refine cP.mono ?_
                  rintro x w7 ⟨r, F7, P7, L7, rfl, G7, C7, R7⟩
                  have hr0 : (r == 0) = false := by have := HI.out.twice R7; simpa using this
                  have hin7 := HI.out.put R7
                  have HG7 := Hid_of (And.intro G7 hin7)
                  have S7 := HCL.out w7 G7.f.dev.bel
                  clear cP G7 C7 R7 hin7
                  refine hK.out _ _ S7 (fun hHeld => ?_)
                  clear hK K
                  refine wpAnyH_take (i := 28) (oi := ?p28c) (v := ?v28c) ?o28c (by kernel_rfl) (by kernel_rfl) (by kernel_rfl) ?q28c ?y28c hHeld ?r28c
                  case o28c => simp only [List.getElem?_toArray, List.getElem?_cons_succ, List.getElem?_cons_zero]; rfl
                  case q28c => exact fun _ _ _ h => h
                  case y28c => (refine Or.inl ⟨rfl, ?_⟩; intro wq hq; obtain ⟨z0, z2, z3, z4⟩ := hq; go_simp; try with_reducible rfl)
                  simp only [Act.put, List.setIfInBounds_toArray, List.set_cons_zero, List.set_cons_succ]
                  refine wpAnyH_take (i := 29) (oi := ?p29c) (v := ?v29c) ?o29c (by kernel_rfl) (by kernel_rfl) (by kernel_rfl) ?q29c ?y29c hHeld ?r29c
                  case o29c => simp only [List.getElem?_toArray, List.getElem?_cons_succ, List.getElem?_cons_zero]; rfl
                  case q29c => exact fun _ _ _ h => h
                  case y29c => (refine Or.inl ⟨rfl, ?_⟩; intro wq hq; obtain ⟨z0, z2, z3, z4⟩ := hq; go_simp; try with_reducible rfl)
                  simp only [Act.put, List.setIfInBounds_toArray, List.set_cons_zero, List.set_cons_succ]
                  refine wpAnyH_done (by kernel_rfl) ?_ _
                  go_wp2
                  go_roundw
                  case rel => exact ⟨j + 1, F7, P7, L7, by omega, by go_num, HG7.out.1, HG7.out.2⟩
                  case measure => simp [intOf]; omega
                · have hle : decide ((kt.size : Int) ≤ 512) = false := decide_eq_false (by omega)
                  go_wp2_with fail
                  refine wp_region_held_drew (S := fun wq => wq.cell? ⟨bb, off + j * 6, none⟩ = some (.int .i64 0) ∧ wq.cell? ⟨bb, off + j * 6 + 2, none⟩ = some (.int .i64 a') ∧ wq.cell? ⟨bb, off + j * 6 + 3, none⟩ = some (.int .i64 c') ∧ wq.cell? ⟨bb, off + j * 6 + 4, none⟩ = some (.string kt)) (by kernel_rfl) ⟨y0, y2, y3, y4⟩ (fun hHeld => ?_)
                  refine wpAnyH_take (i := 0) (oi := ?p0b) (v := ?v0b) ?o0b (by kernel_rfl) (by kernel_rfl) (by kernel_rfl) ?q0b ?y0b hHeld ?r0b
                  case o0b => simp only [List.getElem?_toArray, List.getElem?_cons_zero]; rfl
                  case q0b => exact fun _ _ _ h => h
                  case y0b => (refine Or.inl ⟨rfl, ?_⟩; intro wq hq; obtain ⟨z0, z2, z3, z4⟩ := hq; go_simp; try with_reducible rfl)
                  simp only [Act.put, List.setIfInBounds_toArray, List.set_cons_zero, List.set_cons_succ]
                  refine wpAnyH_take (i := 1) (oi := ?p1b) (v := ?v1b) ?o1b (by kernel_rfl) (by kernel_rfl) (by kernel_rfl) ?q1b ?y1b hHeld ?r1b
                  case o1b => simp only [List.getElem?_toArray, List.getElem?_cons_succ, List.getElem?_cons_zero]; rfl
                  case q1b => exact fun _ _ _ h => h
                  case y1b => (refine Or.inl ⟨rfl, ?_⟩; intro wq hq; obtain ⟨z0, z2, z3, z4⟩ := hq; go_simp; try with_reducible rfl)
                  simp only [Act.put, List.setIfInBounds_toArray, List.set_cons_zero, List.set_cons_succ]
                  refine wpAnyH_take (i := 2) (oi := ?p2b) (v := ?v2b) ?o2b (by kernel_rfl) (by kernel_rfl) (by kernel_rfl) ?q2b ?y2b hHeld ?r2b
                  case o2b => simp only [List.getElem?_toArray, List.getElem?_cons_succ, List.getElem?_cons_zero]; rfl
                  case q2b => exact fun _ _ _ h => h
                  case y2b => (refine Or.inl ⟨rfl, ?_⟩; intro wq hq; obtain ⟨z0, z2, z3, z4⟩ := hq; go_simp; try with_reducible rfl)
                  simp only [Act.put, List.setIfInBounds_toArray, List.set_cons_zero, List.set_cons_succ]
                  refine wpAnyH_take (i := 3) (oi := ?p3b) (v := ?v3b) ?o3b (by kernel_rfl) (by kernel_rfl) (by kernel_rfl) ?q3b ?y3b hHeld ?r3b
                  case o3b => simp only [List.getElem?_toArray, List.getElem?_cons_succ, List.getElem?_cons_zero]; rfl
                  case q3b => exact fun _ _ _ h => h
                  case y3b => (refine Or.inl ⟨rfl, ?_⟩; intro wq hq; obtain ⟨z0, z2, z3, z4⟩ := hq; go_simp; try with_reducible rfl)
                  simp only [Act.put, List.setIfInBounds_toArray, List.set_cons_zero, List.set_cons_succ]
                  refine wpAnyH_take (i := 4) (oi := ?p4b) (v := ?v4b) ?o4b (by kernel_rfl) (by kernel_rfl) (by kernel_rfl) ?q4b ?y4b hHeld ?r4b
                  case o4b => simp only [List.getElem?_toArray, List.getElem?_cons_succ, List.getElem?_cons_zero]; rfl
                  case q4b => exact fun _ _ _ h => h
                  case y4b => (refine Or.inl ⟨rfl, ?_⟩; intro wq hq; obtain ⟨z0, z2, z3, z4⟩ := hq; go_simp; try with_reducible rfl)
                  simp only [Act.put, List.setIfInBounds_toArray, List.set_cons_zero, List.set_cons_succ]
                  refine wpAnyH_take (i := 5) (oi := ?p5b) (v := ?v5b) ?o5b (by kernel_rfl) (by kernel_rfl) (by kernel_rfl) ?q5b ?y5b hHeld ?r5b
                  case o5b => simp only [List.getElem?_toArray, List.getElem?_cons_succ, List.getElem?_cons_zero]; rfl
                  case q5b => exact fun _ _ _ h => h
                  case y5b => (refine Or.inl ⟨rfl, ?_⟩; intro wq hq; obtain ⟨z0, z2, z3, z4⟩ := hq; go_simp; try with_reducible rfl)
                  simp only [Act.put, List.setIfInBounds_toArray, List.set_cons_zero, List.set_cons_succ]
                  refine wpAnyH_take (i := 6) (oi := ?p6b) (v := ?v6b) ?o6b (by kernel_rfl) (by kernel_rfl) (by kernel_rfl) ?q6b ?y6b hHeld ?r6b
                  case o6b => simp only [List.getElem?_toArray, List.getElem?_cons_succ, List.getElem?_cons_zero]; rfl
                  case q6b => exact fun _ _ _ h => h
                  case y6b => (refine Or.inl ⟨rfl, ?_⟩; intro wq hq; obtain ⟨z0, z2, z3, z4⟩ := hq; go_simp; try with_reducible rfl)
                  simp only [Act.put, List.setIfInBounds_toArray, List.set_cons_zero, List.set_cons_succ]
                  refine wpAnyH_take (i := 7) (oi := ?p7b) (v := ?v7b) ?o7b (by kernel_rfl) (by kernel_rfl) (by kernel_rfl) ?q7b ?y7b hHeld ?r7b
                  case o7b => simp only [List.getElem?_toArray, List.getElem?_cons_succ, List.getElem?_cons_zero]; rfl
                  case q7b => exact fun _ _ _ h => h
                  case y7b => (refine Or.inl ⟨rfl, ?_⟩; intro wq hq; obtain ⟨z0, z2, z3, z4⟩ := hq; go_simp; try with_reducible rfl)
                  simp only [Act.put, List.setIfInBounds_toArray, List.set_cons_zero, List.set_cons_succ]
                  refine wpAnyH_take (i := 8) (oi := ?p8b) (v := ?v8b) ?o8b (by kernel_rfl) (by kernel_rfl) (by kernel_rfl) ?q8b ?y8b hHeld ?r8b
                  case o8b => simp only [List.getElem?_toArray, List.getElem?_cons_succ, List.getElem?_cons_zero]; rfl
                  case q8b => exact fun _ _ _ h => h
                  case y8b => (refine Or.inl ⟨rfl, ?_⟩; intro wq hq; obtain ⟨z0, z2, z3, z4⟩ := hq; go_simp; try with_reducible rfl)
                  simp only [Act.put, List.setIfInBounds_toArray, List.set_cons_zero, List.set_cons_succ]
                  refine wpAnyH_take (i := 9) (oi := ?p9b) (v := ?v9b) ?o9b (by kernel_rfl) (by kernel_rfl) (by kernel_rfl) ?q9b ?y9b hHeld ?r9b
                  case o9b => simp only [List.getElem?_toArray, List.getElem?_cons_succ, List.getElem?_cons_zero]; rfl
                  case q9b => exact fun _ _ _ h => h
                  case y9b => (refine Or.inl ⟨rfl, ?_⟩; intro wq hq; obtain ⟨z0, z2, z3, z4⟩ := hq; go_simp; try with_reducible rfl)
                  simp only [Act.put, List.setIfInBounds_toArray, List.set_cons_zero, List.set_cons_succ]
                  refine wpAnyH_take (i := 10) (oi := ?p10b) (v := ?v10b) ?o10b (by kernel_rfl) (by kernel_rfl) (by kernel_rfl) ?q10b ?y10b hHeld ?r10b
                  case o10b => simp only [List.getElem?_toArray, List.getElem?_cons_succ, List.getElem?_cons_zero]; rfl
                  case q10b => exact fun _ _ _ h => h
                  case y10b => (refine Or.inl ⟨rfl, ?_⟩; intro wq hq; obtain ⟨z0, z2, z3, z4⟩ := hq; go_simp; try with_reducible rfl)
                  simp only [Act.put, List.setIfInBounds_toArray, List.set_cons_zero, List.set_cons_succ]
                  refine wpAnyH_take (i := 11) (oi := ?p11b) (v := ?v11b) ?o11b (by kernel_rfl) (by kernel_rfl) (by kernel_rfl) ?q11b ?y11b hHeld ?r11b
                  case o11b => simp only [List.getElem?_toArray, List.getElem?_cons_succ, List.getElem?_cons_zero]; rfl
                  case q11b => exact fun _ _ _ h => h
                  case y11b => (refine Or.inl ⟨rfl, ?_⟩; intro wq hq; obtain ⟨z0, z2, z3, z4⟩ := hq; go_simp; try with_reducible rfl)
                  simp only [Act.put, List.setIfInBounds_toArray, List.set_cons_zero, List.set_cons_succ]
                  refine wpAnyH_take (i := 12) (oi := ?p12b) (v := ?v12b) ?o12b (by kernel_rfl) (by kernel_rfl) (by kernel_rfl) ?q12b ?y12b hHeld ?r12b
                  case o12b => simp only [List.getElem?_toArray, List.getElem?_cons_succ, List.getElem?_cons_zero]; rfl
                  case q12b => exact fun _ _ _ h => h
                  case y12b => (refine Or.inl ⟨rfl, ?_⟩; intro wq hq; obtain ⟨z0, z2, z3, z4⟩ := hq; go_simp; try with_reducible rfl)
                  simp only [Act.put, List.setIfInBounds_toArray, List.set_cons_zero, List.set_cons_succ]
                  refine wpAnyH_take (i := 13) (oi := ?p13b) (v := ?v13b) ?o13b (by kernel_rfl) (by kernel_rfl) (by kernel_rfl) ?q13b ?y13b hHeld ?r13b
                  case o13b => simp only [List.getElem?_toArray, List.getElem?_cons_succ, List.getElem?_cons_zero]; rfl
                  case q13b => exact fun _ _ _ h => h
                  case y13b => (refine Or.inl ⟨rfl, ?_⟩; intro wq hq; obtain ⟨z0, z2, z3, z4⟩ := hq; go_simp; try with_reducible rfl)
                  simp only [Act.put, List.setIfInBounds_toArray, List.set_cons_zero, List.set_cons_succ]
                  refine wpAnyH_take (i := 14) (oi := ?p14b) (v := ?v14b) ?o14b (by kernel_rfl) (by kernel_rfl) (by kernel_rfl) ?q14b ?y14b hHeld ?r14b
                  case o14b => simp only [List.getElem?_toArray, List.getElem?_cons_succ, List.getElem?_cons_zero]; rfl
                  case q14b => exact fun _ _ _ h => h
                  case y14b => (refine Or.inl ⟨rfl, ?_⟩; intro wq hq; obtain ⟨z0, z2, z3, z4⟩ := hq; go_simp; try with_reducible rfl)
                  simp only [Act.put, List.setIfInBounds_toArray, List.set_cons_zero, List.set_cons_succ]
                  refine wpAnyH_take (i := 15) (oi := ?p15b) (v := ?v15b) ?o15b (by kernel_rfl) (by kernel_rfl) (by kernel_rfl) ?q15b ?y15b hHeld ?r15b
                  case o15b => simp only [List.getElem?_toArray, List.getElem?_cons_succ, List.getElem?_cons_zero]; rfl
                  case q15b => exact fun _ _ _ h => h
                  case y15b => (refine Or.inl ⟨rfl, ?_⟩; intro wq hq; obtain ⟨z0, z2, z3, z4⟩ := hq; go_simp; try with_reducible rfl)
                  simp only [Act.put, List.setIfInBounds_toArray, List.set_cons_zero, List.set_cons_succ]
                  refine wpAnyH_take (i := 16) (oi := ?p16b) (v := undef) ?o16b (by kernel_rfl) (by kernel_rfl) (by kernel_rfl) ?q16b ?y16b hHeld ?r16b
                  case o16b => simp only [List.getElem?_toArray, List.getElem?_cons_succ, List.getElem?_cons_zero]; rfl
                  case q16b => exact fun _ _ _ h => h
                  case y16b => exact Or.inr ⟨rfl, rfl⟩
                  simp only [Act.put, List.setIfInBounds_toArray, List.set_cons_zero, List.set_cons_succ]
                  refine wpAnyH_take (i := 17) (oi := ?p17b) (v := undef) ?o17b (by kernel_rfl) (by kernel_rfl) (by kernel_rfl) ?q17b ?y17b hHeld ?r17b
                  case o17b => simp only [List.getElem?_toArray, List.getElem?_cons_succ, List.getElem?_cons_zero]; rfl
                  case q17b => exact fun _ _ _ h => h
                  case y17b => exact Or.inr ⟨rfl, rfl⟩
                  simp only [Act.put, List.setIfInBounds_toArray, List.set_cons_zero, List.set_cons_succ]
                  refine wpAnyH_take (i := 18) (oi := ?p18b) (v := undef) ?o18b (by kernel_rfl) (by kernel_rfl) (by kernel_rfl) ?q18b ?y18b hHeld ?r18b
                  case o18b => simp only [List.getElem?_toArray, List.getElem?_cons_succ, List.getElem?_cons_zero]; rfl
                  case q18b => exact fun _ _ _ h => h
                  case y18b => exact Or.inr ⟨rfl, rfl⟩
                  simp only [Act.put, List.setIfInBounds_toArray, List.set_cons_zero, List.set_cons_succ]
                  refine wpAnyH_take (i := 19) (oi := ?p19b) (v := undef) ?o19b (by kernel_rfl) (by kernel_rfl) (by kernel_rfl) ?q19b ?y19b hHeld ?r19b
                  case o19b => simp only [List.getElem?_toArray, List.getElem?_cons_succ, List.getElem?_cons_zero]; rfl
                  case q19b => exact fun _ _ _ h => h
                  case y19b => exact Or.inr ⟨rfl, rfl⟩
                  simp only [Act.put, List.setIfInBounds_toArray, List.set_cons_zero, List.set_cons_succ]
                  refine wpAnyH_take (i := 20) (oi := ?p20b) (v := undef) ?o20b (by kernel_rfl) (by kernel_rfl) (by kernel_rfl) ?q20b ?y20b hHeld ?r20b
                  case o20b => simp only [List.getElem?_toArray, List.getElem?_cons_succ, List.getElem?_cons_zero]; rfl
                  case q20b => exact fun _ _ _ h => h
                  case y20b => exact Or.inr ⟨rfl, rfl⟩
                  simp only [Act.put, List.setIfInBounds_toArray, List.set_cons_zero, List.set_cons_succ]
                  refine wpAnyH_take (i := 21) (oi := ?p21b) (v := undef) ?o21b (by kernel_rfl) (by kernel_rfl) (by kernel_rfl) ?q21b ?y21b hHeld ?r21b
                  case o21b => simp only [List.getElem?_toArray, List.getElem?_cons_succ, List.getElem?_cons_zero]; rfl
                  case q21b => exact fun _ _ _ h => h
                  case y21b => exact Or.inr ⟨rfl, rfl⟩
                  simp only [Act.put, List.setIfInBounds_toArray, List.set_cons_zero, List.set_cons_succ]
                  refine wpAnyH_take (i := 22) (oi := ?p22b) (v := undef) ?o22b (by kernel_rfl) (by kernel_rfl) (by kernel_rfl) ?q22b ?y22b hHeld ?r22b
                  case o22b => simp only [List.getElem?_toArray, List.getElem?_cons_succ, List.getElem?_cons_zero]; rfl
                  case q22b => exact fun _ _ _ h => h
                  case y22b => exact Or.inr ⟨rfl, rfl⟩
                  simp only [Act.put, List.setIfInBounds_toArray, List.set_cons_zero, List.set_cons_succ]
                  refine wpAnyH_take (i := 23) (oi := ?p23b) (v := undef) ?o23b (by kernel_rfl) (by kernel_rfl) (by kernel_rfl) ?q23b ?y23b hHeld ?r23b
                  case o23b => simp only [List.getElem?_toArray, List.getElem?_cons_succ, List.getElem?_cons_zero]; rfl
                  case q23b => exact fun _ _ _ h => h
                  case y23b => exact Or.inr ⟨rfl, rfl⟩
                  simp only [Act.put, List.setIfInBounds_toArray, List.set_cons_zero, List.set_cons_succ]
                  refine wpAnyH_take (i := 24) (oi := ?p24b) (v := undef) ?o24b (by kernel_rfl) (by kernel_rfl) (by kernel_rfl) ?q24b ?y24b hHeld ?r24b
                  case o24b => simp only [List.getElem?_toArray, List.getElem?_cons_succ, List.getElem?_cons_zero]; rfl
                  case q24b => exact fun _ _ _ h => h
                  case y24b => exact Or.inr ⟨rfl, rfl⟩
                  simp only [Act.put, List.setIfInBounds_toArray, List.set_cons_zero, List.set_cons_succ]
                  refine wpAnyH_take (i := 25) (oi := ?p25b) (v := undef) ?o25b (by kernel_rfl) (by kernel_rfl) (by kernel_rfl) ?q25b ?y25b hHeld ?r25b
                  case o25b => simp only [List.getElem?_toArray, List.getElem?_cons_succ, List.getElem?_cons_zero]; rfl
                  case q25b => exact fun _ _ _ h => h
                  case y25b => exact Or.inr ⟨rfl, rfl⟩
                  simp only [Act.put, List.setIfInBounds_toArray, List.set_cons_zero, List.set_cons_succ]
                  refine wpAnyH_take (i := 26) (oi := ?p26b) (v := undef) ?o26b (by kernel_rfl) (by kernel_rfl) (by kernel_rfl) ?q26b ?y26b hHeld ?r26b
                  case o26b => simp only [List.getElem?_toArray, List.getElem?_cons_succ, List.getElem?_cons_zero]; rfl
                  case q26b => exact fun _ _ _ h => h
                  case y26b => exact Or.inr ⟨rfl, rfl⟩
                  simp only [Act.put, List.setIfInBounds_toArray, List.set_cons_zero, List.set_cons_succ]
                  refine wpAnyH_take (i := 27) (oi := ?p27b) (v := undef) ?o27b (by kernel_rfl) (by kernel_rfl) (by kernel_rfl) ?q27b ?y27b hHeld ?r27b
                  case o27b => simp only [List.getElem?_toArray, List.getElem?_cons_succ, List.getElem?_cons_zero]; rfl
                  case q27b => exact fun _ _ _ h => h
                  case y27b => exact Or.inr ⟨rfl, rfl⟩
                  simp only [Act.put, List.setIfInBounds_toArray, List.set_cons_zero, List.set_cons_succ]
                  refine wpAnyH_take (i := 28) (oi := ?p28b) (v := undef) ?o28b (by kernel_rfl) (by kernel_rfl) (by kernel_rfl) ?q28b ?y28b hHeld ?r28b
                  case o28b => simp only [List.getElem?_toArray, List.getElem?_cons_succ, List.getElem?_cons_zero]; rfl
                  case q28b => exact fun _ _ _ h => h
                  case y28b => exact Or.inr ⟨rfl, rfl⟩
                  simp only [Act.put, List.setIfInBounds_toArray, List.set_cons_zero, List.set_cons_succ]
                  refine wpAnyH_take (i := 29) (oi := ?p29b) (v := ?v29b) ?o29b (by kernel_rfl) (by kernel_rfl) (by kernel_rfl) ?q29b ?y29b hHeld ?r29b
                  case o29b => simp only [List.getElem?_toArray, List.getElem?_cons_succ, List.getElem?_cons_zero]; rfl
                  case q29b => exact fun _ _ _ h => h
                  case y29b => (refine Or.inl ⟨rfl, ?_⟩; intro wq hq; obtain ⟨z0, z2, z3, z4⟩ := hq; go_simp; try with_reducible rfl)
                  simp only [Act.put, List.setIfInBounds_toArray, List.set_cons_zero, List.set_cons_succ]
                  refine wpAnyH_done (by kernel_rfl) ?_ _
                  go_wp2
                  go_roundw
                  case rel => exact ⟨j + 1, G, P, L, by omega, by go_num, HGS.out.keep (Below.drew (Below.drew (Below.refl _ _))), HI.out⟩
                  case measure => simp [intOf]; omega
              · have hk0' : (kk == 0) = false := by simpa using hk0
                go_wp2_with fail
                refine wp_region_held_drew (S := fun wq => wq.cell? ⟨bb, off + j * 6, none⟩ = some (.int .i64 kk) ∧ wq.cell? ⟨bb, off + j * 6 + 2, none⟩ = some (.int .i64 a') ∧ wq.cell? ⟨bb, off + j * 6 + 3, none⟩ = some (.int .i64 c') ∧ wq.cell? ⟨bb, off + j * 6 + 4, none⟩ = some (.string kt)) (by kernel_rfl) ⟨y0, y2, y3, y4⟩ (fun hHeld => ?_)
                refine wpAnyH_take (i := 0) (oi := ?p0a) (v := ?v0a) ?o0a (by kernel_rfl) (by kernel_rfl) (by kernel_rfl) ?q0a ?y0a hHeld ?r0a
                case o0a => simp only [List.getElem?_toArray, List.getElem?_cons_zero]; rfl
                case q0a => exact fun _ _ _ h => h
                case y0a => (refine Or.inl ⟨rfl, ?_⟩; intro wq hq; obtain ⟨z0, z2, z3, z4⟩ := hq; go_simp; try with_reducible rfl)
                simp only [Act.put, List.setIfInBounds_toArray, List.set_cons_zero, List.set_cons_succ]
                refine wpAnyH_take (i := 1) (oi := ?p1a) (v := ?v1a) ?o1a (by kernel_rfl) (by kernel_rfl) (by kernel_rfl) ?q1a ?y1a hHeld ?r1a
                case o1a => simp only [List.getElem?_toArray, List.getElem?_cons_succ, List.getElem?_cons_zero]; rfl
                case q1a => exact fun _ _ _ h => h
                case y1a => (refine Or.inl ⟨rfl, ?_⟩; intro wq hq; obtain ⟨z0, z2, z3, z4⟩ := hq; go_simp; try with_reducible rfl)
                simp only [Act.put, List.setIfInBounds_toArray, List.set_cons_zero, List.set_cons_succ]
                refine wpAnyH_take (i := 2) (oi := ?p2a) (v := ?v2a) ?o2a (by kernel_rfl) (by kernel_rfl) (by kernel_rfl) ?q2a ?y2a hHeld ?r2a
                case o2a => simp only [List.getElem?_toArray, List.getElem?_cons_succ, List.getElem?_cons_zero]; rfl
                case q2a => exact fun _ _ _ h => h
                case y2a => (refine Or.inl ⟨rfl, ?_⟩; intro wq hq; obtain ⟨z0, z2, z3, z4⟩ := hq; go_simp; try with_reducible rfl)
                simp only [Act.put, List.setIfInBounds_toArray, List.set_cons_zero, List.set_cons_succ]
                refine wpAnyH_take (i := 3) (oi := ?p3a) (v := ?v3a) ?o3a (by kernel_rfl) (by kernel_rfl) (by kernel_rfl) ?q3a ?y3a hHeld ?r3a
                case o3a => simp only [List.getElem?_toArray, List.getElem?_cons_succ, List.getElem?_cons_zero]; rfl
                case q3a => exact fun _ _ _ h => h
                case y3a => (refine Or.inl ⟨rfl, ?_⟩; intro wq hq; obtain ⟨z0, z2, z3, z4⟩ := hq; go_simp; try with_reducible rfl)
                simp only [Act.put, List.setIfInBounds_toArray, List.set_cons_zero, List.set_cons_succ]
                refine wpAnyH_take (i := 4) (oi := ?p4a) (v := ?v4a) ?o4a (by kernel_rfl) (by kernel_rfl) (by kernel_rfl) ?q4a ?y4a hHeld ?r4a
                case o4a => simp only [List.getElem?_toArray, List.getElem?_cons_succ, List.getElem?_cons_zero]; rfl
                case q4a => exact fun _ _ _ h => h
                case y4a => (refine Or.inl ⟨rfl, ?_⟩; intro wq hq; obtain ⟨z0, z2, z3, z4⟩ := hq; go_simp; try with_reducible rfl)
                simp only [Act.put, List.setIfInBounds_toArray, List.set_cons_zero, List.set_cons_succ]
                refine wpAnyH_take (i := 5) (oi := ?p5a) (v := ?v5a) ?o5a (by kernel_rfl) (by kernel_rfl) (by kernel_rfl) ?q5a ?y5a hHeld ?r5a
                case o5a => simp only [List.getElem?_toArray, List.getElem?_cons_succ, List.getElem?_cons_zero]; rfl
                case q5a => exact fun _ _ _ h => h
                case y5a => (refine Or.inl ⟨rfl, ?_⟩; intro wq hq; obtain ⟨z0, z2, z3, z4⟩ := hq; go_simp; try with_reducible rfl)
                simp only [Act.put, List.setIfInBounds_toArray, List.set_cons_zero, List.set_cons_succ]
                refine wpAnyH_take (i := 6) (oi := ?p6a) (v := ?v6a) ?o6a (by kernel_rfl) (by kernel_rfl) (by kernel_rfl) ?q6a ?y6a hHeld ?r6a
                case o6a => simp only [List.getElem?_toArray, List.getElem?_cons_succ, List.getElem?_cons_zero]; rfl
                case q6a => exact fun _ _ _ h => h
                case y6a => (refine Or.inl ⟨rfl, ?_⟩; intro wq hq; obtain ⟨z0, z2, z3, z4⟩ := hq; go_simp; try with_reducible rfl)
                simp only [Act.put, List.setIfInBounds_toArray, List.set_cons_zero, List.set_cons_succ]
                refine wpAnyH_take (i := 7) (oi := ?p7a) (v := undef) ?o7a (by kernel_rfl) (by kernel_rfl) (by kernel_rfl) ?q7a ?y7a hHeld ?r7a
                case o7a => simp only [List.getElem?_toArray, List.getElem?_cons_succ, List.getElem?_cons_zero]; rfl
                case q7a => exact fun _ _ _ h => h
                case y7a => exact Or.inr ⟨rfl, rfl⟩
                simp only [Act.put, List.setIfInBounds_toArray, List.set_cons_zero, List.set_cons_succ]
                refine wpAnyH_take (i := 8) (oi := ?p8a) (v := undef) ?o8a (by kernel_rfl) (by kernel_rfl) (by kernel_rfl) ?q8a ?y8a hHeld ?r8a
                case o8a => simp only [List.getElem?_toArray, List.getElem?_cons_succ, List.getElem?_cons_zero]; rfl
                case q8a => exact fun _ _ _ h => h
                case y8a => exact Or.inr ⟨rfl, rfl⟩
                simp only [Act.put, List.setIfInBounds_toArray, List.set_cons_zero, List.set_cons_succ]
                refine wpAnyH_take (i := 9) (oi := ?p9a) (v := undef) ?o9a (by kernel_rfl) (by kernel_rfl) (by kernel_rfl) ?q9a ?y9a hHeld ?r9a
                case o9a => simp only [List.getElem?_toArray, List.getElem?_cons_succ, List.getElem?_cons_zero]; rfl
                case q9a => exact fun _ _ _ h => h
                case y9a => exact Or.inr ⟨rfl, rfl⟩
                simp only [Act.put, List.setIfInBounds_toArray, List.set_cons_zero, List.set_cons_succ]
                refine wpAnyH_take (i := 10) (oi := ?p10a) (v := undef) ?o10a (by kernel_rfl) (by kernel_rfl) (by kernel_rfl) ?q10a ?y10a hHeld ?r10a
                case o10a => simp only [List.getElem?_toArray, List.getElem?_cons_succ, List.getElem?_cons_zero]; rfl
                case q10a => exact fun _ _ _ h => h
                case y10a => exact Or.inr ⟨rfl, rfl⟩
                simp only [Act.put, List.setIfInBounds_toArray, List.set_cons_zero, List.set_cons_succ]
                refine wpAnyH_take (i := 11) (oi := ?p11a) (v := undef) ?o11a (by kernel_rfl) (by kernel_rfl) (by kernel_rfl) ?q11a ?y11a hHeld ?r11a
                case o11a => simp only [List.getElem?_toArray, List.getElem?_cons_succ, List.getElem?_cons_zero]; rfl
                case q11a => exact fun _ _ _ h => h
                case y11a => exact Or.inr ⟨rfl, rfl⟩
                simp only [Act.put, List.setIfInBounds_toArray, List.set_cons_zero, List.set_cons_succ]
                refine wpAnyH_take (i := 12) (oi := ?p12a) (v := undef) ?o12a (by kernel_rfl) (by kernel_rfl) (by kernel_rfl) ?q12a ?y12a hHeld ?r12a
                case o12a => simp only [List.getElem?_toArray, List.getElem?_cons_succ, List.getElem?_cons_zero]; rfl
                case q12a => exact fun _ _ _ h => h
                case y12a => exact Or.inr ⟨rfl, rfl⟩
                simp only [Act.put, List.setIfInBounds_toArray, List.set_cons_zero, List.set_cons_succ]
                refine wpAnyH_take (i := 13) (oi := ?p13a) (v := undef) ?o13a (by kernel_rfl) (by kernel_rfl) (by kernel_rfl) ?q13a ?y13a hHeld ?r13a
                case o13a => simp only [List.getElem?_toArray, List.getElem?_cons_succ, List.getElem?_cons_zero]; rfl
                case q13a => exact fun _ _ _ h => h
                case y13a => exact Or.inr ⟨rfl, rfl⟩
                simp only [Act.put, List.setIfInBounds_toArray, List.set_cons_zero, List.set_cons_succ]
                refine wpAnyH_take (i := 14) (oi := ?p14a) (v := ?v14a) ?o14a (by kernel_rfl) (by kernel_rfl) (by kernel_rfl) ?q14a ?y14a hHeld ?r14a
                case o14a => simp only [List.getElem?_toArray, List.getElem?_cons_succ, List.getElem?_cons_zero]; rfl
                case q14a => exact fun _ _ _ h => h
                case y14a => (refine Or.inl ⟨rfl, ?_⟩; intro wq hq; obtain ⟨z0, z2, z3, z4⟩ := hq; go_simp; try with_reducible rfl)
                simp only [Act.put, List.setIfInBounds_toArray, List.set_cons_zero, List.set_cons_succ]
                refine wpAnyH_take (i := 15) (oi := ?p15a) (v := ?v15a) ?o15a (by kernel_rfl) (by kernel_rfl) (by kernel_rfl) ?q15a ?y15a hHeld ?r15a
                case o15a => simp only [List.getElem?_toArray, List.getElem?_cons_succ, List.getElem?_cons_zero]; rfl
                case q15a => exact fun _ _ _ h => h
                case y15a => (refine Or.inl ⟨rfl, ?_⟩; intro wq hq; obtain ⟨z0, z2, z3, z4⟩ := hq; go_simp; try with_reducible rfl)
                simp only [Act.put, List.setIfInBounds_toArray, List.set_cons_zero, List.set_cons_succ]
                refine wpAnyH_take (i := 16) (oi := ?p16a) (v := undef) ?o16a (by kernel_rfl) (by kernel_rfl) (by kernel_rfl) ?q16a ?y16a hHeld ?r16a
                case o16a => simp only [List.getElem?_toArray, List.getElem?_cons_succ, List.getElem?_cons_zero]; rfl
                case q16a => exact fun _ _ _ h => h
                case y16a => exact Or.inr ⟨rfl, rfl⟩
                simp only [Act.put, List.setIfInBounds_toArray, List.set_cons_zero, List.set_cons_succ]
                refine wpAnyH_take (i := 17) (oi := ?p17a) (v := undef) ?o17a (by kernel_rfl) (by kernel_rfl) (by kernel_rfl) ?q17a ?y17a hHeld ?r17a
                case o17a => simp only [List.getElem?_toArray, List.getElem?_cons_succ, List.getElem?_cons_zero]; rfl
                case q17a => exact fun _ _ _ h => h
                case y17a => exact Or.inr ⟨rfl, rfl⟩
                simp only [Act.put, List.setIfInBounds_toArray, List.set_cons_zero, List.set_cons_succ]
                refine wpAnyH_take (i := 18) (oi := ?p18a) (v := undef) ?o18a (by kernel_rfl) (by kernel_rfl) (by kernel_rfl) ?q18a ?y18a hHeld ?r18a
                case o18a => simp only [List.getElem?_toArray, List.getElem?_cons_succ, List.getElem?_cons_zero]; rfl
                case q18a => exact fun _ _ _ h => h
                case y18a => exact Or.inr ⟨rfl, rfl⟩
                simp only [Act.put, List.setIfInBounds_toArray, List.set_cons_zero, List.set_cons_succ]
                refine wpAnyH_take (i := 19) (oi := ?p19a) (v := undef) ?o19a (by kernel_rfl) (by kernel_rfl) (by kernel_rfl) ?q19a ?y19a hHeld ?r19a
                case o19a => simp only [List.getElem?_toArray, List.getElem?_cons_succ, List.getElem?_cons_zero]; rfl
                case q19a => exact fun _ _ _ h => h
                case y19a => exact Or.inr ⟨rfl, rfl⟩
                simp only [Act.put, List.setIfInBounds_toArray, List.set_cons_zero, List.set_cons_succ]
                refine wpAnyH_take (i := 20) (oi := ?p20a) (v := undef) ?o20a (by kernel_rfl) (by kernel_rfl) (by kernel_rfl) ?q20a ?y20a hHeld ?r20a
                case o20a => simp only [List.getElem?_toArray, List.getElem?_cons_succ, List.getElem?_cons_zero]; rfl
                case q20a => exact fun _ _ _ h => h
                case y20a => exact Or.inr ⟨rfl, rfl⟩
                simp only [Act.put, List.setIfInBounds_toArray, List.set_cons_zero, List.set_cons_succ]
                refine wpAnyH_take (i := 21) (oi := ?p21a) (v := undef) ?o21a (by kernel_rfl) (by kernel_rfl) (by kernel_rfl) ?q21a ?y21a hHeld ?r21a
                case o21a => simp only [List.getElem?_toArray, List.getElem?_cons_succ, List.getElem?_cons_zero]; rfl
                case q21a => exact fun _ _ _ h => h
                case y21a => exact Or.inr ⟨rfl, rfl⟩
                simp only [Act.put, List.setIfInBounds_toArray, List.set_cons_zero, List.set_cons_succ]
                refine wpAnyH_take (i := 22) (oi := ?p22a) (v := undef) ?o22a (by kernel_rfl) (by kernel_rfl) (by kernel_rfl) ?q22a ?y22a hHeld ?r22a
                case o22a => simp only [List.getElem?_toArray, List.getElem?_cons_succ, List.getElem?_cons_zero]; rfl
                case q22a => exact fun _ _ _ h => h
                case y22a => exact Or.inr ⟨rfl, rfl⟩
                simp only [Act.put, List.setIfInBounds_toArray, List.set_cons_zero, List.set_cons_succ]
                refine wpAnyH_take (i := 23) (oi := ?p23a) (v := undef) ?o23a (by kernel_rfl) (by kernel_rfl) (by kernel_rfl) ?q23a ?y23a hHeld ?r23a
                case o23a => simp only [List.getElem?_toArray, List.getElem?_cons_succ, List.getElem?_cons_zero]; rfl
                case q23a => exact fun _ _ _ h => h
                case y23a => exact Or.inr ⟨rfl, rfl⟩
                simp only [Act.put, List.setIfInBounds_toArray, List.set_cons_zero, List.set_cons_succ]
                refine wpAnyH_take (i := 24) (oi := ?p24a) (v := undef) ?o24a (by kernel_rfl) (by kernel_rfl) (by kernel_rfl) ?q24a ?y24a hHeld ?r24a
                case o24a => simp only [List.getElem?_toArray, List.getElem?_cons_succ, List.getElem?_cons_zero]; rfl
                case q24a => exact fun _ _ _ h => h
                case y24a => exact Or.inr ⟨rfl, rfl⟩
                simp only [Act.put, List.setIfInBounds_toArray, List.set_cons_zero, List.set_cons_succ]
                refine wpAnyH_take (i := 25) (oi := ?p25a) (v := undef) ?o25a (by kernel_rfl) (by kernel_rfl) (by kernel_rfl) ?q25a ?y25a hHeld ?r25a
                case o25a => simp only [List.getElem?_toArray, List.getElem?_cons_succ, List.getElem?_cons_zero]; rfl
                case q25a => exact fun _ _ _ h => h
                case y25a => exact Or.inr ⟨rfl, rfl⟩
                simp only [Act.put, List.setIfInBounds_toArray, List.set_cons_zero, List.set_cons_succ]
                refine wpAnyH_take (i := 26) (oi := ?p26a) (v := undef) ?o26a (by kernel_rfl) (by kernel_rfl) (by kernel_rfl) ?q26a ?y26a hHeld ?r26a
                case o26a => simp only [List.getElem?_toArray, List.getElem?_cons_succ, List.getElem?_cons_zero]; rfl
                case q26a => exact fun _ _ _ h => h
                case y26a => exact Or.inr ⟨rfl, rfl⟩
                simp only [Act.put, List.setIfInBounds_toArray, List.set_cons_zero, List.set_cons_succ]
                refine wpAnyH_take (i := 27) (oi := ?p27a) (v := undef) ?o27a (by kernel_rfl) (by kernel_rfl) (by kernel_rfl) ?q27a ?y27a hHeld ?r27a
                case o27a => simp only [List.getElem?_toArray, List.getElem?_cons_succ, List.getElem?_cons_zero]; rfl
                case q27a => exact fun _ _ _ h => h
                case y27a => exact Or.inr ⟨rfl, rfl⟩
                simp only [Act.put, List.setIfInBounds_toArray, List.set_cons_zero, List.set_cons_succ]
                refine wpAnyH_take (i := 28) (oi := ?p28a) (v := undef) ?o28a (by kernel_rfl) (by kernel_rfl) (by kernel_rfl) ?q28a ?y28a hHeld ?r28a
                case o28a => simp only [List.getElem?_toArray, List.getElem?_cons_succ, List.getElem?_cons_zero]; rfl
                case q28a => exact fun _ _ _ h => h
                case y28a => exact Or.inr ⟨rfl, rfl⟩
                simp only [Act.put, List.setIfInBounds_toArray, List.set_cons_zero, List.set_cons_succ]
                refine wpAnyH_take (i := 29) (oi := ?p29a) (v := ?v29a) ?o29a (by kernel_rfl) (by kernel_rfl) (by kernel_rfl) ?q29a ?y29a hHeld ?r29a
                case o29a => simp only [List.getElem?_toArray, List.getElem?_cons_succ, List.getElem?_cons_zero]; rfl
                case q29a => exact fun _ _ _ h => h
                case y29a => (refine Or.inl ⟨rfl, ?_⟩; intro wq hq; obtain ⟨z0, z2, z3, z4⟩ := hq; go_simp; try with_reducible rfl)
                simp only [Act.put, List.setIfInBounds_toArray, List.set_cons_zero, List.set_cons_succ]
                refine wpAnyH_done (by kernel_rfl) ?_ _
                go_wp2
                go_roundw
                case rel => exact ⟨j + 1, G, P, L, by omega, by go_num, HGS.out.keep (Below.drew (Below.drew (Below.refl _ _))), HI.out⟩
                case measure => simp [intOf]; omega
            | false =>
              rw [he] at heq
              have HE := Hid_of he
              clear hbx hG hI he
              go_wp2_with fail
              go_region
              have hS2 := HGS.out.keep (w' := wr.drew) (Below.drew (Below.refl _ _))
              by_cases hk1 : kk = 1
              · subst hk1
                have cD := hS2.del kp kq
                clear hS2
                go_wp2_with fail
                refine cD.mono ?_
                rintro x w7 ⟨r, F7, P7, L7, rfl, G7, C7, R7⟩
                have HG7 := Hid_of (And.intro G7 (HI.out.del HE.out R7))
                clear cD G7 C7 R7
                go_wp2
                go_roundw
                case rel => exact ⟨j + 1, F7, P7, L7, by omega, by go_num, HG7.out.1, HG7.out.2⟩
                case measure => simp [intOf]; omega
              · have hk1' : (kk == 1) = false := by simpa using hk1
                have hS3 := hS2.keep (w' := wr.drew.drew) (Below.drew (Below.refl _ _))
                have cP := hS3.put kp kq kt (by unfold maxLen; omega)
                have S0 : wr.drew.drew.cell? ⟨bb, off + j * 6 + 2, none⟩ = some (.int .i64 kp) ∧ wr.drew.drew.cell? ⟨bb, off + j * 6 + 3, none⟩ = some (.int .i64 kq) ∧ wr.drew.drew.cell? ⟨bb, off + j * 6 + 4, none⟩ = some (.string kt) := ⟨y2, y3, y4⟩
                clear hS2 hS3
                go_wp2_with fail
                go_region_held3 (fun wq => wq.cell? ⟨bb, off + j * 6 + 2, none⟩ = some (.int .i64 kp) ∧ wq.cell? ⟨bb, off + j * 6 + 3, none⟩ = some (.int .i64 kq) ∧ wq.cell? ⟨bb, off + j * 6 + 4, none⟩ = some (.string kt)) (first | assumption) (first | (go_at_call 10; refine cP.mono ?_; rintro x w7 ⟨r, F7, P7, L7, rfl, G7, C7, R7⟩; have HG7 := Hid_of (And.intro G7 (HI.out.put R7)); have S7 := (HCL.out w7 G7.f.dev.bel).2; clear cP G7 C7 R7))
                go_wp2
                go_roundw
                case rel => exact ⟨j + 1, F7, P7, L7, by omega, by go_num, HG7.out.1, HG7.out.2⟩
                case measure => simp [intOf]; omega
          · obtain ⟨i', hi'⟩ := hI
            have c3 := hG.get_yes hi'
            have HG0 := Hid_of hG
            have HI0 := Hid_of hi'
            clear hbx hG hi'
            have HFS : Hid (Fr.fre (L.set i' none) = Fr.fre L + 1) := Fr.fre_set L i' _ HI0.out
            have hfr : Fr.fre L ≤ 256 := Nat.le_trans (Fr.fre_le L) HG0.out.f.o.len
            have hfw : IntKind.i64.wrap ((Fr.fre L : Int) + 1) = (Fr.fre L : Int) + 1 := by rw [IntKind.wrap_i64]; omega
            have HAB := Hid_of (ab_gone HG0.out.g HI0.out)
            go_wp2_with fail
            refine c3.mono ?_
            rintro x w7 ⟨rfl, b7⟩
            have HG7 := Hid_of (HG0.out.keep b7)
            have c4 := HG7.out.free
            clear c3 b7 HG0
            generalize hfe : Fr.fre L = fr at *
            clear hfe
            go_wp2_with fail
            refine c4.mono ?_
            rintro x w8 ⟨rfl, b8⟩
            have HG8 := Hid_of (HG7.out.keep b8)
            have c5 := HG8.out.delAt HI0.out
            clear c4 b8 HG7 x0 x1 x2 x3 x4 x5
            obtain ⟨x0, x1, x2, x3, x4, x5⟩ := (HBX.out w8 HG8.out.f.dev.bel).1.c
            go_wp2_with fail
            refine c5.mono ?_
            rintro x w9 ⟨F9, P9, rfl, G9, C9⟩
            have HG9 := Hid_of G9
            have c6 := G9.get_no HAB.out
            clear c5 G9 C9 x0 x1 x2 x3 x4 x5 HG8
            obtain ⟨x0, x1, x2, x3, x4, x5⟩ := (HBX.out w9 HG9.out.f.dev.bel).1.c
            go_wp2_with fail
            refine c6.mono ?_
            rintro x w10 ⟨rfl, b10⟩
            have HG10 := Hid_of (HG9.out.keep b10)
            have c7 := HG10.out.free
            rw [HFS.out] at c7
            have c7 : Calls Tryz.prog 14 #[.pointer (some ⟨b, 0, none⟩)] w10 fun e w' => e = .returned (.int .i64 ((fr : Int) + 1)) ∧ Below w10.heap.size w10 w' := c7
            have hteq : (t.toList == t.toList) = true := by simp
            clear c6 b10 HG9 x0 x1 x2 x3 x4 x5
            obtain ⟨x0, x1, x2, x3, x4, x5⟩ := (HBX.out w10 HG10.out.f.dev.bel).1.c
            go_wp2_with fail
            refine c7.mono ?_
            rintro x w11 ⟨rfl, b11⟩
            have HG11 := Hid_of (HG10.out.keep b11)
            clear c7 b11 HG10 x0 x1 x2 x3 x4 x5
            go_wp2_with fail
            refine (awake_any _).mono ?_
            rintro x w12 ⟨rfl, hb⟩
            have HB12 := Hid_of (bel_up (HBX.out w11 HG11.out.f.dev.bel).2.2 hb (Nat.le_refl _))
            clear hb
            go_wp2
            go_ret
            exact ⟨rfl, HB12.out⟩
end Go.Proofs.YticjilpomdahbaaGreat
