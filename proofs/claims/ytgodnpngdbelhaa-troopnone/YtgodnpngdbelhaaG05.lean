/-
  A proposer enters a state, steps back, votes, proposes.
-/
import Derived.Test.YtgodnpngdbelhaaG04
namespace Go.Proofs.Ytgodnpngdbelhaa.Np
open Go.RowKit Go.Maps
set_option linter.unusedVariables false
open Go.Proofs.Ytgodnpngdbelhaa.M (E V)
open Go.Proofs.Ytgodnpngdbelhaa.Np.M (fup)

theorem _root_.Go.Proofs.Ytgodnpngdbelhaa.Fr.weak {w w' : World} {F G G' : Nat → Prop} (h : Fr w F w' G) (hg : ∀ k, G' k → G k) : Fr w F w' G' := ⟨h.os, h.tape, h.output, h.size, h.block, fun k hk => h.n k (hg k hk)⟩
theorem fr_set {w w1 : World} {F G : Nat → Prop} {b : Nat} (h : Fr w F w1 G) (hb : F b) (o : Nat) (x : Value) : Fr w F (w1.setCell ⟨b, o, none⟩ x) G :=
  ⟨h.os, h.tape, h.output, by simpa using h.size, fun k hk hF => by rw [heap_setCell_other w1 ⟨b, o, none⟩ k _ (fun e => hF (by subst e; exact hb))]; exact h.block k hk hF, h.n⟩
theorem fpp_none {b : Nat} {mv : Option Nat} {k : Nat} (h : fpp b none k) : fpp b mv k := by
  rcases h with h | h
  · exact .inl h
  · cases h
theorem fr_new {w w1 : World} {F G : Nat → Prop} {g : Nat} (h : Fr w F w1 G) (hg : w.heap.size ≤ g) (o : Nat) (x : Value) : Fr w F (w1.setCell ⟨g, o, none⟩ x) G :=
  ⟨h.os, h.tape, h.output, by simpa using h.size, fun k hk hF => by rw [heap_setCell_other w1 ⟨g, o, none⟩ k _ (by simp; omega)]; exact h.block k hk hF, h.n⟩
section
variable {w : World} {base b : Nat} {mv : Option Nat} {s : M.S}
set_option maxRecDepth 100000 in
set_option maxHeartbeats 1000000 in
theorem enter_any (h : PI w base b mv s) (t : Int) (x : E) : Calls Try.prog 64 #[.pointer (some ⟨b, 0, none⟩), .int .i64 t, bV x] w fun e w' => e = .returned (.tuple #[]) ∧ PI w' base b none (M.enter s t x) ∧ Fr w (fpp b mv) w' (fpp b none) := by
  obtain ⟨W1, HW1⟩ : ∃ W1, Hid (w.alloc (.cells #[.int .i64 x.i, .int .i64 x.t] 60) = W1) := ⟨_, Hid_of rfl⟩
  have hb1 : Below w.heap.size w W1 := by rw [← HW1.out]; exact bel1 w _
  have hr1 : W1.heap[w.heap.size]? = some (.cells #[.int .i64 x.i, .int .i64 x.t] 60 (0, 0)) := by rw [← HW1.out]; exact heap_alloc_last w _
  have h1 := h.keep hb1
  have hlt := h.lt
  have HK : Hid (PI (((((((((((W1.setCell ⟨b, 2, none⟩ (.int .i64 t)).setCell ⟨b, 3, none⟩ (.int .i64 x.i)).setCell ⟨b, 4, none⟩ (.int .i64 x.t)).setCell ⟨b, 6, none⟩ (.bool false)).setCell ⟨b, 7, none⟩ (.bool false)).setCell ⟨b, 8, none⟩ (.bool false)).setCell ⟨b, 9, none⟩ (.bool false)).setCell ⟨b, 10, none⟩ (.bool false)).setCell ⟨b, 11, none⟩ (.bool false)).setCell ⟨b, 12, none⟩ (.bool false)).setCell ⟨b, 13, none⟩ (.map none)) base b none (M.enter s t x) ∧ Fr w (fpp b mv) (((((((((((W1.setCell ⟨b, 2, none⟩ (.int .i64 t)).setCell ⟨b, 3, none⟩ (.int .i64 x.i)).setCell ⟨b, 4, none⟩ (.int .i64 x.t)).setCell ⟨b, 6, none⟩ (.bool false)).setCell ⟨b, 7, none⟩ (.bool false)).setCell ⟨b, 8, none⟩ (.bool false)).setCell ⟨b, 9, none⟩ (.bool false)).setCell ⟨b, 10, none⟩ (.bool false)).setCell ⟨b, 11, none⟩ (.bool false)).setCell ⟨b, 12, none⟩ (.bool false)).setCell ⟨b, 13, none⟩ (.map none)) (fpp b none)) :=
    ⟨⟨by
      have hrow := (heap_setCell_same _ b 13 _ _ (.map none) (heap_setCell_same _ b 12 _ _ (.bool false) (heap_setCell_same _ b 11 _ _ (.bool false) (heap_setCell_same _ b 10 _ _ (.bool false) (heap_setCell_same _ b 9 _ _ (.bool false) (heap_setCell_same _ b 8 _ _ (.bool false) (heap_setCell_same _ b 7 _ _ (.bool false) (heap_setCell_same _ b 6 _ _ (.bool false) (heap_setCell_same _ b 4 _ _ (.int .i64 x.t) (heap_setCell_same _ b 3 _ _ (.int .i64 x.i) (heap_setCell_same _ b 2 _ _ (.int .i64 t) h1.row)))))))))))
      simp only [prow, List.setIfInBounds_toArray, List.set_cons_succ, List.set_cons_zero] at hrow
      exact hrow, ⟨fun _ _ => rfl, fun m hm => by cases hm⟩, h1.lo⟩, (fr_set (fr_set (fr_set (fr_set (fr_set (fr_set (fr_set (fr_set (fr_set (fr_set (fr_set (Fr.ofBelow hb1) (.inl rfl) 2 _) (.inl rfl) 3 _) (.inl rfl) 4 _) (.inl rfl) 6 _) (.inl rfl) 7 _) (.inl rfl) 8 _) (.inl rfl) 9 _) (.inl rfl) 10 _) (.inl rfl) 11 _) (.inl rfl) 12 _) (.inl rfl) 13 _).weak (fun _ => fpp_none)⟩
  obtain ⟨⟨c0, c1, c2, c3, c4, c5, c6, c7, c8, c9, c10, c11, c12, c13, c14, c15⟩, cf⟩ := row16 h1.row
  obtain ⟨⟨x0, x1⟩, xf⟩ := row2 hr1
  have f2 := cf 2
  have f3 := cf 3
  have f4 := cf 4
  have f6 := cf 6
  have f7 := cf 7
  have f8 := cf 8
  have f9 := cf 9
  have f10 := cf 10
  have f11 := cf 11
  have f12 := cf 12
  have f13 := cf 13
  have hne : w.heap.size ≠ b := by omega
  clear h h1 hb1 hr1 cf xf
  go_enter Try.func64, Try.ntmps64
  go_upto_region 1 with fail
  rw [HW1.out]
  clear HW1
  go_wp2
  go_end0
  exact ⟨rfl, HK.out⟩
/-- What Step leaves. -/
def StOut (w : World) (base b : Nat) (mv : Option Nat) (s : M.S) (x : E) (e : Ending) (w' : World) : Prop := ∃ mv', e = .returned (.bool (M.stb s x)) ∧ PI w' base b mv' (M.sts s x) ∧ Fr w (fpp b mv) w' (fpp b mv')
set_option maxRecDepth 100000 in
set_option maxHeartbeats 1000000 in
theorem step_any (h : PI w base b mv s) (x : E) : Calls Try.prog 82 #[.pointer (some ⟨b, 0, none⟩), bV x] w (StOut w base b mv s x) := by
  obtain ⟨W1, HW1⟩ : ∃ W1, Hid (w.alloc (.cells #[.int .i64 x.i, .int .i64 x.t] 60) = W1) := ⟨_, Hid_of rfl⟩
  have hb1 : Below w.heap.size w W1 := by rw [← HW1.out]; exact bel1 w _
  have hr1 : W1.heap[w.heap.size]? = some (.cells #[.int .i64 x.i, .int .i64 x.t] 60 (0, 0)) := by rw [← HW1.out]; exact heap_alloc_last w _
  have h1 := h.keep hb1
  have HS : Hid (∀ w', Below W1.heap.size W1 w' → (w'.cell? ⟨w.heap.size, 0, none⟩ = some (.int .i64 x.i) ∧ w'.cell? ⟨w.heap.size, 1, none⟩ = some (.int .i64 x.t)) ∧ (w'.cell? ⟨b, 3, none⟩ = some (.int .i64 s.b.i) ∧ w'.cell? ⟨b, 4, none⟩ = some (.int .i64 s.b.t))) := fun w' hw' => by
    obtain ⟨⟨c0, c1, c2, c3, c4, c5, c6, c7, c8, c9, c10, c11, c12, c13, c14, c15⟩, -⟩ := row16 (h1.keep hw').row
    exact ⟨(row2 (bel_row hr1 hw')).1, c3, c4⟩
  have HNO : Hid (M.stb s x = false → ∀ w', Below W1.heap.size W1 w' → StOut w base b mv s x (.returned (.bool false)) w') := fun e w' hw' => ⟨mv, by rw [e], by unfold M.sts; rw [e]; exact h1.keep hw', Fr.ofBelow (bel_up hb1 hw' (Nat.le_refl _))⟩
  have HH1 := Hid_of h1
  have HB1 := Hid_of hb1
  have cv := valid_any x
  clear h h1 hb1 hr1
  cases hv : M.vld x with
  | false =>
    have HQ := Hid_of (HNO.out (by unfold M.stb; rw [hv]; rfl))
    rw [hv] at cv
    clear HNO hv
    go_enter Try.func82, Try.ntmps82
    go_upto_region 1 with fail
    rw [HW1.out]
    clear HW1
    refine wp_region_held_drew (S := fun wq => Below (W1).heap.size (W1) wq) (by kernel_rfl) (Below.drew (Below.refl _ _)) (fun hHeld => ?_)
    refine Tm 0 ?p0a ?v0a hHeld ?r0a
    simp only [Act.put, Pa, Pb, Pc]
    refine Tm 1 ?p1a ?v1a hHeld ?r1a
    simp only [Act.put, Pa, Pb, Pc]
    refine Tm 2 ?p2a ?v2a hHeld ?r2a
    simp only [Act.put, Pa, Pb, Pc]
    refine Tk 3 ?p3a ?v3a ?y3a hHeld ?r3a
    case y3a => intro wq hq; obtain ⟨⟨a0, a1⟩, ⟨b0, b1⟩⟩ := HS.out wq hq; go_simp; try with_reducible rfl
    simp only [Act.put, Pa, Pb, Pc]
    refine Rd 4 ?p4a ?s4a
    intro K hK
    go_simp
    refine (cv _).mono ?_
    rintro e w2 ⟨rfl, hb2⟩
    have B2 : Below W1.heap.size W1 w2 := hHeld.trans (hb2.mono hHeld.size)
    refine hK.out _ _ B2 (fun hHeld => ?_)
    clear hK K
    refine Tm 5 ?p5a_4 ?v5a_4 hHeld ?r5a_4
    simp only [Act.put, Pa, Pb, Pc]
    refine Tm 6 ?p6a_4 ?v6a_4 hHeld ?r6a_4
    simp only [Act.put, Pa, Pb, Pc]
    refine Tm 7 ?p7a_4 ?v7a_4 hHeld ?r7a_4
    simp only [Act.put, Pa, Pb, Pc]
    refine Ts 8 ?p8a_4 hHeld ?r8a_4
    simp only [Act.put, Pa, Pb, Pc]
    refine Ts 9 ?p9a_4 hHeld ?r9a_4
    simp only [Act.put, Pa, Pb, Pc]
    refine Ts 10 ?p10a_4 hHeld ?r10a_4
    simp only [Act.put, Pa, Pb, Pc]
    refine Ts 11 ?p11a_4 hHeld ?r11a_4
    simp only [Act.put, Pa, Pb, Pc]
    refine Ts 12 ?p12a_4 hHeld ?r12a_4
    simp only [Act.put, Pa, Pb, Pc]
    refine Ts 13 ?p13a_4 hHeld ?r13a_4
    simp only [Act.put, Pa, Pb, Pc]
    refine Ts 14 ?p14a_4 hHeld ?r14a_4
    simp only [Act.put, Pa, Pb, Pc]
    refine Tm 15 ?p15a_4 ?v15a_4 hHeld ?r15a_4
    simp only [Act.put, Pa, Pb, Pc]
    refine wpAnyH_done (by kernel_rfl) ?_ _
    go_wp2
    go_ret
    exact HQ.out _ hHeld
  | true =>
    rw [hv] at cv
    have cc := cmp_any x s.b
    by_cases hc : 0 < M.cmpE x s.b
    · have hd : decide (M.cmpE x s.b ≤ 0) = false := decide_eq_false (by omega)
      have HY : Hid (M.stb s x = true) := Hid_of (by unfold M.stb; rw [hv, decide_eq_true hc]; rfl)
      generalize M.cmpE x s.b = r at *
      clear HNO hv hc
      go_enter Try.func82, Try.ntmps82
      go_upto_region 1 with fail
      rw [HW1.out]
      clear HW1
      refine wp_region_held_drew (S := fun wq => Below (W1).heap.size (W1) wq) (by kernel_rfl) (Below.drew (Below.refl _ _)) (fun hHeld => ?_)
      refine Tm 0 ?p0b ?v0b hHeld ?r0b
      simp only [Act.put, Pa, Pb, Pc]
      refine Tm 1 ?p1b ?v1b hHeld ?r1b
      simp only [Act.put, Pa, Pb, Pc]
      refine Tm 2 ?p2b ?v2b hHeld ?r2b
      simp only [Act.put, Pa, Pb, Pc]
      refine Tk 3 ?p3b ?v3b ?y3b hHeld ?r3b
      case y3b => intro wq hq; obtain ⟨⟨a0, a1⟩, ⟨b0, b1⟩⟩ := HS.out wq hq; go_simp; try with_reducible rfl
      simp only [Act.put, Pa, Pb, Pc]
      refine Rd 4 ?p4b ?s4b
      intro K hK
      go_simp
      refine (cv _).mono ?_
      rintro e w2 ⟨rfl, hb2⟩
      have B2 : Below W1.heap.size W1 w2 := hHeld.trans (hb2.mono hHeld.size)
      refine hK.out _ _ B2 (fun hHeld => ?_)
      clear hK K
      refine Tm 5 ?p5b_4 ?v5b_4 hHeld ?r5b_4
      simp only [Act.put, Pa, Pb, Pc]
      refine Tm 6 ?p6b_4 ?v6b_4 hHeld ?r6b_4
      simp only [Act.put, Pa, Pb, Pc]
      refine Tm 7 ?p7b_4 ?v7b_4 hHeld ?r7b_4
      simp only [Act.put, Pa, Pb, Pc]
      refine Tk 8 ?p8b_4 ?v8b_4 ?y8b_4 hHeld ?r8b_4
      case y8b_4 => intro wq hq; obtain ⟨⟨a0, a1⟩, ⟨b0, b1⟩⟩ := HS.out wq hq; go_simp; try with_reducible rfl
      simp only [Act.put, Pa, Pb, Pc]
      refine Tm 9 ?p9b_4 ?v9b_4 hHeld ?r9b_4
      simp only [Act.put, Pa, Pb, Pc]
      refine Tm 10 ?p10b_4 ?v10b_4 hHeld ?r10b_4
      simp only [Act.put, Pa, Pb, Pc]
      refine Tm 11 ?p11b_4 ?v11b_4 hHeld ?r11b_4
      simp only [Act.put, Pa, Pb, Pc]
      refine Tk 12 ?p12b_4 ?v12b_4 ?y12b_4 hHeld ?r12b_4
      case y12b_4 => intro wq hq; obtain ⟨⟨a0, a1⟩, ⟨b0, b1⟩⟩ := HS.out wq hq; go_simp; try with_reducible rfl
      simp only [Act.put, Pa, Pb, Pc]
      refine Rd 13 ?p13b_4 ?s13b_4
      intro K hK
      go_simp
      refine (cc _).mono ?_
      rintro e w3 ⟨rfl, hb3⟩
      have B3 : Below W1.heap.size W1 w3 := hHeld.trans (hb3.mono hHeld.size)
      refine hK.out _ _ B3 (fun hHeld => ?_)
      clear hK K
      refine Tm 14 ?p14b_4_13 ?v14b_4_13 hHeld ?r14b_4_13
      simp only [Act.put, Pa, Pb, Pc]
      refine Tm 15 ?p15b_4_13 ?v15b_4_13 hHeld ?r15b_4_13
      simp only [Act.put, Pa, Pb, Pc]
      refine wpAnyH_done (by kernel_rfl) ?_ _
      obtain ⟨⟨x0, x1⟩, -⟩ := HS.out _ hHeld
      have hh := HH1.out.keep hHeld
      have HBq := Hid_of (bel_up HB1.out hHeld (Nat.le_refl _))
      go_wp2_with fail
      refine (enter_any hh 0 x).mono ?_
      rintro e w4 ⟨rfl, h4, hf4⟩
      have HP4 := Hid_of h4
      have HF4 := Hid_of hf4
      clear hh h4 hf4
      go_wp2
      go_ret
      exact ⟨none, by rw [HY.out]; rfl, by unfold M.sts; rw [HY.out]; exact HP4.out, (Fr.ofBelow HBq.out).trans HF4.out⟩
    · have hd : decide (M.cmpE x s.b ≤ 0) = true := decide_eq_true (by omega)
      have HQ := Hid_of (HNO.out (by unfold M.stb; rw [hv, decide_eq_false hc]; rfl))
      generalize M.cmpE x s.b = r at *
      clear HNO hv hc
      go_enter Try.func82, Try.ntmps82
      go_upto_region 1 with fail
      rw [HW1.out]
      clear HW1
      refine wp_region_held_drew (S := fun wq => Below (W1).heap.size (W1) wq) (by kernel_rfl) (Below.drew (Below.refl _ _)) (fun hHeld => ?_)
      refine Tm 0 ?p0c ?v0c hHeld ?r0c
      simp only [Act.put, Pa, Pb, Pc]
      refine Tm 1 ?p1c ?v1c hHeld ?r1c
      simp only [Act.put, Pa, Pb, Pc]
      refine Tm 2 ?p2c ?v2c hHeld ?r2c
      simp only [Act.put, Pa, Pb, Pc]
      refine Tk 3 ?p3c ?v3c ?y3c hHeld ?r3c
      case y3c => intro wq hq; obtain ⟨⟨a0, a1⟩, ⟨b0, b1⟩⟩ := HS.out wq hq; go_simp; try with_reducible rfl
      simp only [Act.put, Pa, Pb, Pc]
      refine Rd 4 ?p4c ?s4c
      intro K hK
      go_simp
      refine (cv _).mono ?_
      rintro e w2 ⟨rfl, hb2⟩
      have B2 : Below W1.heap.size W1 w2 := hHeld.trans (hb2.mono hHeld.size)
      refine hK.out _ _ B2 (fun hHeld => ?_)
      clear hK K
      refine Tm 5 ?p5c_4 ?v5c_4 hHeld ?r5c_4
      simp only [Act.put, Pa, Pb, Pc]
      refine Tm 6 ?p6c_4 ?v6c_4 hHeld ?r6c_4
      simp only [Act.put, Pa, Pb, Pc]
      refine Tm 7 ?p7c_4 ?v7c_4 hHeld ?r7c_4
      simp only [Act.put, Pa, Pb, Pc]
      refine Tk 8 ?p8c_4 ?v8c_4 ?y8c_4 hHeld ?r8c_4
      case y8c_4 => intro wq hq; obtain ⟨⟨a0, a1⟩, ⟨b0, b1⟩⟩ := HS.out wq hq; go_simp; try with_reducible rfl
      simp only [Act.put, Pa, Pb, Pc]
      refine Tm 9 ?p9c_4 ?v9c_4 hHeld ?r9c_4
      simp only [Act.put, Pa, Pb, Pc]
      refine Tm 10 ?p10c_4 ?v10c_4 hHeld ?r10c_4
      simp only [Act.put, Pa, Pb, Pc]
      refine Tm 11 ?p11c_4 ?v11c_4 hHeld ?r11c_4
      simp only [Act.put, Pa, Pb, Pc]
      refine Tk 12 ?p12c_4 ?v12c_4 ?y12c_4 hHeld ?r12c_4
      case y12c_4 => intro wq hq; obtain ⟨⟨a0, a1⟩, ⟨b0, b1⟩⟩ := HS.out wq hq; go_simp; try with_reducible rfl
      simp only [Act.put, Pa, Pb, Pc]
      refine Rd 13 ?p13c_4 ?s13c_4
      intro K hK
      go_simp
      refine (cc _).mono ?_
      rintro e w3 ⟨rfl, hb3⟩
      have B3 : Below W1.heap.size W1 w3 := hHeld.trans (hb3.mono hHeld.size)
      refine hK.out _ _ B3 (fun hHeld => ?_)
      clear hK K
      refine Tm 14 ?p14c_4_13 ?v14c_4_13 hHeld ?r14c_4_13
      simp only [Act.put, Pa, Pb, Pc]
      refine Tm 15 ?p15c_4_13 ?v15c_4_13 hHeld ?r15c_4_13
      simp only [Act.put, Pa, Pb, Pc]
      refine wpAnyH_done (by kernel_rfl) ?_ _
      go_wp2
      go_ret
      exact HQ.out _ hHeld
theorem f69_res : Try.f69.results = #[.cell 6 84] := rfl
set_option maxRecDepth 100000 in
set_option maxHeartbeats 1000000 in
theorem vote_any (h : PI w base b mv s) (k : Int) (v : ByteArray) (hx : v.size ≤ 140737488351232) : Calls Try.prog 69 #[.pointer (some ⟨b, 0, none⟩), .int .i64 k, .string v] w fun e w' => e = .returned (vV ⟨k, s.b, v⟩) ∧ Below w.heap.size w w' := by
  obtain ⟨W1, HW1⟩ : ∃ W1, Hid (w.alloc (.cells #[.int .i64 0, .int .i64 0, .int .i64 0, .string ⟨#[]⟩] 84) = W1) := ⟨_, Hid_of rfl⟩
  have hb1 : Below w.heap.size w W1 := by rw [← HW1.out]; exact bel1 w _
  have hr1 : W1.heap[w.heap.size]? = some (.cells #[.int .i64 0, .int .i64 0, .int .i64 0, .string ⟨#[]⟩] 84 (0, 0)) := by rw [← HW1.out]; exact heap_alloc_last w _
  have HS : Hid (∀ w', Below w.heap.size w w' → (w'.cell? ⟨b, 3, none⟩ = some (.int .i64 s.b.i) ∧ w'.cell? ⟨b, 4, none⟩ = some (.int .i64 s.b.t))) := fun w' hw' => by
    obtain ⟨⟨c0, c1, c2, c3, c4, c5, c6, c7, c8, c9, c10, c11, c12, c13, c14, c15⟩, -⟩ := row16 (h.keep hw').row
    exact ⟨c3, c4⟩
  have HB1 := Hid_of hb1
  have HR1 := Hid_of hr1
  clear h hb1 hr1
  go_enter Try.func69, Try.ntmps69
  go_upto_region 1 with fail
  rw [HW1.out]
  clear HW1
  refine wp_region_held_drew (S := fun wq => Below w.heap.size w wq) (by kernel_rfl) (Below.drew HB1.out) (fun hHeld => ?_)
  obtain ⟨wda, hwda⟩ : ∃ wd, W1.drew = wd := ⟨_, rfl⟩
  have hBwd : Below W1.heap.size W1 wda := by rw [← hwda]; exact Below.drew (Below.refl _ _)
  rw [hwda] at hHeld ⊢
  clear hwda
  refine Tm 0 ?p0a ?v0a hHeld ?r0a
  refine Tm 1 ?p1a ?v1a hHeld ?r1a
  refine Tm 2 ?p2a ?v2a hHeld ?r2a
  refine Tm 3 ?p3a ?v3a hHeld ?r3a
  refine Tk 4 ?p4a ?v4a ?y4a hHeld ?r4a
  case y4a => intro wq hq; obtain ⟨b0, b1⟩ := HS.out wq hq; go_simp; try with_reducible rfl
  refine Tm 5 ?p5a ?v5a hHeld ?r5a
  simp only [Act.put, Pa, Pb, Pc]
  refine Rd 6 ?p6a ?s6a
  intro K hK
  go_simp
  refine (sclone_any v _ hx).mono ?_
  rintro e w2 ⟨rfl, hb2⟩
  have B2 : Below w.heap.size w w2 := bel_up hHeld hb2 (Nat.le_refl _)
  have hr2 := bel_row (bel_row HR1.out hBwd) hb2
  obtain ⟨⟨x0, x1, x2, x3⟩, xf⟩ := row4 hr2
  have HR2 := Hid_of hr2
  have g0 := xf 0
  have g1 := xf 1
  have g2 := xf 2
  have g3 := xf 3
  clear xf hr2 hb2 hBwd
  refine hK.out _ _ B2 (fun hHeld => ?_)
  clear hK K
  refine Tm 7 ?p7a_6 ?v7a_6 hHeld ?r7a_6
  simp only [Act.put, Pa, Pb, Pc]
  refine Rd 8 ?p8a_6 ?s8a_6
  intro K hK
  go_simp
  refine hK.out _ _ (put4_bel B2 (Nat.le_refl _) _ _ _ _) (fun hHeld => ?_)
  clear hK K
  refine wpAnyH_done (by kernel_rfl) ?_ _
  go_wp2
  refine bodyPost_ret (v := vV ⟨k, s.b, v⟩) ?_ rfl ⟨rfl, hHeld⟩
  exact results_cell_row f69_res _ _ w.heap.size 84 _ (0, 0) _ rfl (put4_row HR2.out _ _ _ _) Try.underlying84 rfl Try.size84
theorem f51_res : Try.f51.results = #[.cell 4 84, .tmp 5] := rfl
set_option maxRecDepth 100000 in
set_option maxHeartbeats 1000000 in
theorem propose_any (h : PI w base b mv s) (ok : M.Ok s) (v : ByteArray) : Calls Try.prog 51 #[.pointer (some ⟨b, 0, none⟩), .string v] w fun e w' => e = .returned (.tuple #[vV (M.ppv s v), .int .i64 (M.ppc s v)]) ∧ PI w' base b mv (M.pps s v) ∧ Fr w (fpp b mv) w' (fpp b mv) := by
  obtain ⟨W1, HW1⟩ : ∃ W1, Hid (w.alloc (.cells #[.int .i64 0, .int .i64 0, .int .i64 0, .string ⟨#[]⟩] 84) = W1) := ⟨_, Hid_of rfl⟩
  have hb1 : Below w.heap.size w W1 := by rw [← HW1.out]; exact bel1 w _
  have hr1 : W1.heap[w.heap.size]? = some (.cells #[.int .i64 0, .int .i64 0, .int .i64 0, .string ⟨#[]⟩] 84 (0, 0)) := by rw [← HW1.out]; exact heap_alloc_last w _
  have h1 := h.keep hb1
  have hlt := h.lt
  have cm := mayPropose_any h1 v
  have HP1 := Hid_of h1
  have HB1 := Hid_of hb1
  have HR1 := Hid_of hr1
  have hne : w.heap.size ≠ b := by omega
  by_cases h0 : M.ppc s v = 0
  · have HE1 : Hid (M.ppv s v = ⟨s.nx, s.b, v⟩) := Hid_of (by unfold M.ppv; rw [if_pos h0])
    have HE2 : Hid (M.pps s v = { s with nx := s.nx + 1 }) := Hid_of (by unfold M.pps; rw [if_pos h0])
    have hsz : v.size ≤ 4096 ∧ s.nx < 1024 := by
      unfold M.ppc at h0
      split at h0
      · omega
      · split at h0
        · omega
        · omega
    obtain ⟨hsz, hnx⟩ := hsz
    have hx0 : 0 ≤ s.nx := by have := ok.a0; have := ok.af; have := ok.fx; omega
    have hwr : IntKind.i64.wrap (s.nx + 1) = s.nx + 1 := by rw [IntKind.wrap_i64]; omega
    rw [h0, HE1.out, HE2.out]
    rw [h0] at cm
    have cv := vote_any h1 s.nx v (by omega)
    obtain ⟨⟨c0, c1, c2, c3, c4, c5, c6, c7, c8, c9, c10, c11, c12, c13, c14, c15⟩, -⟩ := row16 h1.row
    clear h h1 hb1 hr1 HE1 HE2 ok
    go_enter Try.func51, Try.ntmps51
    go_upto_region 1 with fail
    rw [HW1.out]
    clear HW1
    go_wp2_with fail
    refine cm.mono ?_
    clear cm
    rintro e w1 ⟨rfl, rfl⟩
    go_wp2_with fail
    refine cv.mono ?_
    clear cv c0 c1 c2 c3 c4 c5 c6 c7 c8 c9 c10 c11 c12 c13 c14 c15
    rintro e w2 ⟨rfl, hb2⟩
    obtain ⟨W3, HW3⟩ : ∃ W3, Hid (w2.alloc (.cells #[.int .i64 s.nx, .int .i64 s.b.i, .int .i64 s.b.t, .string v] 84) = W3) := ⟨_, Hid_of rfl⟩
    have hb3 : Below w2.heap.size w2 W3 := by rw [← HW3.out]; exact bel1 w2 _
    have hr3 : W3.heap[w2.heap.size]? = some (.cells #[.int .i64 s.nx, .int .i64 s.b.i, .int .i64 s.b.t, .string v] 84 (0, 0)) := by rw [← HW3.out]; exact heap_alloc_last w2 _
    have hb13 := bel_up hb2 hb3 (Nat.le_refl _)
    have h3 := HP1.out.keep hb13
    obtain ⟨⟨c0, c1, c2, c3, c4, c5, c6, c7, c8, c9, c10, c11, c12, c13, c14, c15⟩, cf⟩ := row16 h3.row
    have f15 := cf 15
    have q3 := bel_row HR1.out hb13
    have h4 : PI (W3.setCell ⟨b, 15, none⟩ (.int .i64 (s.nx + 1))) base b mv { s with nx := s.nx + 1 } := h3.cell 15 _ rfl rfl rfl
    have hf4 : Fr w (fpp b mv) (W3.setCell ⟨b, 15, none⟩ (.int .i64 (s.nx + 1))) (fpp b mv) := fr_set (Fr.ofBelow (bel_up HB1.out hb13 (Nat.le_refl _))) (.inl rfl) 15 _
    have hs2 := hb2.size
    have hs1 := HB1.out.size
    have hwl := (Array.getElem?_eq_some_iff.1 HR1.out).1
    have hr4 := (heap_setCell_other W3 ⟨b, 15, none⟩ w2.heap.size (.int .i64 (s.nx + 1)) (by simp; omega)).trans hr3
    have q4 := (heap_setCell_other W3 ⟨b, 15, none⟩ w.heap.size (.int .i64 (s.nx + 1)) (by simp; omega)).trans q3
    obtain ⟨W4, HW4⟩ : ∃ W4, Hid (W3.setCell ⟨b, 15, none⟩ (.int .i64 (s.nx + 1)) = W4) := ⟨_, Hid_of rfl⟩
    rw [HW4.out] at h4 hf4 hr4 q4
    obtain ⟨⟨x0, x1, x2, x3⟩, -⟩ := row4 hr4
    obtain ⟨⟨y0, y1, y2, y3⟩, yf⟩ := row4 q4
    have g0 := yf 0
    have g1 := yf 1
    have g2 := yf 2
    have g3 := yf 3
    have HR4 := Hid_of q4
    have HP4 := Hid_of (h4.keepBut (w' := put4 W4 w.heap.size (.int .i64 s.nx) (.int .i64 s.b.i) (.int .i64 s.b.t) (.string v)) (fun k hk hF => put4_oth (by
      rcases hF with rfl | hm
      · exact fun e => hne e.symm
      · have h0 := (HP1.out.map.yes k hm).2
        have h1 := (HP1.out.map.yes k hm).1.ne HR1.out
        exact fun e => h1 e.symm) _ _ _ _))
    have HF4 := Hid_of hf4
    clear h3 h4 hf4 hr4 q4 q3 hb2 hb3 hb13 hr3 cf yf hs1 hs2 hwl HR1 HP1 HB1
    go_upto_region 5 with fail
    rw [HW3.out]
    clear HW3
    go_upto_region 6 with fail
    rw [HW4.out]
    clear HW4
    clear c0 c1 c2 c3 c4 c5 c6 c7 c8 c9 c10 c11 c12 c13 c14 c15
    go_wp2
    refine bodyPost_ret (v := .tuple #[.agg #[.int .i64 s.nx, .int .i64 s.b.i, .int .i64 s.b.t, .string v], .int .i64 0]) ?_ rfl ⟨rfl, HP4.out, ?_⟩
    · exact res4 f51_res _ _ w.heap.size _ _ _ _ rfl (put4_row HR4.out _ _ _ _)
    · exact fr_new (fr_new (fr_new (fr_new HF4.out (Nat.le_refl _) 0 _) (Nat.le_refl _) 1 _) (Nat.le_refl _) 2 _) (Nat.le_refl _) 3 _
  · have HE1 : Hid (M.ppv s v = ⟨0, ⟨0, 0⟩, ⟨#[]⟩⟩) := Hid_of (by unfold M.ppv; rw [if_neg h0])
    have HE2 : Hid (M.pps s v = s) := Hid_of (by unfold M.pps; rw [if_neg h0])
    rw [HE1.out, HE2.out]
    have hd : (M.ppc s v == 0) = false := by simpa using h0
    generalize M.ppc s v = r at *
    obtain ⟨⟨y0, y1, y2, y3⟩, yf⟩ := row4 hr1
    have g0 := yf 0
    have g1 := yf 1
    have g2 := yf 2
    have g3 := yf 3
    have HP4 := Hid_of (h.keep (put4_bel hb1 (Nat.le_refl _) (.int .i64 0) (.int .i64 0) (.int .i64 0) (.string ⟨#[]⟩)))
    clear h h1 hb1 hr1 HE1 HE2 ok yf hne h0
    go_enter Try.func51, Try.ntmps51
    go_upto_region 1 with fail
    rw [HW1.out]
    clear HW1
    go_wp2_with fail
    refine cm.mono ?_
    clear cm
    rintro e w1 ⟨rfl, rfl⟩
    go_wp2
    refine bodyPost_ret (v := .tuple #[.agg #[.int .i64 0, .int .i64 0, .int .i64 0, .string ⟨#[]⟩], .int .i64 r]) ?_ rfl ⟨rfl, HP4.out, Fr.ofBelow (put4_bel HB1.out (Nat.le_refl _) _ _ _ _)⟩
    exact res4 f51_res _ _ w.heap.size _ _ _ _ rfl (put4_row HR1.out _ _ _ _)
end

end Go.Proofs.Ytgodnpngdbelhaa.Np
