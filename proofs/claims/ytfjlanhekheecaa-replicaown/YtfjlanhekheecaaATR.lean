/-
  Votes are trimmed.
-/
import Derived.Test.YtfjlanhekheecaaAS
namespace Go.Proofs.Ytfjlanhekheecaa.Na
open Go.RowKit
set_option linter.unusedVariables false
open Go.Proofs.Ytfjlanhekheecaa.M (E V)

/-- What a Trim leaves. -/
def TrOut (w : World) (base b : Nat) (v : Value) (a : M.S) (u : Int) (e : Ending) (w' : World) : Prop :=
  ∃ v', e = .returned (.int .i64 (M.trn a u : Nat)) ∧ AI w' base b v' (M.trs a u) ∧ Fr w (fpa b v) w' (fpa b v')
theorem copy_nil (w : World) (ty : TypeId) : (Builtin.copy_ #[27, 27] ty #[.slice none 0 0, .slice none 0 0]).run Try.prog w = .ok (goInt 0) w := by
  have hi := hi42
  simp [Builtin.copy_, run_underlying Try.underlying27, Builtin.lenOf, Builtin.firstCells, sizeOf, typeInfo, hi]
theorem clear_nil (w : World) (ty : TypeId) : (Builtin.clear_ #[27] ty #[.slice none 0 0]).run Try.prog w = .ok (.tuple #[]) w := by
  simp [Builtin.clear_, run_underlying Try.underlying27]
theorem AI.setB {w : World} {base b : Nat} {v : Value} {a : M.S} (h : AI w base b v a) (x : Int) : AI (w.setCell ⟨b, 2, none⟩ (.int .i64 x)) base b v ⟨a.p, x, a.l⟩ :=
  ⟨heap_setCell_same w b 2 _ _ _ h.row, h.own.keepBut fun k hk e => heap_setCell_other w ⟨b, 2, none⟩ k _ (fun e' => h.ap (e.trans (congrArg some e'))), h.ap, h.lo⟩
set_option maxRecDepth 100000 in
set_option maxHeartbeats 2000000 in
theorem trim_any {w : World} {base b : Nat} {v : Value} {a : M.S} (h : AI w base b v a) (ok : M.Ok a) (u : Int) : Calls Try.prog 39 #[.pointer (some ⟨b, 0, none⟩), .int .i64 u] w (TrOut w base b v a u) := by
  obtain ⟨nb, HNB⟩ : ∃ nb, Hid (max a.base (min u 1024) = nb) := ⟨_, Hid_of rfl⟩
  have HTB : Hid ((M.trs a u).base = nb ∧ (M.trs a u).p = a.p) := ⟨HNB.out, rfl⟩
  have h3 := h.setB nb
  have hf3 : Fr w (fpa b v) (w.setCell ⟨b, 2, none⟩ (.int .i64 nb)) (fpa b v) := fr_set (Fr.refl _ _) (.inl rfl) 2 _
  obtain ⟨⟨c0, c1, c2, c3⟩, cf⟩ := row4 h.row
  have f2 := cf 2
  have HSRS : Hid (∀ r bb, M.Sr a.l nb r bb → a.l.drop r = (M.trs a u).l ∧ r = M.trn a u) := fun r bb hs => M.trs_sr ok u (by rw [HNB.out]; exact hs)
  obtain ⟨W3, HW3⟩ : ∃ W3, Hid (w.setCell ⟨b, 2, none⟩ (.int .i64 nb) = W3) := ⟨_, rfl⟩
  rw [HW3.out] at h3 hf3
  have HF3 := Hid_of hf3
  have HH3 := Hid_of h3
  have HLEN := Hid_of ok.len
  obtain ⟨ad, cap, hv, hxl, hbl⟩ := h3.own.at
  simp only at hv hxl
  have HPL : Hid (∀ W, Below W3.heap.size W3 W → Calls Try.prog 59 #[.slice ad a.l.length cap, .int .i64 nb] W (SrOut W a.l nb)) := fun W hW => place_any ad cap a.l nb W (by have := HLEN.out; omega) (hxl.at'.keep hW) ok.up
  have HS : Hid (∀ w', Below W3.heap.size W3 w' → (w'.cell? ⟨b, 0, none⟩ = some (.int .i64 a.p.i) ∧ w'.cell? ⟨b, 1, none⟩ = some (.int .i64 a.p.t) ∧ w'.cell? ⟨b, 2, none⟩ = some (.int .i64 nb) ∧ w'.cell? ⟨b, 3, none⟩ = some (.slice ad a.l.length cap))) := by
    intro w' hb
    have h4 := (row4 (bel_row HH3.out.row hb)).1
    rw [hv] at h4
    exact h4
  have HV := Hid_of hv
  clear hxl hbl hv h3 hf3 h cf ok
  go_enter Try.func39, Try.ntmps39
  go_wp2_with fail
  rw [HNB.out, HW3.out]
  clear HW3 HNB
  refine wp_region_held_drew (S := fun wq => Below (W3).heap.size (W3) wq) (by kernel_rfl) (Below.drew (Below.refl _ _)) (fun hHeld => ?_)
  refine wpAnyH_take (i := 0) (oi := ?p0a) (v := ?v0a) ?o0a (by kernel_rfl) (by kernel_rfl) (by kernel_rfl) ?q0a ?y0a hHeld ?r0a
  case o0a => simp only [List.getElem?_toArray, List.getElem?_cons_zero]; rfl
  case q0a => exact fun _ _ _ h => h
  case y0a => (refine Or.inl ⟨rfl, ?_⟩; intro wq hq; obtain ⟨y0, y1, y2, y3⟩ := HS.out wq hq; go_simp; try with_reducible rfl)
  simp only [Act.put, List.setIfInBounds_toArray, List.set_cons_zero, List.set_cons_succ]
  refine wpAnyH_take (i := 1) (oi := ?p1a) (v := ?v1a) ?o1a (by kernel_rfl) (by kernel_rfl) (by kernel_rfl) ?q1a ?y1a hHeld ?r1a
  case o1a => simp only [List.getElem?_toArray, List.getElem?_cons_succ, List.getElem?_cons_zero]; rfl
  case q1a => exact fun _ _ _ h => h
  case y1a => (refine Or.inl ⟨rfl, ?_⟩; intro wq hq; obtain ⟨y0, y1, y2, y3⟩ := HS.out wq hq; go_simp; try with_reducible rfl)
  simp only [Act.put, List.setIfInBounds_toArray, List.set_cons_zero, List.set_cons_succ]
  refine wpAnyH_take (i := 2) (oi := ?p2a) (v := ?v2a) ?o2a (by kernel_rfl) (by kernel_rfl) (by kernel_rfl) ?q2a ?y2a hHeld ?r2a
  case o2a => simp only [List.getElem?_toArray, List.getElem?_cons_succ, List.getElem?_cons_zero]; rfl
  case q2a => exact fun _ _ _ h => h
  case y2a => (refine Or.inl ⟨rfl, ?_⟩; intro wq hq; obtain ⟨y0, y1, y2, y3⟩ := HS.out wq hq; go_simp; try with_reducible rfl)
  simp only [Act.put, List.setIfInBounds_toArray, List.set_cons_zero, List.set_cons_succ]
  refine wpAnyH_take (i := 3) (oi := ?p3a) (v := ?v3a) ?o3a (by kernel_rfl) (by kernel_rfl) (by kernel_rfl) ?q3a ?y3a hHeld ?r3a
  case o3a => simp only [List.getElem?_toArray, List.getElem?_cons_succ, List.getElem?_cons_zero]; rfl
  case q3a => exact fun _ _ _ h => h
  case y3a => (refine Or.inl ⟨rfl, ?_⟩; intro wq hq; obtain ⟨y0, y1, y2, y3⟩ := HS.out wq hq; go_simp; try with_reducible rfl)
  simp only [Act.put, List.setIfInBounds_toArray, List.set_cons_zero, List.set_cons_succ]
  refine wpAnyH_take (i := 4) (oi := ?p4a) (v := ?v4a) ?o4a (by kernel_rfl) (by kernel_rfl) (by kernel_rfl) ?q4a ?y4a hHeld ?r4a
  case o4a => simp only [List.getElem?_toArray, List.getElem?_cons_succ, List.getElem?_cons_zero]; rfl
  case q4a => exact fun _ _ _ h => h
  case y4a => (refine Or.inl ⟨rfl, ?_⟩; intro wq hq; obtain ⟨y0, y1, y2, y3⟩ := HS.out wq hq; go_simp; try with_reducible rfl)
  simp only [Act.put, List.setIfInBounds_toArray, List.set_cons_zero, List.set_cons_succ]
  refine wpAnyH_take (i := 5) (oi := ?p5a) (v := ?v5a) ?o5a (by kernel_rfl) (by kernel_rfl) (by kernel_rfl) ?q5a ?y5a hHeld ?r5a
  case o5a => simp only [List.getElem?_toArray, List.getElem?_cons_succ, List.getElem?_cons_zero]; rfl
  case q5a => exact fun _ _ _ h => h
  case y5a => (refine Or.inl ⟨rfl, ?_⟩; intro wq hq; obtain ⟨y0, y1, y2, y3⟩ := HS.out wq hq; go_simp; try with_reducible rfl)
  simp only [Act.put, List.setIfInBounds_toArray, List.set_cons_zero, List.set_cons_succ]
  refine wpAnyH_take (i := 6) (oi := ?p6a) (v := ?v6a) ?o6a (by kernel_rfl) (by kernel_rfl) (by kernel_rfl) ?q6a ?y6a hHeld ?r6a
  case o6a => simp only [List.getElem?_toArray, List.getElem?_cons_succ, List.getElem?_cons_zero]; rfl
  case q6a => exact fun _ _ _ h => h
  case y6a => (refine Or.inl ⟨rfl, ?_⟩; intro wq hq; obtain ⟨y0, y1, y2, y3⟩ := HS.out wq hq; go_simp; try with_reducible rfl)
  simp only [Act.put, List.setIfInBounds_toArray, List.set_cons_zero, List.set_cons_succ]
  refine wpAnyH_take (i := 7) (oi := ?p7a) (v := ?v7a) ?o7a (by kernel_rfl) (by kernel_rfl) (by kernel_rfl) ?q7a ?y7a hHeld ?r7a
  case o7a => simp only [List.getElem?_toArray, List.getElem?_cons_succ, List.getElem?_cons_zero]; rfl
  case q7a => exact fun _ _ _ h => h
  case y7a => (refine Or.inl ⟨rfl, ?_⟩; intro wq hq; obtain ⟨y0, y1, y2, y3⟩ := HS.out wq hq; go_simp; try with_reducible rfl)
  simp only [Act.put, List.setIfInBounds_toArray, List.set_cons_zero, List.set_cons_succ]
  refine wpAnyH_ready (rs := [8]) (by kernel_rfl) (by simp) ?_
  refine AllReadyH.cons (o := ?p8a) ?o8a ?s8a AllReadyH.nil
  case o8a => simp only [List.getElem?_toArray, List.getElem?_cons_succ, List.getElem?_cons_zero]; rfl
  intro K hK
  go_simp
  refine (HPL.out _ hHeld).mono ?_
  rintro e w4 ⟨r, bb, rfl, hsr, hb4⟩
  have B6 : Below W3.heap.size W3 w4 := hHeld.trans (hb4.mono hHeld.size)
  clear hb4
  refine hK.out _ _ B6 (fun hHeld => ?_)
  clear hK K
  refine wpAnyH_take (i := 9) (oi := ?p9a) (v := ?v9a) ?o9a (by kernel_rfl) (by kernel_rfl) (by kernel_rfl) ?q9a ?y9a hHeld ?r9a
  case o9a => simp only [List.getElem?_toArray, List.getElem?_cons_succ, List.getElem?_cons_zero]; rfl
  case q9a => exact fun _ _ _ h => h
  case y9a => (refine Or.inl ⟨rfl, ?_⟩; intro wq hq; obtain ⟨y0, y1, y2, y3⟩ := HS.out wq hq; go_simp; try with_reducible rfl)
  simp only [Act.put, List.setIfInBounds_toArray, List.set_cons_zero, List.set_cons_succ]
  refine wpAnyH_take (i := 10) (oi := ?p10a) (v := ?v10a) ?o10a (by kernel_rfl) (by kernel_rfl) (by kernel_rfl) ?q10a ?y10a hHeld ?r10a
  case o10a => simp only [List.getElem?_toArray, List.getElem?_cons_succ, List.getElem?_cons_zero]; rfl
  case q10a => exact fun _ _ _ h => h
  case y10a => (refine Or.inl ⟨rfl, ?_⟩; intro wq hq; obtain ⟨y0, y1, y2, y3⟩ := HS.out wq hq; go_simp; try with_reducible rfl)
  simp only [Act.put, List.setIfInBounds_toArray, List.set_cons_zero, List.set_cons_succ]
  refine wpAnyH_take (i := 11) (oi := ?p11a) (v := ?v11a) ?o11a (by kernel_rfl) (by kernel_rfl) (by kernel_rfl) ?q11a ?y11a hHeld ?r11a
  case o11a => simp only [List.getElem?_toArray, List.getElem?_cons_succ, List.getElem?_cons_zero]; rfl
  case q11a => exact fun _ _ _ h => h
  case y11a => (refine Or.inl ⟨rfl, ?_⟩; intro wq hq; obtain ⟨y0, y1, y2, y3⟩ := HS.out wq hq; go_simp; try with_reducible rfl)
  simp only [Act.put, List.setIfInBounds_toArray, List.set_cons_zero, List.set_cons_succ]
  refine wpAnyH_take (i := 12) (oi := ?p12a) (v := ?v12a) ?o12a (by kernel_rfl) (by kernel_rfl) (by kernel_rfl) ?q12a ?y12a hHeld ?r12a
  case o12a => simp only [List.getElem?_toArray, List.getElem?_cons_succ, List.getElem?_cons_zero]; rfl
  case q12a => exact fun _ _ _ h => h
  case y12a => (refine Or.inl ⟨rfl, ?_⟩; intro wq hq; obtain ⟨y0, y1, y2, y3⟩ := HS.out wq hq; go_simp; try with_reducible rfl)
  simp only [Act.put, List.setIfInBounds_toArray, List.set_cons_zero, List.set_cons_succ]
  refine wpAnyH_take (i := 13) (oi := ?p13a) (v := ?v13a) ?o13a (by kernel_rfl) (by kernel_rfl) (by kernel_rfl) ?q13a ?y13a hHeld ?r13a
  case o13a => simp only [List.getElem?_toArray, List.getElem?_cons_succ, List.getElem?_cons_zero]; rfl
  case q13a => exact fun _ _ _ h => h
  case y13a => (refine Or.inl ⟨rfl, ?_⟩; intro wq hq; obtain ⟨y0, y1, y2, y3⟩ := HS.out wq hq; go_simp; try with_reducible rfl)
  simp only [Act.put, List.setIfInBounds_toArray, List.set_cons_zero, List.set_cons_succ]
  refine wpAnyH_done (by kernel_rfl) ?_ _
  have h4 := HH3.out.keep hHeld
  have hf4 := HF3.out.up hHeld
  have hsl := hsr.le
  have HT := Hid_of (HSRS.out r bb hsr)
  have hlen := HLEN.out
  clear hsr HPL HS HSRS HH3 HF3 hHeld c0 c1 c2 c3 f2 B6
  obtain ⟨⟨d0, d1, d2, d3⟩, df⟩ := row4 h4.row
  rw [HV.out] at d3
  have df3 := df 3
  clear df
  have hnr : r = M.trn a u := HT.out.2
  rcases h4.own.row with ⟨hvn, hln⟩ | ⟨g, cap', cur, hvr, hbg, hr⟩
  · have hln' : a.l = [] := hln
    have hvn' := HV.out.symm.trans hvn
    simp only [Value.slice.injEq] at hvn'
    obtain ⟨rfl, hl0, rfl⟩ := hvn'
    have hr0 : r = 0 := by omega
    have HQ : Hid (TrOut w base b v a u (.returned (.int .i64 0)) (w4.drew.setCell ⟨b, 3, none⟩ (.slice none 0 0))) := by
      refine ⟨.slice none 0 0, by rw [← hnr, hr0]; rfl, ⟨?_, ?_, by simp [Value.ownBlock], h4.lo⟩, ?_⟩
      · rw [HTB.out.1, HTB.out.2]; exact heap_setCell_same w4.drew b 3 _ _ _ h4.row
      · rw [← HT.out.1, hln']; simp; exact OwnL.nil _ _ _
      · exact (fr_set hf4.drew (.inl rfl) 3 _).trans ⟨rfl, rfl, rfl, Nat.le_refl _, fun _ _ _ => rfl, fun k hk => by
          rcases hk with e | e
          · exact .inl (.inl e)
          · simp [Value.ownBlock] at e⟩
    rw [hl0] at d3
    subst hr0
    have hcp := fun ty => copy_nil w4.drew ty
    have hcl := fun ty => clear_nil w4.drew ty
    clear h4 hf4 HT hnr HV HTB hln hln' hl0 hsl
    go_wp2_with fail
    go_region_law (refine step_copy_runI rfl _ _ 27 27 rfl _ _ (by simp [Act.eval, Act.put]) (by simp [Act.eval, Act.put]) (hcp _) ?_)
    all_goals
      go_wp2_with (at_builtin; refine wpList_clear_runI _ rfl _ 27 rfl _ rfl (hcl _) ?_)
      go_ret
      exact HQ.out
  · have hvr' := HV.out.symm.trans hvr
    simp only [Value.slice.injEq, true_and] at hvr'
    obtain ⟨rfl, rfl⟩ := hvr'
    have hle := hr.le
    simp only at hle
    have hmx : cap ≤ 9223372036854775807 := by have := hr.mx; unfold maxLen at this; omega
    have hgb : g ≠ b := fun e => h4.ap (by rw [hvr, e]; rfl)
    have hsz := hr.sz
    have hdl : (CC (a.l.drop r)).length = (a.l.length - r) * 4 := by rw [C_len, List.length_drop]
    obtain ⟨m, hm⟩ : ∃ m, a.l.length - r = m := ⟨_, rfl⟩
    rw [hm] at hdl
    have HCP : Hid (∀ sp sc, (0 < m → sp = some ⟨g, r * 4, none⟩) → ∀ ty, (Builtin.copy_ #[27, 27] ty #[.slice (some ⟨g, 0, none⟩) a.l.length cap, .slice sp m sc]).run Try.prog w4.drew = .ok (goInt m) (w4.drew.setRow g (splice cur 0 (CC (a.l.drop r))).toArray)) := fun sp sc hsp ty =>
      run_copy4 w4.drew 27 27 ty 42 g 0 _ cap sp m sc cur 42 (CC (a.l.drop r)) m Try.underlying27 Try.size42 hr.h (by simp only [Nat.min_def]; split <;> omega) hdl (fun h => ⟨_, hsp h, hr.at r⟩) (by rw [hdl, hsz]; omega) (C_one _)
    have hl1 : (splice cur 0 (CC (a.l.drop r))).length = cap * 4 := by rw [length_splice _ _ _ (by rw [hdl, hsz]; omega), hsz]
    have ht1 : (splice cur 0 (CC (a.l.drop r))).take (m * 4) = CC (a.l.drop r) := by
      have h1 := splice_at cur [] (CC (a.l.drop r)) rfl
      simp only [List.length_nil, List.nil_append] at h1
      rw [h1, List.take_append_of_le_length (by omega), List.take_of_length_le (by omega)]
    obtain ⟨c1, hc1⟩ : ∃ c1, splice cur 0 (CC (a.l.drop r)) = c1 := ⟨_, rfl⟩
    rw [hc1] at HCP hl1 ht1
    obtain ⟨W5, hW5⟩ : ∃ W5, w4.drew.setRow g c1.toArray = W5 := ⟨_, rfl⟩
    rw [hW5] at HCP
    have hh5 : W5.heap[g]? = some (.cells c1.toArray 42 (0, 0)) := by rw [← hW5]; exact setRow_heap w4.drew g _ _ _ _ hr.h
    have hG5 : InG w4 W5 g := by rw [← hW5]; exact (InG.refl w4 g).drew.set _
    obtain ⟨W6, hW6⟩ : ∃ W6, W5.setRow g (splice c1 (m * 4) (Builtin.zeroCells (Value.agg #[.int .i64 0, .int .i64 0, .int .i64 0, .string ⟨#[]⟩]).cells (a.l.length - m)).toList).toArray = W6 := ⟨_, rfl⟩
    have hzl : (Builtin.zeroCells (Value.agg #[.int .i64 0, .int .i64 0, .int .i64 0, .string ⟨#[]⟩]).cells (a.l.length - m)).toList.length = (a.l.length - m) * 4 := by simp [size_zeroCells, Value.cells]
    have HCL : Hid (∀ A c, (0 < a.l.length - m → A = ⟨g, m * 4, none⟩) → ∀ ty, (Builtin.clear_ #[27] ty #[.slice (some A) (a.l.length - m) c]).run Try.prog W5 = .ok (.tuple #[]) W6) := by
      intro A c hA ty
      rw [← hW6]
      exact run_clear4 (P := Try.prog) W5 27 42 ty _ Try.underlying27 zv42 rfl (by simp [Value.cells]; exact ⟨rfl, rfl⟩) g (m * 4) (a.l.length - m) c A c1 42 hh5 hA (by rw [hl1]; omega)
    have hG6 : InG w4 W6 g := by rw [← hW6]; exact hG5.set _
    have hl3 : (a.l.drop r).length = m := by rw [List.length_drop]; exact hm
    have ho6 : OwnL vl 42 W6 base (.slice (some ⟨g, 0, none⟩) m cap) (a.l.drop r) := by
      have key : OwnL vl 42 (W5.setRow g (splice c1 (m * 4) (Builtin.zeroCells (Value.agg #[.int .i64 0, .int .i64 0, .int .i64 0, .string ⟨#[]⟩]).cells (a.l.length - m)).toList).toArray) base (.slice (some ⟨g, 0, none⟩) (a.l.drop r).length cap) (a.l.drop r) :=
        Row.own ⟨setRow_heap W5 g _ _ _ _ hh5, by rw [hl3]; omega, hr.mx, by rw [length_splice _ _ _ (by rw [hzl, hl1]; omega), hl1], by rw [hl3, splice_take _ _ _ _ (Nat.le_refl _) (by rw [hl1]; omega)]; exact ht1⟩ hbg
      rw [hW6, hl3] at key
      exact key
    have hb5 : W5.heap[b]? = w4.heap[b]? := hG5.g.block b h4.lt (fun e => hgb (by simpa using e.symm))
    have hb6 : W6.heap[b]? = w4.heap[b]? := hG6.g.block b h4.lt (fun e => hgb (by simpa using e.symm))
    have hrow5 := hb5.trans h4.row
    have hrow6 := hb6.trans h4.row
    rw [HV.out] at hrow5 hrow6
    obtain ⟨⟨e0, e1, e2, e3⟩, _⟩ := row4 hrow5
    obtain ⟨⟨g0, g1, g2, g3⟩, gf⟩ := row4 hrow6
    have gf3 := gf 3
    have HQ : Hid (TrOut w base b v a u (.returned (.int .i64 (r : Nat))) (W6.setCell ⟨b, 3, none⟩ (.slice (some ⟨g, 0, none⟩) m cap))) := by
      refine ⟨.slice (some ⟨g, 0, none⟩) m cap, by rw [← hnr], ⟨?_, ?_, ?_, h4.lo⟩, ?_⟩
      · rw [HTB.out.1, HTB.out.2]; exact heap_setCell_same W6 b 3 _ _ _ hrow6
      · rw [← HT.out.1]; exact ho6.keepBut fun k hk e => heap_setCell_other W6 ⟨b, 3, none⟩ k _ (fun e' => hgb (by simp [Value.ownBlock] at e; exact e.trans e'))
      · simp [Value.ownBlock]; exact hgb
      · refine (hf4.trans (⟨hG6.g.os, hG6.g.tape, hG6.g.output, hG6.g.size, fun k hk hF => hG6.g.block k hk (fun e => hF (.inr (by rw [hvr]; exact e.symm))), fun k hk => ?_⟩ : Fr w4 (fpa b v) W6 (fpa b (.slice (some ⟨g, 0, none⟩) m cap)))).trans (fr_set (Fr.refl _ _) (.inl rfl) 3 _)
        rcases hk with e | e
        · exact .inl (.inl e)
        · exact .inl (.inr (by rw [hvr]; exact e))
    have hi1 : r ≤ a.l.length := hsl
    have hi2 : (r : Int) ≤ (a.l.length : Int) := by omega
    have hi3 : m ≤ a.l.length := by omega
    have hi4 : (m : Int) ≤ (a.l.length : Int) := by omega
    have hi5 : m ≤ cap := by omega
    have hi6 : (m : Int) ≤ (cap : Int) := by omega
    clear hr hh5 hl1 hc1 hW5 hdl hsz ht1 hG5 hW6 hzl hG6 ho6 hb5 hb6 hrow5 hrow6 gf h4 hf4 HT hnr HTB hl3 hvr hbg HV HLEN
    generalize a.l.length = n at *
    by_cases hc1 : cap = r
    · have hcp := HCP.out (some ⟨g, 0, none⟩) (cap - r) (fun h => by omega)
      by_cases hc2 : cap = m
      · have hcl := HCL.out ⟨g, 0, none⟩ (cap - m) (fun h => by omega)
        have hc3 : cap = 0 := by omega
        obtain rfl : m = 0 := by omega
        obtain rfl : r = 0 := by omega
        obtain rfl : n = 0 := by omega
        subst hc3
        simp only [Nat.sub_self] at hcp hcl
        clear HCP HCL
        go_wp2_with fail
        go_region_law (refine step_copy_runI rfl _ _ 27 27 rfl _ _ (by simp [Act.eval, Act.put]) (by simp [Act.eval, Act.put]) (hcp _) ?_)
        all_goals
          go_wp2_with (at_builtin; refine wpList_clear_runI _ rfl _ 27 rfl _ rfl (hcl _) ?_)
          go_ret
          exact HQ.out
      · have hcl := HCL.out ⟨g, m * 4, none⟩ (cap - m) (fun h => rfl)
        obtain rfl : m = 0 := by omega
        obtain rfl : n = cap := by omega
        subst hc1
        simp only [Nat.sub_self, Nat.zero_mul, Nat.sub_zero] at hcp hcl
        clear HCP HCL
        go_wp2_with fail
        go_region_law (refine step_copy_runI rfl _ _ 27 27 rfl _ _ (by simp [Act.eval, Act.put]) (by simp [Act.eval, Act.put]) (hcp _) ?_)
        all_goals
          go_wp2_with (at_builtin; refine wpList_clear_runI _ rfl _ 27 rfl _ rfl (hcl _) ?_)
          go_ret
          exact HQ.out
    · have hcp := HCP.out (some ⟨g, r * 4, none⟩) (cap - r) (fun h => rfl)
      by_cases hc2 : cap = m
      · have hcl := HCL.out ⟨g, 0, none⟩ (cap - m) (fun h => by omega)
        obtain rfl : r = 0 := by omega
        obtain rfl : n = cap := by omega
        subst hc2
        simp only [Nat.sub_self, Nat.zero_mul, Nat.sub_zero] at hcp hcl
        have hc3 : ¬ (n = 0) := by omega
        clear HCP HCL
        go_wp2_with fail
        go_region_law (refine step_copy_runI rfl _ _ 27 27 rfl _ _ (by simp [Act.eval, Act.put]) (by simp [Act.eval, Act.put]) (hcp _) ?_)
        all_goals
          go_wp2_with (at_builtin; refine wpList_clear_runI _ rfl _ 27 rfl _ rfl (hcl _) ?_)
          go_ret
          exact HQ.out
      · have hcl := HCL.out ⟨g, m * 4, none⟩ (cap - m) (fun h => rfl)
        have hc3 : ¬ (cap = 0) := by omega
        clear HCP HCL
        go_wp2_with fail
        go_region_law (refine step_copy_runI rfl _ _ 27 27 rfl _ _ (by simp [Act.eval, Act.put]) (by simp [Act.eval, Act.put]) (hcp _) ?_)
        all_goals
          go_wp2_with (at_builtin; refine wpList_clear_runI _ rfl _ 27 rfl _ rfl (hcl _) ?_)
          go_ret
          exact HQ.out
end Go.Proofs.Ytfjlanhekheecaa.Na
