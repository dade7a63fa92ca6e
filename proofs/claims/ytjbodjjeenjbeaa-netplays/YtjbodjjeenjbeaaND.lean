/-
  A new net; one more under way; one less.
-/
import Derived.Test.YtjbodjjeenjbeaaNC
namespace Go.Proofs.Ytjbodjjeenjbeaa
open Go.RowKit
set_option linter.unusedVariables false
open Nt (Pk)

theorem Row.of {w w' : World} {g cap : Nat} {cur : List Value} {P : List Pk} (h : Row w g cap cur P) (hb : w'.heap[g]? = w.heap[g]?) : Row w' g cap cur P := ⟨by rw [hb]; exact h.h, h.le, h.mx, h.sz, h.eq⟩
theorem bel2 (w : World) (o o' : Obj) : Below w.heap.size w ((w.alloc o).alloc o') := (bel1 w o).alloc (by simp) _
set_option maxHeartbeats 400000 in
theorem new_any (x : Int) (w : World) : Calls Try.prog 9 #[.int .i64 x] w fun e w' => e = .returned (.pointer (some ⟨w.heap.size + 1, 0, none⟩)) ∧ NI w' w.heap.size (w.heap.size + 1) w.heap.size (.slice none 0 0) 0 (Nt.lim x) [] (fun _ _ => false) ∧ Below w.heap.size w w' := by
  have hmm := @run_makeMap Try.prog
  obtain ⟨mx, hmx⟩ : ∃ z, max x 1 = z := ⟨_, rfl⟩
  obtain ⟨mn, hmn⟩ : ∃ z, min mx 64 = z := ⟨_, rfl⟩
  have hlim : Nt.lim x = mn := by unfold Nt.lim; rw [hmx, hmn]
  have hle := Nt.lim_le x
  rw [hlim] at hle ⊢
  have HX : Hid (NI ((w.alloc (.map #[] 0)).alloc (.cells #[.int .i64 mn, .slice none 0 0, .map (some w.heap.size)] 61)) w.heap.size (w.heap.size + 1) w.heap.size (.slice none 0 0) 0 mn [] (fun _ _ => false)) := by
    refine ⟨heap_alloc2_new w _ _, OwnP.nil _ _ _, ?_, Nt.Ok.nil, hle, ⟨by simp [Value.ownBlock], by simp [Value.ownBlock]⟩, ⟨by omega, Nat.le_refl _⟩⟩
    exact (MI.made w).keep (Below.heap_alloc (w.alloc (.map #[] 0)) _ w.heap.size (by simp))
  have HB := Hid_of (bel2 w (.map #[] 0) (.cells #[.int .i64 mn, .slice none 0 0, .map (some w.heap.size)] 61))
  clear hlim hle
  go_enter Try.func9, Try.ntmps9
  go_wp2
  go_ret
  exact ⟨rfl, HX.out, HB.out⟩
set_option maxHeartbeats 400000 in
theorem add_no {w : World} {base b m : Nat} {v : Value} {n : Nat} {N : Int} {L : List Pk} {C : Int → Int → Bool} (h : NI w base b m v n N L C) (x y : Int) (s : ByteArray) (hr : ¬ L.length < 1024) :
    Calls Try.prog 28 #[.pointer (some ⟨b, 0, none⟩), .agg #[.int .i64 x, .int .i64 y, .string s]] w (NOut w base b m v n N L C (.bool false)) := by
  have hB := bel1 w (.cells #[.int .i64 x, .int .i64 y, .string s] 73)
  obtain ⟨⟨c0, c1, c2⟩, _⟩ := (h.keep hB).cells
  have HK : Hid (NOut w base b m v n N L C (.bool false) (.returned (.bool false)) (w.alloc (.cells #[.int .i64 x, .int .i64 y, .string s] 73))) := ⟨v, rfl, h.keep hB, Ch.ofBelow hB⟩
  obtain ⟨a, cap, rfl, _⟩ := h.own.at
  have d1 : decide ((1024 : Int) ≤ (L.length : Int)) = true := decide_eq_true (by omega)
  clear h hB
  go_enter Try.func28, Try.ntmps28
  go_wp2
  go_ret
  exact HK.out
set_option maxRecDepth 100000 in
set_option maxHeartbeats 1000000 in
theorem add_yes {w : World} {base b m : Nat} {v : Value} {n : Nat} {N : Int} {L : List Pk} {C : Int → Int → Bool} (h : NI w base b m v n N L C) (hbw : base ≤ w.heap.size) (x y : Int) (s : ByteArray) (hr : L.length < 1024) (hok : Nt.Ok (L ++ [⟨x, y, s⟩])) :
    Calls Try.prog 28 #[.pointer (some ⟨b, 0, none⟩), .agg #[.int .i64 x, .int .i64 y, .string s]] w (NOut w base b m v n N (L ++ [⟨x, y, s⟩]) C (.bool true)) := by
  have hB := bel1 w (.cells #[.int .i64 x, .int .i64 y, .string s] 73)
  obtain ⟨W1, HW1⟩ : ∃ W1, Hid (w.alloc (.cells #[.int .i64 x, .int .i64 y, .string s] 73) = W1) := ⟨_, rfl⟩
  have HB1 : Hid (Below w.heap.size w W1) := by rw [← HW1.out]; exact hB
  have hr1 : W1.heap[w.heap.size]? = some (.cells #[.int .i64 x, .int .i64 y, .string s] 73 (0, 0)) := by rw [← HW1.out]; exact heap_alloc_last w _
  obtain ⟨⟨p0, p1, p2⟩, _⟩ := rw3 hr1
  have h1 := h.keep HB1.out
  obtain ⟨⟨c0, c1, c2⟩, _⟩ := h1.cells
  obtain ⟨W2, HW2⟩ : ∃ W2, Hid ((W1.alloc (.cells #[.int .i64 x, .int .i64 y, .string s] 73)).drew = W2) := ⟨_, rfl⟩
  have hB2 : Below W1.heap.size W1 W2 := by rw [← HW2.out]; exact (bel1 W1 _).drew
  have hr2 : W2.heap[W1.heap.size]? = some (.cells #[.int .i64 x, .int .i64 y, .string s] 73 (0, 0)) := by rw [← HW2.out]; exact heap_alloc_last W1 _
  have h2 := h1.keep hB2
  have hbw2 : base ≤ W2.heap.size := by have := HB1.out.size; have := hB2.size; omega
  obtain ⟨a', c', w3, hrun, ho, hrw⟩ := run_appP pt59 W2 59 base v L [⟨x, y, s⟩] W1.heap.size 0 1 1 h2.own (atP_one hr2) rfl hbw2 (by simp; omega)
  obtain ⟨k1, k2⟩ := h2.put hrw ho hok
  obtain ⟨⟨d0, d1, d2⟩, df⟩ := rw3 (h2.row1 hrw)
  have df1 := df 1
  have HK : Hid (NOut w base b m v n N (L ++ [⟨x, y, s⟩]) C (.bool true) (.returned (.bool true)) (w3.setCell ⟨b, 1, none⟩ (.slice a' (L.length + 1) c'))) := ⟨_, rfl, k1, (Ch.ofBelow (bel_up HB1.out hB2 (Nat.le_refl _))).trans k2⟩
  obtain ⟨a, cap, rfl, _⟩ := h.own.at
  have dd : decide ((1024 : Int) ≤ (L.length : Int)) = false := decide_eq_false (by omega)
  have hrun' : (Builtin.append_ #[59, 59] 59 #[.slice a L.length cap, .slice (some ⟨W1.heap.size, 0, none⟩) 1 1]).run Try.prog W2 = .ok (.slice a' (L.length + 1) c') w3 := hrun
  rw [← HW2.out] at hrun'
  have c1' := cell_up c1 (.cells #[.int .i64 x, .int .i64 y, .string s] 73)
  clear h hB h1 hB2 hr1 hr2 h2 hrun ho hrw k1 k2 HB1 hbw2 df
  go_enter Try.func28, Try.ntmps28
  go_upto_region 1 with fail
  rw [HW1.out]
  clear HW1
  go_wp2_with fail
  go_region_law (refine step_append_run rfl _ _ 59 rfl _ _ (by simp [Act.eval]) (by simp [Act.eval]) _ _ hrun' ?_)
  all_goals
    go_wp2
    go_ret
    exact HK.out
theorem f34_res : Try.f34.results = #[.cell 4 73] := rfl
def put3 (w : World) (g : Nat) (a b c : Value) : World := ((w.setCell ⟨g, 0, none⟩ a).setCell ⟨g, 1, none⟩ b).setCell ⟨g, 2, none⟩ c
theorem put3_row {w : World} {g : Nat} {t : TypeId} {v0 v1 v2 : Value} (h : w.heap[g]? = some (.cells #[v0, v1, v2] t (0, 0))) (a b c : Value) : (put3 w g a b c).heap[g]? = some (.cells #[a, b, c] t (0, 0)) :=
  heap_setCell_same _ g 2 _ _ c (heap_setCell_same _ g 1 _ _ b (heap_setCell_same w g 0 _ _ a h))
theorem put3_oth {w : World} {g k : Nat} (h : k ≠ g) (a b c : Value) : (put3 w g a b c).heap[k]? = w.heap[k]? := by
  unfold put3
  rw [heap_setCell_other _ ⟨g, 2, none⟩ k c h, heap_setCell_other _ ⟨g, 1, none⟩ k b h, heap_setCell_other _ ⟨g, 0, none⟩ k a h]
theorem put3_size (w : World) (g : Nat) (a b c : Value) : (put3 w g a b c).heap.size = w.heap.size := by simp [put3]
theorem put3_bel {w0 w : World} {B g : Nat} (h : Below B w0 w) (hg : B ≤ g) (a b c : Value) : Below B w0 (put3 w g a b c) :=
  ((h.setCell (p := ⟨g, 0, none⟩) hg a).setCell (p := ⟨g, 1, none⟩) hg b).setCell (p := ⟨g, 2, none⟩) hg c
/-- A packet as a value. -/
def pv (p : Pk) : Value := .agg #[.int .i64 p.a, .int .i64 p.b, .string p.s]
set_option maxRecDepth 100000 in
set_option maxHeartbeats 1000000 in
theorem take_one {w : World} {base b m : Nat} {v : Value} {n : Nat} {N : Int} {L : List Pk} {C : Int → Int → Bool} (h : NI w base b m v n N L C) (hbw : base ≤ w.heap.size) (i : Nat) (hi : i < L.length) :
    Calls Try.prog 34 #[.pointer (some ⟨b, 0, none⟩), .int .i64 i] w (NOut w base b m v n N (L.eraseIdx i) C (pv L[i])) := by
  have hok : Nt.Ok (L.eraseIdx i) := by
    refine ⟨?_, fun p hp => h.ok.s p (List.mem_of_mem_eraseIdx hp), fun p hp => h.ok.l p (List.mem_of_mem_eraseIdx hp)⟩
    have := List.length_eraseIdx_le (l := L) (i := i)
    have := h.ok.n
    omega
  have hLn := h.ok.n
  rcases h.own.row with ⟨_, h0⟩ | ⟨g, cap, cur, rfl, hbg, hr⟩
  · subst h0; simp at hi
  · obtain ⟨a, cap', hv, hX, _⟩ := h.own.at
    simp only [Value.slice.injEq, true_and] at hv
    obtain ⟨rfl, rfl⟩ := hv
    obtain ⟨g', off, e, q0, q1, q2⟩ := hX.at' i hi
    cases e
    simp only [Nat.zero_add] at q0 q1 q2
    generalize hp : L[i] = p at *
    obtain ⟨W1, HW1⟩ : ∃ W1, Hid (w.alloc (.cells #[.int .i64 0, .int .i64 0, .string ⟨#[]⟩] 73) = W1) := ⟨_, rfl⟩
    have hB1 : Below w.heap.size w W1 := by rw [← HW1.out]; exact bel1 w _
    have hs1 : W1.heap.size = w.heap.size + 1 := by rw [← HW1.out]; simp
    have hr1 : W1.heap[w.heap.size]? = some (.cells #[.int .i64 0, .int .i64 0, .string ⟨#[]⟩] 73 (0, 0)) := by rw [← HW1.out]; exact heap_alloc_last w _
    obtain ⟨W2, HW2⟩ : ∃ W2, Hid (W1.alloc (.cells #[.int .i64 p.a, .int .i64 p.b, .string p.s] 73) = W2) := ⟨_, rfl⟩
    have hB2 : Below W1.heap.size W1 W2 := by rw [← HW2.out]; exact bel1 W1 _
    have hs2 : W2.heap.size = w.heap.size + 2 := by rw [← HW2.out]; simp; omega
    have hr2 : W2.heap[W1.heap.size]? = some (.cells #[.int .i64 p.a, .int .i64 p.b, .string p.s] 73 (0, 0)) := by rw [← HW2.out]; exact heap_alloc_last W1 _
    have hr12 := bel_row hr1 hB2
    have hBw2 := bel_up hB1 hB2 (Nat.le_refl _)
    have h2 := h.keep hBw2
    have h1 := h.keep hB1
    obtain ⟨⟨c0, c1, c2⟩, _⟩ := h1.cells
    obtain ⟨⟨d0, d1, d2⟩, _⟩ := h2.cells
    have q0' := hB1.cell (p := ⟨g, i * 3, none⟩) (World.block_lt_of_cell? w _ q0) |>.trans q0
    have q1' := hB1.cell (p := ⟨g, i * 3 + 1, none⟩) (World.block_lt_of_cell? w _ q1) |>.trans q1
    have q2' := hB1.cell (p := ⟨g, i * 3 + 2, none⟩) (World.block_lt_of_cell? w _ q2) |>.trans q2
    have HLT := Hid_of (And.intro h.lt h.mi.lt)
    have hd := delete_row i hbg (hr.of (hBw2.block g (World.block_lt_of_cell? w _ q0))) hi (by omega)
    rw [← List.eraseIdx_eq_take_drop_succ] at hd
    have HFIN : Hid (∀ v' w4, OwnP 73 w4 base v' (L.eraseIdx i) → Rw W2 (.slice (some ⟨g, 0, none⟩) L.length cap) w4 v' → (w4.cell? ⟨b, 1, none⟩ = some (.slice (some ⟨g, 0, none⟩) L.length cap) ∧ w4.frozen? ⟨b, 1, none⟩ = false) ∧ (∀ W, W = w4.setCell ⟨b, 1, none⟩ v' → W.heap[w.heap.size]? = some (.cells #[.int .i64 0, .int .i64 0, .string ⟨#[]⟩] 73 (0, 0)) ∧ W.heap[W1.heap.size]? = some (.cells #[.int .i64 p.a, .int .i64 p.b, .string p.s] 73 (0, 0)) ∧ NI W base b m v' n N (L.eraseIdx i) C ∧ Ch w (fp b m (.slice (some ⟨g, 0, none⟩) L.length cap)) W (fp b m v') ∧ w.heap.size + 2 ≤ W.heap.size ∧ (∀ k, v'.ownBlock = some k → k ≠ w.heap.size))) := by
      intro v' w4 o r
      obtain ⟨k1, k2⟩ := h2.put r o hok
      obtain ⟨⟨_, e1, _⟩, ef⟩ := rw3 (h2.row1 r)
      refine ⟨⟨e1, ef 1⟩, ?_⟩
      rintro W rfl
      have hblt := h.lt
      have hglt : g < w.heap.size := World.block_lt_of_cell? w _ q0
      have hk : ∀ k, k = w.heap.size ∨ k = W1.heap.size → (w4.setCell ⟨b, 1, none⟩ v').heap[k]? = W2.heap[k]? := fun k hk => by
        have hkb : k ≠ b := by omega
        have hkg : k ≠ g := by rcases hk with e | e <;> omega
        rw [heap_setCell_other w4 ⟨b, 1, none⟩ k v' hkb]
        exact r.g.block k (by omega) (fun e => by simp [Value.ownBlock] at e; exact hkg e)
      refine ⟨(hk _ (.inl rfl)).trans hr12, (hk _ (.inr rfl)).trans hr2, k1, (Ch.ofBelow hBw2).trans k2, ?_, fun k hk' e => ?_⟩
      · have := k2.size
        omega
      · subst e
        rcases r.n _ hk' with h' | h'
        · simp [Value.ownBlock] at h'
          omega
        · omega
    have hw : IntKind.i64.wrap ((i : Int) + 1) = (i : Int) + 1 := by rw [IntKind.wrap_i64]; omega
    have hil : (i : Int) < (L.length : Int) := by omega
    have HS1 := Hid_of hs1
    clear h hX hr hok q0 q1 q2 hr1 hr2 hr12 h1 h2 hB1 hB2 hBw2 c0 c2 d0 d2 hs1 hs2 hbg hbw
    go_enter Try.func34, Try.ntmps34
    go_upto_region 1 with fail
    rw [HW1.out]
    go_upto_region 2 with fail
    rw [HW2.out]
    clear HW1 HW2 q0' q1' q2' c1
    go_wp2_with fail
    refine hd.mono ?_
    rintro e w4 ⟨v', rfl, o4, r4⟩
    obtain ⟨⟨e1, ef1⟩, hf⟩ := HFIN.out v' w4 o4 r4
    obtain ⟨a', cp', rfl, _⟩ := o4.at
    obtain ⟨W5, HW5⟩ : ∃ W5, Hid (w4.setCell ⟨b, 1, none⟩ (.slice a' (L.eraseIdx i).length cp') = W5) := ⟨_, rfl⟩
    obtain ⟨t0, t1, t2, t3, t4, t5⟩ := hf W5 HW5.out.symm
    obtain ⟨⟨u0, u1, u2⟩, uf⟩ := rw3 t0
    obtain ⟨⟨x0, x1, x2⟩, _⟩ := rw3 t1
    have uf0 := uf 0
    have uf1 := uf 1
    have uf2 := uf 2
    obtain ⟨hl1, hl2⟩ := HLT.out
    have HR : Hid ((put3 W5 w.heap.size (.int .i64 p.a) (.int .i64 p.b) (.string p.s)).heap[w.heap.size]? = some (.cells #[.int .i64 p.a, .int .i64 p.b, .string p.s] 73 (0, 0))) := put3_row t0 _ _ _
    have HK : Hid (NOut w base b m (.slice (some ⟨g, 0, none⟩) L.length cap) n N (L.eraseIdx i) C (pv p) (.returned (pv p)) (put3 W5 w.heap.size (.int .i64 p.a) (.int .i64 p.b) (.string p.s))) := by
      have hkk : ∀ k, fp b m (.slice a' (L.eraseIdx i).length cp') k → k ≠ w.heap.size := by
        rintro k (rfl | rfl | e)
        · exact fun e => by omega
        · exact fun e => by omega
        · exact t5 k e
      refine ⟨_, rfl, t2.keepBut (fun k _ hk => put3_oth (hkk k hk) _ _ _), ⟨t3.os, t3.tape, t3.output, by rw [put3_size]; exact t3.size, fun k hk hF => ?_, t3.n⟩⟩
      rw [put3_oth (by omega)]
      exact t3.block k hk hF
    clear hf o4 r4 HFIN hd t0 t1 t2 t3 t4 t5 uf d1 hl1 hl2
    generalize (L.eraseIdx i).length = nl at *
    go_upto_region 3 with fail
    rw [HW5.out]
    clear HW5 e1 ef1
    go_wp2
    refine bodyPost_ret (v := pv p) ?_ rfl HK.out
    exact results_cell_row f34_res _ _ w.heap.size 73 _ (0, 0) _ rfl HR.out Try.underlying73 rfl Try.size73
end Go.Proofs.Ytjbodjjeenjbeaa
