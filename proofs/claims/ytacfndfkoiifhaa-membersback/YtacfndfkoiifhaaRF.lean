/-
  A group's deeds: Add.
-/
import Derived.Test.YtacfndfkoiifhaaRE
namespace Go.Proofs.Ytacfndfkoiifhaa
open Go.RowKit
set_option linter.unusedVariables false
open Mb (S)

theorem atS3 {W : World} {n1 : Nat} {x1 x2 x3 : Sl} (hr : W.heap[n1]? = some (.cells #[slv x1, slv x2, slv x3] 22 (0, 0))) : AtL sl W (some ⟨n1, 0, none⟩) [x1, x2, x3] := by
  intro j hj
  refine ⟨n1, 0, rfl, fun o ho => ?_⟩
  have ho' : o = 0 := by simp [sl] at ho; omega
  subst ho'
  rw [cell_of_row W n1 _ _ _ _ hr]
  simp only [List.length_cons, List.length_nil] at hj
  match j, hj with
  | 0, _ => rfl
  | 1, _ => rfl
  | 2, _ => rfl
theorem atS2 {W : World} {n1 : Nat} {x1 x2 : Sl} (hr : W.heap[n1]? = some (.cells #[slv x1, slv x2] 22 (0, 0))) : AtL sl W (some ⟨n1, 0, none⟩) [x1, x2] := by
  intro j hj
  refine ⟨n1, 0, rfl, fun o ho => ?_⟩
  have ho' : o = 0 := by simp [sl] at ho; omega
  subst ho'
  rw [cell_of_row W n1 _ _ _ _ hr]
  simp only [List.length_cons, List.length_nil] at hj
  match j, hj with
  | 0, _ => rfl
  | 1, _ => rfl
/-- Are three rows apart, two rows? -/
theorem apart3 {W : World} {n1 : Nat} {a1 a2 a3 : Option Addr} {c1 c2 c3 k3 : Nat} {l1 l2 l3 : List Int} (hr : W.heap[n1]? = some (.cells #[.slice a1 l1.length c1, .slice a2 l2.length c2, .slice a3 k3 c3] 22 (0, 0))) (h1 : AtL il W a1 l1) (h2 : AtL il W a2 l2) (h3 : AtL il W a3 l3) (m1 : l1.length ≤ 1000000) (m2 : l2.length ≤ 1000000) (m3 : l3.length ≤ 1000000) (hk : k3 = l3.length) :
    Calls Try.prog 28 #[.slice (some ⟨n1, 0, none⟩) 3 3] W fun e w' => e = .returned (.bool (Mb.apB (l1 ++ (l2 ++ l3)))) ∧ Below W.heap.size W w' := by
  subst hk
  have := apart_any (some ⟨n1, 0, none⟩) 3 [⟨a1, c1, l1⟩, ⟨a2, c2, l2⟩, ⟨a3, c3, l3⟩] W (by simp) (atS3 hr) (by
    intro x hx
    simp only [List.mem_cons, List.not_mem_nil, or_false] at hx
    rcases hx with rfl | rfl | rfl
    · exact ⟨m1, h1⟩
    · exact ⟨m2, h2⟩
    · exact ⟨m3, h3⟩)
  have e : Mb.cat [(⟨a1, c1, l1⟩ : Sl), ⟨a2, c2, l2⟩, ⟨a3, c3, l3⟩] = l1 ++ (l2 ++ l3) := by simp [Mb.cat]
  rw [e] at this
  exact this
theorem apart2 {W : World} {n1 : Nat} {a1 a2 : Option Addr} {c1 c2 : Nat} {l1 l2 : List Int} (hr : W.heap[n1]? = some (.cells #[.slice a1 l1.length c1, .slice a2 l2.length c2] 22 (0, 0))) (h1 : AtL il W a1 l1) (h2 : AtL il W a2 l2) (m1 : l1.length ≤ 1000000) (m2 : l2.length ≤ 1000000) :
    Calls Try.prog 28 #[.slice (some ⟨n1, 0, none⟩) 2 2] W fun e w' => e = .returned (.bool (Mb.apB (l1 ++ l2))) ∧ Below W.heap.size W w' := by
  have := apart_any (some ⟨n1, 0, none⟩) 2 [⟨a1, c1, l1⟩, ⟨a2, c2, l2⟩] W (by simp) (atS2 hr) (by
    intro x hx
    simp only [List.mem_cons, List.not_mem_nil, or_false] at hx
    rcases hx with rfl | rfl
    · exact ⟨m1, h1⟩
    · exact ⟨m2, h2⟩)
  have e : Mb.cat [(⟨a1, c1, l1⟩ : Sl), ⟨a2, c2, l2⟩] = l1 ++ l2 := by simp [Mb.cat]
  rw [e] at this
  exact this
theorem at_int1 {W : World} {n : Nat} {a : Int} (h : W.heap[n]? = some (.cells #[.int .i64 a] 3 (0, 0))) : AtL il W (some ⟨n, 0, none⟩) [a] := atL_one (Y := il) h
section
variable {w w' : World} {base b : Nat} {vl vs : Value} {s : S}
theorem add_end {w w1 w2 : World} (h : MI w base b vl vs s) (hb1 : Below w.heap.size w w1) {v' : Value} {l' : List Int} (ho : OwnL il 3 w2 base v' l') (hr : Rw w1 vs w2 v') :
    w2.heap[b]? = some (mrow s vl vs) ∧ MI (w2.setCell ⟨b, 5, none⟩ v') base b vl v' { s with sp := l' } ∧ Fr w (fpm b vl vs) (w2.setCell ⟨b, 5, none⟩ v') (fpm b vl v') := by
  have h1 := h.keep hb1
  have hrow : w2.heap[b]? = some (mrow s vl vs) := (hr.g.block b h1.lt (fun e => h.ns e.symm)).trans h1.row
  have hn : ∀ k, v'.ownBlock = some k → vs.ownBlock = some k ∨ w.heap.size ≤ k := fun k hk => by
    rcases hr.n k hk with e | e
    · exact .inl e
    · exact .inr (Nat.le_trans hb1.size e)
  have nb : v'.ownBlock ≠ some b := fun e => by
    rcases hn b e with e | e
    · exact h.ns e
    · have := h.lt; omega
  refine ⟨hrow, ⟨heap_setCell_same w2 b 5 _ _ v' hrow, ?_, ?_, h.nl, nb, fun k hk e => ?_, h.lo⟩, ?_⟩
  · refine h1.ol.keepBut fun k hk e => ?_
    rw [heap_setCell_other w2 ⟨b, 5, none⟩ k _ (fun e' => h.nl (by have e2 : k = b := e'; rw [← e2]; exact e))]
    exact hr.g.block k hk (fun e' => h.ne k e e'.symm)
  · exact ho.keepBut fun k _ e => heap_setCell_other w2 ⟨b, 5, none⟩ k _ (fun e' => nb (by have e2 : k = b := e'; rw [← e2]; exact e))
  · rcases hn k e with e | e
    · exact h.ne k hk e
    · have := (h.ol.lt hk).2; omega
  · refine fr_set ?_ (.inl rfl) 5 v'
    refine ⟨hr.g.os.trans hb1.os, hr.g.tape.trans hb1.tape, hr.g.output.trans hb1.output, Nat.le_trans hb1.size hr.g.size, fun k hk hF => ?_, ?_⟩
    · rw [hr.g.block k (Nat.lt_of_lt_of_le hk hb1.size) (fun e => hF (.inr (.inr e.symm)))]
      exact hb1.block k hk
    · rintro k (hk | hk | hk)
      · exact .inl (.inl hk)
      · exact .inl (.inr (.inl hk))
      · rcases hn k hk with e | e
        · exact .inl (.inr (.inr e))
        · exact .inr e
/-- What a deed leaves that drew or made something besides. -/
theorem DdOut.later (h : MI w base b vl vs s) (u : Value) {w1 : World} (hb : Below w.heap.size w w1) : DdOut w base b vl vs u s (.returned u) w1 := ⟨rfl, vs, h.keep hb, Fr.ofBelow hb⟩
set_option maxHeartbeats 1000000 in
theorem addM_any (h : MI w base b vl vs s) (g : Mb.G s) (hbs : base ≤ w.heap.size) (a : Int) : Calls Try.prog 23 #[.pointer (some ⟨b, 0, none⟩), .int .i64 a] w (DdOut w base b vl vs (.int .i64 (Mb.ac s a)) (Mb.as' s a)) := by
  have hid := isId_any a w
  have HNO : Hid (¬ Mb.ac s a = 0 → ∀ w1, Below w.heap.size w w1 → DdOut w base b vl vs (.int .i64 (Mb.ac s a)) (Mb.as' s a) (.returned (.int .i64 (Mb.ac s a))) w1) := Hid_of fun e w1 hb => by rw [Mb.as_no e]; exact DdOut.later h _ hb
  obtain ⟨al, cl, hl, hxl, _⟩ := h.ol.at
  obtain ⟨az, cz, hs, hxs, _⟩ := h.os.at
  have hl8 := g.g.2.1
  have hs64 := g.ap.right.len
  have HAP : Hid (∀ (W : World) (n1 n0 : Nat), Below w.heap.size w W → W.heap[n1]? = some (.cells #[.slice al s.l.length cl, .slice az s.sp.length cz, .slice (some ⟨n0, 0, none⟩) 1 1] 22 (0, 0)) → W.heap[n0]? = some (.cells #[.int .i64 a] 3 (0, 0)) → Calls Try.prog 28 #[.slice (some ⟨n1, 0, none⟩) 3 3] W fun e w' => e = .returned (.bool (Mb.apB (s.l ++ (s.sp ++ [a])))) ∧ Below W.heap.size W w') :=
    Hid_of fun W n1 n0 hW hr h0 => apart3 (l3 := [a]) hr (hxl.at'.keep hW) (hxs.at'.keep hW) (at_int1 h0) (by omega) (by omega) (by simp) rfl
  have HS : Hid (∀ wq, Below w.heap.size w wq → wq.cell? ⟨b, 0, none⟩ = some (.int .i64 s.ep) ∧ wq.cell? ⟨b, 1, none⟩ = some (.int .i64 s.hole) ∧ wq.cell? ⟨b, 2, none⟩ = some (.bool s.fl) ∧ wq.cell? ⟨b, 3, none⟩ = some (.int .i64 s.gone) ∧ wq.cell? ⟨b, 4, none⟩ = some (.slice al s.l.length cl) ∧ wq.cell? ⟨b, 5, none⟩ = some (.slice az s.sp.length cz)) := Hid_of fun wq hq => by
    have := (row6 (h.keep hq).row).1
    rw [hl, hs] at this
    exact this
  have HYES : Hid (Mb.ac s a = 0 → ∀ w1, Below w.heap.size w w1 → ∃ a' c' w2, (∀ ty, (Builtin.append_ #[22, 22] ty #[.slice az s.sp.length cz, .slice (some ⟨w1.heap.size, 0, none⟩) 1 1]).run Try.prog (w1.alloc (.cells #[.int .i64 a] 3)) = .ok (.slice a' (s.sp.length + 1) c') w2) ∧ (w2.cell? ⟨b, 5, none⟩ = some (.slice az s.sp.length cz) ∧ w2.frozen? ⟨b, 5, none⟩ = false) ∧ DdOut w base b vl vs (.int .i64 0) (Mb.as' s a) (.returned (.int .i64 0)) (w2.setCell ⟨b, 5, none⟩ (.slice a' (s.sp.length + 1) c'))) := by
    refine Hid_of fun hc w1 hb => ?_
    have hb2 : Below w.heap.size w (w1.alloc (.cells #[.int .i64 a] 3)) := hb.alloc hb.size _
    have h2 := h.keep hb2
    obtain ⟨a', c', w2, h1, h2', h3⟩ := run_appL_ty tiI (w1.alloc (.cells #[.int .i64 a] 3)) base vs s.sp [a] w1.heap.size 0 1 1 h2.os (at_int1 (heap_alloc_last w1 _)) rfl (Nat.le_trans hbs hb2.size) (by simp; omega)
    obtain ⟨r1, r2, r3⟩ := add_end h hb2 h2' h3
    rw [hs] at h1
    obtain ⟨⟨_, _, _, _, _, e5⟩, ef⟩ := row6 r1
    rw [hs] at e5
    refine ⟨a', c', w2, h1, ⟨e5, ef 5⟩, rfl, _, ?_, r3⟩
    rw [Mb.as_yes hc]
    exact r2
  have hgr := g
  clear h g hxl hxs hl hs hbs
  rcases Mb.ac_cases hgr a with ⟨k1, k2⟩ | ⟨k1, k2, k3⟩ | ⟨k1, k2, k3, k4⟩ | ⟨k1, k2, k3, k4⟩
  · have HQ := Hid_of (HNO.out (by rw [k2]; decide) w (Below.refl _ _))
    rw [k2] at HQ ⊢
    rw [decide_eq_false k1] at hid
    clear HNO HYES HAP HS k2 hgr
    go_enter Try.func23, Try.ntmps23
    go_wp2_with fail
    refine hid.mono ?_
    rintro e w1 ⟨rfl, hw⟩
    subst w1
    clear hid
    go_wp2
    go_ret
    exact HQ.out
  · have HQ := Hid_of (HNO.out (by rw [k3]; decide))
    rw [k3] at HQ ⊢
    rw [decide_eq_true k1] at hid
    rw [k2] at HAP
    clear HNO HYES k3 hgr
    go_enter Try.func23, Try.ntmps23
    go_wp2_with fail
    refine hid.mono ?_
    rintro e w1 ⟨rfl, hw⟩
    subst w1
    clear hid
    go_wp2_with fail
    refine wp_region_held_drew (S := fun wq => Below (w).heap.size (w) wq) (by kernel_rfl) (Below.drew (Below.refl _ _)) (fun hHeld => ?_)
    obtain ⟨wdp, hwdp⟩ : ∃ wd, w.drew = wd := ⟨_, rfl⟩
    have hBwd : Below w.heap.size w wdp := by rw [← hwdp]; exact Below.drew (Below.refl _ _)
    rw [hwdp] at hHeld ⊢
    clear hwdp
    refine Tm 0 ?p0p ?v0p hHeld ?r0p
    simp only [Act.put, Pa, Pb, Pc]
    refine Tm 1 ?p1p ?v1p hHeld ?r1p
    simp only [Act.put, Pa, Pb, Pc]
    refine Tm 2 ?p2p ?v2p hHeld ?r2p
    simp only [Act.put, Pa, Pb, Pc]
    refine Tk 3 ?p3p ?v3p ?y3p hHeld ?r3p
    case y3p => intro wq hq; obtain ⟨z0, z1, z2, z3, z4, z5⟩ := HS.out wq hq; go_simp; try with_reducible rfl
    simp only [Act.put, Pa, Pb, Pc]
    refine Tm 4 ?p4p ?v4p hHeld ?r4p
    simp only [Act.put, Pa, Pb, Pc]
    refine Tm 5 ?p5p ?v5p hHeld ?r5p
    simp only [Act.put, Pa, Pb, Pc]
    refine Tm 6 ?p6p ?v6p hHeld ?r6p
    simp only [Act.put, Pa, Pb, Pc]
    refine Tk 7 ?p7p ?v7p ?y7p hHeld ?r7p
    case y7p => intro wq hq; obtain ⟨z0, z1, z2, z3, z4, z5⟩ := HS.out wq hq; go_simp; try with_reducible rfl
    simp only [Act.put, Pa, Pb, Pc]
    refine Tm 8 ?p8p ?v8p hHeld ?r8p
    simp only [Act.put, Pa, Pb, Pc]
    refine Rd 9 ?p9p ?s9p
    intro K hK
    go_simp
    obtain ⟨w9, hw9⟩ : ∃ w9, wdp.alloc (.cells #[.int .i64 a] 3) = w9 := ⟨_, rfl⟩
    have hb9 : Below w.heap.size w w9 := by rw [← hw9]; exact hHeld.alloc hHeld.size _
    have hr9 : w9.heap[wdp.heap.size]? = some (.cells #[.int .i64 a] 3 (0, 0)) := by rw [← hw9]; exact heap_alloc_last wdp _
    obtain ⟨n9, hn9⟩ : ∃ n9, wdp.heap.size = n9 := ⟨_, rfl⟩
    rw [hw9, hn9]
    rw [hn9] at hr9
    clear hw9 hn9
    refine hK.out _ _ hb9 (fun hHeld => ?_)
    clear hK K
    refine Rd 10 ?p10p_9 ?s10p_9
    intro K hK
    go_simp
    obtain ⟨w10, hw10⟩ : ∃ w10, w9.alloc (.cells #[.slice al s.l.length cl, .slice az s.sp.length cz, .slice (some ⟨n9, 0, none⟩) 1 1] 22) = w10 := ⟨_, rfl⟩
    have hb10' : Below w9.heap.size w9 w10 := by rw [← hw10]; exact bel1 w9 _
    have hb10 : Below w.heap.size w w10 := bel_up hb9 hb10' (Nat.le_refl _)
    have hr10 : w10.heap[w9.heap.size]? = some (.cells #[.slice al s.l.length cl, .slice az s.sp.length cz, .slice (some ⟨n9, 0, none⟩) 1 1] 22 (0, 0)) := by rw [← hw10]; exact heap_alloc_last w9 _
    have hap := HAP.out w10 _ n9 hb10 hr10 (bel_row hr9 hb10')
    obtain ⟨n10, hn10⟩ : ∃ n10, w9.heap.size = n10 := ⟨_, rfl⟩
    rw [hw10, hn10]
    rw [hn10] at hap
    clear hw10 hn10 hr10 hr9 hb9 hb10'
    refine hK.out _ _ hb10 (fun hHeld => ?_)
    clear hK K
    refine Rd 11 ?p11p_9_10 ?s11p_9_10
    intro K hK
    go_simp
    refine hap.mono ?_
    rintro e w11 ⟨rfl, hb11⟩
    have hb11' : Below w.heap.size w w11 := bel_up hb10 hb11 (Nat.le_refl _)
    clear hap hb10 hb11
    refine hK.out _ _ hb11' (fun hHeld => ?_)
    clear hK K
    refine Tm 12 ?p12p_9_10_11 ?v12p_9_10_11 hHeld ?r12p_9_10_11
    simp only [Act.put, Pa, Pb, Pc]
    refine Tm 13 ?p13p_9_10_11 ?v13p_9_10_11 hHeld ?r13p_9_10_11
    simp only [Act.put, Pa, Pb, Pc]
    refine Ts 14 ?p14p_9_10_11 hHeld ?r14p_9_10_11
    simp only [Act.put, Pa, Pb, Pc]
    refine Ts 15 ?p15p_9_10_11 hHeld ?r15p_9_10_11
    simp only [Act.put, Pa, Pb, Pc]
    refine Ts 16 ?p16p_9_10_11 hHeld ?r16p_9_10_11
    simp only [Act.put, Pa, Pb, Pc]
    refine Ts 17 ?p17p_9_10_11 hHeld ?r17p_9_10_11
    simp only [Act.put, Pa, Pb, Pc]
    refine Ts 18 ?p18p_9_10_11 hHeld ?r18p_9_10_11
    simp only [Act.put, Pa, Pb, Pc]
    refine Ts 19 ?p19p_9_10_11 hHeld ?r19p_9_10_11
    simp only [Act.put, Pa, Pb, Pc]
    refine Tm 20 ?p20p_9_10_11 ?v20p_9_10_11 hHeld ?r20p_9_10_11
    simp only [Act.put, Pa, Pb, Pc]
    refine Tm 21 ?p21p_9_10_11 ?v21p_9_10_11 hHeld ?r21p_9_10_11
    simp only [Act.put, Pa, Pb, Pc]
    refine wpAnyH_done (by kernel_rfl) ?_ _
    have HB := Hid_of hb11'
    clear hb11'
    go_wp2
    go_ret
    exact HQ.out _ HB.out
  · have HQ := Hid_of (HNO.out (by rw [k4]; decide))
    rw [k4] at HQ ⊢
    rw [decide_eq_true k1] at hid
    rw [k2] at HAP
    have d1 : (a == s.gone) = true := beq_iff_eq.2 k3
    clear HNO HYES k4 k3 hgr
    go_enter Try.func23, Try.ntmps23
    go_wp2_with fail
    refine hid.mono ?_
    rintro e w1 ⟨rfl, hw⟩
    subst w1
    clear hid
    go_wp2_with fail
    refine wp_region_held_drew (S := fun wq => Below (w).heap.size (w) wq) (by kernel_rfl) (Below.drew (Below.refl _ _)) (fun hHeld => ?_)
    obtain ⟨wdq, hwdq⟩ : ∃ wd, w.drew = wd := ⟨_, rfl⟩
    have hBwd : Below w.heap.size w wdq := by rw [← hwdq]; exact Below.drew (Below.refl _ _)
    rw [hwdq] at hHeld ⊢
    clear hwdq
    refine Tm 0 ?p0q ?v0q hHeld ?r0q
    simp only [Act.put, Pa, Pb, Pc]
    refine Tm 1 ?p1q ?v1q hHeld ?r1q
    simp only [Act.put, Pa, Pb, Pc]
    refine Tm 2 ?p2q ?v2q hHeld ?r2q
    simp only [Act.put, Pa, Pb, Pc]
    refine Tk 3 ?p3q ?v3q ?y3q hHeld ?r3q
    case y3q => intro wq hq; obtain ⟨z0, z1, z2, z3, z4, z5⟩ := HS.out wq hq; go_simp; try with_reducible rfl
    simp only [Act.put, Pa, Pb, Pc]
    refine Tm 4 ?p4q ?v4q hHeld ?r4q
    simp only [Act.put, Pa, Pb, Pc]
    refine Tm 5 ?p5q ?v5q hHeld ?r5q
    simp only [Act.put, Pa, Pb, Pc]
    refine Tm 6 ?p6q ?v6q hHeld ?r6q
    simp only [Act.put, Pa, Pb, Pc]
    refine Tk 7 ?p7q ?v7q ?y7q hHeld ?r7q
    case y7q => intro wq hq; obtain ⟨z0, z1, z2, z3, z4, z5⟩ := HS.out wq hq; go_simp; try with_reducible rfl
    simp only [Act.put, Pa, Pb, Pc]
    refine Tm 8 ?p8q ?v8q hHeld ?r8q
    simp only [Act.put, Pa, Pb, Pc]
    refine Rd 9 ?p9q ?s9q
    intro K hK
    go_simp
    obtain ⟨w9, hw9⟩ : ∃ w9, wdq.alloc (.cells #[.int .i64 a] 3) = w9 := ⟨_, rfl⟩
    have hb9 : Below w.heap.size w w9 := by rw [← hw9]; exact hHeld.alloc hHeld.size _
    have hr9 : w9.heap[wdq.heap.size]? = some (.cells #[.int .i64 a] 3 (0, 0)) := by rw [← hw9]; exact heap_alloc_last wdq _
    obtain ⟨n9, hn9⟩ : ∃ n9, wdq.heap.size = n9 := ⟨_, rfl⟩
    rw [hw9, hn9]
    rw [hn9] at hr9
    clear hw9 hn9
    refine hK.out _ _ hb9 (fun hHeld => ?_)
    clear hK K
    refine Rd 10 ?p10q_9 ?s10q_9
    intro K hK
    go_simp
    obtain ⟨w10, hw10⟩ : ∃ w10, w9.alloc (.cells #[.slice al s.l.length cl, .slice az s.sp.length cz, .slice (some ⟨n9, 0, none⟩) 1 1] 22) = w10 := ⟨_, rfl⟩
    have hb10' : Below w9.heap.size w9 w10 := by rw [← hw10]; exact bel1 w9 _
    have hb10 : Below w.heap.size w w10 := bel_up hb9 hb10' (Nat.le_refl _)
    have hr10 : w10.heap[w9.heap.size]? = some (.cells #[.slice al s.l.length cl, .slice az s.sp.length cz, .slice (some ⟨n9, 0, none⟩) 1 1] 22 (0, 0)) := by rw [← hw10]; exact heap_alloc_last w9 _
    have hap := HAP.out w10 _ n9 hb10 hr10 (bel_row hr9 hb10')
    obtain ⟨n10, hn10⟩ : ∃ n10, w9.heap.size = n10 := ⟨_, rfl⟩
    rw [hw10, hn10]
    rw [hn10] at hap
    clear hw10 hn10 hr10 hr9 hb9 hb10'
    refine hK.out _ _ hb10 (fun hHeld => ?_)
    clear hK K
    refine Rd 11 ?p11q_9_10 ?s11q_9_10
    intro K hK
    go_simp
    refine hap.mono ?_
    rintro e w11 ⟨rfl, hb11⟩
    have hb11' : Below w.heap.size w w11 := bel_up hb10 hb11 (Nat.le_refl _)
    clear hap hb10 hb11
    refine hK.out _ _ hb11' (fun hHeld => ?_)
    clear hK K
    refine Tm 12 ?p12q_9_10_11 ?v12q_9_10_11 hHeld ?r12q_9_10_11
    simp only [Act.put, Pa, Pb, Pc]
    refine Tm 13 ?p13q_9_10_11 ?v13q_9_10_11 hHeld ?r13q_9_10_11
    simp only [Act.put, Pa, Pb, Pc]
    refine Tm 14 ?p14q_9_10_11 ?v14q_9_10_11 hHeld ?r14q_9_10_11
    simp only [Act.put, Pa, Pb, Pc]
    refine Tm 15 ?p15q_9_10_11 ?v15q_9_10_11 hHeld ?r15q_9_10_11
    simp only [Act.put, Pa, Pb, Pc]
    refine Tm 16 ?p16q_9_10_11 ?v16q_9_10_11 hHeld ?r16q_9_10_11
    simp only [Act.put, Pa, Pb, Pc]
    refine Tm 17 ?p17q_9_10_11 ?v17q_9_10_11 hHeld ?r17q_9_10_11
    simp only [Act.put, Pa, Pb, Pc]
    refine Tk 18 ?p18q_9_10_11 ?v18q_9_10_11 ?y18q_9_10_11 hHeld ?r18q_9_10_11
    case y18q_9_10_11 => intro wq hq; obtain ⟨z0, z1, z2, z3, z4, z5⟩ := HS.out wq hq; go_simp; try with_reducible rfl
    simp only [Act.put, Pa, Pb, Pc]
    refine Tm 19 ?p19q_9_10_11 ?v19q_9_10_11 hHeld ?r19q_9_10_11
    simp only [Act.put, Pa, Pb, Pc]
    refine Tm 20 ?p20q_9_10_11 ?v20q_9_10_11 hHeld ?r20q_9_10_11
    simp only [Act.put, Pa, Pb, Pc]
    refine Tm 21 ?p21q_9_10_11 ?v21q_9_10_11 hHeld ?r21q_9_10_11
    simp only [Act.put, Pa, Pb, Pc]
    refine wpAnyH_done (by kernel_rfl) ?_ _
    have HB := Hid_of hb11'
    clear hb11'
    go_wp2
    go_ret
    exact HQ.out _ HB.out
  · have HQ := Hid_of (HYES.out k4)
    rw [k4]
    rw [decide_eq_true k1] at hid
    rw [k2] at HAP
    have d1 : (a == s.gone) = false := beq_false_of_ne k3
    clear HNO HYES k4 hgr
    go_enter Try.func23, Try.ntmps23
    go_wp2_with fail
    refine hid.mono ?_
    rintro e w1 ⟨rfl, hw⟩
    subst w1
    clear hid
    go_wp2_with fail
    refine wp_region_held_drew (S := fun wq => Below (w).heap.size (w) wq) (by kernel_rfl) (Below.drew (Below.refl _ _)) (fun hHeld => ?_)
    obtain ⟨wdr, hwdr⟩ : ∃ wd, w.drew = wd := ⟨_, rfl⟩
    have hBwd : Below w.heap.size w wdr := by rw [← hwdr]; exact Below.drew (Below.refl _ _)
    rw [hwdr] at hHeld ⊢
    clear hwdr
    refine Tm 0 ?p0r ?v0r hHeld ?r0r
    simp only [Act.put, Pa, Pb, Pc]
    refine Tm 1 ?p1r ?v1r hHeld ?r1r
    simp only [Act.put, Pa, Pb, Pc]
    refine Tm 2 ?p2r ?v2r hHeld ?r2r
    simp only [Act.put, Pa, Pb, Pc]
    refine Tk 3 ?p3r ?v3r ?y3r hHeld ?r3r
    case y3r => intro wq hq; obtain ⟨z0, z1, z2, z3, z4, z5⟩ := HS.out wq hq; go_simp; try with_reducible rfl
    simp only [Act.put, Pa, Pb, Pc]
    refine Tm 4 ?p4r ?v4r hHeld ?r4r
    simp only [Act.put, Pa, Pb, Pc]
    refine Tm 5 ?p5r ?v5r hHeld ?r5r
    simp only [Act.put, Pa, Pb, Pc]
    refine Tm 6 ?p6r ?v6r hHeld ?r6r
    simp only [Act.put, Pa, Pb, Pc]
    refine Tk 7 ?p7r ?v7r ?y7r hHeld ?r7r
    case y7r => intro wq hq; obtain ⟨z0, z1, z2, z3, z4, z5⟩ := HS.out wq hq; go_simp; try with_reducible rfl
    simp only [Act.put, Pa, Pb, Pc]
    refine Tm 8 ?p8r ?v8r hHeld ?r8r
    simp only [Act.put, Pa, Pb, Pc]
    refine Rd 9 ?p9r ?s9r
    intro K hK
    go_simp
    obtain ⟨w9, hw9⟩ : ∃ w9, wdr.alloc (.cells #[.int .i64 a] 3) = w9 := ⟨_, rfl⟩
    have hb9 : Below w.heap.size w w9 := by rw [← hw9]; exact hHeld.alloc hHeld.size _
    have hr9 : w9.heap[wdr.heap.size]? = some (.cells #[.int .i64 a] 3 (0, 0)) := by rw [← hw9]; exact heap_alloc_last wdr _
    obtain ⟨n9, hn9⟩ : ∃ n9, wdr.heap.size = n9 := ⟨_, rfl⟩
    rw [hw9, hn9]
    rw [hn9] at hr9
    clear hw9 hn9
    refine hK.out _ _ hb9 (fun hHeld => ?_)
    clear hK K
    refine Rd 10 ?p10r_9 ?s10r_9
    intro K hK
    go_simp
    obtain ⟨w10, hw10⟩ : ∃ w10, w9.alloc (.cells #[.slice al s.l.length cl, .slice az s.sp.length cz, .slice (some ⟨n9, 0, none⟩) 1 1] 22) = w10 := ⟨_, rfl⟩
    have hb10' : Below w9.heap.size w9 w10 := by rw [← hw10]; exact bel1 w9 _
    have hb10 : Below w.heap.size w w10 := bel_up hb9 hb10' (Nat.le_refl _)
    have hr10 : w10.heap[w9.heap.size]? = some (.cells #[.slice al s.l.length cl, .slice az s.sp.length cz, .slice (some ⟨n9, 0, none⟩) 1 1] 22 (0, 0)) := by rw [← hw10]; exact heap_alloc_last w9 _
    have hap := HAP.out w10 _ n9 hb10 hr10 (bel_row hr9 hb10')
    obtain ⟨n10, hn10⟩ : ∃ n10, w9.heap.size = n10 := ⟨_, rfl⟩
    rw [hw10, hn10]
    rw [hn10] at hap
    clear hw10 hn10 hr10 hr9 hb9 hb10'
    refine hK.out _ _ hb10 (fun hHeld => ?_)
    clear hK K
    refine Rd 11 ?p11r_9_10 ?s11r_9_10
    intro K hK
    go_simp
    refine hap.mono ?_
    rintro e w11 ⟨rfl, hb11⟩
    have hb11' : Below w.heap.size w w11 := bel_up hb10 hb11 (Nat.le_refl _)
    clear hap hb10 hb11
    refine hK.out _ _ hb11' (fun hHeld => ?_)
    clear hK K
    refine Tm 12 ?p12r_9_10_11 ?v12r_9_10_11 hHeld ?r12r_9_10_11
    simp only [Act.put, Pa, Pb, Pc]
    refine Tm 13 ?p13r_9_10_11 ?v13r_9_10_11 hHeld ?r13r_9_10_11
    simp only [Act.put, Pa, Pb, Pc]
    refine Tm 14 ?p14r_9_10_11 ?v14r_9_10_11 hHeld ?r14r_9_10_11
    simp only [Act.put, Pa, Pb, Pc]
    refine Tm 15 ?p15r_9_10_11 ?v15r_9_10_11 hHeld ?r15r_9_10_11
    simp only [Act.put, Pa, Pb, Pc]
    refine Tm 16 ?p16r_9_10_11 ?v16r_9_10_11 hHeld ?r16r_9_10_11
    simp only [Act.put, Pa, Pb, Pc]
    refine Tm 17 ?p17r_9_10_11 ?v17r_9_10_11 hHeld ?r17r_9_10_11
    simp only [Act.put, Pa, Pb, Pc]
    refine Tk 18 ?p18r_9_10_11 ?v18r_9_10_11 ?y18r_9_10_11 hHeld ?r18r_9_10_11
    case y18r_9_10_11 => intro wq hq; obtain ⟨z0, z1, z2, z3, z4, z5⟩ := HS.out wq hq; go_simp; try with_reducible rfl
    simp only [Act.put, Pa, Pb, Pc]
    refine Tm 19 ?p19r_9_10_11 ?v19r_9_10_11 hHeld ?r19r_9_10_11
    simp only [Act.put, Pa, Pb, Pc]
    refine Tm 20 ?p20r_9_10_11 ?v20r_9_10_11 hHeld ?r20r_9_10_11
    simp only [Act.put, Pa, Pb, Pc]
    refine Tm 21 ?p21r_9_10_11 ?v21r_9_10_11 hHeld ?r21r_9_10_11
    simp only [Act.put, Pa, Pb, Pc]
    refine wpAnyH_done (by kernel_rfl) ?_ _
    obtain ⟨a', c', w12, hr, ⟨e5, f5⟩, hd⟩ := HQ.out _ hb11'
    have HR := Hid_of hr
    have HD := Hid_of hd
    obtain ⟨_, _, _, _, _, z5⟩ := HS.out _ hb11'
    clear hb11' hr hd HS HAP HQ
    go_wp2_with (at_builtin; refine wpList_append_known rfl _ _ 22 rfl _ _ rfl rfl _ _ (HR.out _) ?_)
    go_ret
    exact HD.out
end
end Go.Proofs.Ytacfndfkoiifhaa
