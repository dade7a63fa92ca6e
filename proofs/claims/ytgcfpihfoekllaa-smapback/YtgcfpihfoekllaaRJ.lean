/- A stripe added. -/
import Derived.Test.YtgcfpihfoekllaaRG

namespace Go.Proofs.Ytgcfpihfoekllaa

open Go.RowKit

set_option linter.unusedVariables false

open Sm (S)

section
variable {w w' : World} {base b : Nat} {v : Value} {es : List E} {n : Int} {F : Nat → Prop} {m : List S}
theorem add_end {W2 wx w3 : World} (h : MI w base b v es n) (hbs : base ≤ w.heap.size) (h2 : Below w.heap.size w W2) {g c : Nat} {s : S} (hg : w.heap.size ≤ g) (hsv : OwnL il 3 W2 base (.slice (some ⟨g, 0, none⟩) s.l.length c) s.l) (hx : Below W2.heap.size W2 wx) {v' : Value} (ho : OwnL stl 34 w3 base v' (es ++ [⟨es.length, s, some ⟨g, 0, none⟩, c⟩])) (hr : Rw wx v w3 v') :
    w3.heap[b]? = some (mrow v n) ∧ MI (w3.setCell ⟨b, 0, none⟩ v') base b v' (es ++ [⟨es.length, s, some ⟨g, 0, none⟩, c⟩]) n ∧ Fr w (fpm b v es) (w3.setCell ⟨b, 0, none⟩ v') (fpm b v' (es ++ [⟨es.length, s, some ⟨g, 0, none⟩, c⟩])) := by
  have hb1 : Below w.heap.size w wx := bel_up h2 hx (Nat.le_refl _)
  have h1 := h.keep hb1
  have hg2 : g < W2.heap.size := (hsv.lt rfl).2
  have hrow : w3.heap[b]? = some (mrow v n) := (hr.g.block b h1.lt (fun e => h.nb e.symm)).trans h1.row
  have hn : ∀ k, v'.ownBlock = some k → v.ownBlock = some k ∨ W2.heap.size ≤ k := fun k hk => by
    rcases hr.n k hk with e | e
    · exact .inl e
    · exact .inr (Nat.le_trans hx.size e)
  have hvl : ∀ k, v.ownBlock = some k → k < w.heap.size := fun k hk => (h.own.lt hk).2
  have nb : v'.ownBlock ≠ some b := fun e => by
    rcases hn b e with e | e
    · exact h.nb e
    · have := h.lt; have := h2.size; omega
  have hnew : ∀ x ∈ es, ∀ k, v'.ownBlock = some k → ¬ blk x.a k := fun x hx' k hk hb => by
    rcases hn k hk with e | e
    · exact (h.ne x hx').2 k e hb
    · have := ((h.sv x hx').lt hb).2; have := h2.size; omega
  have hbg : ∀ k, blk (some (⟨g, 0, none⟩ : Addr)) k → k = g := fun k hk => by
    obtain ⟨o, q, e⟩ := hk
    simp only [Option.some.injEq, Addr.mk.injEq] at e
    exact e.1.symm
  have hng : ∀ k, v'.ownBlock = some k → ¬ blk (some (⟨g, 0, none⟩ : Addr)) k := fun k hk hb => by
    have := hbg k hb
    subst this
    rcases hn k hk with e | e
    · have := hvl k e; omega
    · omega
  have hset : ∀ k, k ≠ b → (w3.setCell ⟨b, 0, none⟩ v').heap[k]? = w3.heap[k]? := fun k hk => heap_setCell_other w3 ⟨b, 0, none⟩ k v' (fun e => hk (by have e : k = b := e; exact e))
  have hold : ∀ x ∈ es, ∀ k, blk x.a k → (w3.setCell ⟨b, 0, none⟩ v').heap[k]? = wx.heap[k]? := fun x hx' k hk => by
    have hk2 := ((h1.sv x hx').lt hk).2
    rw [hset k (fun e => (h.ne x hx').1 (e ▸ hk))]
    exact hr.g.block k hk2 (fun e => (h.ne x hx').2 k e.symm hk)
  refine ⟨hrow, ⟨heap_setCell_same w3 b 0 _ _ v' hrow, ho.keepBut fun k _ e => hset k (fun e' => nb (e' ▸ e)), fun x hx' => ?_, ?_, nb, fun x hx' => ?_, h.lo, fun j hj => ?_⟩, ?_⟩
  · rcases List.mem_append.1 hx' with hx' | hx'
    · exact (h1.sv x hx').keepBut fun k _ hk => hold x hx' k hk
    · simp only [List.mem_singleton] at hx'
      subst hx'
      refine ⟨⟨g, rfl⟩, (hsv.keep hx).keepBut fun k hk hown => ?_⟩
      have hkg : k = g := by
        have hown : some g = some k := hown
        simpa using hown.symm
      subst hkg
      rw [hset k (fun e => by have := h.lt; omega)]
      exact hr.g.block k hk (fun e => by have := hvl k e.symm; omega)
  · unfold as'
    rw [List.map_append]
    refine List.nodup_append.2 ⟨h.nd, by simp, fun a ha c hc => ?_⟩
    simp only [List.map_cons, List.map_nil, List.mem_singleton] at hc
    subst hc
    obtain ⟨x, hx', rfl⟩ := List.mem_map.1 ha
    intro e
    have hk : blk x.a g := ⟨0, none, e⟩
    have := ((h.sv x hx').lt hk).2
    omega
  · rcases List.mem_append.1 hx' with hx' | hx'
    · exact ⟨(h.ne x hx').1, fun k hk => hnew x hx' k hk⟩
    · simp only [List.mem_singleton] at hx'
      subst hx'
      exact ⟨fun hk => by have := hbg b hk; have := h.lt; omega, hng⟩
  · rw [List.getElem_append]
    split
    · exact h.id j _
    · rw [List.length_append, List.length_singleton] at hj
      have : j = es.length := by omega
      subst this
      simp
  · refine fr_set ?_ (.inl rfl) 0 v'
    refine ⟨hr.g.os.trans hb1.os, hr.g.tape.trans hb1.tape, hr.g.output.trans hb1.output, Nat.le_trans hb1.size hr.g.size, fun k hk hF => ?_, ?_⟩
    · rw [hr.g.block k (Nat.lt_of_lt_of_le hk hb1.size) (fun e => hF (.inr (.inl e.symm)))]
      exact hb1.block k hk
    · rintro k (hk | hk | ⟨a, ha, hk⟩)
      · exact .inl (.inl hk)
      · rcases hn k hk with e | e
        · exact .inl (.inr (.inl e))
        · exact .inr (Nat.le_trans h2.size e)
      · unfold as' at ha
        rw [List.map_append] at ha
        rcases List.mem_append.1 ha with ha | ha
        · exact .inl (.inr (.inr ⟨a, ha, hk⟩))
        · simp only [List.map_cons, List.map_nil, List.mem_singleton] at ha
          subst ha
          have := hbg k hk
          exact .inr (by omega)
theorem row_cells {W : World} {B : Nat} {y : E} (h : W.heap[B]? = some (eO y)) : EAt W B 0 y ∧ ∀ j, W.frozen? ⟨B, j, none⟩ = false := by
  obtain ⟨⟨c0, c1, c2, c3, c4, c5⟩, hf⟩ := row6 h
  exact ⟨⟨c0, c1, c2, c3, c4, c5⟩, hf⟩
set_option maxRecDepth 100000 in
set_option maxHeartbeats 2000000 in
theorem add_any (h : MI w base b v es n) (hbs : base ≤ w.heap.size) (hn : es.length < 4096) (hn2 : 0 ≤ n ∧ n ≤ 256) (x : E) (hl : 2 ≤ x.s.l.length ∧ x.s.l.length ≤ 8) (ha : AtL il w x.a x.s.l) : Calls Try.prog 63 #[.pointer (some ⟨b, 0, none⟩), eV x] w fun e w' => e = .returned (.int .i64 es.length) ∧ ∃ v' g c, MI w' base b v' (es ++ [⟨es.length, x.s, some ⟨g, 0, none⟩, c⟩]) (n + if x.s.st = 3 then 0 else 1) ∧ Fr w (fpm b v es) w' (fpm b v' (es ++ [⟨es.length, x.s, some ⟨g, 0, none⟩, c⟩])) := by
  have HM := Hid_of h
  have hb1 := bel1 w (eO x)
  obtain ⟨av, cv, rfl, hxl⟩ := h.len
  obtain ⟨m0, m1, mf0, mf1⟩ := (h.keep hb1).cells
  obtain ⟨_, xf⟩ := row_cells (heap_alloc_last w (eO x))
  have HA := Hid_of ha
  obtain ⟨_, xf⟩ := row_cells (heap_alloc_last w (eO x))
  obtain ⟨W1, HW1⟩ : ∃ W1, Hid (w.alloc (eO { x with id := es.length }) = W1) := ⟨_, rfl⟩
  have hbW : Below w.heap.size w W1 := by rw [← HW1.out]; exact bel1 w _
  have hBl : w.heap.size < W1.heap.size := by rw [← HW1.out]; simp
  have HX1 : Hid (W1.heap[w.heap.size]? = some (eO { x with id := es.length })) := Hid_of (by rw [← HW1.out]; exact heap_alloc_last w _)
  have hcl := cloned_any x.a x.c x.s.l W1 (by omega) (by omega) (HA.out.keep hbW)
  obtain ⟨B, HBB⟩ : ∃ B, Hid (w.heap.size = B) := ⟨_, rfl⟩
  rw [HBB.out] at xf HX1
  have HBW := Hid_of hbW
  have HBL := Hid_of hBl
  clear h ha hxl hbW hBl
  go_enter Try.func63, Try.ntmps63
  go_wp2_with fail
  rw [HW1.out]
  clear HW1 xf m0 mf0 m1 mf1 hb1
  refine hcl.mono ?_
  rintro e w2 ⟨g, c, rfl, ho, hb2⟩
  rw [HBB.out]
  obtain ⟨W2, HW2⟩ : ∃ W2, Hid (w2.setCell ⟨B, 5, none⟩ (.slice (some ⟨g, 0, none⟩) x.s.l.length c) = W2) := ⟨_, rfl⟩
  have hg2 : W1.heap.size ≤ g ∧ g < w2.heap.size := ho.lt rfl
  have hgB : g ≠ B := fun e => by have := HBL.out; have := HBB.out; omega
  have hr2 := bel_row HX1.out hb2
  have hbel2 : Below w.heap.size w W2 := by
    rw [← HW2.out]
    refine Below.setCell (bel_up HBW.out hb2 (Nat.le_refl _)) ?_ _
    have := HBB.out
    show w.heap.size ≤ B
    omega
  have HX2 : Hid (W2.heap[B]? = some (.cells #[.int .i64 es.length, .int .i64 x.s.st, .int .i64 x.s.ow, .int .i64 x.s.ep, .int .i64 x.s.ln, .slice (some ⟨g, 0, none⟩) x.s.l.length c] 34 (0, 0))) := Hid_of (by rw [← HW2.out]; exact heap_setCell_same w2 B 5 _ _ _ hr2)
  have HO2 : Hid (OwnL il 3 W2 base (.slice (some ⟨g, 0, none⟩) x.s.l.length c) x.s.l) := Hid_of (by
    rw [← HW2.out]
    refine (ho.low (by have := HBL.out; omega)).keepBut fun k _ hown => heap_setCell_other w2 ⟨B, 5, none⟩ k _ (fun e => hgB ?_)
    have hown : some g = some k := hown
    have e : k = B := e
    simp only [Option.some.injEq] at hown
    rw [hown, e])
  have HV : Hid (∀ W, Below W2.heap.size W2 W → W.cell? ⟨b, 0, none⟩ = some (.slice av es.length cv)) := Hid_of fun W hW => ((HM.out.keep hbel2).keep hW).cells.1
  have HRW : Hid (∀ W : World, W.heap[B]? = some (.cells #[.int .i64 es.length, .int .i64 x.s.st, .int .i64 x.s.ow, .int .i64 x.s.ep, .int .i64 x.s.ln, .slice (some ⟨g, 0, none⟩) x.s.l.length c] 34 (0, 0)) → W.cell? ⟨B, 0, none⟩ = some (.int .i64 es.length) ∧ W.cell? ⟨B, 0 + 1, none⟩ = some (.int .i64 x.s.st) ∧ W.cell? ⟨B, 0 + 2, none⟩ = some (.int .i64 x.s.ow) ∧ W.cell? ⟨B, 0 + 3, none⟩ = some (.int .i64 x.s.ep) ∧ W.cell? ⟨B, 0 + 4, none⟩ = some (.int .i64 x.s.ln) ∧ W.cell? ⟨B, 0 + 5, none⟩ = some (.slice (some ⟨g, 0, none⟩) x.s.l.length c)) := Hid_of fun W hW => (row_cells (y := ⟨es.length, x.s, some ⟨g, 0, none⟩, c⟩) hW).1
  have HAP : Hid (∀ (w6 : World) (n6 : Nat), Below W2.heap.size W2 w6 → w6.heap[n6]? = some (.cells #[.int .i64 es.length, .int .i64 x.s.st, .int .i64 x.s.ow, .int .i64 x.s.ep, .int .i64 x.s.ln, .slice (some ⟨g, 0, none⟩) x.s.l.length c] 34 (0, 0)) → ∃ a7 c7 w7, Hid (∀ ty, (Builtin.append_ #[27, 27] ty #[.slice av es.length cv, .slice (some ⟨n6, 0, none⟩) 1 1]).run Try.prog w6 = .ok (.slice a7 (es.length + 1) c7) w7) ∧ w7.heap[B]? = some (.cells #[.int .i64 es.length, .int .i64 x.s.st, .int .i64 x.s.ow, .int .i64 x.s.ep, .int .i64 x.s.ln, .slice (some ⟨g, 0, none⟩) x.s.l.length c] 34 (0, 0)) ∧ (w7.cell? ⟨b, 0, none⟩ = some (.slice av es.length cv) ∧ w7.frozen? ⟨b, 0, none⟩ = false) ∧ Hid ((w7.setCell ⟨b, 0, none⟩ (.slice a7 (es.length + 1) c7)).heap[B]? = some (.cells #[.int .i64 es.length, .int .i64 x.s.st, .int .i64 x.s.ow, .int .i64 x.s.ep, .int .i64 x.s.ln, .slice (some ⟨g, 0, none⟩) x.s.l.length c] 34 (0, 0)) ∧ MI (w7.setCell ⟨b, 0, none⟩ (.slice a7 (es.length + 1) c7)) base b (.slice a7 (es.length + 1) c7) (es ++ [⟨es.length, x.s, some ⟨g, 0, none⟩, c⟩]) n ∧ Fr w (fpm b (.slice av es.length cv) es) (w7.setCell ⟨b, 0, none⟩ (.slice a7 (es.length + 1) c7)) (fpm b (.slice a7 (es.length + 1) c7) (es ++ [⟨es.length, x.s, some ⟨g, 0, none⟩, c⟩])))) := by
    refine Hid_of fun w6 n6 hW hr => ?_
    have h6 := (HM.out.keep hbel2).keep hW
    obtain ⟨a7, c7, w7, q1, q2, q3⟩ := run_appL_ty tiE w6 base (.slice av es.length cv) es [⟨es.length, x.s, some ⟨g, 0, none⟩, c⟩] n6 0 1 1 h6.own (atL_one hr) rfl (Nat.le_trans hbs (bel_up hbel2 hW (Nat.le_refl _)).size) (by simp; omega)
    obtain ⟨r1, r2, r3⟩ := add_end HM.out hbs hbel2 (s := x.s) (by have := HBL.out; omega) HO2.out hW q2 q3
    have hBlt : ∀ k, (Value.slice av es.length cv).ownBlock = some k → k < B := fun k hk => by have := (HM.out.own.lt hk).2; have := HBB.out; omega
    have hB7 : w7.heap[B]? = some (.cells #[.int .i64 es.length, .int .i64 x.s.st, .int .i64 x.s.ow, .int .i64 x.s.ep, .int .i64 x.s.ln, .slice (some ⟨g, 0, none⟩) x.s.l.length c] 34 (0, 0)) := (q3.g.block B (Array.getElem?_eq_some_iff.1 (bel_row HX2.out hW)).1 (fun e => by have := hBlt B e.symm; omega)).trans (bel_row HX2.out hW)
    obtain ⟨e0, _, f0, _⟩ := row2 r1
    refine ⟨a7, c7, w7, q1, hB7, ⟨e0, f0⟩, ?_, r2, r3⟩
    rw [heap_setCell_other w7 ⟨b, 0, none⟩ B _ (fun e => by have := HM.out.lt; have := HBB.out; have e : B = b := e; omega)]
    exact hB7
  obtain ⟨⟨k0, k1, k2, k3, k4, k5⟩, kf⟩ := row_cells hr2
  clear hcl ho hg2 hgB hr2 HX1 HO2 HBL hb2
  go_upto_region 3 with fail
  rw [HW2.out]
  clear HW2 k0 k1 k2 k3 k4 k5 kf HBW hbel2
  refine wp_region_held_drew (S := fun wq => wq.heap[B]? = some (.cells #[.int .i64 es.length, .int .i64 x.s.st, .int .i64 x.s.ow, .int .i64 x.s.ep, .int .i64 x.s.ln, .slice (some ⟨g, 0, none⟩) x.s.l.length c] 34 (0, 0))) (by kernel_rfl) HX2.out (fun hHeld => ?_)
  obtain ⟨wdr, hwdr⟩ : ∃ wd, W2.drew = wd := ⟨_, rfl⟩
  have hBwd : Below W2.heap.size W2 wdr := by rw [← hwdr]; exact Below.drew (Below.refl _ _)
  rw [hwdr] at hHeld ⊢
  clear hwdr
  have hBd := hBwd
  refine Tm 0 ?p0r ?v0r hHeld ?r0r
  refine Tm 1 ?p1r ?v1r hHeld ?r1r
  refine Tm 2 ?p2r ?v2r hHeld ?r2r
  refine Tm 3 ?p3r ?v3r hHeld ?r3r
  refine Tk 5 ?p5r ?v5r ?y5r hHeld ?r5r
  case y5r => intro wq hq; obtain ⟨z0, z1, z2, z3, z4, z5⟩ := HRW.out wq hq; go_simp; try with_reducible rfl
  simp only [Act.put, Pa, Pb, Pc]
  refine Rn [4, 6] (Rc ?p4r ?s4r (Rc ?p6r ?s6r AllReadyH.nil))
  case s4r =>
    intro K hK
    have zv := HV.out _ hBd
    go_simp
    refine hK.out _ _ hHeld (fun hHeld => ?_)
    clear hK K
    refine Rd 6 ?p6r_4 ?s6r_4
    intro K hK
    go_simp
    obtain ⟨w6, hw6⟩ : ∃ w6, wdr.alloc (.cells #[.int .i64 es.length, .int .i64 x.s.st, .int .i64 x.s.ow, .int .i64 x.s.ep, .int .i64 x.s.ln, .slice (some ⟨g, 0, none⟩) x.s.l.length c] 34) = w6 := ⟨_, rfl⟩
    have hBc : Below W2.heap.size W2 w6 := by rw [← hw6]; exact hBd.alloc hBd.size _
    have hr6 : w6.heap[wdr.heap.size]? = some (.cells #[.int .i64 es.length, .int .i64 x.s.st, .int .i64 x.s.ow, .int .i64 x.s.ep, .int .i64 x.s.ln, .slice (some ⟨g, 0, none⟩) x.s.l.length c] 34 (0, 0)) := by rw [← hw6]; exact heap_alloc_last wdr _
    have hS6 := bel_row HX2.out hBc
    obtain ⟨n6, hn6⟩ : ∃ n6, wdr.heap.size = n6 := ⟨_, rfl⟩
    rw [hw6, hn6]
    rw [hn6] at hr6
    clear hw6 hn6
    refine hK.out _ _ hS6 (fun hHeld => ?_)
    clear hK K
    refine Rd 7 ?p7r_4_6 ?s7r_4_6
    intro K hK
    obtain ⟨a7, c7, w7, HR7, hS7, hbv, HE7⟩ := HAP.out w6 n6 hBc hr6
    clear hr6 hBc
    refine step_append_known (by rfl) _ _ 27 (by rfl) _ _ (by rfl) (by rfl) _ _ (HR7.out _) ?_
    refine hK.out _ _ hS7 (fun hHeld => ?_)
    clear hK K
    refine Tm 8 ?p8r_4_6_7 ?v8r_4_6_7 hHeld ?r8r_4_6_7
    refine Tm 9 ?p9r_4_6_7 ?v9r_4_6_7 hHeld ?r9r_4_6_7
    simp only [Act.put, Pa, Pb, Pc]
    refine Rd 10 ?p10r_4_6_7 ?s10r_4_6_7
    intro K hK
    go_simp
    obtain ⟨z10a, z10b⟩ := hbv
    go_simp
    obtain ⟨w8, hw8⟩ : ∃ w8, w7.setCell ⟨b, 0, none⟩ (.slice a7 (es.length + 1) c7) = w8 := ⟨_, rfl⟩
    rw [hw8] at HE7 ⊢
    clear hw8
    refine hK.out _ _ HE7.out.1 (fun hHeld => ?_)
    clear hK K
    refine wpAnyH_done (by kernel_rfl) ?_ _
    clear hHeld hS6 hS7 hBd hBwd
    obtain ⟨hB8, hm8, hf8⟩ := HE7.out
    have HE8 := Hid_of (And.intro hm8 hf8)
    obtain ⟨⟨e0, e1, e2, e3, e4, e5⟩, ef⟩ := row_cells (y := ⟨es.length, x.s, some ⟨g, 0, none⟩, c⟩) hB8
    obtain ⟨_, q1, _, qf⟩ := hm8.cells
    have e0' : (w8.setCell ⟨b, 1, none⟩ (.int .i64 (n + 1))).cell? ⟨B, 0, none⟩ = some (.int .i64 es.length) := by
      rw [World.cell?_of_block (heap_setCell_other w8 ⟨b, 1, none⟩ B _ (fun e => by have := HM.out.lt; have := HBB.out; have e : B = b := e; omega))]
      exact e0
    have HN := Hid_of (hm8.setn (n + 1))
    have hw : IntKind.i64.wrap (n + 1) = n + 1 := by rw [IntKind.wrap_i64]; omega
    clear HE7 hB8 hm8 hf8 HAP HV HRW HX2
    by_cases h3 : x.s.st = 3
    · have d1 : (x.s.st != 3) = false := by simpa using h3
      have d2 : (x.s.st == 3) = true := by simpa using h3
      have HQ := Hid_of h3
      clear e0' hw HN h3
      go_wp2
      go_ret
      exact ⟨rfl, _, g, c, HE8.out.1, HE8.out.2⟩
    · have d1 : (x.s.st != 3) = true := by simpa using h3
      have d2 : (x.s.st == 3) = false := by simpa using h3
      have HQ := Hid_of h3
      clear h3
      go_wp2
      go_ret
      exact ⟨rfl, _, g, c, HN.out.1, HE8.out.2.trans HN.out.2⟩
  case s6r =>
    intro K hK
    go_simp
    obtain ⟨w6, hw6⟩ : ∃ w6, wdr.alloc (.cells #[.int .i64 es.length, .int .i64 x.s.st, .int .i64 x.s.ow, .int .i64 x.s.ep, .int .i64 x.s.ln, .slice (some ⟨g, 0, none⟩) x.s.l.length c] 34) = w6 := ⟨_, rfl⟩
    have hBc : Below W2.heap.size W2 w6 := by rw [← hw6]; exact hBd.alloc hBd.size _
    have hr6 : w6.heap[wdr.heap.size]? = some (.cells #[.int .i64 es.length, .int .i64 x.s.st, .int .i64 x.s.ow, .int .i64 x.s.ep, .int .i64 x.s.ln, .slice (some ⟨g, 0, none⟩) x.s.l.length c] 34 (0, 0)) := by rw [← hw6]; exact heap_alloc_last wdr _
    have hS6 := bel_row HX2.out hBc
    obtain ⟨n6, hn6⟩ : ∃ n6, wdr.heap.size = n6 := ⟨_, rfl⟩
    rw [hw6, hn6]
    rw [hn6] at hr6
    clear hw6 hn6
    refine hK.out _ _ hS6 (fun hHeld => ?_)
    clear hK K
    refine Rd 4 ?p4r_6 ?s4r_6
    intro K hK
    have zv := HV.out _ hBc
    go_simp
    refine hK.out _ _ hHeld (fun hHeld => ?_)
    clear hK K
    refine Rd 7 ?p7r_6_4 ?s7r_6_4
    intro K hK
    obtain ⟨a7, c7, w7, HR7, hS7, hbv, HE7⟩ := HAP.out w6 n6 hBc hr6
    clear hr6 hBc
    refine step_append_known (by rfl) _ _ 27 (by rfl) _ _ (by rfl) (by rfl) _ _ (HR7.out _) ?_
    refine hK.out _ _ hS7 (fun hHeld => ?_)
    clear hK K
    refine Tm 8 ?p8r_6_4_7 ?v8r_6_4_7 hHeld ?r8r_6_4_7
    refine Tm 9 ?p9r_6_4_7 ?v9r_6_4_7 hHeld ?r9r_6_4_7
    simp only [Act.put, Pa, Pb, Pc]
    refine Rd 10 ?p10r_6_4_7 ?s10r_6_4_7
    intro K hK
    go_simp
    obtain ⟨z10a, z10b⟩ := hbv
    go_simp
    obtain ⟨w8, hw8⟩ : ∃ w8, w7.setCell ⟨b, 0, none⟩ (.slice a7 (es.length + 1) c7) = w8 := ⟨_, rfl⟩
    rw [hw8] at HE7 ⊢
    clear hw8
    refine hK.out _ _ HE7.out.1 (fun hHeld => ?_)
    clear hK K
    refine wpAnyH_done (by kernel_rfl) ?_ _
    clear hHeld hS6 hS7 hBd hBwd
    obtain ⟨hB8, hm8, hf8⟩ := HE7.out
    have HE8 := Hid_of (And.intro hm8 hf8)
    obtain ⟨⟨e0, e1, e2, e3, e4, e5⟩, ef⟩ := row_cells (y := ⟨es.length, x.s, some ⟨g, 0, none⟩, c⟩) hB8
    obtain ⟨_, q1, _, qf⟩ := hm8.cells
    have e0' : (w8.setCell ⟨b, 1, none⟩ (.int .i64 (n + 1))).cell? ⟨B, 0, none⟩ = some (.int .i64 es.length) := by
      rw [World.cell?_of_block (heap_setCell_other w8 ⟨b, 1, none⟩ B _ (fun e => by have := HM.out.lt; have := HBB.out; have e : B = b := e; omega))]
      exact e0
    have HN := Hid_of (hm8.setn (n + 1))
    have hw : IntKind.i64.wrap (n + 1) = n + 1 := by rw [IntKind.wrap_i64]; omega
    clear HE7 hB8 hm8 hf8 HAP HV HRW HX2
    by_cases h3 : x.s.st = 3
    · have d1 : (x.s.st != 3) = false := by simpa using h3
      have d2 : (x.s.st == 3) = true := by simpa using h3
      have HQ := Hid_of h3
      clear e0' hw HN h3
      go_wp2
      go_ret
      exact ⟨rfl, _, g, c, HE8.out.1, HE8.out.2⟩
    · have d1 : (x.s.st != 3) = true := by simpa using h3
      have d2 : (x.s.st == 3) = false := by simpa using h3
      have HQ := Hid_of h3
      clear h3
      go_wp2
      go_ret
      exact ⟨rfl, _, g, c, HN.out.1, HE8.out.2.trans HN.out.2⟩
end

end Go.Proofs.Ytgcfpihfoekllaa
