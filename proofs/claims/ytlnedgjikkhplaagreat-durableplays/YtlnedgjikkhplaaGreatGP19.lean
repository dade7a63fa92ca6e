import Derived.Test.YtlnedgjikkhplaaGreatGP18
set_option maxRecDepth 100000
set_option maxHeartbeats 8000000
set_option linter.unusedVariables false
set_option linter.unusedSimpArgs false
namespace Go.Proofs.YtlnedgjikkhplaaGreat.Du
open Go.RowKit
open Na (Fr AS XL vl bV vV Hf bel1 bel2 Bu Br row2 row4 blk OwnL AtL)
open Na.M (E V S S0)
open Ns.M (ofL)
open Nc (RS)
open Nc.M (enc encT)
theorem drew_row {w : World} {k : Nat} {o : Obj} (h : w.heap[k]? = some o) : w.drew.heap[k]? = some o := h
structure BO (w0 w : World) (rb : Nat) (l : List UInt8) : Prop where
 rs : RS w rb (some l)
 t6 : w.heap[w0.heap.size]? = some (.cells #[.int .i64 0, .int .i64 0, .int .i64 0, .int .i64 0, .string ⟨#[]⟩, .int .i64 0] 97 (0, 0))
 bel : Below w0.heap.size w0 w
 lt : w0.heap.size < rb
structure BP (w0 w : World) (rb : Nat) (l : List UInt8) (B : Nat) (cs : Array Value) : Prop where
 o : BO w0 w rb l
 t9 : w.heap[B]? = some (.cells cs 97 (0, 0))
 gt : rb < B
section
variable {w0 w w' : World} {n : Int} {rb B : Nat} {l l' : List UInt8} {cs cs' : Array Value}
theorem BO.gr (h : BO w0 w rb l) (hg : w.grownBy w' (some rb)) (hr : RS w' rb (some l')) : BO w0 w' rb l' :=
 ⟨hr, row_gr h.t6 hg (by have := h.lt; omega), h.bel.trans (Nc.below_grown hg h.bel.size (fun k e => by cases e; have := h.lt; omega)), h.lt⟩
theorem BP.gr (h : BP w0 w rb l B cs) (hg : w.grownBy w' (some rb)) (hr : RS w' rb (some l')) : BP w0 w' rb l' B cs :=
 ⟨h.o.gr hg hr, row_gr h.t9 hg (by have := h.gt; omega), h.gt⟩
theorem BO.two (h : BO w0 w rb l) (cs : Array Value) : BP w0 (w.alloc (.cells cs 97)) rb l w.heap.size cs :=
 ⟨⟨Nc.RS.below h.rs (bel1 w _), Br h.t6 (bel1 w _), Bu h.bel (bel1 w _) Lr, h.lt⟩, heap_alloc_last w _, h.rs.lt⟩
theorem BP.set (h : BP w0 w rb l B cs) (j : Nat) (v : Value) (hc : (w.setCell ⟨B, j, none⟩ v).heap[B]? = some (.cells cs' 97 (0, 0))) : BP w0 (w.setCell ⟨B, j, none⟩ v) rb l B cs' := by
 have hgt := h.gt
 have hlt := h.o.lt
 refine ⟨⟨Nc.RS.keep h.o.rs (heap_setCell_other _ ⟨B, j, none⟩ rb _ (by simp; omega)), ?_, h.o.bel.setCell (p := ⟨B, j, none⟩) (by show _ ≤ B; omega) _, hlt⟩, hc, hgt⟩
 rw [heap_setCell_other _ ⟨B, j, none⟩ w0.heap.size _ (by simp; omega)]
 exact h.o.t6
theorem BO.int (h : BO w0 w rb (enc n ++ l)) (hn : I64 n) (hl : l.length ≤ 1000000) : Calls Tryz.prog 172 #[ptr rb] w fun e w' => e = .returned (.int .i64 n) ∧ BO w0 w' rb l :=
 (rInt n h.rs hn hl).mono fun e w' ⟨h1, h2, h3⟩ => ⟨h1, h.gr h3 h2⟩
theorem BO.byte (c : UInt8) (h : BO w0 w rb (c :: l)) (hl : l.length ≤ 1000000) : Calls Tryz.prog 137 #[ptr rb] w fun e w' => e = .returned (.int .i64 (c.toNat : Int)) ∧ BO w0 w' rb l :=
 (rByte c h.rs hl).mono fun e w' ⟨h1, h2, h3⟩ => ⟨h1, h.gr h3 h2⟩
theorem BP.int (h : BP w0 w rb (enc n ++ l) B cs) (hn : I64 n) (hl : l.length ≤ 1000000) : Calls Tryz.prog 172 #[ptr rb] w fun e w' => e = .returned (.int .i64 n) ∧ BP w0 w' rb l B cs :=
 (rInt n h.o.rs hn hl).mono fun e w' ⟨h1, h2, h3⟩ => ⟨h1, h.gr h3 h2⟩
theorem BP.ballot (x : E) (h : BP w0 w rb (encB x ++ l) B cs) (h1 : I64 x.i) (h2 : I64 x.t) (hl : l.length ≤ 900000) : Calls Tryz.prog 173 #[ptr rb] w fun e w' => e = .returned (bV x) ∧ BP w0 w' rb l B cs :=
 (readBallot_any x rb l w h.o.rs h1 h2 hl).mono fun e w' ⟨h1, h2, h3⟩ => ⟨h1, h.gr h3 h2⟩
theorem BP.text (s : List UInt8) (h : BP w0 w rb (encT s ++ l) B cs) (hs : s.length ≤ 60000) (hl : l.length ≤ 1000000) : Calls Tryz.prog 136 #[ptr rb] w fun e w' => e = .returned (.string (ofL s)) ∧ BP w0 w' rb l B cs :=
 (rText s h.o.rs hs hl).mono fun e w' ⟨h1, h2, h3⟩ => ⟨h1, h.gr h3 h2⟩
theorem BP.done (h : BP w0 w rb [] B cs) : Calls Tryz.prog 174 #[ptr rb] w fun e w' => e = .returned (.int .i64 0) ∧ w' = w :=
 Nc.rdone_any rb (some []) w h.o.rs (by show 0 ≤ _; omega)
end
theorem newBO (w0 w : World) (l : List UInt8) (hl : l.length ≤ 1000000) (hb : Below w0.heap.size w0 w) (hr : w.heap[w0.heap.size]? = some (.cells #[.int .i64 0, .int .i64 0, .int .i64 0, .int .i64 0, .string ⟨#[]⟩, .int .i64 0] 97 (0, 0))) : Calls Tryz.prog 89 #[.string (ofL l)] w fun e w' => ∃ rb, e = .returned (ptr rb) ∧ BO w0 w' rb l := by
 refine (Nc.newReader_any l w (by omega)).mono ?_; rintro e w' ⟨rb, h1, h2, h3, h4⟩
 exact ⟨rb, h1, ⟨h3, Br hr h4, Bu hb h4 Lr, by have := (Array.getElem?_eq_some_iff.1 hr).1; omega⟩⟩
theorem res97 {fn : Func} {p u : Tmp} (h : fn.results = #[.cell p 97, .tmp u]) (tmps : Array Value) (w : World) (g : Nat) (v0 v1 v2 v3 v4 v5 : Value) (hp : tmps.getD p undef = .pointer (some ⟨g, 0, none⟩)) (hg : w.heap[g]? = some (.cells #[v0, v1, v2, v3, v4, v5] 97 (0, 0))) :
  (results fn tmps).run Tryz.prog w = .ok (.tuple #[.agg #[v0, v1, v2, v3, v4, v5], tmps.getD u undef]) w := by
 have hp' : tmps[p]?.getD undef = .pointer (some ⟨g, 0, none⟩) := by simpa using hp
 rw [results_cell_tmp h]
 simp [asAddr, hp', run_loadVar_row w g 97 97 #[v0, v1, v2, v3, v4, v5] (0, 0) _ hg Tryz.underlying97 rfl Tryz.size97]
theorem f138_res : Tryz.f138.results = #[.cell 6 97, .tmp 7] := rfl
theorem bodyOf_any (e k : Nat) (r : R) (w : World) (he : e ≤ 2147483648) (hk : k ≤ 2147483648) (hr : Wf r) :
  Calls Tryz.prog 138 #[.string (ofL (body e k r)), .int .i64 e, .int .i64 k] w fun x w' => x = .returned (.tuple #[rV r, .bool true]) ∧ Below w.heap.size w w' := by
 have hie := I64.nat he
 have hik := I64.nat hk
 have hle := enc_le hie
 have hlk := enc_le hik
 have hbl := body_len e k r he hk hr
 have hkl : (kb r).length ≤ 4200 := by
  have := hbl
  unfold body at this; rw [List.length_append, List.length_append] at this
  omega
 clear he hk
 cases r using R.split with
 | pr b =>
  obtain ⟨W1, HW1⟩ := Nh (w.alloc (.cells #[.int .i64 0, .int .i64 0, .int .i64 0, .int .i64 0, .string ⟨#[]⟩, .int .i64 0] 97))
  have hb1 : Below w.heap.size w W1 := by rw [← HW1.out]; exact bel1 w _
  have hr1 : W1.heap[w.heap.size]? = some (.cells #[.int .i64 0, .int .i64 0, .int .i64 0, .int .i64 0, .string ⟨#[]⟩, .int .i64 0] 97 (0, 0)) := by rw [← HW1.out]; exact heap_alloc_last w _
  have hn := newBO w W1 _ (show (body e k (.pr b)).length ≤ 1000000 by omega) hb1 hr1
  clear hb1 hr1
  go_enter Tryz.func138, Tryz.ntmps138
  go_upto_region 1 with fail
  rw [HW1.out]; clear HW1
  go_wp2_with fail
  refine hn.mono ?_; rintro e1 w2 ⟨rb, rfl, h2⟩
  have hc := BO.int (l := enc k ++ kb (.pr b)) h2 hie (by rw [List.length_append]; omega)
  clear hn h2
  go_wp2_with fail
  refine hc.mono ?_; rintro e1 w3 ⟨rfl, h3⟩
  have hc2 := BO.int (l := kb (.pr b)) h3 hik (by omega)
  clear hc h3
  have hc := hc2
  clear hc2
  go_wp2_with fail
  refine hc.mono ?_; rintro e1 w4 ⟨rfl, h4⟩
  have hc := BO.byte 1 h4 (by have := hkl; simp only [kb, List.length_cons] at this; omega)
  rw [show (((1 : UInt8).toNat : Nat) : Int) = 1 from rfl] at hc; clear h4
  go_wp2_with fail
  refine hc.mono ?_; rintro e1 w5 ⟨rfl, h5⟩
  have h6 := h5.two #[.int .i64 1, .int .i64 0, .int .i64 0, .int .i64 0, .string ⟨#[]⟩, .int .i64 0]
  obtain ⟨B9, hB9⟩ := Nq (w5.heap.size)
  obtain ⟨W6, HW6⟩ := Nh (w5.alloc (.cells #[.int .i64 1, .int .i64 0, .int .i64 0, .int .i64 0, .string ⟨#[]⟩, .int .i64 0] 97))
  rw [HW6.out, hB9] at h6
  have H6 := Hf h6
  obtain ⟨⟨c0, c1, c2, c3, c4, c5⟩, _⟩ := row6 h6.t9
  clear hc h5 h6
  go_upto_region 5 with fail
  rw [HW6.out]
  try rw [hB9]
  clear HW6
  have hc := BP.ballot b (l := []) (by rw [List.append_nil]; exact H6.out) hr.1 hr.2 (by simp)
  go_wp2_with fail
  refine hc.mono ?_; rintro e1 w7 ⟨rfl, h7⟩
  obtain ⟨⟨c0, c1, c2, c3, c4, c5⟩, cf⟩ := row6 h7.t9
  have cf2 := cf 2
  have cf3 := cf 3
  have g70 := h7.set (cs' := #[.int .i64 1, .int .i64 0, .int .i64 b.i, .int .i64 0, .string ⟨#[]⟩, .int .i64 0]) 2 (.int .i64 b.i) (heap_setCell_same w7 B9 2 _ _ _ h7.t9)
  have g71 := g70.set (cs' := #[.int .i64 1, .int .i64 0, .int .i64 b.i, .int .i64 b.t, .string ⟨#[]⟩, .int .i64 0]) 3 (.int .i64 b.t) (heap_setCell_same (w7.setCell ⟨B9, 2, none⟩ (.int .i64 b.i)) B9 3 _ _ _ g70.t9)
  obtain ⟨W7, HW7⟩ := Nh (((w7.setCell ⟨B9, 2, none⟩ (.int .i64 b.i)).setCell ⟨B9, 3, none⟩ (.int .i64 b.t)))
  rw [HW7.out] at g71
  have H7 := Hf g71
  clear hc H6 h7 g70 g71 cf
  go_upto_region 15 with fail
  rw [HW7.out]; clear HW7 c0 c1 c2 c3 c4 c5 cf2 cf3
  have HD : Hid (Calls Tryz.prog 174 #[ptr rb] W7.drew fun e w' => e = .returned (.int .i64 0) ∧ w' = W7.drew) := BP.done (w := W7.drew) (cs := #[.int .i64 1, .int .i64 0, .int .i64 b.i, .int .i64 b.t, .string ⟨#[]⟩, .int .i64 0]) ⟨⟨H7.out.o.rs, H7.out.o.t6, H7.out.o.bel.drew, H7.out.o.lt⟩, H7.out.t9, H7.out.gt⟩
  have HSI := Hf (row6 (w := W7.drew) H7.out.t9).1
  have HT6 := Hf (row6 (w := W7) H7.out.o.t6)
  have HFI : Hid ((put6 W7 w.heap.size (.int .i64 1) (.int .i64 0) (.int .i64 b.i) (.int .i64 b.t) (.string ⟨#[]⟩) (.int .i64 0)).drew.heap[w.heap.size]? = some (.cells #[.int .i64 1, .int .i64 0, .int .i64 b.i, .int .i64 b.t, .string ⟨#[]⟩, .int .i64 0] 97 (0, 0))) := drew_row (put6_row (w := W7) H7.out.o.t6 (.int .i64 1) (.int .i64 0) (.int .i64 b.i) (.int .i64 b.t) (.string ⟨#[]⟩) (.int .i64 0))
  have HBE : Hid (Below w.heap.size w (put6 W7 w.heap.size (.int .i64 1) (.int .i64 0) (.int .i64 b.i) (.int .i64 b.t) (.string ⟨#[]⟩) (.int .i64 0)).drew) := (put6_bel H7.out.o.bel Lr (.int .i64 1) (.int .i64 0) (.int .i64 b.i) (.int .i64 b.t) (.string ⟨#[]⟩) (.int .i64 0)).drew
  have hr9 : (put6 W7 w.heap.size (.int .i64 1) (.int .i64 0) (.int .i64 b.i) (.int .i64 b.t) (.string ⟨#[]⟩) (.int .i64 0)).drew.heap[B9]? = some (.cells #[.int .i64 1, .int .i64 0, .int .i64 b.i, .int .i64 b.t, .string ⟨#[]⟩, .int .i64 0] 97 (0, 0)) := drew_row ((put6_oth (w := W7) (g := w.heap.size) (k := B9) (by have := H7.out.gt; have := H7.out.o.lt; omega) (.int .i64 1) (.int .i64 0) (.int .i64 b.i) (.int .i64 b.t) (.string ⟨#[]⟩) (.int .i64 0)).trans H7.out.t9)
  have HST := Hf (row6 hr9).1
  clear hr9; clear H7
  refine wp_region_held_drew (S := (fun wq => wq.cell? ⟨B9, 0, none⟩ = some (.int .i64 1) ∧ wq.cell? ⟨B9, 1, none⟩ = some (.int .i64 0) ∧ wq.cell? ⟨B9, 2, none⟩ = some (.int .i64 b.i) ∧ wq.cell? ⟨B9, 3, none⟩ = some (.int .i64 b.t) ∧ wq.cell? ⟨B9, 4, none⟩ = some (.string ⟨#[]⟩) ∧ wq.cell? ⟨B9, 5, none⟩ = some (.int .i64 0))) (by kernel_rfl) HSI.out fun Hl => ?_
  refine Tk 0 ?pA ?vA ?yA Hl ?rA
  case yA => intro wq hq; obtain ⟨y0, y1, y2, y3, y4, y5⟩ := hq; go_simp; try with_reducible rfl
  refine Tm 1 ?pB ?vB Hl ?rB
  simp only [Act.put, Pa, Pb, Pc]
  refine Rd 2 ?pC ?sC
  intro K hK; go_simp
  refine HD.out.mono ?_; rintro e v2 ⟨rfl, rfl⟩
  refine hK.out _ _ Hl fun Hl => ?_; clear hK K
  refine Tm 3 ?pD ?vD Hl ?rD
  simp only [Act.put, Pa, Pb, Pc]
  refine Rd 4 ?pE ?sE
  intro K hK; go_simp
  obtain ⟨⟨z0, z1, z2, z3, z4, z5⟩, zf⟩ := HT6.out
  have zf0 := zf 0
  have zf1 := zf 1
  have zf2 := zf 2
  have zf3 := zf 3
  have zf4 := zf 4
  have zf5 := zf 5
  go_simp
  refine hK.out _ _ HST.out fun Hl => ?_; clear hK K
  refine Tm 5 ?pF ?vF Hl ?rF
  simp only [Act.put, Pa, Pb, Pc]
  refine wpAnyH_done (by kernel_rfl) ?_ _
  go_wp2
  refine bodyPost_ret (v := .tuple #[rV (.pr b), .bool true]) ?_ rfl ⟨rfl, HBE.out⟩
  exact res97 f138_res _ _ w.heap.size _ _ _ _ _ _ rfl HFI.out
 | vo v =>
  obtain ⟨W1, HW1⟩ := Nh (w.alloc (.cells #[.int .i64 0, .int .i64 0, .int .i64 0, .int .i64 0, .string ⟨#[]⟩, .int .i64 0] 97))
  have hb1 : Below w.heap.size w W1 := by rw [← HW1.out]; exact bel1 w _
  have hr1 : W1.heap[w.heap.size]? = some (.cells #[.int .i64 0, .int .i64 0, .int .i64 0, .int .i64 0, .string ⟨#[]⟩, .int .i64 0] 97 (0, 0)) := by rw [← HW1.out]; exact heap_alloc_last w _
  have hn := newBO w W1 _ (show (body e k (.vo v)).length ≤ 1000000 by omega) hb1 hr1
  clear hb1 hr1
  go_enter Tryz.func138, Tryz.ntmps138
  go_upto_region 1 with fail
  rw [HW1.out]; clear HW1
  go_wp2_with fail
  refine hn.mono ?_; rintro e1 w2 ⟨rb, rfl, h2⟩
  have hc := BO.int (l := enc k ++ kb (.vo v)) h2 hie (by rw [List.length_append]; omega)
  clear hn h2
  go_wp2_with fail
  refine hc.mono ?_; rintro e1 w3 ⟨rfl, h3⟩
  have hc2 := BO.int (l := kb (.vo v)) h3 hik (by omega)
  clear hc h3
  have hc := hc2
  clear hc2
  go_wp2_with fail
  refine hc.mono ?_; rintro e1 w4 ⟨rfl, h4⟩
  have hc := BO.byte 2 h4 (by have := hkl; simp only [kb, List.length_cons] at this; omega)
  rw [show (((2 : UInt8).toNat : Nat) : Int) = 2 from rfl] at hc; clear h4
  go_wp2_with fail
  refine hc.mono ?_; rintro e1 w5 ⟨rfl, h5⟩
  have h6 := h5.two #[.int .i64 2, .int .i64 0, .int .i64 0, .int .i64 0, .string ⟨#[]⟩, .int .i64 0]
  obtain ⟨B9, hB9⟩ := Nq (w5.heap.size)
  obtain ⟨W6, HW6⟩ := Nh (w5.alloc (.cells #[.int .i64 2, .int .i64 0, .int .i64 0, .int .i64 0, .string ⟨#[]⟩, .int .i64 0] 97))
  rw [HW6.out, hB9] at h6
  have H6 := Hf h6
  obtain ⟨⟨c0, c1, c2, c3, c4, c5⟩, _⟩ := row6 h6.t9
  clear hc h5 h6
  go_upto_region 5 with fail
  rw [HW6.out]
  try rw [hB9]
  clear HW6
  have hc := BP.int (l := encB v.b ++ encT v.v.data.toList) H6.out hr.1 (by have := hkl; simp only [kb, List.length_cons, List.length_append] at this ⊢; omega)
  go_wp2_with fail
  refine hc.mono ?_; rintro e1 w7 ⟨rfl, h7⟩
  obtain ⟨⟨c0, c1, c2, c3, c4, c5⟩, cf⟩ := row6 h7.t9
  have cf1 := cf 1
  have g70 := h7.set (cs' := #[.int .i64 2, .int .i64 v.s, .int .i64 0, .int .i64 0, .string ⟨#[]⟩, .int .i64 0]) 1 (.int .i64 v.s) (heap_setCell_same w7 B9 1 _ _ _ h7.t9)
  obtain ⟨W7, HW7⟩ := Nh ((w7.setCell ⟨B9, 1, none⟩ (.int .i64 v.s)))
  rw [HW7.out] at g70
  have H7 := Hf g70
  clear hc H6 h7 g70 cf
  go_upto_region 11 with fail
  rw [HW7.out]; clear HW7 c0 c1 c2 c3 c4 c5 cf1
  have hc := BP.ballot v.b (l := encT v.v.data.toList) H7.out hr.2.1 hr.2.2.1 (by have := hkl; simp only [kb, List.length_cons, List.length_append] at this ⊢; omega)
  go_wp2_with fail
  refine hc.mono ?_; rintro e1 w8 ⟨rfl, h8⟩
  obtain ⟨⟨c0, c1, c2, c3, c4, c5⟩, cf⟩ := row6 h8.t9
  have cf2 := cf 2
  have cf3 := cf 3
  have g80 := h8.set (cs' := #[.int .i64 2, .int .i64 v.s, .int .i64 v.b.i, .int .i64 0, .string ⟨#[]⟩, .int .i64 0]) 2 (.int .i64 v.b.i) (heap_setCell_same w8 B9 2 _ _ _ h8.t9)
  have g81 := g80.set (cs' := #[.int .i64 2, .int .i64 v.s, .int .i64 v.b.i, .int .i64 v.b.t, .string ⟨#[]⟩, .int .i64 0]) 3 (.int .i64 v.b.t) (heap_setCell_same (w8.setCell ⟨B9, 2, none⟩ (.int .i64 v.b.i)) B9 3 _ _ _ g80.t9)
  obtain ⟨W8, HW8⟩ := Nh (((w8.setCell ⟨B9, 2, none⟩ (.int .i64 v.b.i)).setCell ⟨B9, 3, none⟩ (.int .i64 v.b.t)))
  rw [HW8.out] at g81
  have H8 := Hf g81
  clear hc H7 h8 g80 g81 cf
  go_upto_region 12 with fail
  rw [HW8.out]; clear HW8 c0 c1 c2 c3 c4 c5 cf2 cf3
  have hc := BP.text v.v.data.toList (l := []) (by rw [List.append_nil]; exact H8.out) (by have : v.v.data.toList.length ≤ 4096 := hr.2.2.2; omega) (by simp)
  rw [Ns.M.ofL_of] at hc
  go_wp2_with fail
  refine hc.mono ?_; rintro e1 w9 ⟨rfl, h9⟩
  obtain ⟨⟨c0, c1, c2, c3, c4, c5⟩, cf⟩ := row6 h9.t9
  have cf4 := cf 4
  have g90 := h9.set (cs' := #[.int .i64 2, .int .i64 v.s, .int .i64 v.b.i, .int .i64 v.b.t, .string v.v, .int .i64 0]) 4 (.string v.v) (heap_setCell_same w9 B9 4 _ _ _ h9.t9)
  obtain ⟨W9, HW9⟩ := Nh ((w9.setCell ⟨B9, 4, none⟩ (.string v.v)))
  rw [HW9.out] at g90
  have H9 := Hf g90
  clear hc H8 h9 g90 cf
  go_upto_region 15 with fail
  rw [HW9.out]; clear HW9 c0 c1 c2 c3 c4 c5 cf4
  have HD : Hid (Calls Tryz.prog 174 #[ptr rb] W9.drew fun e w' => e = .returned (.int .i64 0) ∧ w' = W9.drew) := BP.done (w := W9.drew) (cs := #[.int .i64 2, .int .i64 v.s, .int .i64 v.b.i, .int .i64 v.b.t, .string v.v, .int .i64 0]) ⟨⟨H9.out.o.rs, H9.out.o.t6, H9.out.o.bel.drew, H9.out.o.lt⟩, H9.out.t9, H9.out.gt⟩
  have HSI := Hf (row6 (w := W9.drew) H9.out.t9).1
  have HT6 := Hf (row6 (w := W9) H9.out.o.t6)
  have HFI : Hid ((put6 W9 w.heap.size (.int .i64 2) (.int .i64 v.s) (.int .i64 v.b.i) (.int .i64 v.b.t) (.string v.v) (.int .i64 0)).drew.heap[w.heap.size]? = some (.cells #[.int .i64 2, .int .i64 v.s, .int .i64 v.b.i, .int .i64 v.b.t, .string v.v, .int .i64 0] 97 (0, 0))) := drew_row (put6_row (w := W9) H9.out.o.t6 (.int .i64 2) (.int .i64 v.s) (.int .i64 v.b.i) (.int .i64 v.b.t) (.string v.v) (.int .i64 0))
  have HBE : Hid (Below w.heap.size w (put6 W9 w.heap.size (.int .i64 2) (.int .i64 v.s) (.int .i64 v.b.i) (.int .i64 v.b.t) (.string v.v) (.int .i64 0)).drew) := (put6_bel H9.out.o.bel Lr (.int .i64 2) (.int .i64 v.s) (.int .i64 v.b.i) (.int .i64 v.b.t) (.string v.v) (.int .i64 0)).drew
  have hr9 : (put6 W9 w.heap.size (.int .i64 2) (.int .i64 v.s) (.int .i64 v.b.i) (.int .i64 v.b.t) (.string v.v) (.int .i64 0)).drew.heap[B9]? = some (.cells #[.int .i64 2, .int .i64 v.s, .int .i64 v.b.i, .int .i64 v.b.t, .string v.v, .int .i64 0] 97 (0, 0)) := drew_row ((put6_oth (w := W9) (g := w.heap.size) (k := B9) (by have := H9.out.gt; have := H9.out.o.lt; omega) (.int .i64 2) (.int .i64 v.s) (.int .i64 v.b.i) (.int .i64 v.b.t) (.string v.v) (.int .i64 0)).trans H9.out.t9)
  have HST := Hf (row6 hr9).1
  clear hr9; clear H9
  refine wp_region_held_drew (S := (fun wq => wq.cell? ⟨B9, 0, none⟩ = some (.int .i64 2) ∧ wq.cell? ⟨B9, 1, none⟩ = some (.int .i64 v.s) ∧ wq.cell? ⟨B9, 2, none⟩ = some (.int .i64 v.b.i) ∧ wq.cell? ⟨B9, 3, none⟩ = some (.int .i64 v.b.t) ∧ wq.cell? ⟨B9, 4, none⟩ = some (.string v.v) ∧ wq.cell? ⟨B9, 5, none⟩ = some (.int .i64 0))) (by kernel_rfl) HSI.out fun Hl => ?_
  refine Tk 0 ?pG ?vG ?yG Hl ?rG
  case yG => intro wq hq; obtain ⟨y0, y1, y2, y3, y4, y5⟩ := hq; go_simp; try with_reducible rfl
  refine Tm 1 ?pH ?vH Hl ?rH
  simp only [Act.put, Pa, Pb, Pc]
  refine Rd 2 ?pI ?sI
  intro K hK; go_simp
  refine HD.out.mono ?_; rintro e v2 ⟨rfl, rfl⟩
  refine hK.out _ _ Hl fun Hl => ?_; clear hK K
  refine Tm 3 ?pJ ?vJ Hl ?rJ
  simp only [Act.put, Pa, Pb, Pc]
  refine Rd 4 ?pK ?sK
  intro K hK; go_simp
  obtain ⟨⟨z0, z1, z2, z3, z4, z5⟩, zf⟩ := HT6.out
  have zf0 := zf 0
  have zf1 := zf 1
  have zf2 := zf 2
  have zf3 := zf 3
  have zf4 := zf 4
  have zf5 := zf 5
  go_simp
  refine hK.out _ _ HST.out fun Hl => ?_; clear hK K
  refine Tm 5 ?pL ?vL Hl ?rL
  simp only [Act.put, Pa, Pb, Pc]
  refine wpAnyH_done (by kernel_rfl) ?_ _
  go_wp2
  refine bodyPost_ret (v := .tuple #[rV (.vo v), .bool true]) ?_ rfl ⟨rfl, HBE.out⟩
  exact res97 f138_res _ _ w.heap.size _ _ _ _ _ _ rfl HFI.out
 | tr u =>
  obtain ⟨W1, HW1⟩ := Nh (w.alloc (.cells #[.int .i64 0, .int .i64 0, .int .i64 0, .int .i64 0, .string ⟨#[]⟩, .int .i64 0] 97))
  have hb1 : Below w.heap.size w W1 := by rw [← HW1.out]; exact bel1 w _
  have hr1 : W1.heap[w.heap.size]? = some (.cells #[.int .i64 0, .int .i64 0, .int .i64 0, .int .i64 0, .string ⟨#[]⟩, .int .i64 0] 97 (0, 0)) := by rw [← HW1.out]; exact heap_alloc_last w _
  have hn := newBO w W1 _ (show (body e k (.tr u)).length ≤ 1000000 by omega) hb1 hr1
  clear hb1 hr1
  go_enter Tryz.func138, Tryz.ntmps138
  go_upto_region 1 with fail
  rw [HW1.out]; clear HW1
  go_wp2_with fail
  refine hn.mono ?_; rintro e1 w2 ⟨rb, rfl, h2⟩
  have hc := BO.int (l := enc k ++ kb (.tr u)) h2 hie (by rw [List.length_append]; omega)
  clear hn h2
  go_wp2_with fail
  refine hc.mono ?_; rintro e1 w3 ⟨rfl, h3⟩
  have hc2 := BO.int (l := kb (.tr u)) h3 hik (by omega)
  clear hc h3
  have hc := hc2
  clear hc2
  go_wp2_with fail
  refine hc.mono ?_; rintro e1 w4 ⟨rfl, h4⟩
  have hc := BO.byte 3 h4 (by have := hkl; simp only [kb, List.length_cons] at this; omega)
  rw [show (((3 : UInt8).toNat : Nat) : Int) = 3 from rfl] at hc; clear h4
  go_wp2_with fail
  refine hc.mono ?_; rintro e1 w5 ⟨rfl, h5⟩
  have h6 := h5.two #[.int .i64 3, .int .i64 0, .int .i64 0, .int .i64 0, .string ⟨#[]⟩, .int .i64 0]
  obtain ⟨B9, hB9⟩ := Nq (w5.heap.size)
  obtain ⟨W6, HW6⟩ := Nh (w5.alloc (.cells #[.int .i64 3, .int .i64 0, .int .i64 0, .int .i64 0, .string ⟨#[]⟩, .int .i64 0] 97))
  rw [HW6.out, hB9] at h6
  have H6 := Hf h6
  obtain ⟨⟨c0, c1, c2, c3, c4, c5⟩, _⟩ := row6 h6.t9
  clear hc h5 h6
  go_upto_region 5 with fail
  rw [HW6.out]
  try rw [hB9]
  clear HW6
  have hc := BP.int (l := []) (by rw [List.append_nil]; exact H6.out) hr (by simp)
  go_wp2_with fail
  refine hc.mono ?_; rintro e1 w7 ⟨rfl, h7⟩
  obtain ⟨⟨c0, c1, c2, c3, c4, c5⟩, cf⟩ := row6 h7.t9
  have cf5 := cf 5
  have g70 := h7.set (cs' := #[.int .i64 3, .int .i64 0, .int .i64 0, .int .i64 0, .string ⟨#[]⟩, .int .i64 u]) 5 (.int .i64 u) (heap_setCell_same w7 B9 5 _ _ _ h7.t9)
  obtain ⟨W7, HW7⟩ := Nh ((w7.setCell ⟨B9, 5, none⟩ (.int .i64 u)))
  rw [HW7.out] at g70
  have H7 := Hf g70
  clear hc H6 h7 g70 cf
  go_upto_region 15 with fail
  rw [HW7.out]; clear HW7 c0 c1 c2 c3 c4 c5 cf5
  have HD : Hid (Calls Tryz.prog 174 #[ptr rb] W7.drew fun e w' => e = .returned (.int .i64 0) ∧ w' = W7.drew) := BP.done (w := W7.drew) (cs := #[.int .i64 3, .int .i64 0, .int .i64 0, .int .i64 0, .string ⟨#[]⟩, .int .i64 u]) ⟨⟨H7.out.o.rs, H7.out.o.t6, H7.out.o.bel.drew, H7.out.o.lt⟩, H7.out.t9, H7.out.gt⟩
  have HSI := Hf (row6 (w := W7.drew) H7.out.t9).1
  have HT6 := Hf (row6 (w := W7) H7.out.o.t6)
  have HFI : Hid ((put6 W7 w.heap.size (.int .i64 3) (.int .i64 0) (.int .i64 0) (.int .i64 0) (.string ⟨#[]⟩) (.int .i64 u)).drew.heap[w.heap.size]? = some (.cells #[.int .i64 3, .int .i64 0, .int .i64 0, .int .i64 0, .string ⟨#[]⟩, .int .i64 u] 97 (0, 0))) := drew_row (put6_row (w := W7) H7.out.o.t6 (.int .i64 3) (.int .i64 0) (.int .i64 0) (.int .i64 0) (.string ⟨#[]⟩) (.int .i64 u))
  have HBE : Hid (Below w.heap.size w (put6 W7 w.heap.size (.int .i64 3) (.int .i64 0) (.int .i64 0) (.int .i64 0) (.string ⟨#[]⟩) (.int .i64 u)).drew) := (put6_bel H7.out.o.bel Lr (.int .i64 3) (.int .i64 0) (.int .i64 0) (.int .i64 0) (.string ⟨#[]⟩) (.int .i64 u)).drew
  have hr9 : (put6 W7 w.heap.size (.int .i64 3) (.int .i64 0) (.int .i64 0) (.int .i64 0) (.string ⟨#[]⟩) (.int .i64 u)).drew.heap[B9]? = some (.cells #[.int .i64 3, .int .i64 0, .int .i64 0, .int .i64 0, .string ⟨#[]⟩, .int .i64 u] 97 (0, 0)) := drew_row ((put6_oth (w := W7) (g := w.heap.size) (k := B9) (by have := H7.out.gt; have := H7.out.o.lt; omega) (.int .i64 3) (.int .i64 0) (.int .i64 0) (.int .i64 0) (.string ⟨#[]⟩) (.int .i64 u)).trans H7.out.t9)
  have HST := Hf (row6 hr9).1
  clear hr9; clear H7
  refine wp_region_held_drew (S := (fun wq => wq.cell? ⟨B9, 0, none⟩ = some (.int .i64 3) ∧ wq.cell? ⟨B9, 1, none⟩ = some (.int .i64 0) ∧ wq.cell? ⟨B9, 2, none⟩ = some (.int .i64 0) ∧ wq.cell? ⟨B9, 3, none⟩ = some (.int .i64 0) ∧ wq.cell? ⟨B9, 4, none⟩ = some (.string ⟨#[]⟩) ∧ wq.cell? ⟨B9, 5, none⟩ = some (.int .i64 u))) (by kernel_rfl) HSI.out fun Hl => ?_
  refine Tk 0 ?pM ?vM ?yM Hl ?rM
  case yM => intro wq hq; obtain ⟨y0, y1, y2, y3, y4, y5⟩ := hq; go_simp; try with_reducible rfl
  refine Tm 1 ?pN ?vN Hl ?rN
  simp only [Act.put, Pa, Pb, Pc]
  refine Rd 2 ?pO ?sO
  intro K hK; go_simp
  refine HD.out.mono ?_; rintro e v2 ⟨rfl, rfl⟩
  refine hK.out _ _ Hl fun Hl => ?_; clear hK K
  refine Tm 3 ?pP ?vP Hl ?rP
  simp only [Act.put, Pa, Pb, Pc]
  refine Rd 4 ?pQ ?sQ
  intro K hK; go_simp
  obtain ⟨⟨z0, z1, z2, z3, z4, z5⟩, zf⟩ := HT6.out
  have zf0 := zf 0
  have zf1 := zf 1
  have zf2 := zf 2
  have zf3 := zf 3
  have zf4 := zf 4
  have zf5 := zf 5
  go_simp
  refine hK.out _ _ HST.out fun Hl => ?_; clear hK K
  refine Tm 5 ?pR ?vR Hl ?rR
  simp only [Act.put, Pa, Pb, Pc]
  refine wpAnyH_done (by kernel_rfl) ?_ _
  go_wp2
  refine bodyPost_ret (v := .tuple #[rV (.tr u), .bool true]) ?_ rfl ⟨rfl, HBE.out⟩
  exact res97 f138_res _ _ w.heap.size _ _ _ _ _ _ rfl HFI.out
def mlen (rb : Nat) (w : World) : Nat := match w.cell? ⟨rb, 0, none⟩ with | some (.string s) => s.size | _ => 0
theorem mlen_rs {w : World} {rb : Nat} {l : List UInt8} (h : RS w rb (some l)) : mlen rb w = l.length := by
 unfold mlen; rw [Nc.RIs.c0 h]
 exact Ns.M.ofL_size l
theorem gr_set {w w5 : World} {r : Option Nat} (h : w.grownBy w5 r) (g j : Nat) (v : Value) (hg : w.heap.size ≤ g) : w.grownBy (w5.setCell ⟨g, j, none⟩ v) r :=
 ⟨h.os, h.tape, h.output, by have := h.size; simp; omega, fun k hk hne => by rw [heap_setCell_other _ ⟨g, j, none⟩ k _ (by simp; omega)]; exact h.block k hk hne⟩
theorem put6_gr {w w5 : World} {r : Option Nat} (h : w.grownBy w5 r) {g : Nat} (hg : w.heap.size ≤ g) (a b c d e f : Value) : w.grownBy (put6 w5 g a b c d e f) r :=
 gr_set (gr_set (gr_set (gr_set (gr_set (gr_set h g 0 a hg) g 1 b hg) g 2 c hg) g 3 d hg) g 4 e hg) g 5 f hg
theorem f90_res : Tryz.f90.results = #[.cell 6 97, .tmp 7] := rfl
theorem fil_lt (n : Nat) : fil n < 64 := by unfold fil; omega
theorem rec_split (e k : Nat) (r : R) (l : List UInt8) : rec e k r ++ l = encT (K2.sealed (body e k r)) ++ (List.replicate (fil (raw e k r).length) 0 ++ l) := by
 unfold rec raw; rw [List.append_assoc]
theorem readRecord_yes (e k : Nat) (r : R) (rb : Nat) (l : List UInt8) (w : World) (h : RS w rb (some (rec e k r ++ l))) (he : e ≤ 2147483648) (hk : k ≤ 2147483648) (hr : Wf r) (hl : l.length ≤ 900000) (hm : l.length % 64 = 0) :
  Calls Tryz.prog 90 #[ptr rb, .int .i64 e, .int .i64 k] w fun x w' => x = .returned (.tuple #[rV r, .bool true]) ∧ RS w' rb (some l) ∧ w.grownBy w' (some rb) := by
 have hlt := h.lt
 obtain ⟨W1, HW1⟩ := Nh (w.alloc (.cells #[.int .i64 0, .int .i64 0, .int .i64 0, .int .i64 0, .string ⟨#[]⟩, .int .i64 0] 97))
 have hb1 : Below w.heap.size w W1 := by rw [← HW1.out]; exact bel1 w _
 have hr1 : W1.heap[w.heap.size]? = some (.cells #[.int .i64 0, .int .i64 0, .int .i64 0, .int .i64 0, .string ⟨#[]⟩, .int .i64 0] 97 (0, 0)) := by rw [← HW1.out]; exact heap_alloc_last w _
 have hh := Nc.RS.below h hb1
 have hbl := body_len e k r he hk hr
 obtain ⟨F, hF⟩ := Nq (fil (raw e k r).length)
 have hFl : F < 64 := by rw [← hF]; exact fil_lt _
 rw [rec_split, hF] at hh
 have hc := rText (K2.sealed (body e k r)) hh (by rw [sealed_len]; omega) (by rw [List.length_append, List.length_replicate]; omega)
 have ho := fun W => Ns.open_any (ofL (K2.sealed (body e k r))) W (by rw [Ns.M.ofL_size, sealed_len]; omega)
 rw [open_sealed] at ho
 have hbd := fun W => bodyOf_any e k r W he hk hr
 rw [rV, rcs_six] at hbd
 have HRV : Hid (rV r = .agg #[.int .i64 (rk r), .int .i64 (rsl r), .int .i64 (ri r), .int .i64 (rt r), .string (rvv r), .int .i64 (ru r)]) := by show Value.agg (rcs r) = _; rw [rcs_six]
 generalize rV r = RV at *
 generalize rk r = z0 at *
 generalize rsl r = z1 at *
 generalize ri r = z2 at *
 generalize rt r = z3 at *
 generalize rvv r = z4 at *
 generalize ru r = z5 at *
 generalize K2.sealed (body e k r) = SB at *
 generalize body e k r = BB at *
 have HR1 := Hf hr1
 have HG1 : Hid (w.grownBy W1 (some rb)) := Nc.grown_below hb1
 clear h hh hr1 hb1 hF he hk hr hbl
 go_enter Tryz.func90, Tryz.ntmps90
 go_upto_region 1 with fail
 rw [HW1.out]; clear HW1
 go_wp2_with fail
 refine hc.mono ?_; rintro e1 w2 ⟨rfl, q2, g2⟩
 have HR2 := Hf (row_gr HR1.out g2 (by omega))
 have HG2 := Hf (Nc.grown_trans HG1.out g2)
 have HQ2 := Hf q2
 clear hc q2 g2 HR1 HG1
 go_wp2_with fail
 refine (ho _).mono ?_; rintro e1 w3 ⟨rfl, hb3⟩
 have HR3 := Hf (Br HR2.out hb3)
 have HG3 : Hid (w.grownBy w3 (some rb)) := Nc.grown_trans HG2.out (Nc.grown_below hb3)
 have HQ3 := Hf (Nc.RS.below HQ2.out hb3)
 clear ho hb3 HR2 HG2 HQ2; go_wp2
 go_loopw [7] (fun u wr => u = .bool false ∧ ∃ j : Nat, j ≤ F ∧ RS wr rb (some (List.replicate j 0 ++ l)) ∧ wr.heap[w.heap.size]? = some (.cells #[.int .i64 0, .int .i64 0, .int .i64 0, .int .i64 0, .string ⟨#[]⟩, .int .i64 0] 97 (0, 0)) ∧ w.grownBy wr (some rb)) (fun _ wr => mlen rb wr)
 case atStart => exact ⟨rfl, F, Nat.le_refl _, HQ3.out, HR3.out, HG3.out⟩
 case round =>
  obtain ⟨rfl, j, hj, hq, hrw, hg⟩ := hrel
  clear HQ3 HR3 HG3
  have hml := mlen_rs hq
  have hlf := Nc.rleft_any rb _ wr hq
  have el : (Nc.lft (some (List.replicate j 0 ++ l))).length = j + l.length := by show (List.replicate j 0 ++ l).length = _; rw [List.length_append, List.length_replicate]
  rw [el] at hlf; rw [List.length_append, List.length_replicate] at hml; clear el
  have HRW := Hf hrw
  have HG := Hf hg
  have htm : (((j + l.length : Nat) : Int)).tmod 64 = (((j + l.length) % 64 : Nat) : Int) := by rw [Int.tmod_eq_emod_of_nonneg (by omega)]; omega
  have hmd : ((j + l.length : Nat) : Int) % 64 = (((j + l.length) % 64 : Nat) : Int) := by omega
  have hjm : (j + l.length) % 64 = j := by omega
  rw [hjm] at htm hmd; clear hrw hg hjm
  cases j with
  | zero =>
   simp only [List.replicate_zero, List.nil_append] at hq
   have HQ := Hf hq
   clear hq; rw [Nat.zero_add] at hlf htm hmd
   generalize l.length = ll at *
   simp only [Int.natCast_zero] at htm hmd
   go_wp2_with fail
   refine hlf.mono ?_; rintro e1 w4 ⟨rfl, rfl⟩
   clear hlf
   go_wp2_with fail
   refine (hbd _).mono ?_; rintro e1 w5 ⟨rfl, hb5⟩
   have hr5 := Br HRW.out hb5
   obtain ⟨_, xf⟩ := row6 hr5
   have x0 := xf 0
   have x1 := xf 1
   have x2 := xf 2
   have x3 := xf 3
   have x4 := xf 4
   have x5 := xf 5
   obtain ⟨⟨k0, k1, k2, k3, k4, k5⟩, _⟩ := row6 hr5
   have HRP := Hf (put6_row hr5 (.int .i64 z0) (.int .i64 z1) (.int .i64 z2) (.int .i64 z3) (.string z4) (.int .i64 z5))
   have HQ5 := Hf ((Nc.RS.keep (Nc.RS.below HQ.out hb5) (put6_oth (g := w.heap.size) (by omega) (.int .i64 z0) (.int .i64 z1) (.int .i64 z2) (.int .i64 z3) (.string z4) (.int .i64 z5))))
   have HG5 := Hf (put6_gr (Nc.grown_trans HG.out (Nc.grown_below (r := some rb) hb5)) Lr (.int .i64 z0) (.int .i64 z1) (.int .i64 z2) (.int .i64 z3) (.string z4) (.int .i64 z5))
   clear hbd hb5 hr5 xf HRW HG HQ; go_wp2
   refine bodyPost_ret (v := .tuple #[.agg #[.int .i64 z0, .int .i64 z1, .int .i64 z2, .int .i64 z3, .string z4, .int .i64 z5], .bool true]) ?_ rfl ⟨by rw [HRV.out], HQ5.out, HG5.out⟩
   exact res97 f90_res _ _ w.heap.size _ _ _ _ _ _ rfl HRP.out
  | succ j =>
   have hne : ((((j + 1 : Nat) : Int)) == 0) = false := by rw [beq_eq_false_iff_ne]; omega
   rw [List.replicate_succ, List.cons_append] at hq
   have hby := rByte 0 hq (by rw [List.length_append, List.length_replicate]; omega)
   rw [show (((0 : UInt8).toNat : Nat) : Int) = 0 from rfl] at hby; clear hq
   obtain ⟨ll, hll⟩ := Nq (j + 1 + l.length)
   have HLL := Hf hll
   rw [hll] at hlf htm hmd; clear hll
   go_wp2_with fail
   refine hlf.mono ?_; rintro e1 w4 ⟨rfl, rfl⟩
   clear hlf
   go_wp2_with fail
   refine hby.mono ?_; rintro e1 w5 ⟨rfl, q5, g5⟩
   have HR5 := Hf (row_gr HRW.out g5 (by omega))
   have HG5 := Hf (Nc.grown_trans HG.out g5)
   have HM : Hid (mlen rb w5 < mlen rb w4) := by
    show _ < _
    rw [hml, mlen_rs q5, List.length_append, List.length_replicate]
    omega
   have HQ5 := Hf q5
   clear hby q5 g5 HRW HG hml; go_wp2
   go_roundw
   case rel => exact ⟨rfl, j, by omega, HQ5.out, HR5.out, HG5.out⟩
   case measure => exact HM.out
theorem readRecord_no (e k : Nat) (rb m : Nat) (w : World) (h : RS w rb (some (List.replicate m 0))) (hm : m ≤ 900000) :
  Calls Tryz.prog 90 #[ptr rb, .int .i64 e, .int .i64 k] w fun x w' => x = .returned (.tuple #[.agg #[.int .i64 0, .int .i64 0, .int .i64 0, .int .i64 0, .string ⟨#[]⟩, .int .i64 0], .bool false]) ∧ w.grownBy w' (some rb) := by
 have hlt := h.lt
 obtain ⟨W1, HW1⟩ := Nh (w.alloc (.cells #[.int .i64 0, .int .i64 0, .int .i64 0, .int .i64 0, .string ⟨#[]⟩, .int .i64 0] 97))
 have hb1 : Below w.heap.size w W1 := by rw [← HW1.out]; exact bel1 w _
 have hr1 : W1.heap[w.heap.size]? = some (.cells #[.int .i64 0, .int .i64 0, .int .i64 0, .int .i64 0, .string ⟨#[]⟩, .int .i64 0] 97 (0, 0)) := by rw [← HW1.out]; exact heap_alloc_last w _
 have hh := Nc.RS.below h hb1
 have hc := (Nc.text_any rb _ W1 hh (by show (List.replicate m (0 : UInt8)).length ≤ _; rw [List.length_replicate]; omega))
 have e0 : Nc.vl [] (Nc.M.text (Nc.lft (some (List.replicate m (0 : UInt8))))) = [] := by
  cases m with
  | zero => rfl
  | succ m =>
   have e1 : Nc.M.text (encT [] ++ List.replicate m 0) = some ([], List.replicate m 0) := Nc.M.text_enc [] _ (by simp)
   show Nc.vl [] (Nc.M.text (0 :: List.replicate m 0)) = []
   have e2 : encT [] ++ List.replicate m 0 = 0 :: List.replicate m (0 : UInt8) := by
    show (enc 0 ++ []) ++ _ = _
    rw [Nc.enc_small 0 0 rfl (by omega)]
    rfl
   rw [← e2, e1]
   rfl
 rw [e0] at hc
 have ho := fun W => Ns.open_any (ofL []) W (by rw [Ns.M.ofL_size]; simp)
 rw [open_none] at ho
 have HR1 := Hf hr1
 have HG1 : Hid (w.grownBy W1 (some rb)) := Nc.grown_below hb1
 clear h hh hr1 hb1 e0
 go_enter Tryz.func90, Tryz.ntmps90
 go_upto_region 1 with fail
 rw [HW1.out]; clear HW1
 go_wp2_with fail
 refine hc.mono ?_; rintro e1 w2 ⟨rfl, q2, g2⟩
 have HR2 := Hf (row_gr HR1.out g2 (by omega))
 have HG2 := Hf (Nc.grown_trans HG1.out g2)
 clear hc q2 g2 HR1 HG1
 go_wp2_with fail
 refine (ho _).mono ?_; rintro e1 w3 ⟨rfl, hb3⟩
 have hr3 := Br HR2.out hb3
 have hg3 : w.grownBy w3 (some rb) := Nc.grown_trans HG2.out (Nc.grown_below hb3)
 obtain ⟨⟨k0, k1, k2, k3, k4, k5⟩, xf⟩ := row6 hr3
 have x0 := xf 0
 have x1 := xf 1
 have x2 := xf 2
 have x3 := xf 3
 have x4 := xf 4
 have x5 := xf 5
 have HRP := Hf (put6_row hr3 (.int .i64 0) (.int .i64 0) (.int .i64 0) (.int .i64 0) (.string ⟨#[]⟩) (.int .i64 0))
 have HG5 := Hf (put6_gr hg3 Lr (.int .i64 0) (.int .i64 0) (.int .i64 0) (.int .i64 0) (.string ⟨#[]⟩) (.int .i64 0))
 clear ho hb3 HR2 HG2 hr3 hg3 xf; go_wp2
 refine bodyPost_ret (v := .tuple #[.agg #[.int .i64 0, .int .i64 0, .int .i64 0, .int .i64 0, .string ⟨#[]⟩, .int .i64 0], .bool false]) ?_ rfl ⟨rfl, HG5.out⟩
 exact res97 f90_res _ _ w.heap.size _ _ _ _ _ _ rfl HRP.out
end Go.Proofs.YtlnedgjikkhplaaGreat.Du
