/-
  The body of a record is read.
-/
import Derived.Test.YtlnedgjikkhplaaGreatGN29
namespace Go.Proofs.YtlnedgjikkhplaaGreat.Du
open Go.RowKit
set_option linter.unusedVariables false
set_option linter.unusedSimpArgs false
open Na (Fr AS XL vl bV vV Hid_of bel1 bel2 bel_up bel_row row2 row4 blk OwnL AtL)
open Na.M (E V S S0)

open Ns.M (ofL)
open Nc (RS)
open Nc.M (enc encT)
theorem drew_row {w : World} {k : Nat} {o : Obj} (h : w.heap[k]? = some o) : w.drew.heap[k]? = some o := h
/-- A reader, and the result's box below it. -/
structure BO (w0 w : World) (rb : Nat) (l : List UInt8) : Prop where
  rs : RS w rb (some l)
  t6 : w.heap[w0.heap.size]? = some (.cells #[.int .i64 0, .int .i64 0, .int .i64 0, .int .i64 0, .string ⟨#[]⟩, .int .i64 0] 97 (0, 0))
  bel : Below w0.heap.size w0 w
  lt : w0.heap.size < rb
/-- And a box behind it. -/
structure BP (w0 w : World) (rb : Nat) (l : List UInt8) (B : Nat) (cs : Array Value) : Prop where
  o : BO w0 w rb l
  t9 : w.heap[B]? = some (.cells cs 97 (0, 0))
  gt : rb < B
section
variable {w0 w w' : World} {n : Int} {rb B : Nat} {l l' : List UInt8} {cs cs' : Array Value}
theorem BO.gr (h : BO w0 w rb l) (hg : w.grownBy w' (some rb)) (hr : RS w' rb (some l')) : BO w0 w' rb l' :=
  ⟨hr, row_gr h.t6 hg (by have := h.lt; omega), h.bel.trans (Nc.below_grown hg h.bel.size (fun k e => by cases e; have := h.lt; omega)), h.lt⟩
theorem BP.gr (h : BP w0 w rb l B cs) (hg : w.grownBy w' (some rb)) (hr : RS w' rb (some l')) : BP w0 w' rb l' B cs :=
  ⟨h.o.gr hg hr, row_gr h.t9 hg (by have := h.gt; omega), h.gt⟩
theorem BO.two (h : BO w0 w rb l) (cs : Array Value) : BP w0 (w.alloc (.cells cs 97)) rb l w.heap.size cs :=
  ⟨⟨Nc.RS.below h.rs (bel1 w _), bel_row h.t6 (bel1 w _), bel_up h.bel (bel1 w _) (Nat.le_refl _), h.lt⟩, heap_alloc_last w _, h.rs.lt⟩
theorem BP.set (h : BP w0 w rb l B cs) (j : Nat) (v : Value) (hc : (w.setCell ⟨B, j, none⟩ v).heap[B]? = some (.cells cs' 97 (0, 0))) : BP w0 (w.setCell ⟨B, j, none⟩ v) rb l B cs' := by
  have hgt := h.gt
  have hlt := h.o.lt
  refine ⟨⟨Nc.RS.keep h.o.rs (heap_setCell_other _ ⟨B, j, none⟩ rb _ (by simp; omega)), ?_, h.o.bel.setCell (p := ⟨B, j, none⟩) (by show _ ≤ B; omega) _, hlt⟩, hc, hgt⟩
  rw [heap_setCell_other _ ⟨B, j, none⟩ w0.heap.size _ (by simp; omega)]
  exact h.o.t6
theorem BO.int (h : BO w0 w rb (enc n ++ l)) (hn : I64 n) (hl : l.length ≤ 1000000) : Calls Tryz.prog 172 #[ptr rb] w fun e w' => e = .returned (.int .i64 n) ∧ BO w0 w' rb l :=
  (rInt n h.rs hn hl).mono fun e w' ⟨h1, h2, h3⟩ => ⟨h1, h.gr h3 h2⟩
theorem BO.byte (c : UInt8) (h : BO w0 w rb (c :: l)) (hl : l.length ≤ 1000000) : Calls Tryz.prog 137 #[ptr rb] w fun e w' => e = .returned (.int .i64 (c.toNat : Int)) ∧ BO w0 w' rb l :=
  (rByte c h.rs hl).mono fun e w' ⟨h1, h2, h3⟩ => ⟨h1, h.gr h3 h2⟩
theorem BP.int (h : BP w0 w rb (enc n ++ l) B cs) (hn : I64 n) (hl : l.length ≤ 1000000) : Calls Tryz.prog 172 #[ptr rb] w fun e w' => e = .returned (.int .i64 n) ∧ BP w0 w' rb l B cs :=
  (rInt n h.o.rs hn hl).mono fun e w' ⟨h1, h2, h3⟩ => ⟨h1, h.gr h3 h2⟩
theorem BP.ballot (x : E) (h : BP w0 w rb (encB x ++ l) B cs) (h1 : I64 x.i) (h2 : I64 x.t) (hl : l.length ≤ 900000) : Calls Tryz.prog 173 #[ptr rb] w fun e w' => e = .returned (bV x) ∧ BP w0 w' rb l B cs :=
  (readBallot_any x rb l w h.o.rs h1 h2 hl).mono fun e w' ⟨h1, h2, h3⟩ => ⟨h1, h.gr h3 h2⟩
theorem BP.text (s : List UInt8) (h : BP w0 w rb (encT s ++ l) B cs) (hs : s.length ≤ 60000) (hl : l.length ≤ 1000000) : Calls Tryz.prog 136 #[ptr rb] w fun e w' => e = .returned (.string (ofL s)) ∧ BP w0 w' rb l B cs :=
  (rText s h.o.rs hs hl).mono fun e w' ⟨h1, h2, h3⟩ => ⟨h1, h.gr h3 h2⟩
theorem BP.done (h : BP w0 w rb [] B cs) : Calls Tryz.prog 174 #[ptr rb] w fun e w' => e = .returned (.int .i64 0) ∧ w' = w :=
  Nc.rdone_any rb (some []) w h.o.rs (by show 0 ≤ _; omega)
end
theorem newBO (w0 w : World) (l : List UInt8) (hl : l.length ≤ 1000000) (hb : Below w0.heap.size w0 w) (hr : w.heap[w0.heap.size]? = some (.cells #[.int .i64 0, .int .i64 0, .int .i64 0, .int .i64 0, .string ⟨#[]⟩, .int .i64 0] 97 (0, 0))) : Calls Tryz.prog 89 #[.string (ofL l)] w fun e w' => ∃ rb, e = .returned (ptr rb) ∧ BO w0 w' rb l := by
  refine (Nc.newReader_any l w (by omega)).mono ?_
  rintro e w' ⟨rb, h1, h2, h3, h4⟩
  exact ⟨rb, h1, ⟨h3, bel_row hr h4, bel_up hb h4 (Nat.le_refl _), by have := (Array.getElem?_eq_some_iff.1 hr).1; omega⟩⟩
/-- A record and whether it is one, as results. -/
theorem res97 {fn : Func} {p u : Tmp} (h : fn.results = #[.cell p 97, .tmp u]) (tmps : Array Value) (w : World) (g : Nat) (v0 v1 v2 v3 v4 v5 : Value) (hp : tmps.getD p undef = .pointer (some ⟨g, 0, none⟩)) (hg : w.heap[g]? = some (.cells #[v0, v1, v2, v3, v4, v5] 97 (0, 0))) :
    (results fn tmps).run Tryz.prog w = .ok (.tuple #[.agg #[v0, v1, v2, v3, v4, v5], tmps.getD u undef]) w := by
  have hp' : tmps[p]?.getD undef = .pointer (some ⟨g, 0, none⟩) := by simpa using hp
  rw [results_cell_tmp h]
  simp [asAddr, hp', run_loadVar_row w g 97 97 #[v0, v1, v2, v3, v4, v5] (0, 0) _ hg Tryz.underlying97 rfl Tryz.size97]
theorem f138_res : Tryz.f138.results = #[.cell 6 97, .tmp 7] := rfl
set_option maxRecDepth 100000 in
set_option maxHeartbeats 8000000 in
theorem bodyOf_any (e k : Nat) (r : R) (w : World) (he : e ≤ 2147483648) (hk : k ≤ 2147483648) (hr : Wf r) :
    Calls Tryz.prog 138 #[.string (ofL (body e k r)), .int .i64 e, .int .i64 k] w fun x w' => x = .returned (.tuple #[rV r, .bool true]) ∧ Below w.heap.size w w' := by
  have hie := I64.nat he
  have hik := I64.nat hk
  have hle := enc_le hie
  have hlk := enc_le hik
  have hbl := body_len e k r he hk hr
  have hkl : (kb r).length ≤ 4200 := by
    have := hbl
    unfold body at this
    rw [List.length_append, List.length_append] at this
    omega
  clear he hk
  cases r using R.split with
  | pr b =>
    obtain ⟨W1, HW1⟩ : ∃ W1, Hid (w.alloc (.cells #[.int .i64 0, .int .i64 0, .int .i64 0, .int .i64 0, .string ⟨#[]⟩, .int .i64 0] 97) = W1) := ⟨_, Hid_of rfl⟩
    have hb1 : Below w.heap.size w W1 := by rw [← HW1.out]; exact bel1 w _
    have hr1 : W1.heap[w.heap.size]? = some (.cells #[.int .i64 0, .int .i64 0, .int .i64 0, .int .i64 0, .string ⟨#[]⟩, .int .i64 0] 97 (0, 0)) := by rw [← HW1.out]; exact heap_alloc_last w _
    have hn := newBO w W1 _ (show (body e k (.pr b)).length ≤ 1000000 by omega) hb1 hr1
    clear hb1 hr1
    go_enter Tryz.func138, Tryz.ntmps138
    go_upto_region 1 with fail
    rw [HW1.out]
    clear HW1
    go_wp2_with fail
    refine hn.mono ?_
    rintro e1 w2 ⟨rb, rfl, h2⟩
    have hc := BO.int (l := enc k ++ kb (.pr b)) h2 hie (by rw [List.length_append]; omega)
    clear hn h2
    go_wp2_with fail
    refine hc.mono ?_
    rintro e1 w3 ⟨rfl, h3⟩
    have hc2 := BO.int (l := kb (.pr b)) h3 hik (by omega)
    clear hc h3
    have hc := hc2
    clear hc2
    go_wp2_with fail
    refine hc.mono ?_
    rintro e1 w4 ⟨rfl, h4⟩
    have hc := BO.byte 1 h4 (by have := hkl; simp only [kb, List.length_cons] at this; omega)
    rw [show (((1 : UInt8).toNat : Nat) : Int) = 1 from rfl] at hc
    clear h4
    go_wp2_with fail
    refine hc.mono ?_
    rintro e1 w5 ⟨rfl, h5⟩
    have h6 := h5.two #[.int .i64 1, .int .i64 0, .int .i64 0, .int .i64 0, .string ⟨#[]⟩, .int .i64 0]
    obtain ⟨B9, hB9⟩ : ∃ B9, w5.heap.size = B9 := ⟨_, rfl⟩
    obtain ⟨W6, HW6⟩ : ∃ W6, Hid (w5.alloc (.cells #[.int .i64 1, .int .i64 0, .int .i64 0, .int .i64 0, .string ⟨#[]⟩, .int .i64 0] 97) = W6) := ⟨_, Hid_of rfl⟩
    rw [HW6.out, hB9] at h6
    have H6 := Hid_of h6
    obtain ⟨⟨c0, c1, c2, c3, c4, c5⟩, _⟩ := row6 h6.t9
    clear hc h5 h6
    go_upto_region 5 with fail
    rw [HW6.out]
    try rw [hB9]
    clear HW6
    have hc := BP.ballot b (l := []) (by rw [List.append_nil]; exact H6.out) hr.1 hr.2 (by simp)
    go_wp2_with fail
    refine hc.mono ?_
    rintro e1 w7 ⟨rfl, h7⟩
    obtain ⟨⟨c0, c1, c2, c3, c4, c5⟩, cf⟩ := row6 h7.t9
    have cf2 := cf 2
    have cf3 := cf 3
    have g70 := h7.set (cs' := #[.int .i64 1, .int .i64 0, .int .i64 b.i, .int .i64 0, .string ⟨#[]⟩, .int .i64 0]) 2 (.int .i64 b.i) (heap_setCell_same w7 B9 2 _ _ _ h7.t9)
    have g71 := g70.set (cs' := #[.int .i64 1, .int .i64 0, .int .i64 b.i, .int .i64 b.t, .string ⟨#[]⟩, .int .i64 0]) 3 (.int .i64 b.t) (heap_setCell_same (w7.setCell ⟨B9, 2, none⟩ (.int .i64 b.i)) B9 3 _ _ _ g70.t9)
    obtain ⟨W7, HW7⟩ : ∃ W7, Hid (((w7.setCell ⟨B9, 2, none⟩ (.int .i64 b.i)).setCell ⟨B9, 3, none⟩ (.int .i64 b.t)) = W7) := ⟨_, Hid_of rfl⟩
    rw [HW7.out] at g71
    have H7 := Hid_of g71
    clear hc H6 h7 g70 g71 cf
    go_upto_region 15 with fail
    rw [HW7.out]
    clear HW7 c0 c1 c2 c3 c4 c5 cf2 cf3
    have HD : Hid (Calls Tryz.prog 174 #[ptr rb] W7.drew fun e w' => e = .returned (.int .i64 0) ∧ w' = W7.drew) := BP.done (w := W7.drew) (cs := #[.int .i64 1, .int .i64 0, .int .i64 b.i, .int .i64 b.t, .string ⟨#[]⟩, .int .i64 0]) ⟨⟨H7.out.o.rs, H7.out.o.t6, H7.out.o.bel.drew, H7.out.o.lt⟩, H7.out.t9, H7.out.gt⟩
    have HSI := Hid_of (row6 (w := W7.drew) H7.out.t9).1
    have HT6 := Hid_of (row6 (w := W7) H7.out.o.t6)
    have HFI : Hid ((put6 W7 w.heap.size (.int .i64 1) (.int .i64 0) (.int .i64 b.i) (.int .i64 b.t) (.string ⟨#[]⟩) (.int .i64 0)).drew.heap[w.heap.size]? = some (.cells #[.int .i64 1, .int .i64 0, .int .i64 b.i, .int .i64 b.t, .string ⟨#[]⟩, .int .i64 0] 97 (0, 0))) := drew_row (put6_row (w := W7) H7.out.o.t6 (.int .i64 1) (.int .i64 0) (.int .i64 b.i) (.int .i64 b.t) (.string ⟨#[]⟩) (.int .i64 0))
    have HBE : Hid (Below w.heap.size w (put6 W7 w.heap.size (.int .i64 1) (.int .i64 0) (.int .i64 b.i) (.int .i64 b.t) (.string ⟨#[]⟩) (.int .i64 0)).drew) := (put6_bel H7.out.o.bel (Nat.le_refl _) (.int .i64 1) (.int .i64 0) (.int .i64 b.i) (.int .i64 b.t) (.string ⟨#[]⟩) (.int .i64 0)).drew
    have hr9 : (put6 W7 w.heap.size (.int .i64 1) (.int .i64 0) (.int .i64 b.i) (.int .i64 b.t) (.string ⟨#[]⟩) (.int .i64 0)).drew.heap[B9]? = some (.cells #[.int .i64 1, .int .i64 0, .int .i64 b.i, .int .i64 b.t, .string ⟨#[]⟩, .int .i64 0] 97 (0, 0)) := drew_row ((put6_oth (w := W7) (g := w.heap.size) (k := B9) (by have := H7.out.gt; have := H7.out.o.lt; omega) (.int .i64 1) (.int .i64 0) (.int .i64 b.i) (.int .i64 b.t) (.string ⟨#[]⟩) (.int .i64 0)).trans H7.out.t9)
    have HST := Hid_of (row6 hr9).1
    clear hr9
    clear H7
    refine wp_region_held_drew (S := (fun wq => wq.cell? ⟨B9, 0, none⟩ = some (.int .i64 1) ∧ wq.cell? ⟨B9, 1, none⟩ = some (.int .i64 0) ∧ wq.cell? ⟨B9, 2, none⟩ = some (.int .i64 b.i) ∧ wq.cell? ⟨B9, 3, none⟩ = some (.int .i64 b.t) ∧ wq.cell? ⟨B9, 4, none⟩ = some (.string ⟨#[]⟩) ∧ wq.cell? ⟨B9, 5, none⟩ = some (.int .i64 0))) (by kernel_rfl) HSI.out (fun hHeld => ?_)
    refine wpAnyH_take (i := 0) (oi := ?p0a) (v := ?v0a) ?o0a (by kernel_rfl) (by kernel_rfl) (by kernel_rfl) ?q0a ?y0a hHeld ?r0a
    case o0a => simp only [List.getElem?_toArray, List.getElem?_cons_zero]; rfl
    case q0a => exact fun _ _ _ h => h
    case y0a => (refine Or.inl ⟨rfl, ?_⟩; intro wq hq; obtain ⟨y0, y1, y2, y3, y4, y5⟩ := hq; go_simp; try with_reducible rfl)
    simp only [Act.put, List.setIfInBounds_toArray, List.set_cons_zero, List.set_cons_succ]
    refine wpAnyH_take (i := 1) (oi := ?p1a) (v := ?v1a) ?o1a (by kernel_rfl) (by kernel_rfl) (by kernel_rfl) ?q1a ?y1a hHeld ?r1a
    case o1a => simp only [List.getElem?_toArray, List.getElem?_cons_succ, List.getElem?_cons_zero]; rfl
    case q1a => exact fun _ _ _ h => h
    case y1a => (refine Or.inl ⟨rfl, ?_⟩; intro wq hq; obtain ⟨y0, y1, y2, y3, y4, y5⟩ := hq; go_simp; try with_reducible rfl)
    simp only [Act.put, List.setIfInBounds_toArray, List.set_cons_zero, List.set_cons_succ]
    refine wpAnyH_ready (rs := [2]) (by kernel_rfl) (by simp) ?_
    refine AllReadyH.cons (o := ?p2a) ?o2a ?s2a AllReadyH.nil
    case o2a => simp only [List.getElem?_toArray, List.getElem?_cons_succ, List.getElem?_cons_zero]; rfl
    intro K hK
    go_simp
    refine HD.out.mono ?_
    rintro e v2 ⟨rfl, rfl⟩
    refine hK.out _ _ hHeld (fun hHeld => ?_)
    clear hK K
    refine wpAnyH_take (i := 3) (oi := ?p3a) (v := ?v3a) ?o3a (by kernel_rfl) (by kernel_rfl) (by kernel_rfl) ?q3a ?y3a hHeld ?r3a
    case o3a => simp only [List.getElem?_toArray, List.getElem?_cons_succ, List.getElem?_cons_zero]; rfl
    case q3a => exact fun _ _ _ h => h
    case y3a => (refine Or.inl ⟨rfl, ?_⟩; intro wq hq; obtain ⟨y0, y1, y2, y3, y4, y5⟩ := hq; go_simp; try with_reducible rfl)
    simp only [Act.put, List.setIfInBounds_toArray, List.set_cons_zero, List.set_cons_succ]
    refine wpAnyH_ready (rs := [4]) (by kernel_rfl) (by simp) ?_
    refine AllReadyH.cons (o := ?p4a) ?o4a ?s4a AllReadyH.nil
    case o4a => simp only [List.getElem?_toArray, List.getElem?_cons_succ, List.getElem?_cons_zero]; rfl
    intro K hK
    go_simp
    obtain ⟨⟨z0, z1, z2, z3, z4, z5⟩, zf⟩ := HT6.out
    have zf0 := zf 0
    have zf1 := zf 1
    have zf2 := zf 2
    have zf3 := zf 3
    have zf4 := zf 4
    have zf5 := zf 5
    go_simp
    refine hK.out _ _ HST.out (fun hHeld => ?_)
    clear hK K
    refine wpAnyH_take (i := 5) (oi := ?p5a) (v := ?v5a) ?o5a (by kernel_rfl) (by kernel_rfl) (by kernel_rfl) ?q5a ?y5a hHeld ?r5a
    case o5a => simp only [List.getElem?_toArray, List.getElem?_cons_succ, List.getElem?_cons_zero]; rfl
    case q5a => exact fun _ _ _ h => h
    case y5a => (refine Or.inl ⟨rfl, ?_⟩; intro wq hq; obtain ⟨y0, y1, y2, y3, y4, y5⟩ := hq; go_simp; try with_reducible rfl)
    simp only [Act.put, List.setIfInBounds_toArray, List.set_cons_zero, List.set_cons_succ]
    refine wpAnyH_done (by kernel_rfl) ?_ _
    go_wp2
    refine bodyPost_ret (v := .tuple #[rV (.pr b), .bool true]) ?_ rfl ⟨rfl, HBE.out⟩
    exact res97 f138_res _ _ w.heap.size _ _ _ _ _ _ rfl HFI.out
  | vo v =>
    obtain ⟨W1, HW1⟩ : ∃ W1, Hid (w.alloc (.cells #[.int .i64 0, .int .i64 0, .int .i64 0, .int .i64 0, .string ⟨#[]⟩, .int .i64 0] 97) = W1) := ⟨_, Hid_of rfl⟩
    have hb1 : Below w.heap.size w W1 := by rw [← HW1.out]; exact bel1 w _
    have hr1 : W1.heap[w.heap.size]? = some (.cells #[.int .i64 0, .int .i64 0, .int .i64 0, .int .i64 0, .string ⟨#[]⟩, .int .i64 0] 97 (0, 0)) := by rw [← HW1.out]; exact heap_alloc_last w _
    have hn := newBO w W1 _ (show (body e k (.vo v)).length ≤ 1000000 by omega) hb1 hr1
    clear hb1 hr1
    go_enter Tryz.func138, Tryz.ntmps138
    go_upto_region 1 with fail
    rw [HW1.out]
    clear HW1
    go_wp2_with fail
    refine hn.mono ?_
    rintro e1 w2 ⟨rb, rfl, h2⟩
    have hc := BO.int (l := enc k ++ kb (.vo v)) h2 hie (by rw [List.length_append]; omega)
    clear hn h2
    go_wp2_with fail
    refine hc.mono ?_
    rintro e1 w3 ⟨rfl, h3⟩
    have hc2 := BO.int (l := kb (.vo v)) h3 hik (by omega)
    clear hc h3
    have hc := hc2
    clear hc2
    go_wp2_with fail
    refine hc.mono ?_
    rintro e1 w4 ⟨rfl, h4⟩
    have hc := BO.byte 2 h4 (by have := hkl; simp only [kb, List.length_cons] at this; omega)
    rw [show (((2 : UInt8).toNat : Nat) : Int) = 2 from rfl] at hc
    clear h4
    go_wp2_with fail
    refine hc.mono ?_
    rintro e1 w5 ⟨rfl, h5⟩
    have h6 := h5.two #[.int .i64 2, .int .i64 0, .int .i64 0, .int .i64 0, .string ⟨#[]⟩, .int .i64 0]
    obtain ⟨B9, hB9⟩ : ∃ B9, w5.heap.size = B9 := ⟨_, rfl⟩
    obtain ⟨W6, HW6⟩ : ∃ W6, Hid (w5.alloc (.cells #[.int .i64 2, .int .i64 0, .int .i64 0, .int .i64 0, .string ⟨#[]⟩, .int .i64 0] 97) = W6) := ⟨_, Hid_of rfl⟩
    rw [HW6.out, hB9] at h6
    have H6 := Hid_of h6
    obtain ⟨⟨c0, c1, c2, c3, c4, c5⟩, _⟩ := row6 h6.t9
    clear hc h5 h6
    go_upto_region 5 with fail
    rw [HW6.out]
    try rw [hB9]
    clear HW6
    have hc := BP.int (l := encB v.b ++ encT v.v.data.toList) H6.out hr.1 (by have := hkl; simp only [kb, List.length_cons, List.length_append] at this ⊢; omega)
    go_wp2_with fail
    refine hc.mono ?_
    rintro e1 w7 ⟨rfl, h7⟩
    obtain ⟨⟨c0, c1, c2, c3, c4, c5⟩, cf⟩ := row6 h7.t9
    have cf1 := cf 1
    have g70 := h7.set (cs' := #[.int .i64 2, .int .i64 v.s, .int .i64 0, .int .i64 0, .string ⟨#[]⟩, .int .i64 0]) 1 (.int .i64 v.s) (heap_setCell_same w7 B9 1 _ _ _ h7.t9)
    obtain ⟨W7, HW7⟩ : ∃ W7, Hid ((w7.setCell ⟨B9, 1, none⟩ (.int .i64 v.s)) = W7) := ⟨_, Hid_of rfl⟩
    rw [HW7.out] at g70
    have H7 := Hid_of g70
    clear hc H6 h7 g70 cf
    go_upto_region 11 with fail
    rw [HW7.out]
    clear HW7 c0 c1 c2 c3 c4 c5 cf1
    have hc := BP.ballot v.b (l := encT v.v.data.toList) H7.out hr.2.1 hr.2.2.1 (by have := hkl; simp only [kb, List.length_cons, List.length_append] at this ⊢; omega)
    go_wp2_with fail
    refine hc.mono ?_
    rintro e1 w8 ⟨rfl, h8⟩
    obtain ⟨⟨c0, c1, c2, c3, c4, c5⟩, cf⟩ := row6 h8.t9
    have cf2 := cf 2
    have cf3 := cf 3
    have g80 := h8.set (cs' := #[.int .i64 2, .int .i64 v.s, .int .i64 v.b.i, .int .i64 0, .string ⟨#[]⟩, .int .i64 0]) 2 (.int .i64 v.b.i) (heap_setCell_same w8 B9 2 _ _ _ h8.t9)
    have g81 := g80.set (cs' := #[.int .i64 2, .int .i64 v.s, .int .i64 v.b.i, .int .i64 v.b.t, .string ⟨#[]⟩, .int .i64 0]) 3 (.int .i64 v.b.t) (heap_setCell_same (w8.setCell ⟨B9, 2, none⟩ (.int .i64 v.b.i)) B9 3 _ _ _ g80.t9)
    obtain ⟨W8, HW8⟩ : ∃ W8, Hid (((w8.setCell ⟨B9, 2, none⟩ (.int .i64 v.b.i)).setCell ⟨B9, 3, none⟩ (.int .i64 v.b.t)) = W8) := ⟨_, Hid_of rfl⟩
    rw [HW8.out] at g81
    have H8 := Hid_of g81
    clear hc H7 h8 g80 g81 cf
    go_upto_region 12 with fail
    rw [HW8.out]
    clear HW8 c0 c1 c2 c3 c4 c5 cf2 cf3
    have hc := BP.text v.v.data.toList (l := []) (by rw [List.append_nil]; exact H8.out) (by have : v.v.data.toList.length ≤ 4096 := hr.2.2.2; omega) (by simp)
    rw [Ns.M.ofL_of] at hc
    go_wp2_with fail
    refine hc.mono ?_
    rintro e1 w9 ⟨rfl, h9⟩
    obtain ⟨⟨c0, c1, c2, c3, c4, c5⟩, cf⟩ := row6 h9.t9
    have cf4 := cf 4
    have g90 := h9.set (cs' := #[.int .i64 2, .int .i64 v.s, .int .i64 v.b.i, .int .i64 v.b.t, .string v.v, .int .i64 0]) 4 (.string v.v) (heap_setCell_same w9 B9 4 _ _ _ h9.t9)
    obtain ⟨W9, HW9⟩ : ∃ W9, Hid ((w9.setCell ⟨B9, 4, none⟩ (.string v.v)) = W9) := ⟨_, Hid_of rfl⟩
    rw [HW9.out] at g90
    have H9 := Hid_of g90
    clear hc H8 h9 g90 cf
    go_upto_region 15 with fail
    rw [HW9.out]
    clear HW9 c0 c1 c2 c3 c4 c5 cf4
    have HD : Hid (Calls Tryz.prog 174 #[ptr rb] W9.drew fun e w' => e = .returned (.int .i64 0) ∧ w' = W9.drew) := BP.done (w := W9.drew) (cs := #[.int .i64 2, .int .i64 v.s, .int .i64 v.b.i, .int .i64 v.b.t, .string v.v, .int .i64 0]) ⟨⟨H9.out.o.rs, H9.out.o.t6, H9.out.o.bel.drew, H9.out.o.lt⟩, H9.out.t9, H9.out.gt⟩
    have HSI := Hid_of (row6 (w := W9.drew) H9.out.t9).1
    have HT6 := Hid_of (row6 (w := W9) H9.out.o.t6)
    have HFI : Hid ((put6 W9 w.heap.size (.int .i64 2) (.int .i64 v.s) (.int .i64 v.b.i) (.int .i64 v.b.t) (.string v.v) (.int .i64 0)).drew.heap[w.heap.size]? = some (.cells #[.int .i64 2, .int .i64 v.s, .int .i64 v.b.i, .int .i64 v.b.t, .string v.v, .int .i64 0] 97 (0, 0))) := drew_row (put6_row (w := W9) H9.out.o.t6 (.int .i64 2) (.int .i64 v.s) (.int .i64 v.b.i) (.int .i64 v.b.t) (.string v.v) (.int .i64 0))
    have HBE : Hid (Below w.heap.size w (put6 W9 w.heap.size (.int .i64 2) (.int .i64 v.s) (.int .i64 v.b.i) (.int .i64 v.b.t) (.string v.v) (.int .i64 0)).drew) := (put6_bel H9.out.o.bel (Nat.le_refl _) (.int .i64 2) (.int .i64 v.s) (.int .i64 v.b.i) (.int .i64 v.b.t) (.string v.v) (.int .i64 0)).drew
    have hr9 : (put6 W9 w.heap.size (.int .i64 2) (.int .i64 v.s) (.int .i64 v.b.i) (.int .i64 v.b.t) (.string v.v) (.int .i64 0)).drew.heap[B9]? = some (.cells #[.int .i64 2, .int .i64 v.s, .int .i64 v.b.i, .int .i64 v.b.t, .string v.v, .int .i64 0] 97 (0, 0)) := drew_row ((put6_oth (w := W9) (g := w.heap.size) (k := B9) (by have := H9.out.gt; have := H9.out.o.lt; omega) (.int .i64 2) (.int .i64 v.s) (.int .i64 v.b.i) (.int .i64 v.b.t) (.string v.v) (.int .i64 0)).trans H9.out.t9)
    have HST := Hid_of (row6 hr9).1
    clear hr9
    clear H9
    refine wp_region_held_drew (S := (fun wq => wq.cell? ⟨B9, 0, none⟩ = some (.int .i64 2) ∧ wq.cell? ⟨B9, 1, none⟩ = some (.int .i64 v.s) ∧ wq.cell? ⟨B9, 2, none⟩ = some (.int .i64 v.b.i) ∧ wq.cell? ⟨B9, 3, none⟩ = some (.int .i64 v.b.t) ∧ wq.cell? ⟨B9, 4, none⟩ = some (.string v.v) ∧ wq.cell? ⟨B9, 5, none⟩ = some (.int .i64 0))) (by kernel_rfl) HSI.out (fun hHeld => ?_)
    refine wpAnyH_take (i := 0) (oi := ?p0b) (v := ?v0b) ?o0b (by kernel_rfl) (by kernel_rfl) (by kernel_rfl) ?q0b ?y0b hHeld ?r0b
    case o0b => simp only [List.getElem?_toArray, List.getElem?_cons_zero]; rfl
    case q0b => exact fun _ _ _ h => h
    case y0b => (refine Or.inl ⟨rfl, ?_⟩; intro wq hq; obtain ⟨y0, y1, y2, y3, y4, y5⟩ := hq; go_simp; try with_reducible rfl)
    simp only [Act.put, List.setIfInBounds_toArray, List.set_cons_zero, List.set_cons_succ]
    refine wpAnyH_take (i := 1) (oi := ?p1b) (v := ?v1b) ?o1b (by kernel_rfl) (by kernel_rfl) (by kernel_rfl) ?q1b ?y1b hHeld ?r1b
    case o1b => simp only [List.getElem?_toArray, List.getElem?_cons_succ, List.getElem?_cons_zero]; rfl
    case q1b => exact fun _ _ _ h => h
    case y1b => (refine Or.inl ⟨rfl, ?_⟩; intro wq hq; obtain ⟨y0, y1, y2, y3, y4, y5⟩ := hq; go_simp; try with_reducible rfl)
    simp only [Act.put, List.setIfInBounds_toArray, List.set_cons_zero, List.set_cons_succ]
    refine wpAnyH_ready (rs := [2]) (by kernel_rfl) (by simp) ?_
    refine AllReadyH.cons (o := ?p2b) ?o2b ?s2b AllReadyH.nil
    case o2b => simp only [List.getElem?_toArray, List.getElem?_cons_succ, List.getElem?_cons_zero]; rfl
    intro K hK
    go_simp
    refine HD.out.mono ?_
    rintro e v2 ⟨rfl, rfl⟩
    refine hK.out _ _ hHeld (fun hHeld => ?_)
    clear hK K
    refine wpAnyH_take (i := 3) (oi := ?p3b) (v := ?v3b) ?o3b (by kernel_rfl) (by kernel_rfl) (by kernel_rfl) ?q3b ?y3b hHeld ?r3b
    case o3b => simp only [List.getElem?_toArray, List.getElem?_cons_succ, List.getElem?_cons_zero]; rfl
    case q3b => exact fun _ _ _ h => h
    case y3b => (refine Or.inl ⟨rfl, ?_⟩; intro wq hq; obtain ⟨y0, y1, y2, y3, y4, y5⟩ := hq; go_simp; try with_reducible rfl)
    simp only [Act.put, List.setIfInBounds_toArray, List.set_cons_zero, List.set_cons_succ]
    refine wpAnyH_ready (rs := [4]) (by kernel_rfl) (by simp) ?_
    refine AllReadyH.cons (o := ?p4b) ?o4b ?s4b AllReadyH.nil
    case o4b => simp only [List.getElem?_toArray, List.getElem?_cons_succ, List.getElem?_cons_zero]; rfl
    intro K hK
    go_simp
    obtain ⟨⟨z0, z1, z2, z3, z4, z5⟩, zf⟩ := HT6.out
    have zf0 := zf 0
    have zf1 := zf 1
    have zf2 := zf 2
    have zf3 := zf 3
    have zf4 := zf 4
    have zf5 := zf 5
    go_simp
    refine hK.out _ _ HST.out (fun hHeld => ?_)
    clear hK K
    refine wpAnyH_take (i := 5) (oi := ?p5b) (v := ?v5b) ?o5b (by kernel_rfl) (by kernel_rfl) (by kernel_rfl) ?q5b ?y5b hHeld ?r5b
    case o5b => simp only [List.getElem?_toArray, List.getElem?_cons_succ, List.getElem?_cons_zero]; rfl
    case q5b => exact fun _ _ _ h => h
    case y5b => (refine Or.inl ⟨rfl, ?_⟩; intro wq hq; obtain ⟨y0, y1, y2, y3, y4, y5⟩ := hq; go_simp; try with_reducible rfl)
    simp only [Act.put, List.setIfInBounds_toArray, List.set_cons_zero, List.set_cons_succ]
    refine wpAnyH_done (by kernel_rfl) ?_ _
    go_wp2
    refine bodyPost_ret (v := .tuple #[rV (.vo v), .bool true]) ?_ rfl ⟨rfl, HBE.out⟩
    exact res97 f138_res _ _ w.heap.size _ _ _ _ _ _ rfl HFI.out
  | tr u =>
    obtain ⟨W1, HW1⟩ : ∃ W1, Hid (w.alloc (.cells #[.int .i64 0, .int .i64 0, .int .i64 0, .int .i64 0, .string ⟨#[]⟩, .int .i64 0] 97) = W1) := ⟨_, Hid_of rfl⟩
    have hb1 : Below w.heap.size w W1 := by rw [← HW1.out]; exact bel1 w _
    have hr1 : W1.heap[w.heap.size]? = some (.cells #[.int .i64 0, .int .i64 0, .int .i64 0, .int .i64 0, .string ⟨#[]⟩, .int .i64 0] 97 (0, 0)) := by rw [← HW1.out]; exact heap_alloc_last w _
    have hn := newBO w W1 _ (show (body e k (.tr u)).length ≤ 1000000 by omega) hb1 hr1
    clear hb1 hr1
    go_enter Tryz.func138, Tryz.ntmps138
    go_upto_region 1 with fail
    rw [HW1.out]
    clear HW1
    go_wp2_with fail
    refine hn.mono ?_
    rintro e1 w2 ⟨rb, rfl, h2⟩
    have hc := BO.int (l := enc k ++ kb (.tr u)) h2 hie (by rw [List.length_append]; omega)
    clear hn h2
    go_wp2_with fail
    refine hc.mono ?_
    rintro e1 w3 ⟨rfl, h3⟩
    have hc2 := BO.int (l := kb (.tr u)) h3 hik (by omega)
    clear hc h3
    have hc := hc2
    clear hc2
    go_wp2_with fail
    refine hc.mono ?_
    rintro e1 w4 ⟨rfl, h4⟩
    have hc := BO.byte 3 h4 (by have := hkl; simp only [kb, List.length_cons] at this; omega)
    rw [show (((3 : UInt8).toNat : Nat) : Int) = 3 from rfl] at hc
    clear h4
    go_wp2_with fail
    refine hc.mono ?_
    rintro e1 w5 ⟨rfl, h5⟩
    have h6 := h5.two #[.int .i64 3, .int .i64 0, .int .i64 0, .int .i64 0, .string ⟨#[]⟩, .int .i64 0]
    obtain ⟨B9, hB9⟩ : ∃ B9, w5.heap.size = B9 := ⟨_, rfl⟩
    obtain ⟨W6, HW6⟩ : ∃ W6, Hid (w5.alloc (.cells #[.int .i64 3, .int .i64 0, .int .i64 0, .int .i64 0, .string ⟨#[]⟩, .int .i64 0] 97) = W6) := ⟨_, Hid_of rfl⟩
    rw [HW6.out, hB9] at h6
    have H6 := Hid_of h6
    obtain ⟨⟨c0, c1, c2, c3, c4, c5⟩, _⟩ := row6 h6.t9
    clear hc h5 h6
    go_upto_region 5 with fail
    rw [HW6.out]
    try rw [hB9]
    clear HW6
    have hc := BP.int (l := []) (by rw [List.append_nil]; exact H6.out) hr (by simp)
    go_wp2_with fail
    refine hc.mono ?_
    rintro e1 w7 ⟨rfl, h7⟩
    obtain ⟨⟨c0, c1, c2, c3, c4, c5⟩, cf⟩ := row6 h7.t9
    have cf5 := cf 5
    have g70 := h7.set (cs' := #[.int .i64 3, .int .i64 0, .int .i64 0, .int .i64 0, .string ⟨#[]⟩, .int .i64 u]) 5 (.int .i64 u) (heap_setCell_same w7 B9 5 _ _ _ h7.t9)
    obtain ⟨W7, HW7⟩ : ∃ W7, Hid ((w7.setCell ⟨B9, 5, none⟩ (.int .i64 u)) = W7) := ⟨_, Hid_of rfl⟩
    rw [HW7.out] at g70
    have H7 := Hid_of g70
    clear hc H6 h7 g70 cf
    go_upto_region 15 with fail
    rw [HW7.out]
    clear HW7 c0 c1 c2 c3 c4 c5 cf5
    have HD : Hid (Calls Tryz.prog 174 #[ptr rb] W7.drew fun e w' => e = .returned (.int .i64 0) ∧ w' = W7.drew) := BP.done (w := W7.drew) (cs := #[.int .i64 3, .int .i64 0, .int .i64 0, .int .i64 0, .string ⟨#[]⟩, .int .i64 u]) ⟨⟨H7.out.o.rs, H7.out.o.t6, H7.out.o.bel.drew, H7.out.o.lt⟩, H7.out.t9, H7.out.gt⟩
    have HSI := Hid_of (row6 (w := W7.drew) H7.out.t9).1
    have HT6 := Hid_of (row6 (w := W7) H7.out.o.t6)
    have HFI : Hid ((put6 W7 w.heap.size (.int .i64 3) (.int .i64 0) (.int .i64 0) (.int .i64 0) (.string ⟨#[]⟩) (.int .i64 u)).drew.heap[w.heap.size]? = some (.cells #[.int .i64 3, .int .i64 0, .int .i64 0, .int .i64 0, .string ⟨#[]⟩, .int .i64 u] 97 (0, 0))) := drew_row (put6_row (w := W7) H7.out.o.t6 (.int .i64 3) (.int .i64 0) (.int .i64 0) (.int .i64 0) (.string ⟨#[]⟩) (.int .i64 u))
    have HBE : Hid (Below w.heap.size w (put6 W7 w.heap.size (.int .i64 3) (.int .i64 0) (.int .i64 0) (.int .i64 0) (.string ⟨#[]⟩) (.int .i64 u)).drew) := (put6_bel H7.out.o.bel (Nat.le_refl _) (.int .i64 3) (.int .i64 0) (.int .i64 0) (.int .i64 0) (.string ⟨#[]⟩) (.int .i64 u)).drew
    have hr9 : (put6 W7 w.heap.size (.int .i64 3) (.int .i64 0) (.int .i64 0) (.int .i64 0) (.string ⟨#[]⟩) (.int .i64 u)).drew.heap[B9]? = some (.cells #[.int .i64 3, .int .i64 0, .int .i64 0, .int .i64 0, .string ⟨#[]⟩, .int .i64 u] 97 (0, 0)) := drew_row ((put6_oth (w := W7) (g := w.heap.size) (k := B9) (by have := H7.out.gt; have := H7.out.o.lt; omega) (.int .i64 3) (.int .i64 0) (.int .i64 0) (.int .i64 0) (.string ⟨#[]⟩) (.int .i64 u)).trans H7.out.t9)
    have HST := Hid_of (row6 hr9).1
    clear hr9
    clear H7
    refine wp_region_held_drew (S := (fun wq => wq.cell? ⟨B9, 0, none⟩ = some (.int .i64 3) ∧ wq.cell? ⟨B9, 1, none⟩ = some (.int .i64 0) ∧ wq.cell? ⟨B9, 2, none⟩ = some (.int .i64 0) ∧ wq.cell? ⟨B9, 3, none⟩ = some (.int .i64 0) ∧ wq.cell? ⟨B9, 4, none⟩ = some (.string ⟨#[]⟩) ∧ wq.cell? ⟨B9, 5, none⟩ = some (.int .i64 u))) (by kernel_rfl) HSI.out (fun hHeld => ?_)
    refine wpAnyH_take (i := 0) (oi := ?p0c) (v := ?v0c) ?o0c (by kernel_rfl) (by kernel_rfl) (by kernel_rfl) ?q0c ?y0c hHeld ?r0c
    case o0c => simp only [List.getElem?_toArray, List.getElem?_cons_zero]; rfl
    case q0c => exact fun _ _ _ h => h
    case y0c => (refine Or.inl ⟨rfl, ?_⟩; intro wq hq; obtain ⟨y0, y1, y2, y3, y4, y5⟩ := hq; go_simp; try with_reducible rfl)
    simp only [Act.put, List.setIfInBounds_toArray, List.set_cons_zero, List.set_cons_succ]
    refine wpAnyH_take (i := 1) (oi := ?p1c) (v := ?v1c) ?o1c (by kernel_rfl) (by kernel_rfl) (by kernel_rfl) ?q1c ?y1c hHeld ?r1c
    case o1c => simp only [List.getElem?_toArray, List.getElem?_cons_succ, List.getElem?_cons_zero]; rfl
    case q1c => exact fun _ _ _ h => h
    case y1c => (refine Or.inl ⟨rfl, ?_⟩; intro wq hq; obtain ⟨y0, y1, y2, y3, y4, y5⟩ := hq; go_simp; try with_reducible rfl)
    simp only [Act.put, List.setIfInBounds_toArray, List.set_cons_zero, List.set_cons_succ]
    refine wpAnyH_ready (rs := [2]) (by kernel_rfl) (by simp) ?_
    refine AllReadyH.cons (o := ?p2c) ?o2c ?s2c AllReadyH.nil
    case o2c => simp only [List.getElem?_toArray, List.getElem?_cons_succ, List.getElem?_cons_zero]; rfl
    intro K hK
    go_simp
    refine HD.out.mono ?_
    rintro e v2 ⟨rfl, rfl⟩
    refine hK.out _ _ hHeld (fun hHeld => ?_)
    clear hK K
    refine wpAnyH_take (i := 3) (oi := ?p3c) (v := ?v3c) ?o3c (by kernel_rfl) (by kernel_rfl) (by kernel_rfl) ?q3c ?y3c hHeld ?r3c
    case o3c => simp only [List.getElem?_toArray, List.getElem?_cons_succ, List.getElem?_cons_zero]; rfl
    case q3c => exact fun _ _ _ h => h
    case y3c => (refine Or.inl ⟨rfl, ?_⟩; intro wq hq; obtain ⟨y0, y1, y2, y3, y4, y5⟩ := hq; go_simp; try with_reducible rfl)
    simp only [Act.put, List.setIfInBounds_toArray, List.set_cons_zero, List.set_cons_succ]
    refine wpAnyH_ready (rs := [4]) (by kernel_rfl) (by simp) ?_
    refine AllReadyH.cons (o := ?p4c) ?o4c ?s4c AllReadyH.nil
    case o4c => simp only [List.getElem?_toArray, List.getElem?_cons_succ, List.getElem?_cons_zero]; rfl
    intro K hK
    go_simp
    obtain ⟨⟨z0, z1, z2, z3, z4, z5⟩, zf⟩ := HT6.out
    have zf0 := zf 0
    have zf1 := zf 1
    have zf2 := zf 2
    have zf3 := zf 3
    have zf4 := zf 4
    have zf5 := zf 5
    go_simp
    refine hK.out _ _ HST.out (fun hHeld => ?_)
    clear hK K
    refine wpAnyH_take (i := 5) (oi := ?p5c) (v := ?v5c) ?o5c (by kernel_rfl) (by kernel_rfl) (by kernel_rfl) ?q5c ?y5c hHeld ?r5c
    case o5c => simp only [List.getElem?_toArray, List.getElem?_cons_succ, List.getElem?_cons_zero]; rfl
    case q5c => exact fun _ _ _ h => h
    case y5c => (refine Or.inl ⟨rfl, ?_⟩; intro wq hq; obtain ⟨y0, y1, y2, y3, y4, y5⟩ := hq; go_simp; try with_reducible rfl)
    simp only [Act.put, List.setIfInBounds_toArray, List.set_cons_zero, List.set_cons_succ]
    refine wpAnyH_done (by kernel_rfl) ?_ _
    go_wp2
    refine bodyPost_ret (v := .tuple #[rV (.tr u), .bool true]) ?_ rfl ⟨rfl, HBE.out⟩
    exact res97 f138_res _ _ w.heap.size _ _ _ _ _ _ rfl HFI.out
end Go.Proofs.YtlnedgjikkhplaaGreat.Du
