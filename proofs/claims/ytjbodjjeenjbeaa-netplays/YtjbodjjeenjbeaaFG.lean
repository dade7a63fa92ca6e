/-
  A message's bytes, as the document has them.
-/
import Derived.Test.YtjbodjjeenjbeaaFE
import Derived.Test.YtjbodjjeenjbeaaFB
namespace Go.Proofs.Ytjbodjjeenjbeaa
open Go.RowKit
set_option linter.unusedVariables false

theorem encode_any (k f t i : Int) (b : List UInt8) (w : World) (hb : b.length ≤ maxLen) :
    Calls Try.prog 27 #[.agg #[.int .i64 k, .int .i64 f, .int .i64 t, .int .i64 i, .string (ofL b)]] w fun e w' => e = .returned (.tuple #[.string (ofL (Msg.ecode k f t i b)), .int .i64 (Msg.chk k f t i b.length)]) ∧ Below w.heap.size w w' := by
  by_cases hc : Msg.chk k f t i b.length = 0
  · have he : Msg.ecode k f t i b = K2.sealed (Msg.bts k f t i b) := by unfold Msg.ecode; rw [decide_eq_true hc]; rfl
    rw [he]
    have := encode_ok k f t i b w hc
    rw [hc]
    exact this
  · exact encode_bad k f t i b w hb hc
set_option maxRecDepth 100000 in
set_option maxHeartbeats 400000 in
theorem refEncode_bad (k f t i : Int) (b : List UInt8) (w : World) (hb : b.length ≤ maxLen) (hc : Msg.chk k f t i b.length ≠ 0) :
    Calls Try.prog 24 #[.agg #[.int .i64 k, .int .i64 f, .int .i64 t, .int .i64 i, .string (ofL b)]] w fun e w' => e = .returned (.tuple #[.string (ofL (Msg.ecode k f t i b)), .int .i64 (Msg.chk k f t i b.length)]) ∧ Below w.heap.size w w' := by
  have HB := Hid_of (bel1 w (.cells #[.int .i64 k, .int .i64 f, .int .i64 t, .int .i64 i, .string (ofL b)] 33))
  have HE : Hid (Msg.ecode k f t i b = []) := Hid_of (show Msg.ecode k f t i b = [] by unfold Msg.ecode; rw [decide_eq_false hc]; rfl)
  have cc := refCheck_any k f t i (ofL b) (w.alloc (.cells #[.int .i64 k, .int .i64 f, .int .i64 t, .int .i64 i, .string (ofL b)] 33)) (by rw [ofL_size]; exact hb)
  rw [ofL_size] at cc
  have d1 : (Msg.chk k f t i b.length != 0) = true := by simpa using hc
  generalize Msg.chk k f t i b.length = c at *
  clear hc
  go_enter Try.func24, Try.ntmps24
  go_wp2_with fail
  refine cc.mono ?_
  rintro x w1 ⟨rfl, hb1⟩
  have HB1 := Hid_of (bel_up HB.out hb1 (Nat.le_refl _))
  clear cc hb1
  go_wp2
  go_ret2
  rw [HE.out]
  exact ⟨rfl, HB1.out⟩
theorem refSeal_list (l : List UInt8) (w : World) (hl : l.length ≤ 140737488351232) : Calls Try.prog 42 #[.string (ofL l)] w fun e w' => e = .returned (.string (ofL (K2.sealed l))) ∧ Below w.heap.size w w' := by
  have := refSeal_any (ofL l) w (by rw [ofL_size]; exact hl)
  rwa [ofL_data] at this
theorem wrap8 (k : Int) (h : 0 ≤ k ∧ k ≤ 255) : IntKind.u8.wrap k = k := by
  simp [IntKind.wrap, IntKind.bits, IntKind.signed]
  omega
/-- Three bytes in memory, made a text. -/
theorem conv3 {W : World} {g : Nat} {k f t : Int} (h : W.heap[g]? = some (.cells #[.int .u8 (IntKind.u8.wrap k), .int .u8 (IntKind.u8.wrap f), .int .u8 (IntKind.u8.wrap t)] 5 (0, 0))) (hk : 0 ≤ k ∧ k ≤ 255) (hf : 0 ≤ f ∧ f ≤ 255) (ht : 0 ≤ t ∧ t ≤ 255) :
    (Go.convert 84 9 (.slice (some ⟨g, 0, none⟩) 3 3)).run Try.prog W = .ok (.string (ofL [Msg.u8 k, Msg.u8 f, Msg.u8 t])) W := by
  have e1 : IntKind.u8.wrap k = ((Msg.u8 k).toNat : Int) := by rw [Msg.u8_nat k hk]; exact wrap8 k hk
  have e2 : IntKind.u8.wrap f = ((Msg.u8 f).toNat : Int) := by rw [Msg.u8_nat f hf]; exact wrap8 f hf
  have e3 : IntKind.u8.wrap t = ((Msg.u8 t).toNat : Int) := by rw [Msg.u8_nat t ht]; exact wrap8 t ht
  rw [e1, e2, e3] at h
  refine run_convert_bytes_back _ 84 9 5 ⟨g, 0, none⟩ 3 [Msg.u8 k, Msg.u8 f, Msg.u8 t] Try.underlying84 Try.underlying5 Try.underlying9 fun j hj => ?_
  rw [show ((⟨g, 0, none⟩ : Addr).add j) = ⟨g, j, none⟩ by unfold Addr.add; split <;> simp_all]
  rw [cell_of_row W g _ _ _ _ h]
  match j, hj with
  | 0, _ => rfl
  | 1, _ => rfl
  | 2, _ => rfl
set_option maxRecDepth 100000 in
set_option maxHeartbeats 1000000 in
theorem refEncode_ok (k f t i : Int) (s : List UInt8) (w : World) (hc : Msg.chk k f t i s.length = 0) :
    Calls Try.prog 24 #[.agg #[.int .i64 k, .int .i64 f, .int .i64 t, .int .i64 i, .string (ofL s)]] w fun e w' => e = .returned (.tuple #[.string (ofL (K2.sealed (Msg.bts k f t i s))), .int .i64 0]) ∧ Below w.heap.size w w' := by
  obtain ⟨hf, hs⟩ := (Msg.chk_zero _ _ _ _ _).1 hc
  obtain ⟨h1, h2, h3, h4⟩ := (Msg.fits_iff _ _ _ _).1 hf
  have HBL := Hid_of (Msg.bts_len k f t i s h4 hs)
  have hB0 := bel1 w (.cells #[.int .i64 k, .int .i64 f, .int .i64 t, .int .i64 i, .string (ofL s)] 33)
  have HB := Hid_of hB0
  have cc := refCheck_any k f t i (ofL s) (w.alloc (.cells #[.int .i64 k, .int .i64 f, .int .i64 t, .int .i64 i, .string (ofL s)] 33)) (by rw [ofL_size]; unfold maxLen; omega)
  rw [ofL_size, hc] at cc
  have HR0 := Hid_of (heap_alloc_new w (.cells #[.int .i64 k, .int .i64 f, .int .i64 t, .int .i64 i, .string (ofL s)] 33))
  have c13 := fun W => refInt_any i W (by omega)
  have c17 := fun W => refText_any s W (by omega)
  have c19 := fun W => refSeal_list (Msg.bts k f t i s) W (by have := HBL.out; omega)
  have HC3 := Hid_of (fun W g h => conv3 (W := W) (g := g) (k := k) (f := f) (t := t) h (by omega) (by omega) (by omega))
  have hA : (ofL [Msg.u8 k, Msg.u8 f, Msg.u8 t]).size = 3 := by rw [ofL_size]; rfl
  have hE := M.enc_ten i (by omega)
  rw [← ofL_size] at hE
  have hT : (ofL (M.encT s)).size ≤ 4119 := by rw [ofL_size]; exact Msg.text_len s hs
  have HSUM : Hid (ofL [Msg.u8 k, Msg.u8 f, Msg.u8 t] ++ ofL (M.enc i) ++ ofL (M.encT s) = ofL (Msg.bts k f t i s)) := Hid_of (show _ = _ by rw [ofL_app, ofL_app]; rfl)
  generalize ofL [Msg.u8 k, Msg.u8 f, Msg.u8 t] = A3 at *
  generalize ofL (M.enc i) = E3 at *
  generalize ofL (M.encT s) = T3 at *
  have hx1 : (9223372036854775807 < 3 + E3.size) = False := by simp; omega
  have hx2 : (9223372036854775807 < 3 + E3.size + T3.size) = False := by simp; omega
  clear hc hf hB0 h1 h2 h3 h4
  go_enter Try.func24, Try.ntmps24
  go_wp2_with fail
  refine cc.mono ?_
  rintro x w1 ⟨rfl, hb1⟩
  have HB1 := Hid_of (bel_up HB.out hb1 (Nat.le_refl _))
  have HR1 := Hid_of (bel_row HR0.out hb1)
  clear cc hb1 HB HR0
  go_wp2_with fail
  refine wp_region_held_drew (S := fun wq => wq.cell? ⟨w.heap.size, 0, none⟩ = some (.int .i64 k) ∧ wq.cell? ⟨w.heap.size, 1, none⟩ = some (.int .i64 f) ∧ wq.cell? ⟨w.heap.size, 2, none⟩ = some (.int .i64 t) ∧ wq.cell? ⟨w.heap.size, 3, none⟩ = some (.int .i64 i) ∧ wq.cell? ⟨w.heap.size, 4, none⟩ = some (.string (ofL s))) (by kernel_rfl) (row5 HR1.out).1 (fun hHeld => ?_)
  obtain ⟨wd, hwd⟩ : ∃ wd, w1.drew = wd := ⟨_, rfl⟩
  rw [hwd] at hHeld ⊢
  have HBd := Hid_of (show Below w.heap.size w wd by rw [← hwd]; exact Below.drew HB1.out)
  have HRd := Hid_of (show wd.heap[w.heap.size]? = some (.cells #[.int .i64 k, .int .i64 f, .int .i64 t, .int .i64 i, .string (ofL s)] 33 (0, 0)) by rw [← hwd]; exact HR1.out)
  clear hwd HB1 HR1
  refine wpAnyH_take (i := 0) (oi := ?p0x1) (v := ?v0x1) ?o0x1 (by kernel_rfl) (by kernel_rfl) (by kernel_rfl) ?q0x1 ?y0x1 hHeld ?r0x1
  case o0x1 => (simp only [List.getElem?_toArray, List.getElem?_cons_zero]; try rfl)
  case q0x1 => exact fun _ _ _ h => h
  case y0x1 => (refine Or.inl ⟨rfl, ?_⟩; intro wq hq; obtain ⟨q0, q1, q2, q3, q4⟩ := hq; go_simp; try with_reducible rfl)
  simp only [Act.put, List.setIfInBounds_toArray, List.set_cons_zero, List.set_cons_succ]
  refine wpAnyH_take (i := 1) (oi := ?p1x2) (v := ?v1x2) ?o1x2 (by kernel_rfl) (by kernel_rfl) (by kernel_rfl) ?q1x2 ?y1x2 hHeld ?r1x2
  case o1x2 => (simp only [List.getElem?_toArray, List.getElem?_cons_succ, List.getElem?_cons_zero]; try rfl)
  case q1x2 => exact fun _ _ _ h => h
  case y1x2 => (refine Or.inl ⟨rfl, ?_⟩; intro wq hq; obtain ⟨q0, q1, q2, q3, q4⟩ := hq; go_simp; try with_reducible rfl)
  simp only [Act.put, List.setIfInBounds_toArray, List.set_cons_zero, List.set_cons_succ]
  refine wpAnyH_take (i := 2) (oi := ?p2x3) (v := ?v2x3) ?o2x3 (by kernel_rfl) (by kernel_rfl) (by kernel_rfl) ?q2x3 ?y2x3 hHeld ?r2x3
  case o2x3 => (simp only [List.getElem?_toArray, List.getElem?_cons_succ, List.getElem?_cons_zero]; try rfl)
  case q2x3 => exact fun _ _ _ h => h
  case y2x3 => (refine Or.inl ⟨rfl, ?_⟩; intro wq hq; obtain ⟨q0, q1, q2, q3, q4⟩ := hq; go_simp; try with_reducible rfl)
  simp only [Act.put, List.setIfInBounds_toArray, List.set_cons_zero, List.set_cons_succ]
  refine wpAnyH_take (i := 3) (oi := ?p3x4) (v := ?v3x4) ?o3x4 (by kernel_rfl) (by kernel_rfl) (by kernel_rfl) ?q3x4 ?y3x4 hHeld ?r3x4
  case o3x4 => (simp only [List.getElem?_toArray, List.getElem?_cons_succ, List.getElem?_cons_zero]; try rfl)
  case q3x4 => exact fun _ _ _ h => h
  case y3x4 => (refine Or.inl ⟨rfl, ?_⟩; intro wq hq; obtain ⟨q0, q1, q2, q3, q4⟩ := hq; go_simp; try with_reducible rfl)
  simp only [Act.put, List.setIfInBounds_toArray, List.set_cons_zero, List.set_cons_succ]
  refine wpAnyH_take (i := 4) (oi := ?p4x5) (v := ?v4x5) ?o4x5 (by kernel_rfl) (by kernel_rfl) (by kernel_rfl) ?q4x5 ?y4x5 hHeld ?r4x5
  case o4x5 => (simp only [List.getElem?_toArray, List.getElem?_cons_succ, List.getElem?_cons_zero]; try rfl)
  case q4x5 => exact fun _ _ _ h => h
  case y4x5 => (refine Or.inl ⟨rfl, ?_⟩; intro wq hq; obtain ⟨q0, q1, q2, q3, q4⟩ := hq; go_simp; try with_reducible rfl)
  simp only [Act.put, List.setIfInBounds_toArray, List.set_cons_zero, List.set_cons_succ]
  refine wpAnyH_take (i := 5) (oi := ?p5x6) (v := ?v5x6) ?o5x6 (by kernel_rfl) (by kernel_rfl) (by kernel_rfl) ?q5x6 ?y5x6 hHeld ?r5x6
  case o5x6 => (simp only [List.getElem?_toArray, List.getElem?_cons_succ, List.getElem?_cons_zero]; try rfl)
  case q5x6 => exact fun _ _ _ h => h
  case y5x6 => (refine Or.inl ⟨rfl, ?_⟩; intro wq hq; obtain ⟨q0, q1, q2, q3, q4⟩ := hq; go_simp; try with_reducible rfl)
  simp only [Act.put, List.setIfInBounds_toArray, List.set_cons_zero, List.set_cons_succ]
  refine wpAnyH_take (i := 6) (oi := ?p6x7) (v := ?v6x7) ?o6x7 (by kernel_rfl) (by kernel_rfl) (by kernel_rfl) ?q6x7 ?y6x7 hHeld ?r6x7
  case o6x7 => (simp only [List.getElem?_toArray, List.getElem?_cons_succ, List.getElem?_cons_zero]; try rfl)
  case q6x7 => exact fun _ _ _ h => h
  case y6x7 => (refine Or.inl ⟨rfl, ?_⟩; intro wq hq; obtain ⟨q0, q1, q2, q3, q4⟩ := hq; go_simp; try with_reducible rfl)
  simp only [Act.put, List.setIfInBounds_toArray, List.set_cons_zero, List.set_cons_succ]
  refine wpAnyH_take (i := 7) (oi := ?p7x8) (v := ?v7x8) ?o7x8 (by kernel_rfl) (by kernel_rfl) (by kernel_rfl) ?q7x8 ?y7x8 hHeld ?r7x8
  case o7x8 => (simp only [List.getElem?_toArray, List.getElem?_cons_succ, List.getElem?_cons_zero]; try rfl)
  case q7x8 => exact fun _ _ _ h => h
  case y7x8 => (refine Or.inl ⟨rfl, ?_⟩; intro wq hq; obtain ⟨q0, q1, q2, q3, q4⟩ := hq; go_simp; try with_reducible rfl)
  simp only [Act.put, List.setIfInBounds_toArray, List.set_cons_zero, List.set_cons_succ]
  refine wpAnyH_take (i := 8) (oi := ?p8x9) (v := ?v8x9) ?o8x9 (by kernel_rfl) (by kernel_rfl) (by kernel_rfl) ?q8x9 ?y8x9 hHeld ?r8x9
  case o8x9 => (simp only [List.getElem?_toArray, List.getElem?_cons_succ, List.getElem?_cons_zero]; try rfl)
  case q8x9 => exact fun _ _ _ h => h
  case y8x9 => (refine Or.inl ⟨rfl, ?_⟩; intro wq hq; obtain ⟨q0, q1, q2, q3, q4⟩ := hq; go_simp; try with_reducible rfl)
  simp only [Act.put, List.setIfInBounds_toArray, List.set_cons_zero, List.set_cons_succ]
  refine wpAnyH_take (i := 11) (oi := ?p11x10) (v := ?v11x10) ?o11x10 (by kernel_rfl) (by kernel_rfl) (by kernel_rfl) ?q11x10 ?y11x10 hHeld ?r11x10
  case o11x10 => (simp only [List.getElem?_toArray, List.getElem?_cons_succ, List.getElem?_cons_zero]; try rfl)
  case q11x10 => exact fun _ _ _ h => h
  case y11x10 => (refine Or.inl ⟨rfl, ?_⟩; intro wq hq; obtain ⟨q0, q1, q2, q3, q4⟩ := hq; go_simp; try with_reducible rfl)
  simp only [Act.put, List.setIfInBounds_toArray, List.set_cons_zero, List.set_cons_succ]
  refine wpAnyH_take (i := 12) (oi := ?p12x11) (v := ?v12x11) ?o12x11 (by kernel_rfl) (by kernel_rfl) (by kernel_rfl) ?q12x11 ?y12x11 hHeld ?r12x11
  case o12x11 => (simp only [List.getElem?_toArray, List.getElem?_cons_succ, List.getElem?_cons_zero]; try rfl)
  case q12x11 => exact fun _ _ _ h => h
  case y12x11 => (refine Or.inl ⟨rfl, ?_⟩; intro wq hq; obtain ⟨q0, q1, q2, q3, q4⟩ := hq; go_simp; try with_reducible rfl)
  simp only [Act.put, List.setIfInBounds_toArray, List.set_cons_zero, List.set_cons_succ]
  refine wpAnyH_take (i := 15) (oi := ?p15x12) (v := ?v15x12) ?o15x12 (by kernel_rfl) (by kernel_rfl) (by kernel_rfl) ?q15x12 ?y15x12 hHeld ?r15x12
  case o15x12 => (simp only [List.getElem?_toArray, List.getElem?_cons_succ, List.getElem?_cons_zero]; try rfl)
  case q15x12 => exact fun _ _ _ h => h
  case y15x12 => (refine Or.inl ⟨rfl, ?_⟩; intro wq hq; obtain ⟨q0, q1, q2, q3, q4⟩ := hq; go_simp; try with_reducible rfl)
  simp only [Act.put, List.setIfInBounds_toArray, List.set_cons_zero, List.set_cons_succ]
  refine wpAnyH_take (i := 16) (oi := ?p16x13) (v := ?v16x13) ?o16x13 (by kernel_rfl) (by kernel_rfl) (by kernel_rfl) ?q16x13 ?y16x13 hHeld ?r16x13
  case o16x13 => (simp only [List.getElem?_toArray, List.getElem?_cons_succ, List.getElem?_cons_zero]; try rfl)
  case q16x13 => exact fun _ _ _ h => h
  case y16x13 => (refine Or.inl ⟨rfl, ?_⟩; intro wq hq; obtain ⟨q0, q1, q2, q3, q4⟩ := hq; go_simp; try with_reducible rfl)
  simp only [Act.put, List.setIfInBounds_toArray, List.set_cons_zero, List.set_cons_succ]
  refine wpAnyH_ready (rs := [9, 13]) (by kernel_rfl) (by simp) ?_
  refine (AllReadyH.cons (o := ?p9x14) ?o9x14 ?s9x14 (AllReadyH.cons (o := ?p13x14) ?o13x14 ?s13x14 AllReadyH.nil))
  case o9x14 => (simp only [List.getElem?_toArray, List.getElem?_cons_succ, List.getElem?_cons_zero]; try rfl)
  case o13x14 => (simp only [List.getElem?_toArray, List.getElem?_cons_succ, List.getElem?_cons_zero]; try rfl)
  case s9x14 =>
    intro K hK
    go_simp
    obtain ⟨w2, hw2⟩ : ∃ W, wd.alloc (.cells #[.int .u8 (IntKind.u8.wrap k), .int .u8 (IntKind.u8.wrap f), .int .u8 (IntKind.u8.wrap t)] 5) = W := ⟨_, rfl⟩
    rw [hw2]
    have HB2 := Hid_of (show Below w.heap.size w w2 by rw [← hw2]; exact bel_up HBd.out (bel1 wd _) (Nat.le_refl _))
    have HR2 := Hid_of (show w2.heap[w.heap.size]? = some (.cells #[.int .i64 k, .int .i64 f, .int .i64 t, .int .i64 i, .string (ofL s)] 33 (0, 0)) by rw [← hw2]; exact bel_row HRd.out (bel1 wd _))
    have HG2 := Hid_of (show w2.heap[wd.heap.size]? = some (.cells #[.int .u8 (IntKind.u8.wrap k), .int .u8 (IntKind.u8.wrap f), .int .u8 (IntKind.u8.wrap t)] 5 (0, 0)) by rw [← hw2]; exact heap_alloc_new wd _)
    clear hw2
    refine hK.out _ _ (row5 HR2.out).1 (fun hHeld => ?_)
    clear hK K
    refine wpAnyH_ready (rs := [10, 13]) (by kernel_rfl) (by simp) ?_
    refine (AllReadyH.cons (o := ?p10x15) ?o10x15 ?s10x15 (AllReadyH.cons (o := ?p13x15) ?o13x15 ?s13x15 AllReadyH.nil))
    case o10x15 => (simp only [List.getElem?_toArray, List.getElem?_cons_succ, List.getElem?_cons_zero]; try rfl)
    case o13x15 => (simp only [List.getElem?_toArray, List.getElem?_cons_succ, List.getElem?_cons_zero]; try rfl)
    case s10x15 =>
      have hcv := HC3.out _ _ HG2.out
      intro K hK
      go_simp
      clear hcv
      refine hK.out _ _ (row5 HR2.out).1 (fun hHeld => ?_)
      clear hK K
      refine wpAnyH_ready (rs := [13]) (by kernel_rfl) (by simp) ?_
      refine (AllReadyH.cons (o := ?p13x16) ?o13x16 ?s13x16 AllReadyH.nil)
      case o13x16 => (simp only [List.getElem?_toArray, List.getElem?_cons_succ, List.getElem?_cons_zero]; try rfl)
      intro K hK
      go_simp
      refine (c13 _).mono ?_
      rintro x w3 ⟨rfl, hb3⟩
      have HB3 := Hid_of (bel_up HB2.out hb3 (Nat.le_refl _))
      have HR3 := Hid_of (bel_row HR2.out hb3)
      have HG3 := Hid_of (bel_row HG2.out hb3)
      clear hb3
      refine hK.out _ _ (row5 HR3.out).1 (fun hHeld => ?_)
      clear hK K
      refine wpAnyH_take (i := 14) (oi := ?p14x17) (v := ?v14x17) ?o14x17 (by kernel_rfl) (by kernel_rfl) (by kernel_rfl) ?q14x17 ?y14x17 hHeld ?r14x17
      case o14x17 => (simp only [List.getElem?_toArray, List.getElem?_cons_succ, List.getElem?_cons_zero]; try rfl)
      case q14x17 => exact fun _ _ _ h => h
      case y14x17 => (refine Or.inl ⟨rfl, ?_⟩; intro wq hq; obtain ⟨q0, q1, q2, q3, q4⟩ := hq; go_simp; try with_reducible rfl)
      simp only [Act.put, List.setIfInBounds_toArray, List.set_cons_zero, List.set_cons_succ]
      refine wpAnyH_ready (rs := [17]) (by kernel_rfl) (by simp) ?_
      refine (AllReadyH.cons (o := ?p17x18) ?o17x18 ?s17x18 AllReadyH.nil)
      case o17x18 => (simp only [List.getElem?_toArray, List.getElem?_cons_succ, List.getElem?_cons_zero]; try rfl)
      intro K hK
      go_simp
      refine (c17 _).mono ?_
      rintro x w4 ⟨rfl, hb4⟩
      have HB4 := Hid_of (bel_up HB3.out hb4 (Nat.le_refl _))
      have HR4 := Hid_of (bel_row HR3.out hb4)
      have HG4 := Hid_of (bel_row HG3.out hb4)
      clear hb4
      refine hK.out _ _ (row5 HR4.out).1 (fun hHeld => ?_)
      clear hK K
      refine wpAnyH_take (i := 18) (oi := ?p18x19) (v := ?v18x19) ?o18x19 (by kernel_rfl) (by kernel_rfl) (by kernel_rfl) ?q18x19 ?y18x19 hHeld ?r18x19
      case o18x19 => (simp only [List.getElem?_toArray, List.getElem?_cons_succ, List.getElem?_cons_zero]; try rfl)
      case q18x19 => exact fun _ _ _ h => h
      case y18x19 => (refine Or.inl ⟨rfl, ?_⟩; intro wq hq; obtain ⟨q0, q1, q2, q3, q4⟩ := hq; go_simp; try with_reducible rfl)
      simp only [Act.put, List.setIfInBounds_toArray, List.set_cons_zero, List.set_cons_succ]
      refine wpAnyH_ready (rs := [19]) (by kernel_rfl) (by simp) ?_
      refine (AllReadyH.cons (o := ?p19x20) ?o19x20 ?s19x20 AllReadyH.nil)
      case o19x20 => (simp only [List.getElem?_toArray, List.getElem?_cons_succ, List.getElem?_cons_zero]; try rfl)
      intro K hK
      go_simp
      rw [HSUM.out]
      refine (c19 _).mono ?_
      rintro x w5 ⟨rfl, hb5⟩
      have HB5 := Hid_of (bel_up HB4.out hb5 (Nat.le_refl _))
      have HR5 := Hid_of (bel_row HR4.out hb5)
      clear hb5
      refine hK.out _ _ (row5 HR5.out).1 (fun hHeld => ?_)
      clear hK K
      refine wpAnyH_take (i := 20) (oi := ?p20x21) (v := ?v20x21) ?o20x21 (by kernel_rfl) (by kernel_rfl) (by kernel_rfl) ?q20x21 ?y20x21 hHeld ?r20x21
      case o20x21 => (simp only [List.getElem?_toArray, List.getElem?_cons_succ, List.getElem?_cons_zero]; try rfl)
      case q20x21 => exact fun _ _ _ h => h
      case y20x21 => (refine Or.inl ⟨rfl, ?_⟩; intro wq hq; obtain ⟨q0, q1, q2, q3, q4⟩ := hq; go_simp; try with_reducible rfl)
      simp only [Act.put, List.setIfInBounds_toArray, List.set_cons_zero, List.set_cons_succ]
      refine wpAnyH_take (i := 21) (oi := ?p21x22) (v := ?v21x22) ?o21x22 (by kernel_rfl) (by kernel_rfl) (by kernel_rfl) ?q21x22 ?y21x22 hHeld ?r21x22
      case o21x22 => (simp only [List.getElem?_toArray, List.getElem?_cons_succ, List.getElem?_cons_zero]; try rfl)
      case q21x22 => exact fun _ _ _ h => h
      case y21x22 => (refine Or.inl ⟨rfl, ?_⟩; intro wq hq; obtain ⟨q0, q1, q2, q3, q4⟩ := hq; go_simp; try with_reducible rfl)
      simp only [Act.put, List.setIfInBounds_toArray, List.set_cons_zero, List.set_cons_succ]
      refine wpAnyH_done (by kernel_rfl) ?_ _
      go_wp2
      go_ret2
      exact ⟨rfl, HB5.out⟩
    case s13x15 =>
      intro K hK
      go_simp
      refine (c13 _).mono ?_
      rintro x w6 ⟨rfl, hb6⟩
      have HB6 := Hid_of (bel_up HB2.out hb6 (Nat.le_refl _))
      have HR6 := Hid_of (bel_row HR2.out hb6)
      have HG6 := Hid_of (bel_row HG2.out hb6)
      clear hb6
      refine hK.out _ _ (row5 HR6.out).1 (fun hHeld => ?_)
      clear hK K
      refine wpAnyH_ready (rs := [10, 17]) (by kernel_rfl) (by simp) ?_
      refine (AllReadyH.cons (o := ?p10x23) ?o10x23 ?s10x23 (AllReadyH.cons (o := ?p17x23) ?o17x23 ?s17x23 AllReadyH.nil))
      case o10x23 => (simp only [List.getElem?_toArray, List.getElem?_cons_succ, List.getElem?_cons_zero]; try rfl)
      case o17x23 => (simp only [List.getElem?_toArray, List.getElem?_cons_succ, List.getElem?_cons_zero]; try rfl)
      case s10x23 =>
        have hcv := HC3.out _ _ HG6.out
        intro K hK
        go_simp
        clear hcv
        refine hK.out _ _ (row5 HR6.out).1 (fun hHeld => ?_)
        clear hK K
        refine wpAnyH_take (i := 14) (oi := ?p14x24) (v := ?v14x24) ?o14x24 (by kernel_rfl) (by kernel_rfl) (by kernel_rfl) ?q14x24 ?y14x24 hHeld ?r14x24
        case o14x24 => (simp only [List.getElem?_toArray, List.getElem?_cons_succ, List.getElem?_cons_zero]; try rfl)
        case q14x24 => exact fun _ _ _ h => h
        case y14x24 => (refine Or.inl ⟨rfl, ?_⟩; intro wq hq; obtain ⟨q0, q1, q2, q3, q4⟩ := hq; go_simp; try with_reducible rfl)
        simp only [Act.put, List.setIfInBounds_toArray, List.set_cons_zero, List.set_cons_succ]
        refine wpAnyH_ready (rs := [17]) (by kernel_rfl) (by simp) ?_
        refine (AllReadyH.cons (o := ?p17x25) ?o17x25 ?s17x25 AllReadyH.nil)
        case o17x25 => (simp only [List.getElem?_toArray, List.getElem?_cons_succ, List.getElem?_cons_zero]; try rfl)
        intro K hK
        go_simp
        refine (c17 _).mono ?_
        rintro x w7 ⟨rfl, hb7⟩
        have HB7 := Hid_of (bel_up HB6.out hb7 (Nat.le_refl _))
        have HR7 := Hid_of (bel_row HR6.out hb7)
        have HG7 := Hid_of (bel_row HG6.out hb7)
        clear hb7
        refine hK.out _ _ (row5 HR7.out).1 (fun hHeld => ?_)
        clear hK K
        refine wpAnyH_take (i := 18) (oi := ?p18x26) (v := ?v18x26) ?o18x26 (by kernel_rfl) (by kernel_rfl) (by kernel_rfl) ?q18x26 ?y18x26 hHeld ?r18x26
        case o18x26 => (simp only [List.getElem?_toArray, List.getElem?_cons_succ, List.getElem?_cons_zero]; try rfl)
        case q18x26 => exact fun _ _ _ h => h
        case y18x26 => (refine Or.inl ⟨rfl, ?_⟩; intro wq hq; obtain ⟨q0, q1, q2, q3, q4⟩ := hq; go_simp; try with_reducible rfl)
        simp only [Act.put, List.setIfInBounds_toArray, List.set_cons_zero, List.set_cons_succ]
        refine wpAnyH_ready (rs := [19]) (by kernel_rfl) (by simp) ?_
        refine (AllReadyH.cons (o := ?p19x27) ?o19x27 ?s19x27 AllReadyH.nil)
        case o19x27 => (simp only [List.getElem?_toArray, List.getElem?_cons_succ, List.getElem?_cons_zero]; try rfl)
        intro K hK
        go_simp
        rw [HSUM.out]
        refine (c19 _).mono ?_
        rintro x w8 ⟨rfl, hb8⟩
        have HB8 := Hid_of (bel_up HB7.out hb8 (Nat.le_refl _))
        have HR8 := Hid_of (bel_row HR7.out hb8)
        clear hb8
        refine hK.out _ _ (row5 HR8.out).1 (fun hHeld => ?_)
        clear hK K
        refine wpAnyH_take (i := 20) (oi := ?p20x28) (v := ?v20x28) ?o20x28 (by kernel_rfl) (by kernel_rfl) (by kernel_rfl) ?q20x28 ?y20x28 hHeld ?r20x28
        case o20x28 => (simp only [List.getElem?_toArray, List.getElem?_cons_succ, List.getElem?_cons_zero]; try rfl)
        case q20x28 => exact fun _ _ _ h => h
        case y20x28 => (refine Or.inl ⟨rfl, ?_⟩; intro wq hq; obtain ⟨q0, q1, q2, q3, q4⟩ := hq; go_simp; try with_reducible rfl)
        simp only [Act.put, List.setIfInBounds_toArray, List.set_cons_zero, List.set_cons_succ]
        refine wpAnyH_take (i := 21) (oi := ?p21x29) (v := ?v21x29) ?o21x29 (by kernel_rfl) (by kernel_rfl) (by kernel_rfl) ?q21x29 ?y21x29 hHeld ?r21x29
        case o21x29 => (simp only [List.getElem?_toArray, List.getElem?_cons_succ, List.getElem?_cons_zero]; try rfl)
        case q21x29 => exact fun _ _ _ h => h
        case y21x29 => (refine Or.inl ⟨rfl, ?_⟩; intro wq hq; obtain ⟨q0, q1, q2, q3, q4⟩ := hq; go_simp; try with_reducible rfl)
        simp only [Act.put, List.setIfInBounds_toArray, List.set_cons_zero, List.set_cons_succ]
        refine wpAnyH_done (by kernel_rfl) ?_ _
        go_wp2
        go_ret2
        exact ⟨rfl, HB8.out⟩
      case s17x23 =>
        intro K hK
        go_simp
        refine (c17 _).mono ?_
        rintro x w9 ⟨rfl, hb9⟩
        have HB9 := Hid_of (bel_up HB6.out hb9 (Nat.le_refl _))
        have HR9 := Hid_of (bel_row HR6.out hb9)
        have HG9 := Hid_of (bel_row HG6.out hb9)
        clear hb9
        refine hK.out _ _ (row5 HR9.out).1 (fun hHeld => ?_)
        clear hK K
        refine wpAnyH_ready (rs := [10]) (by kernel_rfl) (by simp) ?_
        refine (AllReadyH.cons (o := ?p10x30) ?o10x30 ?s10x30 AllReadyH.nil)
        case o10x30 => (simp only [List.getElem?_toArray, List.getElem?_cons_succ, List.getElem?_cons_zero]; try rfl)
        have hcv := HC3.out _ _ HG9.out
        intro K hK
        go_simp
        clear hcv
        refine hK.out _ _ (row5 HR9.out).1 (fun hHeld => ?_)
        clear hK K
        refine wpAnyH_take (i := 14) (oi := ?p14x31) (v := ?v14x31) ?o14x31 (by kernel_rfl) (by kernel_rfl) (by kernel_rfl) ?q14x31 ?y14x31 hHeld ?r14x31
        case o14x31 => (simp only [List.getElem?_toArray, List.getElem?_cons_succ, List.getElem?_cons_zero]; try rfl)
        case q14x31 => exact fun _ _ _ h => h
        case y14x31 => (refine Or.inl ⟨rfl, ?_⟩; intro wq hq; obtain ⟨q0, q1, q2, q3, q4⟩ := hq; go_simp; try with_reducible rfl)
        simp only [Act.put, List.setIfInBounds_toArray, List.set_cons_zero, List.set_cons_succ]
        refine wpAnyH_take (i := 18) (oi := ?p18x32) (v := ?v18x32) ?o18x32 (by kernel_rfl) (by kernel_rfl) (by kernel_rfl) ?q18x32 ?y18x32 hHeld ?r18x32
        case o18x32 => (simp only [List.getElem?_toArray, List.getElem?_cons_succ, List.getElem?_cons_zero]; try rfl)
        case q18x32 => exact fun _ _ _ h => h
        case y18x32 => (refine Or.inl ⟨rfl, ?_⟩; intro wq hq; obtain ⟨q0, q1, q2, q3, q4⟩ := hq; go_simp; try with_reducible rfl)
        simp only [Act.put, List.setIfInBounds_toArray, List.set_cons_zero, List.set_cons_succ]
        refine wpAnyH_ready (rs := [19]) (by kernel_rfl) (by simp) ?_
        refine (AllReadyH.cons (o := ?p19x33) ?o19x33 ?s19x33 AllReadyH.nil)
        case o19x33 => (simp only [List.getElem?_toArray, List.getElem?_cons_succ, List.getElem?_cons_zero]; try rfl)
        intro K hK
        go_simp
        rw [HSUM.out]
        refine (c19 _).mono ?_
        rintro x w10 ⟨rfl, hb10⟩
        have HB10 := Hid_of (bel_up HB9.out hb10 (Nat.le_refl _))
        have HR10 := Hid_of (bel_row HR9.out hb10)
        clear hb10
        refine hK.out _ _ (row5 HR10.out).1 (fun hHeld => ?_)
        clear hK K
        refine wpAnyH_take (i := 20) (oi := ?p20x34) (v := ?v20x34) ?o20x34 (by kernel_rfl) (by kernel_rfl) (by kernel_rfl) ?q20x34 ?y20x34 hHeld ?r20x34
        case o20x34 => (simp only [List.getElem?_toArray, List.getElem?_cons_succ, List.getElem?_cons_zero]; try rfl)
        case q20x34 => exact fun _ _ _ h => h
        case y20x34 => (refine Or.inl ⟨rfl, ?_⟩; intro wq hq; obtain ⟨q0, q1, q2, q3, q4⟩ := hq; go_simp; try with_reducible rfl)
        simp only [Act.put, List.setIfInBounds_toArray, List.set_cons_zero, List.set_cons_succ]
        refine wpAnyH_take (i := 21) (oi := ?p21x35) (v := ?v21x35) ?o21x35 (by kernel_rfl) (by kernel_rfl) (by kernel_rfl) ?q21x35 ?y21x35 hHeld ?r21x35
        case o21x35 => (simp only [List.getElem?_toArray, List.getElem?_cons_succ, List.getElem?_cons_zero]; try rfl)
        case q21x35 => exact fun _ _ _ h => h
        case y21x35 => (refine Or.inl ⟨rfl, ?_⟩; intro wq hq; obtain ⟨q0, q1, q2, q3, q4⟩ := hq; go_simp; try with_reducible rfl)
        simp only [Act.put, List.setIfInBounds_toArray, List.set_cons_zero, List.set_cons_succ]
        refine wpAnyH_done (by kernel_rfl) ?_ _
        go_wp2
        go_ret2
        exact ⟨rfl, HB10.out⟩
  case s13x14 =>
    intro K hK
    go_simp
    refine (c13 _).mono ?_
    rintro x w11 ⟨rfl, hb11⟩
    have HB11 := Hid_of (bel_up HBd.out hb11 (Nat.le_refl _))
    have HR11 := Hid_of (bel_row HRd.out hb11)
    clear hb11
    refine hK.out _ _ (row5 HR11.out).1 (fun hHeld => ?_)
    clear hK K
    refine wpAnyH_ready (rs := [9, 17]) (by kernel_rfl) (by simp) ?_
    refine (AllReadyH.cons (o := ?p9x36) ?o9x36 ?s9x36 (AllReadyH.cons (o := ?p17x36) ?o17x36 ?s17x36 AllReadyH.nil))
    case o9x36 => (simp only [List.getElem?_toArray, List.getElem?_cons_succ, List.getElem?_cons_zero]; try rfl)
    case o17x36 => (simp only [List.getElem?_toArray, List.getElem?_cons_succ, List.getElem?_cons_zero]; try rfl)
    case s9x36 =>
      intro K hK
      go_simp
      obtain ⟨w12, hw12⟩ : ∃ W, w11.alloc (.cells #[.int .u8 (IntKind.u8.wrap k), .int .u8 (IntKind.u8.wrap f), .int .u8 (IntKind.u8.wrap t)] 5) = W := ⟨_, rfl⟩
      rw [hw12]
      have HB12 := Hid_of (show Below w.heap.size w w12 by rw [← hw12]; exact bel_up HB11.out (bel1 w11 _) (Nat.le_refl _))
      have HR12 := Hid_of (show w12.heap[w.heap.size]? = some (.cells #[.int .i64 k, .int .i64 f, .int .i64 t, .int .i64 i, .string (ofL s)] 33 (0, 0)) by rw [← hw12]; exact bel_row HR11.out (bel1 w11 _))
      have HG12 := Hid_of (show w12.heap[w11.heap.size]? = some (.cells #[.int .u8 (IntKind.u8.wrap k), .int .u8 (IntKind.u8.wrap f), .int .u8 (IntKind.u8.wrap t)] 5 (0, 0)) by rw [← hw12]; exact heap_alloc_new w11 _)
      clear hw12
      refine hK.out _ _ (row5 HR12.out).1 (fun hHeld => ?_)
      clear hK K
      refine wpAnyH_ready (rs := [10, 17]) (by kernel_rfl) (by simp) ?_
      refine (AllReadyH.cons (o := ?p10x37) ?o10x37 ?s10x37 (AllReadyH.cons (o := ?p17x37) ?o17x37 ?s17x37 AllReadyH.nil))
      case o10x37 => (simp only [List.getElem?_toArray, List.getElem?_cons_succ, List.getElem?_cons_zero]; try rfl)
      case o17x37 => (simp only [List.getElem?_toArray, List.getElem?_cons_succ, List.getElem?_cons_zero]; try rfl)
      case s10x37 =>
        have hcv := HC3.out _ _ HG12.out
        intro K hK
        go_simp
        clear hcv
        refine hK.out _ _ (row5 HR12.out).1 (fun hHeld => ?_)
        clear hK K
        refine wpAnyH_take (i := 14) (oi := ?p14x38) (v := ?v14x38) ?o14x38 (by kernel_rfl) (by kernel_rfl) (by kernel_rfl) ?q14x38 ?y14x38 hHeld ?r14x38
        case o14x38 => (simp only [List.getElem?_toArray, List.getElem?_cons_succ, List.getElem?_cons_zero]; try rfl)
        case q14x38 => exact fun _ _ _ h => h
        case y14x38 => (refine Or.inl ⟨rfl, ?_⟩; intro wq hq; obtain ⟨q0, q1, q2, q3, q4⟩ := hq; go_simp; try with_reducible rfl)
        simp only [Act.put, List.setIfInBounds_toArray, List.set_cons_zero, List.set_cons_succ]
        refine wpAnyH_ready (rs := [17]) (by kernel_rfl) (by simp) ?_
        refine (AllReadyH.cons (o := ?p17x39) ?o17x39 ?s17x39 AllReadyH.nil)
        case o17x39 => (simp only [List.getElem?_toArray, List.getElem?_cons_succ, List.getElem?_cons_zero]; try rfl)
        intro K hK
        go_simp
        refine (c17 _).mono ?_
        rintro x w13 ⟨rfl, hb13⟩
        have HB13 := Hid_of (bel_up HB12.out hb13 (Nat.le_refl _))
        have HR13 := Hid_of (bel_row HR12.out hb13)
        have HG13 := Hid_of (bel_row HG12.out hb13)
        clear hb13
        refine hK.out _ _ (row5 HR13.out).1 (fun hHeld => ?_)
        clear hK K
        refine wpAnyH_take (i := 18) (oi := ?p18x40) (v := ?v18x40) ?o18x40 (by kernel_rfl) (by kernel_rfl) (by kernel_rfl) ?q18x40 ?y18x40 hHeld ?r18x40
        case o18x40 => (simp only [List.getElem?_toArray, List.getElem?_cons_succ, List.getElem?_cons_zero]; try rfl)
        case q18x40 => exact fun _ _ _ h => h
        case y18x40 => (refine Or.inl ⟨rfl, ?_⟩; intro wq hq; obtain ⟨q0, q1, q2, q3, q4⟩ := hq; go_simp; try with_reducible rfl)
        simp only [Act.put, List.setIfInBounds_toArray, List.set_cons_zero, List.set_cons_succ]
        refine wpAnyH_ready (rs := [19]) (by kernel_rfl) (by simp) ?_
        refine (AllReadyH.cons (o := ?p19x41) ?o19x41 ?s19x41 AllReadyH.nil)
        case o19x41 => (simp only [List.getElem?_toArray, List.getElem?_cons_succ, List.getElem?_cons_zero]; try rfl)
        intro K hK
        go_simp
        rw [HSUM.out]
        refine (c19 _).mono ?_
        rintro x w14 ⟨rfl, hb14⟩
        have HB14 := Hid_of (bel_up HB13.out hb14 (Nat.le_refl _))
        have HR14 := Hid_of (bel_row HR13.out hb14)
        clear hb14
        refine hK.out _ _ (row5 HR14.out).1 (fun hHeld => ?_)
        clear hK K
        refine wpAnyH_take (i := 20) (oi := ?p20x42) (v := ?v20x42) ?o20x42 (by kernel_rfl) (by kernel_rfl) (by kernel_rfl) ?q20x42 ?y20x42 hHeld ?r20x42
        case o20x42 => (simp only [List.getElem?_toArray, List.getElem?_cons_succ, List.getElem?_cons_zero]; try rfl)
        case q20x42 => exact fun _ _ _ h => h
        case y20x42 => (refine Or.inl ⟨rfl, ?_⟩; intro wq hq; obtain ⟨q0, q1, q2, q3, q4⟩ := hq; go_simp; try with_reducible rfl)
        simp only [Act.put, List.setIfInBounds_toArray, List.set_cons_zero, List.set_cons_succ]
        refine wpAnyH_take (i := 21) (oi := ?p21x43) (v := ?v21x43) ?o21x43 (by kernel_rfl) (by kernel_rfl) (by kernel_rfl) ?q21x43 ?y21x43 hHeld ?r21x43
        case o21x43 => (simp only [List.getElem?_toArray, List.getElem?_cons_succ, List.getElem?_cons_zero]; try rfl)
        case q21x43 => exact fun _ _ _ h => h
        case y21x43 => (refine Or.inl ⟨rfl, ?_⟩; intro wq hq; obtain ⟨q0, q1, q2, q3, q4⟩ := hq; go_simp; try with_reducible rfl)
        simp only [Act.put, List.setIfInBounds_toArray, List.set_cons_zero, List.set_cons_succ]
        refine wpAnyH_done (by kernel_rfl) ?_ _
        go_wp2
        go_ret2
        exact ⟨rfl, HB14.out⟩
      case s17x37 =>
        intro K hK
        go_simp
        refine (c17 _).mono ?_
        rintro x w15 ⟨rfl, hb15⟩
        have HB15 := Hid_of (bel_up HB12.out hb15 (Nat.le_refl _))
        have HR15 := Hid_of (bel_row HR12.out hb15)
        have HG15 := Hid_of (bel_row HG12.out hb15)
        clear hb15
        refine hK.out _ _ (row5 HR15.out).1 (fun hHeld => ?_)
        clear hK K
        refine wpAnyH_ready (rs := [10]) (by kernel_rfl) (by simp) ?_
        refine (AllReadyH.cons (o := ?p10x44) ?o10x44 ?s10x44 AllReadyH.nil)
        case o10x44 => (simp only [List.getElem?_toArray, List.getElem?_cons_succ, List.getElem?_cons_zero]; try rfl)
        have hcv := HC3.out _ _ HG15.out
        intro K hK
        go_simp
        clear hcv
        refine hK.out _ _ (row5 HR15.out).1 (fun hHeld => ?_)
        clear hK K
        refine wpAnyH_take (i := 14) (oi := ?p14x45) (v := ?v14x45) ?o14x45 (by kernel_rfl) (by kernel_rfl) (by kernel_rfl) ?q14x45 ?y14x45 hHeld ?r14x45
        case o14x45 => (simp only [List.getElem?_toArray, List.getElem?_cons_succ, List.getElem?_cons_zero]; try rfl)
        case q14x45 => exact fun _ _ _ h => h
        case y14x45 => (refine Or.inl ⟨rfl, ?_⟩; intro wq hq; obtain ⟨q0, q1, q2, q3, q4⟩ := hq; go_simp; try with_reducible rfl)
        simp only [Act.put, List.setIfInBounds_toArray, List.set_cons_zero, List.set_cons_succ]
        refine wpAnyH_take (i := 18) (oi := ?p18x46) (v := ?v18x46) ?o18x46 (by kernel_rfl) (by kernel_rfl) (by kernel_rfl) ?q18x46 ?y18x46 hHeld ?r18x46
        case o18x46 => (simp only [List.getElem?_toArray, List.getElem?_cons_succ, List.getElem?_cons_zero]; try rfl)
        case q18x46 => exact fun _ _ _ h => h
        case y18x46 => (refine Or.inl ⟨rfl, ?_⟩; intro wq hq; obtain ⟨q0, q1, q2, q3, q4⟩ := hq; go_simp; try with_reducible rfl)
        simp only [Act.put, List.setIfInBounds_toArray, List.set_cons_zero, List.set_cons_succ]
        refine wpAnyH_ready (rs := [19]) (by kernel_rfl) (by simp) ?_
        refine (AllReadyH.cons (o := ?p19x47) ?o19x47 ?s19x47 AllReadyH.nil)
        case o19x47 => (simp only [List.getElem?_toArray, List.getElem?_cons_succ, List.getElem?_cons_zero]; try rfl)
        intro K hK
        go_simp
        rw [HSUM.out]
        refine (c19 _).mono ?_
        rintro x w16 ⟨rfl, hb16⟩
        have HB16 := Hid_of (bel_up HB15.out hb16 (Nat.le_refl _))
        have HR16 := Hid_of (bel_row HR15.out hb16)
        clear hb16
        refine hK.out _ _ (row5 HR16.out).1 (fun hHeld => ?_)
        clear hK K
        refine wpAnyH_take (i := 20) (oi := ?p20x48) (v := ?v20x48) ?o20x48 (by kernel_rfl) (by kernel_rfl) (by kernel_rfl) ?q20x48 ?y20x48 hHeld ?r20x48
        case o20x48 => (simp only [List.getElem?_toArray, List.getElem?_cons_succ, List.getElem?_cons_zero]; try rfl)
        case q20x48 => exact fun _ _ _ h => h
        case y20x48 => (refine Or.inl ⟨rfl, ?_⟩; intro wq hq; obtain ⟨q0, q1, q2, q3, q4⟩ := hq; go_simp; try with_reducible rfl)
        simp only [Act.put, List.setIfInBounds_toArray, List.set_cons_zero, List.set_cons_succ]
        refine wpAnyH_take (i := 21) (oi := ?p21x49) (v := ?v21x49) ?o21x49 (by kernel_rfl) (by kernel_rfl) (by kernel_rfl) ?q21x49 ?y21x49 hHeld ?r21x49
        case o21x49 => (simp only [List.getElem?_toArray, List.getElem?_cons_succ, List.getElem?_cons_zero]; try rfl)
        case q21x49 => exact fun _ _ _ h => h
        case y21x49 => (refine Or.inl ⟨rfl, ?_⟩; intro wq hq; obtain ⟨q0, q1, q2, q3, q4⟩ := hq; go_simp; try with_reducible rfl)
        simp only [Act.put, List.setIfInBounds_toArray, List.set_cons_zero, List.set_cons_succ]
        refine wpAnyH_done (by kernel_rfl) ?_ _
        go_wp2
        go_ret2
        exact ⟨rfl, HB16.out⟩
    case s17x36 =>
      intro K hK
      go_simp
      refine (c17 _).mono ?_
      rintro x w17 ⟨rfl, hb17⟩
      have HB17 := Hid_of (bel_up HB11.out hb17 (Nat.le_refl _))
      have HR17 := Hid_of (bel_row HR11.out hb17)
      clear hb17
      refine hK.out _ _ (row5 HR17.out).1 (fun hHeld => ?_)
      clear hK K
      refine wpAnyH_ready (rs := [9]) (by kernel_rfl) (by simp) ?_
      refine (AllReadyH.cons (o := ?p9x50) ?o9x50 ?s9x50 AllReadyH.nil)
      case o9x50 => (simp only [List.getElem?_toArray, List.getElem?_cons_succ, List.getElem?_cons_zero]; try rfl)
      intro K hK
      go_simp
      obtain ⟨w18, hw18⟩ : ∃ W, w17.alloc (.cells #[.int .u8 (IntKind.u8.wrap k), .int .u8 (IntKind.u8.wrap f), .int .u8 (IntKind.u8.wrap t)] 5) = W := ⟨_, rfl⟩
      rw [hw18]
      have HB18 := Hid_of (show Below w.heap.size w w18 by rw [← hw18]; exact bel_up HB17.out (bel1 w17 _) (Nat.le_refl _))
      have HR18 := Hid_of (show w18.heap[w.heap.size]? = some (.cells #[.int .i64 k, .int .i64 f, .int .i64 t, .int .i64 i, .string (ofL s)] 33 (0, 0)) by rw [← hw18]; exact bel_row HR17.out (bel1 w17 _))
      have HG18 := Hid_of (show w18.heap[w17.heap.size]? = some (.cells #[.int .u8 (IntKind.u8.wrap k), .int .u8 (IntKind.u8.wrap f), .int .u8 (IntKind.u8.wrap t)] 5 (0, 0)) by rw [← hw18]; exact heap_alloc_new w17 _)
      clear hw18
      refine hK.out _ _ (row5 HR18.out).1 (fun hHeld => ?_)
      clear hK K
      refine wpAnyH_ready (rs := [10]) (by kernel_rfl) (by simp) ?_
      refine (AllReadyH.cons (o := ?p10x51) ?o10x51 ?s10x51 AllReadyH.nil)
      case o10x51 => (simp only [List.getElem?_toArray, List.getElem?_cons_succ, List.getElem?_cons_zero]; try rfl)
      have hcv := HC3.out _ _ HG18.out
      intro K hK
      go_simp
      clear hcv
      refine hK.out _ _ (row5 HR18.out).1 (fun hHeld => ?_)
      clear hK K
      refine wpAnyH_take (i := 14) (oi := ?p14x52) (v := ?v14x52) ?o14x52 (by kernel_rfl) (by kernel_rfl) (by kernel_rfl) ?q14x52 ?y14x52 hHeld ?r14x52
      case o14x52 => (simp only [List.getElem?_toArray, List.getElem?_cons_succ, List.getElem?_cons_zero]; try rfl)
      case q14x52 => exact fun _ _ _ h => h
      case y14x52 => (refine Or.inl ⟨rfl, ?_⟩; intro wq hq; obtain ⟨q0, q1, q2, q3, q4⟩ := hq; go_simp; try with_reducible rfl)
      simp only [Act.put, List.setIfInBounds_toArray, List.set_cons_zero, List.set_cons_succ]
      refine wpAnyH_take (i := 18) (oi := ?p18x53) (v := ?v18x53) ?o18x53 (by kernel_rfl) (by kernel_rfl) (by kernel_rfl) ?q18x53 ?y18x53 hHeld ?r18x53
      case o18x53 => (simp only [List.getElem?_toArray, List.getElem?_cons_succ, List.getElem?_cons_zero]; try rfl)
      case q18x53 => exact fun _ _ _ h => h
      case y18x53 => (refine Or.inl ⟨rfl, ?_⟩; intro wq hq; obtain ⟨q0, q1, q2, q3, q4⟩ := hq; go_simp; try with_reducible rfl)
      simp only [Act.put, List.setIfInBounds_toArray, List.set_cons_zero, List.set_cons_succ]
      refine wpAnyH_ready (rs := [19]) (by kernel_rfl) (by simp) ?_
      refine (AllReadyH.cons (o := ?p19x54) ?o19x54 ?s19x54 AllReadyH.nil)
      case o19x54 => (simp only [List.getElem?_toArray, List.getElem?_cons_succ, List.getElem?_cons_zero]; try rfl)
      intro K hK
      go_simp
      rw [HSUM.out]
      refine (c19 _).mono ?_
      rintro x w19 ⟨rfl, hb19⟩
      have HB19 := Hid_of (bel_up HB18.out hb19 (Nat.le_refl _))
      have HR19 := Hid_of (bel_row HR18.out hb19)
      clear hb19
      refine hK.out _ _ (row5 HR19.out).1 (fun hHeld => ?_)
      clear hK K
      refine wpAnyH_take (i := 20) (oi := ?p20x55) (v := ?v20x55) ?o20x55 (by kernel_rfl) (by kernel_rfl) (by kernel_rfl) ?q20x55 ?y20x55 hHeld ?r20x55
      case o20x55 => (simp only [List.getElem?_toArray, List.getElem?_cons_succ, List.getElem?_cons_zero]; try rfl)
      case q20x55 => exact fun _ _ _ h => h
      case y20x55 => (refine Or.inl ⟨rfl, ?_⟩; intro wq hq; obtain ⟨q0, q1, q2, q3, q4⟩ := hq; go_simp; try with_reducible rfl)
      simp only [Act.put, List.setIfInBounds_toArray, List.set_cons_zero, List.set_cons_succ]
      refine wpAnyH_take (i := 21) (oi := ?p21x56) (v := ?v21x56) ?o21x56 (by kernel_rfl) (by kernel_rfl) (by kernel_rfl) ?q21x56 ?y21x56 hHeld ?r21x56
      case o21x56 => (simp only [List.getElem?_toArray, List.getElem?_cons_succ, List.getElem?_cons_zero]; try rfl)
      case q21x56 => exact fun _ _ _ h => h
      case y21x56 => (refine Or.inl ⟨rfl, ?_⟩; intro wq hq; obtain ⟨q0, q1, q2, q3, q4⟩ := hq; go_simp; try with_reducible rfl)
      simp only [Act.put, List.setIfInBounds_toArray, List.set_cons_zero, List.set_cons_succ]
      refine wpAnyH_done (by kernel_rfl) ?_ _
      go_wp2
      go_ret2
      exact ⟨rfl, HB19.out⟩
theorem refEncode_any (k f t i : Int) (b : List UInt8) (w : World) (hb : b.length ≤ maxLen) :
    Calls Try.prog 24 #[.agg #[.int .i64 k, .int .i64 f, .int .i64 t, .int .i64 i, .string (ofL b)]] w fun e w' => e = .returned (.tuple #[.string (ofL (Msg.ecode k f t i b)), .int .i64 (Msg.chk k f t i b.length)]) ∧ Below w.heap.size w w' := by
  by_cases hc : Msg.chk k f t i b.length = 0
  · have he : Msg.ecode k f t i b = K2.sealed (Msg.bts k f t i b) := by unfold Msg.ecode; rw [decide_eq_true hc]; rfl
    rw [he]
    have := refEncode_ok k f t i b w hc
    rw [hc]
    exact this
  · exact refEncode_bad k f t i b w hb hc
end Go.Proofs.Ytjbodjjeenjbeaa
