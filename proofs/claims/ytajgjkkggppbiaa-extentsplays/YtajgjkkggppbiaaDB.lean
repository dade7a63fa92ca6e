/-
  A deed of a file and of the document's: Put and Move.
-/
import Derived.Test.YtajgjkkggppbiaaDA
import Derived.Deep.RegionHeld3
namespace Go.Proofs.Ytajgjkkggppbiaa
open Go.RowKit
set_option linter.unusedVariables false
open M (E RX)

theorem five_set {w : World} {k j i : Nat} {v0 v1 v2 v3 v4 : Value} (h0 : w.cell? ⟨j, 0, none⟩ = some v0) (h1 : w.cell? ⟨i, 0, none⟩ = some v1 ∧ w.cell? ⟨i, 1, none⟩ = some v2 ∧ w.cell? ⟨i, 2, none⟩ = some v3 ∧ w.cell? ⟨i, 3, none⟩ = some v4) (hj : k ≠ j) (hi : k ≠ i) (u : Value) :
    (w.setCell ⟨k, 0, none⟩ u).cell? ⟨j, 0, none⟩ = some v0 ∧ ((w.setCell ⟨k, 0, none⟩ u).cell? ⟨i, 0, none⟩ = some v1 ∧ (w.setCell ⟨k, 0, none⟩ u).cell? ⟨i, 1, none⟩ = some v2 ∧ (w.setCell ⟨k, 0, none⟩ u).cell? ⟨i, 2, none⟩ = some v3 ∧ (w.setCell ⟨k, 0, none⟩ u).cell? ⟨i, 3, none⟩ = some v4) := by
  have key : ∀ x o v, x ≠ k → w.cell? ⟨x, o, none⟩ = some v → (w.setCell ⟨k, 0, none⟩ u).cell? ⟨x, o, none⟩ = some v := fun x o v hx h => (World.cell?_of_block (w := w) (a := ⟨x, o, none⟩) (heap_setCell_other w ⟨k, 0, none⟩ x _ hx)).trans h
  exact ⟨key _ _ _ (by omega) h0, key _ _ _ (by omega) h1.1, key _ _ _ (by omega) h1.2.1, key _ _ _ (by omega) h1.2.2.1, key _ _ _ (by omega) h1.2.2.2⟩

set_option maxRecDepth 100000 in
set_option maxHeartbeats 4000000 in
theorem do_0 (W w : World) (b : Nat) (v : Value) (P : List E) (a : Option Addr) (cap : Nat) (L : List (Int × Int)) (e : E) (T : Two W w b v P a cap L) (fb : ∀ j (hj : j < L.length), 0 ≤ L[j].1 → 0 ≤ L[j].2 ∧ L[j].2 ≤ 1099511627776) (he : I64 e.a ∧ I64 e.n ∧ I64 e.d ∧ I64 e.f) :
    Calls Try.prog 9 #[.pointer (some ⟨b, 0, none⟩), .agg #[.slice a L.length cap], .agg #[.int .i64 0, .int .i64 e.a, .int .i64 e.n, .int .i64 e.d, .int .i64 e.f]] w (DoOut W w b v P a L) := by
  obtain ⟨W1, HW1⟩ : ∃ W1, Hid ((((w.alloc (.cells #[.slice a L.length cap] 28)).alloc (.cells #[.int .i64 0, .int .i64 e.a, .int .i64 e.n, .int .i64 e.d, .int .i64 e.f] 34)).alloc (.cells #[.slice none 0 0] 28)).alloc (.cells #[.int .i64 e.a, .int .i64 e.n, .int .i64 e.d, .int .i64 e.f] 32) = W1) := ⟨_, rfl⟩
  have HB1 : Hid (Below w.heap.size w W1) := by rw [← HW1.out]; exact (((bel1 w _).alloc (by simp) _).alloc (by simp; omega) _).alloc (by simp; omega) _
  have hs1 : W1.heap.size = w.heap.size + 4 := by rw [← HW1.out]; simp
  have hal := alloc4 w (.cells #[.slice a L.length cap] 28) (.cells #[.int .i64 0, .int .i64 e.a, .int .i64 e.n, .int .i64 e.d, .int .i64 e.f] 34) (.cells #[.slice none 0 0] 28) (.cells #[.int .i64 e.a, .int .i64 e.n, .int .i64 e.d, .int .i64 e.f] 32)
  rw [HW1.out] at hal
  obtain ⟨r0, r1, r2, r3⟩ := hal
  have hbx : Bxs w W1 a L.length cap e := ⟨r0, r2, r3, by omega⟩
  have T1 := T.step HB1.out
  obtain ⟨q0, q1, q2, q3, q4⟩ := row5 r1
  obtain ⟨y0, y1⟩ := row1 r0
  obtain ⟨e0, e1, e2, e3⟩ := row4 r3
  have hbw := T.x.lt
  have HVW : Hid (∀ k, v.ownBlock = some k → k < w.heap.size) := fun k hk => (T.x.own.lt k hk).2
  have HAW : Hid (∀ k, blk a k → k < w.heap.size) := fun k hk => (T.ap k hk).2.2
  have hWw := T.bel.size
  obtain ⟨ha, hn, hd, hf⟩ := he
  unfold I64 at ha hn hd hf
  rw [← HW1.out] at q0 q1 q2 q3 q4 y0 e0 e1 e2 e3
  have hrc := refPut_any L a cap e W1 T1.ll T1.y ha.2
  have HT1 := Hid_of T1
  have HBX := Hid_of hbx
  have HFB := Hid_of fb
  clear T T1 hbx r0 r1 r2 r3 y1 fb
  have hput := fun (w' : World) (hx : XI w' W.heap.size b v P) (hbw' : W.heap.size ≤ w'.heap.size) => put_any W.heap.size b v P e w' hx hbw' ha.2
  have HEV : Hid (EV e = .agg #[.int .i64 e.a, .int .i64 e.n, .int .i64 e.d, .int .i64 e.f]) := rfl
  rw [HEV.out] at hrc
  simp only [HEV.out] at hput
  generalize hea : e.a = pa at *
  generalize hen : e.n = pn at *
  generalize hed : e.d = pd at *
  generalize hef : e.f = pf at *
  go_enter Try.func9, Try.ntmps9
  go_wp2_with fail
  rw [HW1.out]
  refine hrc.mono ?_
  rintro x w2 hx
  obtain ⟨v2, L2, rfl, o2, hl2, hg2, B2⟩ := hx
  obtain ⟨a2, cap2, rfl, T2⟩ := HT1.out.res B2 o2 hl2
  have HG2 := Hid_of hg2
  have hb2 := HBX.out.keep B2
  have T3 := T2.step (bel1 w2 (.cells #[.slice a2 L2.length cap2] 28))
  have hb3 := hb2.keep (bel1 w2 (.cells #[.slice a2 L2.length cap2] 28))
  obtain ⟨W3, HW3⟩ : ∃ W3, Hid (w2.alloc (.cells #[.slice a2 L2.length cap2] 28) = W3) := ⟨_, rfl⟩
  have hz3 : W3.heap[w2.heap.size]? = some (.cells #[.slice a2 L2.length cap2] 28 (0, 0)) := by rw [← HW3.out]; exact heap_alloc_last w2 _
  have hs3 : W3.heap.size = w2.heap.size + 1 := by rw [← HW3.out]; simp
  rw [HW3.out] at T3 hb3
  have hsz2 := hb2.sz
  have HT3 := Hid_of T3
  have HBW3 : Hid (Below w.heap.size w W3) := by rw [← HW3.out]; exact bel_up (bel_up HB1.out B2 (Nat.le_refl _)) (bel1 w2 _) (Nat.le_refl _)
  have HB3 := Hid_of hb3
  have HS : Hid (∀ w', (Below W3.heap.size W3 w' ∨ ∃ w5 v' , Below W3.heap.size W3 w5 ∧ Ch w5 b v w' v') → w'.cell? ⟨w2.heap.size, 0, none⟩ = some (.slice a2 L2.length cap2) ∧ (w'.cell? ⟨w.heap.size + 3, 0, none⟩ = some (.int .i64 pa) ∧ w'.cell? ⟨w.heap.size + 3, 1, none⟩ = some (.int .i64 pn) ∧ w'.cell? ⟨w.heap.size + 3, 2, none⟩ = some (.int .i64 pd) ∧ w'.cell? ⟨w.heap.size + 3, 3, none⟩ = some (.int .i64 pf)) ∧ w'.heap[w.heap.size + 2]? = some (.cells #[.slice none 0 0] 28 (0, 0))) := by
    intro w' hw'
    have key : w'.heap[w2.heap.size]? = some (.cells #[.slice a2 L2.length cap2] 28 (0, 0)) ∧ Bxs w w' a L.length cap e := by
      rcases hw' with hb | ⟨w5, v', hb, hc⟩
      · exact ⟨(hb.block _ (by omega)).trans hz3, HB3.out.keep hb⟩
      · refine ⟨(hc.block _ (by have := hb.size; omega) (by omega) (fun e' => by have := HVW.out _ e'; omega)).trans ((hb.block _ (by omega)).trans hz3), (HB3.out.keep hb).ch hc hbw HVW.out⟩
    have he := row4 key.2.e
    rw [hea, hen, hed, hef] at he
    exact ⟨(row1 key.1).1, he, key.2.r⟩
  obtain ⟨s0, ⟨s1, s2, s3, s4⟩, s5⟩ := HS.out W3 (.inl (Below.refl _ _))
  have HAP : Hid (∀ k, blk a2 k → W1.heap.size ≤ k ∨ blk a k) := xres_low o2
  have hbig : W1.heap.size ≤ w2.heap.size := B2.size
  have HPUT : Hid (∀ w', Below W3.heap.size W3 w' → Calls Try.prog 19 #[.pointer (some ⟨b, 0, none⟩), .agg #[.int .i64 pa, .int .i64 pn, .int .i64 pd, .int .i64 pf]] w' fun x w'' => x = .returned (.int .i64 (if prp e then 0 else 1)) ∧ XOut w' W.heap.size b v (putF P e) w'') := fun w' hb' => hput w' ((HT3.out.step hb').x) (by have := (HT3.out.step hb').bel.size; omega)
  have HEND : Hid (∀ w5 w6, Below W3.heap.size W3 w5 → XOut w5 W.heap.size b v (putF P e) w6 → (∃ v', Ch w5 b v w6 v') ∧ DoOut W w b v P a L (.returned (.tuple #[.agg #[.slice a2 L2.length cap2], .bool (true)])) (w6.setCell ⟨w.heap.size + 2, 0, none⟩ (.slice a2 L2.length cap2))) := by
    rintro w5 w6 hb5 ⟨v6, P6, X6, R6, C6⟩
    have T6 := (HT3.out.step hb5).obj X6 C6
    refine ⟨⟨v6, C6⟩, v6, P6, a2, cap2, L2, _, rfl, T6.set _ (by omega) (by omega) ?_ ?_, fun hrx => ?_, (((Ch.ofBelow HBW3.out).trans (Ch.ofBelow hb5)).trans C6).set (by omega) _, fun k hk => ?_⟩
    · intro e'
      rcases C6.n _ e' with h' | h'
      · have := HVW.out _ h'; omega
      · have := hb5.size; omega
    · intro hk
      rcases HAP.out _ hk with h' | h'
      · omega
      · have := HAW.out _ h'; omega
    · exact ⟨rx_put hrx hl2 HG2.out R6, rfl⟩
    · rcases HAP.out _ hk with h' | h'
      · exact .inl (by omega)
      · exact .inr h'
  clear T2 T3 hb2 hb3 o2 B2 hrc hput HW1 q0 q1 q2 q3 q4 y0 e0 e1 e2 e3 HT3 HB3 HAP HT1 HBX hz3
  clear hg2
  generalize (if prp e = true then (0 : Int) else 1) = rr at *
  go_wp2_with fail
  rw [HW3.out]
  clear HW3
  go_region_held3 (fun wq => wq.cell? ⟨w2.heap.size, 0, none⟩ = some (.slice a2 L2.length cap2) ∧ (wq.cell? ⟨w.heap.size + 3, 0, none⟩ = some (.int .i64 pa) ∧ wq.cell? ⟨w.heap.size + 3, 1, none⟩ = some (.int .i64 pn) ∧ wq.cell? ⟨w.heap.size + 3, 2, none⟩ = some (.int .i64 pd) ∧ wq.cell? ⟨w.heap.size + 3, 3, none⟩ = some (.int .i64 pf))) (first | exact ⟨(HS.out _ (.inl (Below.refl _ _))).1, (HS.out _ (.inl (Below.refl _ _))).2.1⟩ | exact ⟨(HS.out _ (.inl (Below.drew (Below.refl _ _)))).1, (HS.out _ (.inl (Below.drew (Below.refl _ _)))).2.1⟩ | exact s8 | exact ⟨s7.1, s7.2.1⟩) (first
    | (go_at_call 19; refine (HPUT.out _ (Below.drew (Below.refl _ _))).mono ?_; rintro x w6 hx6; obtain ⟨rfl, hx7⟩ := hx6; obtain ⟨⟨v7, C7⟩, hk7⟩ := HEND.out _ w6 (Below.drew (Below.refl _ _)) hx7; have HK := Hid_of hk7; have s7 := HS.out w6 (.inr ⟨_, v7, Below.drew (Below.refl _ _), C7⟩); obtain ⟨t0, t1⟩ := row1 s7.2.2; have HRR := Hid_of (heap_setCell_same w6 (w.heap.size + 2) 0 _ _ (.slice a2 L2.length cap2) s7.2.2); have s8 := five_set s7.1 s7.2.1 (show w.heap.size + 1 + 1 ≠ w2.heap.size by omega) (show w.heap.size + 1 + 1 ≠ w.heap.size + 3 by omega) (.slice a2 L2.length cap2); clear hx7 C7 hk7))
  all_goals
    clear HS HPUT HEND s0 s1 s2 s3 s4 s5 s7 s8 t0 t1
    go_wp2
    refine bodyPost_ret (v := .tuple #[.agg #[.slice a2 L2.length cap2], .bool (true)]) ?_ rfl HK.out
    exact res_cell_tmp f9_res _ _ (w.heap.size + 2) _ rfl HRR.out

set_option maxRecDepth 100000 in
set_option maxHeartbeats 4000000 in
theorem do_3 (W w : World) (b : Nat) (v : Value) (P : List E) (a : Option Addr) (cap : Nat) (L : List (Int × Int)) (e : E) (T : Two W w b v P a cap L) (fb : ∀ j (hj : j < L.length), 0 ≤ L[j].1 → 0 ≤ L[j].2 ∧ L[j].2 ≤ 1099511627776) (he : I64 e.a ∧ I64 e.n ∧ I64 e.d ∧ I64 e.f) :
    Calls Try.prog 9 #[.pointer (some ⟨b, 0, none⟩), .agg #[.slice a L.length cap], .agg #[.int .i64 3, .int .i64 e.a, .int .i64 e.n, .int .i64 e.d, .int .i64 e.f]] w (DoOut W w b v P a L) := by
  obtain ⟨W1, HW1⟩ : ∃ W1, Hid ((((w.alloc (.cells #[.slice a L.length cap] 28)).alloc (.cells #[.int .i64 3, .int .i64 e.a, .int .i64 e.n, .int .i64 e.d, .int .i64 e.f] 34)).alloc (.cells #[.slice none 0 0] 28)).alloc (.cells #[.int .i64 e.a, .int .i64 e.n, .int .i64 e.d, .int .i64 e.f] 32) = W1) := ⟨_, rfl⟩
  have HB1 : Hid (Below w.heap.size w W1) := by rw [← HW1.out]; exact (((bel1 w _).alloc (by simp) _).alloc (by simp; omega) _).alloc (by simp; omega) _
  have hs1 : W1.heap.size = w.heap.size + 4 := by rw [← HW1.out]; simp
  have hal := alloc4 w (.cells #[.slice a L.length cap] 28) (.cells #[.int .i64 3, .int .i64 e.a, .int .i64 e.n, .int .i64 e.d, .int .i64 e.f] 34) (.cells #[.slice none 0 0] 28) (.cells #[.int .i64 e.a, .int .i64 e.n, .int .i64 e.d, .int .i64 e.f] 32)
  rw [HW1.out] at hal
  obtain ⟨r0, r1, r2, r3⟩ := hal
  have hbx : Bxs w W1 a L.length cap e := ⟨r0, r2, r3, by omega⟩
  have T1 := T.step HB1.out
  obtain ⟨q0, q1, q2, q3, q4⟩ := row5 r1
  obtain ⟨y0, y1⟩ := row1 r0
  obtain ⟨e0, e1, e2, e3⟩ := row4 r3
  have hbw := T.x.lt
  have HVW : Hid (∀ k, v.ownBlock = some k → k < w.heap.size) := fun k hk => (T.x.own.lt k hk).2
  have HAW : Hid (∀ k, blk a k → k < w.heap.size) := fun k hk => (T.ap k hk).2.2
  have hWw := T.bel.size
  obtain ⟨ha, hn, hd, hf⟩ := he
  unfold I64 at ha hn hd hf
  rw [← HW1.out] at q0 q1 q2 q3 q4 y0 e0 e1 e2 e3
  have hrc := refMove_any L a cap e.d e.f e.n e.a W1 T1.ll T1.y hn.2 fb
  have HT1 := Hid_of T1
  have HBX := Hid_of hbx
  have HFB := Hid_of fb
  clear T T1 hbx r0 r1 r2 r3 y1 fb
  have hput := fun (w' : World) (hx : XI w' W.heap.size b v P) (hbw' : W.heap.size ≤ w'.heap.size) => move_any W.heap.size b v P e.d e.f e.n e.a w' hx hbw' hf.1 hn.2
  have HEV : Hid (EV e = .agg #[.int .i64 e.a, .int .i64 e.n, .int .i64 e.d, .int .i64 e.f]) := rfl
  generalize hea : e.a = pa at *
  generalize hen : e.n = pn at *
  generalize hed : e.d = pd at *
  generalize hef : e.f = pf at *
  go_enter Try.func9, Try.ntmps9
  go_wp2_with fail
  rw [HW1.out]
  refine hrc.mono ?_
  rintro x w2 hx
  obtain ⟨v2, L2, rfl, o2, hl2, hg2, B2⟩ := hx
  obtain ⟨a2, cap2, rfl, T2⟩ := HT1.out.ref B2 o2 (by have := HT1.out.ll; omega)
  have HG2 := Hid_of hg2
  have HL2 := Hid_of hl2
  have HGP : Hid (M.G P) := T2.x.g
  clear hl2
  have hb2 := HBX.out.keep B2
  have T3 := T2.step (bel1 w2 (.cells #[.slice a2 L2.length cap2] 28))
  have hb3 := hb2.keep (bel1 w2 (.cells #[.slice a2 L2.length cap2] 28))
  obtain ⟨W3, HW3⟩ : ∃ W3, Hid (w2.alloc (.cells #[.slice a2 L2.length cap2] 28) = W3) := ⟨_, rfl⟩
  have hz3 : W3.heap[w2.heap.size]? = some (.cells #[.slice a2 L2.length cap2] 28 (0, 0)) := by rw [← HW3.out]; exact heap_alloc_last w2 _
  have hs3 : W3.heap.size = w2.heap.size + 1 := by rw [← HW3.out]; simp
  rw [HW3.out] at T3 hb3
  have hsz2 := hb2.sz
  have HT3 := Hid_of T3
  have HBW3 : Hid (Below w.heap.size w W3) := by rw [← HW3.out]; exact bel_up (bel_up HB1.out B2 (Nat.le_refl _)) (bel1 w2 _) (Nat.le_refl _)
  have HB3 := Hid_of hb3
  have HS : Hid (∀ w', (Below W3.heap.size W3 w' ∨ ∃ w5 v' , Below W3.heap.size W3 w5 ∧ Ch w5 b v w' v') → w'.cell? ⟨w2.heap.size, 0, none⟩ = some (.slice a2 L2.length cap2) ∧ (w'.cell? ⟨w.heap.size + 3, 0, none⟩ = some (.int .i64 pa) ∧ w'.cell? ⟨w.heap.size + 3, 1, none⟩ = some (.int .i64 pn) ∧ w'.cell? ⟨w.heap.size + 3, 2, none⟩ = some (.int .i64 pd) ∧ w'.cell? ⟨w.heap.size + 3, 3, none⟩ = some (.int .i64 pf)) ∧ w'.heap[w.heap.size + 2]? = some (.cells #[.slice none 0 0] 28 (0, 0))) := by
    intro w' hw'
    have key : w'.heap[w2.heap.size]? = some (.cells #[.slice a2 L2.length cap2] 28 (0, 0)) ∧ Bxs w w' a L.length cap e := by
      rcases hw' with hb | ⟨w5, v', hb, hc⟩
      · exact ⟨(hb.block _ (by omega)).trans hz3, HB3.out.keep hb⟩
      · refine ⟨(hc.block _ (by have := hb.size; omega) (by omega) (fun e' => by have := HVW.out _ e'; omega)).trans ((hb.block _ (by omega)).trans hz3), (HB3.out.keep hb).ch hc hbw HVW.out⟩
    have he := row4 key.2.e
    rw [hea, hen, hed, hef] at he
    exact ⟨(row1 key.1).1, he, key.2.r⟩
  obtain ⟨s0, ⟨s1, s2, s3, s4⟩, s5⟩ := HS.out W3 (.inl (Below.refl _ _))
  have HAP : Hid (∀ k, blk a2 k → W1.heap.size ≤ k ∨ blk a k) := fun k hk => .inl (ownB_low o2 k hk)
  have hbig : W1.heap.size ≤ w2.heap.size := B2.size
  have HPUT : Hid (∀ w', Below W3.heap.size W3 w' → Calls Try.prog 21 #[.pointer (some ⟨b, 0, none⟩), .int .i64 pd, .int .i64 pf, .int .i64 pn, .int .i64 pa] w' fun x w'' => x = .returned (.int .i64 (movN P pd (wlo pf 1073758208) (whi pf pn 1073758208) pa)) ∧ XOut w' W.heap.size b v (movF P pd (wlo pf 1073758208) (whi pf pn 1073758208) pa) w'') := fun w' hb' => hput w' ((HT3.out.step hb').x) (by have := (HT3.out.step hb').bel.size; omega)
  have HEND : Hid (∀ w5 w6, Below W3.heap.size W3 w5 → XOut w5 W.heap.size b v (movF P pd (wlo pf 1073758208) (whi pf pn 1073758208) pa) w6 → (∃ v', Ch w5 b v w6 v') ∧ DoOut W w b v P a L (.returned (.tuple #[.agg #[.slice a2 L2.length cap2], .bool (movN P pd (wlo pf 1073758208) (whi pf pn 1073758208) pa == M.cnt (movQ L pd pf pn pa) L.length)])) (w6.setCell ⟨w.heap.size + 2, 0, none⟩ (.slice a2 L2.length cap2))) := by
    rintro w5 w6 hb5 ⟨v6, P6, X6, R6, C6⟩
    have T6 := (HT3.out.step hb5).obj X6 C6
    refine ⟨⟨v6, C6⟩, v6, P6, a2, cap2, L2, _, rfl, T6.set _ (by omega) (by omega) ?_ ?_, fun hrx => ?_, (((Ch.ofBelow HBW3.out).trans (Ch.ofBelow hb5)).trans C6).set (by omega) _, fun k hk => ?_⟩
    · intro e'
      rcases C6.n _ e' with h' | h'
      · have := HVW.out _ h'; omega
      · have := hb5.size; omega
    · intro hk
      rcases HAP.out _ hk with h' | h'
      · omega
      · have := HAW.out _ h'; omega
    · exact ⟨rx_move hrx HGP.out HL2.out HG2.out R6, by simpa using movN_eq hrx HGP.out pd pf pn pa⟩
    · rcases HAP.out _ hk with h' | h'
      · exact .inl (by omega)
      · exact .inr h'
  clear T2 T3 hb2 hb3 o2 B2 hrc hput HW1 q0 q1 q2 q3 q4 y0 e0 e1 e2 e3 HT3 HB3 HAP HT1 HBX hz3
  clear hg2
  generalize movF P pd (wlo pf 1073758208) (whi pf pn 1073758208) pa = FF at *
  generalize movN P pd (wlo pf 1073758208) (whi pf pn 1073758208) pa = m1 at *
  generalize M.cnt (movQ L pd pf pn pa) L.length = m2 at *
  go_wp2_with fail
  rw [HW3.out]
  clear HW3
  go_region_held3 (fun wq => wq.cell? ⟨w2.heap.size, 0, none⟩ = some (.slice a2 L2.length cap2) ∧ (wq.cell? ⟨w.heap.size + 3, 0, none⟩ = some (.int .i64 pa) ∧ wq.cell? ⟨w.heap.size + 3, 1, none⟩ = some (.int .i64 pn) ∧ wq.cell? ⟨w.heap.size + 3, 2, none⟩ = some (.int .i64 pd) ∧ wq.cell? ⟨w.heap.size + 3, 3, none⟩ = some (.int .i64 pf))) (first | exact ⟨(HS.out _ (.inl (Below.refl _ _))).1, (HS.out _ (.inl (Below.refl _ _))).2.1⟩ | exact ⟨(HS.out _ (.inl (Below.drew (Below.refl _ _)))).1, (HS.out _ (.inl (Below.drew (Below.refl _ _)))).2.1⟩ | exact s8 | exact ⟨s7.1, s7.2.1⟩) (first
    | (go_at_call 21; refine (HPUT.out _ (Below.drew (Below.refl _ _))).mono ?_; rintro x w6 hx6; obtain ⟨rfl, hx7⟩ := hx6; obtain ⟨⟨v7, C7⟩, hk7⟩ := HEND.out _ w6 (Below.drew (Below.refl _ _)) hx7; have HK := Hid_of hk7; have s7 := HS.out w6 (.inr ⟨_, v7, Below.drew (Below.refl _ _), C7⟩); obtain ⟨t0, t1⟩ := row1 s7.2.2; have HRR := Hid_of (heap_setCell_same w6 (w.heap.size + 2) 0 _ _ (.slice a2 L2.length cap2) s7.2.2); have s8 := five_set s7.1 s7.2.1 (show w.heap.size + 1 + 1 ≠ w2.heap.size by omega) (show w.heap.size + 1 + 1 ≠ w.heap.size + 3 by omega) (.slice a2 L2.length cap2); clear hx7 C7 hk7))
  all_goals
    clear HS HPUT HEND s0 s1 s2 s3 s4 s5 s7 s8 t0 t1
    go_wp2
    refine bodyPost_ret (v := .tuple #[.agg #[.slice a2 L2.length cap2], .bool (m1 == m2)]) ?_ rfl HK.out
    exact res_cell_tmp f9_res _ _ (w.heap.size + 2) _ rfl HRR.out

theorem do_any (W w : World) (b : Nat) (v : Value) (P : List E) (a : Option Addr) (cap : Nat) (L : List (Int × Int)) (d : Dd) (T : Two W w b v P a cap L) (fb : ∀ j (hj : j < L.length), 0 ≤ L[j].1 → 0 ≤ L[j].2 ∧ L[j].2 ≤ 1099511627776) (hd : d.ok) :
    Calls Try.prog 9 #[.pointer (some ⟨b, 0, none⟩), .agg #[.slice a L.length cap], .agg #[.int .i64 d.k, .int .i64 d.e.a, .int .i64 d.e.n, .int .i64 d.e.d, .int .i64 d.e.f]] w (DoOut W w b v P a L) := by
  by_cases k0 : d.k = 0
  · rw [k0]; exact do_0 W w b v P a cap L d.e T fb hd.2
  by_cases k1 : d.k = 1
  · rw [k1]; exact do_1 W w b v P a cap L d.e T fb hd.2
  by_cases k2 : d.k = 2
  · rw [k2]; exact do_2 W w b v P a cap L d.e T fb hd.2
  by_cases k3 : d.k = 3
  · rw [k3]; exact do_3 W w b v P a cap L d.e T fb hd.2
  exact do_none W w b v P a cap L d.k d.e T k0 k1 k2 k3
end Go.Proofs.Ytajgjkkggppbiaa
