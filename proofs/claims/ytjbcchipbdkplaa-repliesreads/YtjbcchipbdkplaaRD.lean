/-
  What a writer lays of a head, and of a call.
-/
import Derived.Test.YtjbcchipbdkplaaRC
namespace Go.Proofs.Ytjbcchipbdkplaa
open Go.RowKit Go.Maps
set_option linter.unusedVariables false
open Rp (C fup)

theorem Step.cell {b : Nat} {w w' : World} {a' : Option Addr} (h : Step b w none w' a') {k o : Nat} {v : Value} (hc : w.cell? ⟨k, o, none⟩ = some v) (hk : k ≠ b) : w'.cell? ⟨k, o, none⟩ = some v := by
  have hlt := World.block_lt_of_cell? w _ hc
  exact (World.cell?_of_block (w := w) (a := ⟨k, o, none⟩) (h.block k hlt hk (fun ⟨_, _, e⟩ => by cases e))).trans hc
theorem byteW_ok (x : Int) (h : 0 ≤ x ∧ x ≤ 255) (l : List UInt8) (hl : l.length ≤ 100) : M.byteW 65536 (0, l) x = (0, l ++ [UInt8.ofNat x.toNat]) := by
  unfold M.byteW
  rw [if_neg (by simp), if_neg (by omega), M.lay_fits 65536 l _ (by simp; omega)]
theorem enc_nat (k : Nat) (h : k ≤ 1000000) : (M.enc (k : Int)).length ≤ 10 := M.enc_ten _ (by omega)
set_option maxHeartbeats 1000000 in
theorem head1_any (bw bn bk : Nat) (x : Int) (k : Nat) (w : World) (hw : WS w bw none 0 65536 (0, [])) (hn : w.cell? ⟨bn, 0, none⟩ = some (.int .i64 x)) (hk : w.cell? ⟨bk, 0, none⟩ = some (.int .i64 k)) (hb : bn ≠ bw ∧ bk ≠ bw) (hx : 0 ≤ x ∧ x ≤ 255) (hk1 : k ≤ 1000000) :
    Calls Try.prog 54 #[.pointer (some ⟨bw, 0, none⟩), .pointer (some ⟨bn, 0, none⟩), .pointer (some ⟨bk, 0, none⟩)] w fun e w' => e = .returned (.tuple #[]) ∧ WQ w bw none 65536 (0, Rp.hd x k) w' := by
  have hc1 := wbyte_any bw none 0 65536 (0, []) x w hw
  rw [byteW_ok x hx [] (by simp)] at hc1
  have HK := Hid_of hk
  have he := enc_nat k hk1
  go_enter Try.func54, Try.ntmps54
  go_wp2_with fail
  refine hc1.mono ?_
  rintro e w1 ⟨rfl, a1, cap1, hw1, hs1⟩
  have hk' := hs1.cell HK.out hb.2
  have hc2 := wint_any bw a1 cap1 65536 _ (k : Int) w1 hw1 (by omega)
  rw [M.lay_fits 65536 _ _ (by simp; omega)] at hc2
  have HS1 := Hid_of hs1
  clear hc1 hw1 hs1 HK hk hn hw he
  go_wp2_with fail
  refine hc2.mono ?_
  rintro e w2 ⟨rfl, a2, cap2, hw2, hs2⟩
  have HQ : Hid (WQ w bw none 65536 (0, Rp.hd x k) w2) := ⟨a2, cap2, hw2, HS1.out.trans hs2⟩
  clear hc2 hw2 hs2 HS1 hk'
  go_wp2
  go_end0
  exact ⟨rfl, HQ.out⟩
set_option maxHeartbeats 1000000 in
theorem text1_any (bw bc : Nat) (c : C) (w : World) (hw : WS w bw none 0 65536 (0, [])) (h0 : w.cell? ⟨bc, 0, none⟩ = some (.int .i64 c.id)) (h1 : w.cell? ⟨bc, 1, none⟩ = some (.bool c.busy)) (h2 : w.cell? ⟨bc, 2, none⟩ = some (.string (ofL c.reply))) (hb : bc ≠ bw) (hx : 0 ≤ c.id ∧ c.id ≤ 2147483647) (hr : c.reply.length ≤ 4096) :
    Calls Try.prog 57 #[.pointer (some ⟨bw, 0, none⟩), .pointer (some ⟨bc, 0, none⟩)] w fun e w' => e = .returned (.tuple #[]) ∧ WQ w bw none 65536 (0, Rp.encC c) w' := by
  obtain ⟨id, bu, rp⟩ := c
  simp only at h0 h1 h2 hx hr
  have he := M.enc_ten id (by omega)
  have hc1 := wint_any bw none 0 65536 (0, []) id w hw (by omega)
  rw [M.lay_fits 65536 _ _ (by simp; omega)] at hc1
  have H1 := Hid_of h1
  have H2 := Hid_of h2
  have H0 : Hid (bc < w.heap.size) := World.block_lt_of_cell? w _ h0
  cases bu with
  | true =>
    go_enter Try.func57, Try.ntmps57
    go_wp2_with fail
    refine hc1.mono ?_
    rintro e w1 ⟨rfl, a1, cap1, hw1, hs1⟩
    have h1' := hs1.cell H1.out hb
    have hc2 := wbyte_any bw a1 cap1 65536 _ 1 w1 hw1
    rw [byteW_ok 1 (by omega) _ (by simp; omega)] at hc2
    have HS1 := Hid_of hs1
    clear hc1 hw1 hs1 H1 H2 h0 h1 h2 hw he
    go_wp2_with fail
    refine hc2.mono ?_
    rintro e w2 ⟨rfl, a2, cap2, hw2, hs2⟩
    have HQ : Hid (WQ w bw none 65536 (0, Rp.encC ⟨id, true, rp⟩) w2) := ⟨a2, cap2, hw2, HS1.out.trans hs2⟩
    clear hc2 hw2 hs2 HS1 h1'
    go_wp2
    refine bodyPost_ret (results_none rfl _ _ _) rfl ?_
    exact ⟨rfl, HQ.out⟩
  | false =>
    go_enter Try.func57, Try.ntmps57
    go_wp2_with fail
    refine hc1.mono ?_
    rintro e w1 ⟨rfl, a1, cap1, hw1, hs1⟩
    have h1' := hs1.cell H1.out hb
    have h2' := hs1.cell H2.out hb
    have hc2 := wbyte_any bw a1 cap1 65536 _ 0 w1 hw1
    rw [byteW_ok 0 (by omega) _ (by simp; omega)] at hc2
    have HS1 := Hid_of hs1
    have H2' := Hid_of h2'
    clear hc1 hw1 hs1 H1 H2 h0 h1 h2 hw h2'
    go_wp2_with fail
    refine hc2.mono ?_
    rintro e w2 ⟨rfl, a2, cap2, hw2, hs2⟩
    have hs2' := HS1.out.trans hs2
    have hc3 := wtext_any bw a2 cap2 65536 _ rp w2 hw2 (by omega)
    have hel := enc_nat rp.length (by omega)
    rw [M.lay_fits 65536 _ _ (by unfold M.encT; simp; omega)] at hc3
    have h2'' : w2.cell? ⟨bc, 2, none⟩ = some (.string (ofL rp)) := by
      have hlt := World.block_lt_of_cell? w1 _ H2'.out
      refine (World.cell?_of_block (w := w1) (a := ⟨bc, 2, none⟩) (hs2.block bc hlt hb (fun e => ?_))).trans H2'.out
      rcases HS1.out.new bc e with ⟨_, _, e'⟩ | e'
      · cases e'
      · exact absurd e' (Nat.not_le.2 H0.out)
    have HS2 := Hid_of hs2'
    clear hc2 hw2 hs2 hs2' HS1 h1' H2' he hel
    go_wp2_with fail
    refine hc3.mono ?_
    rintro e w3 ⟨rfl, a3, cap3, hw3, hs3⟩
    have HQ : Hid (WQ w bw none 65536 (0, Rp.encC ⟨id, false, rp⟩) w3) := ⟨a3, cap3, by
      have e : Rp.encC ⟨id, false, rp⟩ = ([] ++ M.enc id) ++ [UInt8.ofNat (Int.toNat 0)] ++ M.encT rp := by simp [Rp.encC]
      rw [e]; exact hw3, HS2.out.trans hs3⟩
    clear hc3 hw3 hs3 HS2 h2''
    go_wp2
    go_end0
    exact ⟨rfl, HQ.out⟩
set_option maxHeartbeats 1000000 in
theorem laid_head (bn bk : Nat) (x : Int) (k : Nat) (w : World) (hn : w.cell? ⟨bn, 0, none⟩ = some (.int .i64 x)) (hk : w.cell? ⟨bk, 0, none⟩ = some (.int .i64 k)) (hx : 0 ≤ x ∧ x ≤ 255) (hk1 : k ≤ 1000000) :
    Calls Try.prog 53 #[.func (.func 54) #[] #[.pointer (some ⟨bn, 0, none⟩), .pointer (some ⟨bk, 0, none⟩)]] w fun e w' => e = .returned (.string (ofL (Rp.hd x k))) ∧ Below w.heap.size w w' := by
  have hclip : clip 65536 = 65536 := by unfold clip; omega
  have hnw := newWriter_any 65536 w
  rw [hclip] at hnw
  have HCL : Hid (∀ bw w1, w.heap.size ≤ bw → WS w1 bw none 0 65536 (0, []) → Below w.heap.size w w1 → Calls Try.prog 54 #[.pointer (some ⟨bw, 0, none⟩), .pointer (some ⟨bn, 0, none⟩), .pointer (some ⟨bk, 0, none⟩)] w1 fun e w' => e = .returned (.tuple #[]) ∧ WQ w1 bw none 65536 (0, Rp.hd x k) w') := by
    intro bw w1 hbw hw1 hb1
    have hl1 := World.block_lt_of_cell? w _ hn
    have hl2 := World.block_lt_of_cell? w _ hk
    exact head1_any bw bn bk x k w1 hw1 ((hb1.cell (p := ⟨bn, 0, none⟩) hl1).trans hn) ((hb1.cell (p := ⟨bk, 0, none⟩) hl2).trans hk) ⟨by have : bn < w.heap.size := hl1; omega, by have : bk < w.heap.size := hl2; omega⟩ hx hk1
  clear hclip hn hk
  go_enter Try.func53, Try.ntmps53
  go_wp2_with fail
  refine hnw.mono ?_
  rintro e w1 ⟨bw, rfl, hbw, hw1, hb1⟩
  have hcl := HCL.out bw w1 hbw hw1 hb1
  have HB1 := Hid_of hb1
  have HBW := Hid_of hbw
  clear hnw HCL hw1 hb1 hbw
  go_wp2_with fail
  refine hcl.mono ?_
  rintro e w2 ⟨rfl, a2, cap2, hw2, hs2⟩
  have hd := wdone_any bw a2 cap2 65536 _ w2 hw2
  have HB2 : Hid (Below w.heap.size w w2) := HB1.out.trans (hs2.below HBW.out (fun k hk => by obtain ⟨_, _, e⟩ := hk; cases e) HB1.out.size)
  clear hcl hw2 hs2 HB1 HBW
  go_wp2_with fail
  refine hd.mono ?_
  rintro e w3 ⟨rfl, hb3⟩
  have HB3 : Hid (Below w.heap.size w w3) := bel_up HB2.out hb3 (Nat.le_refl _)
  clear hd hb3 HB2
  go_wp2
  go_ret
  exact ⟨rfl, HB3.out⟩
set_option maxHeartbeats 1000000 in
theorem laid_call (bc : Nat) (c : C) (w : World) (h0 : w.cell? ⟨bc, 0, none⟩ = some (.int .i64 c.id)) (h1 : w.cell? ⟨bc, 1, none⟩ = some (.bool c.busy)) (h2 : w.cell? ⟨bc, 2, none⟩ = some (.string (ofL c.reply))) (hx : 0 ≤ c.id ∧ c.id ≤ 2147483647) (hr : c.reply.length ≤ 4096) :
    Calls Try.prog 53 #[.func (.func 57) #[] #[.pointer (some ⟨bc, 0, none⟩)]] w fun e w' => e = .returned (.string (ofL (Rp.encC c))) ∧ Below w.heap.size w w' := by
  have hclip : clip 65536 = 65536 := by unfold clip; omega
  have hnw := newWriter_any 65536 w
  rw [hclip] at hnw
  have HCL : Hid (∀ bw w1, w.heap.size ≤ bw → WS w1 bw none 0 65536 (0, []) → Below w.heap.size w w1 → Calls Try.prog 57 #[.pointer (some ⟨bw, 0, none⟩), .pointer (some ⟨bc, 0, none⟩)] w1 fun e w' => e = .returned (.tuple #[]) ∧ WQ w1 bw none 65536 (0, Rp.encC c) w') := by
    intro bw w1 hbw hw1 hb1
    have hl1 : bc < w.heap.size := World.block_lt_of_cell? w _ h0
    exact text1_any bw bc c w1 hw1 ((hb1.cell (p := ⟨bc, 0, none⟩) hl1).trans h0) ((hb1.cell (p := ⟨bc, 1, none⟩) hl1).trans h1) ((hb1.cell (p := ⟨bc, 2, none⟩) hl1).trans h2) (by omega) hx hr
  clear hclip h0 h1 h2
  go_enter Try.func53, Try.ntmps53
  go_wp2_with fail
  refine hnw.mono ?_
  rintro e w1 ⟨bw, rfl, hbw, hw1, hb1⟩
  have hcl := HCL.out bw w1 hbw hw1 hb1
  have HB1 := Hid_of hb1
  have HBW := Hid_of hbw
  clear hnw HCL hw1 hb1 hbw
  go_wp2_with fail
  refine hcl.mono ?_
  rintro e w2 ⟨rfl, a2, cap2, hw2, hs2⟩
  have hd := wdone_any bw a2 cap2 65536 _ w2 hw2
  have HB2 : Hid (Below w.heap.size w w2) := HB1.out.trans (hs2.below HBW.out (fun k hk => by obtain ⟨_, _, e⟩ := hk; cases e) HB1.out.size)
  clear hcl hw2 hs2 HB1 HBW
  go_wp2_with fail
  refine hd.mono ?_
  rintro e w3 ⟨rfl, hb3⟩
  have HB3 : Hid (Below w.heap.size w w3) := bel_up HB2.out hb3 (Nat.le_refl _)
  clear hd hb3 HB2
  go_wp2
  go_ret
  exact ⟨rfl, HB3.out⟩
set_option maxHeartbeats 1000000 in
theorem headText_any (x : Int) (k : Nat) (w : World) (hx : 0 ≤ x ∧ x ≤ 255) (hk1 : k ≤ 1000000) :
    Calls Try.prog 33 #[.int .i64 x, .int .i64 k] w fun e w' => e = .returned (.string (ofL (Rp.hd x k))) ∧ Below w.heap.size w w' := by
  have hmk := hmf
  obtain ⟨W, HW⟩ : ∃ W, Hid ((w.alloc (.cells #[.int .i64 x] 3)).alloc (.cells #[.int .i64 k] 3) = W) := ⟨_, Hid_of rfl⟩
  have HB : Hid (Below w.heap.size w W) := by rw [← HW.out]; exact (bel1 w _).alloc (by simp) _
  have g0 := heap_alloc2_old w (.cells #[.int .i64 x] 3) (.cells #[.int .i64 k] 3)
  have g1 := heap_alloc2_new w (.cells #[.int .i64 x] 3) (.cells #[.int .i64 k] 3)
  rw [HW.out] at g0 g1
  have hl := laid_head w.heap.size (w.heap.size + 1) x k W (row1 g0).1 (row1 g1).1 hx hk1
  clear g0 g1
  go_enter Try.func33, Try.ntmps33
  go_upto_region 1 with fail
  rw [HW.out]
  go_wp2_with fail
  refine hl.mono ?_
  rintro e w1 ⟨rfl, hb1⟩
  have HB1 : Hid (Below w.heap.size w w1) := bel_up HB.out hb1 (Nat.le_refl _)
  clear hl hb1
  go_wp2
  go_ret
  exact ⟨rfl, HB1.out⟩
set_option maxHeartbeats 1000000 in
theorem callText_any (c : C) (w : World) (hx : 0 ≤ c.id ∧ c.id ≤ 2147483647) (hr : c.reply.length ≤ 4096) :
    Calls Try.prog 34 #[.agg #[.int .i64 c.id, .bool c.busy, .string (ofL c.reply)]] w fun e w' => e = .returned (.string (ofL (Rp.encC c))) ∧ Below w.heap.size w w' := by
  have hmk := hmf
  obtain ⟨W, HW⟩ : ∃ W, Hid (w.alloc (.cells #[.int .i64 c.id, .bool c.busy, .string (ofL c.reply)] 66) = W) := ⟨_, Hid_of rfl⟩
  have HB : Hid (Below w.heap.size w W) := by rw [← HW.out]; exact bel1 w _
  have g0 : W.heap[w.heap.size]? = some (.cells #[.int .i64 c.id, .bool c.busy, .string (ofL c.reply)] 66 (0, 0)) := by rw [← HW.out]; exact heap_alloc_last w _
  obtain ⟨⟨z0, z1, z2⟩, _⟩ := row3 g0
  have hl := laid_call w.heap.size c W z0 z1 z2 hx hr
  generalize Rp.encC c = o at *
  generalize c.id = x0 at *
  generalize c.busy = x1 at *
  generalize c.reply = x2 at *
  clear g0 z0 z1 z2
  go_enter Try.func34, Try.ntmps34
  go_upto_region 1 with fail
  rw [HW.out]
  go_wp2_with fail
  refine hl.mono ?_
  rintro e w1 ⟨rfl, hb1⟩
  have HB1 : Hid (Below w.heap.size w w1) := bel_up HB.out hb1 (Nat.le_refl _)
  clear hl hb1
  go_wp2
  go_ret
  exact ⟨rfl, HB1.out⟩
end Go.Proofs.Ytjbcchipbdkplaa
