/-
  What is read of a device.
-/
import Derived.Test.YthffglacokfkgaaX
import Derived.Test.YthffglacokfkgaaG
namespace Go.Proofs.Ythffglacokfkgaa
open Go.RowKit
open M (ofL ofL_size ofL_of)
set_option linter.unusedVariables false

/-- The bytes of both places. -/
def both (P : List M.Pl) : List UInt8 := (M.cat (P.map M.last)).data.toList
def rdP (P : List M.Pl) : Nat × List UInt8 := Sp.rd (both P)
def rcode (x : Nat × List UInt8) : Int := bif decide (x.1 = 0) then 7 else 0
theorem rd_par (s : List UInt8) : (Sp.rd s).1 = 0 ∧ (Sp.rd s).2 = [] ∨ 1 ≤ (Sp.rd s).1 ∧ (Sp.rd s).1 < 2147483648 ∧ (Sp.rd s).2.length ≤ 244 := by
  unfold Sp.rd
  rcases Sp.sa_par 0 (s.take 256) with ⟨h1, h2⟩ | ⟨h1, h2, h3, h4, h5⟩ <;> rcases Sp.sa_par 1 (s.drop 256) with ⟨k1, k2⟩ | ⟨k1, k2, k3, k4, k5⟩ <;> cases hd : decide ((Sp.sa 0 (s.take 256)).1 < (Sp.sa 1 (s.drop 256)).1)
  · exact .inl ⟨h1, h2⟩
  · exact .inl ⟨k1, k2⟩
  · exact .inl ⟨h1, h2⟩
  · exact .inr ⟨k1, k3, k4⟩
  · exact .inr ⟨h1, h3, h4⟩
  · simp at hd; omega
  · exact .inr ⟨h1, h3, h4⟩
  · exact .inr ⟨k1, k3, k4⟩
theorem sread_piece (P : List M.Pl) (hl : P.length = 8) (hok : M.Ok P) :
    (M.cat (P.map M.last)).size = 512 ∧ ((M.cat (P.map M.last)).extract 0 256).data.toList = (both P).take 256 ∧ ((M.cat (P.map M.last)).extract 256 512).data.toList = (both P).drop 256 := by
  have hs : (M.cat (P.map M.last)).size = 512 := by
    rw [M.cat_size _ (fun s hs => by
      obtain ⟨p, hp, rfl⟩ := List.mem_map.1 hs
      exact hok.last p hp), List.length_map, hl]
  refine ⟨hs, ?_, ?_⟩
  · rw [extract_list _ _ _ (by omega)]; rfl
  · rw [extract_list _ _ _ (by omega), List.take_of_length_le (by rw [List.length_drop, len_data]; omega)]
    rfl
/-- Half read. -/
def acc (s : List UInt8) : Nat → Nat × List UInt8
  | 0 => (0, [])
  | 1 => Sp.sa 0 (s.take 256)
  | _ => Sp.rd s
theorem acc_1 (s : List UInt8) : acc s 1 = bif decide (0 < (Sp.sa 0 (s.take 256)).1) then Sp.sa 0 (s.take 256) else (0, []) := by
  show Sp.sa 0 (s.take 256) = _
  cases hd : decide (0 < (Sp.sa 0 (s.take 256)).1)
  · rcases Sp.sa_par 0 (s.take 256) with ⟨h1, h2⟩ | ⟨h1, _⟩
    · exact Prod.ext h1 h2
    · simp at hd; omega
  · rfl
theorem sa_lt (pl : Nat) (s : List UInt8) : (Sp.sa pl s).1 < 4294967296 := by
  rcases Sp.sa_par pl s with ⟨h1, _⟩ | ⟨_, _, h1, _⟩ <;> omega
theorem acc_lt (s : List UInt8) (k : Nat) : (acc s k).1 < 4294967296 := by
  match k with
  | 0 => exact Nat.zero_lt_succ _
  | 1 => exact sa_lt _ _
  | k + 2 =>
    show (Sp.rd s).1 < _
    rcases rd_par s with ⟨h1, _⟩ | ⟨_, h1, _⟩ <;> omega
/-- The newest's box. -/
structure Nw (w : World) (B : Nat) (x : Nat × List UInt8) (W : World) : Prop where
  r : W.heap[B]? = some (.cells (SV x) 64 (0, 0))
  bel : Below w.heap.size w W
theorem Nw.up {w W W' : World} {B : Nat} {x : Nat × List UInt8} (h : Nw w B x W) (hb : Below W.heap.size W W') : Nw w B x W' := ⟨bel_row h.r hb, bel_up h.bel hb (Nat.le_refl _)⟩
theorem Nw.lt {w W : World} {B : Nat} {x : Nat × List UInt8} (h : Nw w B x W) : B < W.heap.size := (Array.getElem?_eq_some_iff.1 h.r).1
theorem Nw.put {w W : World} {B : Nat} {x y : Nat × List UInt8} (h : Nw w B x W) (hB : w.heap.size ≤ B) : Nw w B y (st3 W B (.int .u32 y.1) (.int .u32 (y.2.length : Nat)) (.string (ofL y.2))) := ⟨put3 _ _ _ h.r, below3 h.bel hB⟩
/-- Two of them. -/
theorem Nw.two {w W : World} {B : Nat} {x y : Nat × List UInt8} (h : Nw w B x W) : Nw w B x (W.alloc (.cells (SV y) 64)) ∧ (W.alloc (.cells (SV y) 64)).heap[W.heap.size]? = some (.cells (SV y) 64 (0, 0)) :=
  ⟨h.up (bel1 W _), heap_alloc_last W _⟩
set_option maxRecDepth 100000 in
set_option maxHeartbeats 2000000 in
theorem DS.sread {w0 w : World} {b : Nat} {F : Nat → Prop} {P : List M.Pl} (h : DS w0 w b F 8 P false) :
    Calls Try.prog 13 #[.pointer (some ⟨b, 0, none⟩)] w fun e w' => e = .returned (.tuple #[.string (ofL (rdP P).2), .int .i64 (rdP P).1, .int .i64 (rcode (rdP P))]) ∧ Below w.heap.size w w' := by
  have hr := h.read 0 8 (by omega)
  obtain ⟨r1, r2⟩ := M.rtext_all h.len (by omega)
  have e8 : ((8 : Nat) : Int) = 8 := rfl
  rw [e8] at r1 r2
  rw [r1, r2] at hr
  obtain ⟨z0, z1, z2⟩ := sread_piece P h.len h.ok.1
  have c0 := fun W => stateAt_any 0 ((M.cat (P.map M.last)).extract 0 256) W (by rw [ByteArray.size_extract]; omega)
  have c1 := fun W => stateAt_any 1 ((M.cat (P.map M.last)).extract 256 512) W (by rw [ByteArray.size_extract]; omega)
  rw [z1] at c0
  rw [z2] at c1
  have hp := rd_par (both P)
  have a1 : acc (both P) 1 = bif decide ((acc (both P) 0).1 < (Sp.sa 0 ((both P).take 256)).1) then Sp.sa 0 ((both P).take 256) else acc (both P) 0 := acc_1 (both P)
  have a2 : acc (both P) 2 = bif decide ((acc (both P) 1).1 < (Sp.sa 1 ((both P).drop 256)).1) then Sp.sa 1 ((both P).drop 256) else acc (both P) 1 := rfl
  have a3 : acc (both P) 2 = rdP P := rfl
  unfold rdP at *
  clear h z1 z2 r1 r2
  generalize M.cat (P.map M.last) = X at *
  generalize both P = s at *
  go_enter Try.func13, Try.ntmps13
  go_wp2_with fail
  refine hr.mono ?_
  rintro e w1 ⟨rfl, hb1, _⟩
  have HB0 : Hid (w.heap.size ≤ w1.heap.size) := hb1.size
  obtain ⟨W1, hW1⟩ : ∃ W1, w1.alloc (.cells #[.int .u32 0, .int .u32 0, .string { data := #[] }] 64) = W1 := ⟨_, rfl⟩
  have HN1 : Hid (Nw w w1.heap.size (acc s 0) W1) := by
    rw [← hW1]
    exact ⟨heap_alloc_last w1 _, bel_up hb1 (bel1 w1 _) (Nat.le_refl _)⟩
  have HW1 := Hid_of hW1
  clear hr hb1 hW1
  go_upto_region 7 with fail
  rw [HW1.out]
  go_wp2
  go_loopw [20] (fun i wr => ∃ k : Nat, k ≤ 2 ∧ i = .int .i64 k ∧ Nw w w1.heap.size (acc s k) wr) (fun i _ => 2 - (intOf i).toNat)
  case atStart => exact ⟨0, by omega, rfl, HN1.out⟩
  case round =>
    obtain ⟨k, hk, rfl, hN⟩ := hrel
    clear HN1
    rcases (show k = 0 ∨ k = 1 ∨ k = 2 by omega) with rfl | rfl | rfl
    · obtain ⟨x, hx⟩ : ∃ x, acc s 0 = x := ⟨_, rfl⟩
      obtain ⟨y, hy⟩ : ∃ y, Sp.sa 0 (s.take 256) = y := ⟨_, rfl⟩
      have cc := c0
      rw [hy] at cc a1
      rw [hx] at hN a1
      obtain ⟨xg, xb⟩ := x
      obtain ⟨yg, yb⟩ := y
      have HN0 := Hid_of hN
      have HA := Hid_of a1
      have hxg : xg < 4294967296 := by cases hx; omega
      have hyg : yg < 4294967296 := by have := sa_lt 0 (s.take 256); rw [hy] at this; exact this
      clear hN hy hx c0 c1 hp a1 a2 a3
      unfold SV at cc
      go_wp2_with fail
      refine (cc _).mono ?_
      rintro e w2 ⟨rfl, hb2⟩
      obtain ⟨W3, hW3⟩ : ∃ W3, w2.alloc (.cells #[.int .u32 yg, .int .u32 (yb.length : Nat), .string (ofL yb)] 64) = W3 := ⟨_, rfl⟩
      obtain ⟨hN3, hF3⟩ := (HN0.out.up hb2).two (y := (yg, yb))
      have hne : w1.heap.size ≠ w2.heap.size := by have := (HN0.out.up hb2).lt; omega
      have hN3 : Nw w w1.heap.size (xg, xb) W3 := by rw [← hW3]; exact hN3
      have hF3 : W3.heap[w2.heap.size]? = some (.cells #[.int .u32 yg, .int .u32 (yb.length : Nat), .string (ofL yb)] 64 (0, 0)) := by rw [← hW3]; exact hF3
      have hXr : W3.heap[w1.heap.size]? = some (.cells #[.int .u32 xg, .int .u32 (xb.length : Nat), .string (ofL xb)] 64 (0, 0)) := hN3.r
      obtain ⟨⟨y0, y1, y2⟩, _⟩ := row3f hF3
      obtain ⟨⟨x0, x1, x2⟩, xf⟩ := row3f hXr
      have xf0 := xf 0
      have xf1 := xf 1
      have xf2 := xf 2
      have HN3 := Hid_of hN3
      have HW3 := Hid_of hW3
      clear cc hb2 hN3 hF3 hXr xf hW3 HN0
      go_upto_region 11 with fail
      rw [HW3.out]
      have HBB := Hid_of (Nat.le_refl 0)
      cases hd : decide (xg < yg)
      · have hd' : decide ((xg : Int) < (yg : Int)) = false := by rw [decide_eq_false_iff_not] at hd ⊢; omega
        go_wp2
        go_roundw
        case rel =>
          refine ⟨1, by omega, by rfl, ?_⟩
          rw [HA.out, hd]
          exact HN3.out
        case measure => simp [intOf]
      · have hd' : decide ((xg : Int) < (yg : Int)) = true := by rw [decide_eq_true_iff] at hd ⊢; omega
        go_wp2
        go_roundw
        case rel =>
          refine ⟨1, by omega, by rfl, ?_⟩
          rw [HA.out, hd]
          exact HN3.out.put HB0.out
        case measure => simp [intOf]
    · obtain ⟨x, hx⟩ : ∃ x, acc s 1 = x := ⟨_, rfl⟩
      obtain ⟨y, hy⟩ : ∃ y, Sp.sa 1 (s.drop 256) = y := ⟨_, rfl⟩
      have cc := c1
      rw [hy] at cc a2
      rw [hx] at hN a2
      obtain ⟨xg, xb⟩ := x
      obtain ⟨yg, yb⟩ := y
      have HN0 := Hid_of hN
      have HA := Hid_of a2
      have hxg : xg < 4294967296 := by have := acc_lt s 1; rw [hx] at this; exact this
      have hyg : yg < 4294967296 := by have := sa_lt 1 (s.drop 256); rw [hy] at this; exact this
      clear hN hy hx c0 c1 hp a1 a2 a3
      unfold SV at cc
      go_wp2_with fail
      refine (cc _).mono ?_
      rintro e w2 ⟨rfl, hb2⟩
      obtain ⟨W3, hW3⟩ : ∃ W3, w2.alloc (.cells #[.int .u32 yg, .int .u32 (yb.length : Nat), .string (ofL yb)] 64) = W3 := ⟨_, rfl⟩
      obtain ⟨hN3, hF3⟩ := (HN0.out.up hb2).two (y := (yg, yb))
      have hne : w1.heap.size ≠ w2.heap.size := by have := (HN0.out.up hb2).lt; omega
      have hN3 : Nw w w1.heap.size (xg, xb) W3 := by rw [← hW3]; exact hN3
      have hF3 : W3.heap[w2.heap.size]? = some (.cells #[.int .u32 yg, .int .u32 (yb.length : Nat), .string (ofL yb)] 64 (0, 0)) := by rw [← hW3]; exact hF3
      have hXr : W3.heap[w1.heap.size]? = some (.cells #[.int .u32 xg, .int .u32 (xb.length : Nat), .string (ofL xb)] 64 (0, 0)) := hN3.r
      obtain ⟨⟨y0, y1, y2⟩, _⟩ := row3f hF3
      obtain ⟨⟨x0, x1, x2⟩, xf⟩ := row3f hXr
      have xf0 := xf 0
      have xf1 := xf 1
      have xf2 := xf 2
      have HN3 := Hid_of hN3
      have HW3 := Hid_of hW3
      clear cc hb2 hN3 hF3 hXr xf hW3 HN0
      go_upto_region 11 with fail
      rw [HW3.out]
      have HBB := Hid_of (Nat.le_refl 0)
      cases hd : decide (xg < yg)
      · have hd' : decide ((xg : Int) < (yg : Int)) = false := by rw [decide_eq_false_iff_not] at hd ⊢; omega
        go_wp2
        go_roundw
        case rel =>
          refine ⟨2, by omega, by rfl, ?_⟩
          rw [HA.out, hd]
          exact HN3.out
        case measure => simp [intOf]
      · have hd' : decide ((xg : Int) < (yg : Int)) = true := by rw [decide_eq_true_iff] at hd ⊢; omega
        go_wp2
        go_roundw
        case rel =>
          refine ⟨2, by omega, by rfl, ?_⟩
          rw [HA.out, hd]
          exact HN3.out.put HB0.out
        case measure => simp [intOf]
    · rw [a3] at hN
      obtain ⟨x, hx⟩ : ∃ x, Sp.rd s = x := ⟨_, rfl⟩
      rw [hx] at hN hp
      have HX := Hid_of hx
      obtain ⟨xg, xb⟩ := x
      have hXr : wr.heap[w1.heap.size]? = some (.cells #[.int .u32 xg, .int .u32 (xb.length : Nat), .string (ofL xb)] 64 (0, 0)) := hN.r
      obtain ⟨⟨x0, x1, x2⟩, _⟩ := row3f hXr
      have HBW := Hid_of hN.bel
      clear hN hXr a1 a2 a3 hx c0 c1
      rcases hp with ⟨h1, h2⟩ | ⟨h1, h2, h3⟩
      · simp only at h1 h2
        subst h1
        subst h2
        simp only [List.length_nil, Int.natCast_zero] at x0 x1
        go_wp2
        go_ret3
        rw [HX.out]
        exact ⟨rfl, HBW.out⟩
      · simp only at h1 h2 h3
        have hd : ((xg : Int) == 0) = false := by rw [beq_eq_false_iff_ne]; omega
        have hc : rcode (xg, xb) = 0 := by unfold rcode; rw [decide_eq_false (by show ¬ xg = 0; omega)]; rfl
        have HC := Hid_of hc
        clear hc
        go_wp2_with fail
        go_region
        all_goals
          go_wp2
          go_ret3
          rw [HX.out, HC.out]
          exact ⟨rfl, Below.drew HBW.out⟩
end Go.Proofs.Ythffglacokfkgaa
