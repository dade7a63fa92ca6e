import Derived.Test.YtlnedgjikkhplaaGreatGP28
import Derived.Test.YtlnedgjikkhplaaGreatGP10
set_option maxRecDepth 100000
set_option maxHeartbeats 8000000
set_option linter.unusedVariables false
set_option linter.unusedSimpArgs false
namespace Go.Proofs.YtlnedgjikkhplaaGreat.Ns
open Go.RowKit
open M (ofL ofL_size ofL_of DD)
theorem kept_ge (keep k : Nat) (hk : keep < 18446744073709551616) (h : 64 ≤ k) : M.kept keep k = false := by
  unfold M.kept
  have : 2 ^ 64 ≤ 2 ^ k := Nat.pow_le_pow_right (by decide) h
  rw [Nat.div_eq_of_lt (by omega)]
  rfl
structure DC (keep tear : Nat) (tt : Bool) (sure : List ByteArray) (L : List Nat) (R : List ByteArray) (n k : Nat) (T : Bool) (N : List ByteArray) : Prop where
  len : N.length = n
  sz : ∀ s ∈ N, s.size = 64
  eq : M.dcrs keep tear sure N (L.drop k) k T = R
  t : T = true → tt = true
theorem DC.step {keep tear : Nat} {tt : Bool} {sure : List ByteArray} {L : List Nat} {R : List ByteArray} {n k : Nat} {T : Bool} {N : List ByteArray} (h : DC keep tear tt sure L R n k T N) (hk : k < L.length) (hL : L[k] < n) (hs : sure.length = n) (hz : ∀ s ∈ sure, s.size = 64) (ht : tt = true → tear < 64) :
    ∃ x y, sure[L[k]]? = some x ∧ N[L[k]]? = some y ∧ x.size = 64 ∧ y.size = 64 ∧ (M.kept keep k = true → DC keep tear tt sure L R n (k + 1) T N) ∧ (M.kept keep k = false → DC keep tear tt sure L R n (k + 1) false (N.set L[k] (bif T then y.extract 0 tear ++ x.extract tear 64 else x))) := by
  have h1 : L[k] < sure.length := by omega
  have h2 : L[k] < N.length := by rw [h.len]; exact hL
  have hx := hz _ (List.getElem_mem h1)
  have hy := h.sz _ (List.getElem_mem h2)
  have he := h.eq
  rw [← List.getElem_cons_drop hk, M.dcrs, List.getElem?_eq_getElem h1, List.getElem?_eq_getElem h2, Option.getD_some, Option.getD_some] at he
  refine ⟨sure[L[k]], N[L[k]], List.getElem?_eq_getElem h1, List.getElem?_eq_getElem h2, hx, hy, fun hkp => ?_, fun hkp => ?_⟩
  · rw [hkp, cond_true] at he
    exact ⟨h.len, h.sz, he, h.t⟩
  · rw [hkp, cond_false] at he
    refine ⟨by rw [List.length_set]; exact h.len, fun s hs' => ?_, he, fun e => by cases e⟩
    rcases List.mem_or_eq_of_mem_set hs' with h' | h'
    · exact h.sz s h'
    · rw [h']
      cases hT : T with
      | false => exact hx
      | true =>
        have := ht (h.t hT)
        simp only [cond_true]
        rw [ByteArray.size_append, ByteArray.size_extract, ByteArray.size_extract]
        omega
theorem f15_res : Tryz.f15.results = #[.cell 6 34] := rfl
structure CL (w wr : World) (v0 v1 v2 v3 : Value) (g c : Nat) (N : List ByteArray) : Prop where
  r0 : wr.heap[w.heap.size]? = some (.cells #[v0, v1, v2, v3] 34 (0, 0))
  r1 : wr.heap[w.heap.size + 1]? = some (.cells #[.slice none 0 0, .slice none 0 0, .slice none 0 0, .bool false] 34 (0, 0))
  o1 : wr.ownsRow (w.heap.size + 2) 9 1 (.slice (some ⟨g, 0, none⟩) N.length c) N.length (SC N)
  bel : Below w.heap.size w wr
theorem CL.set {w wr : World} {v0 v1 v2 v3 : Value} {g c : Nat} {N : List ByteArray} (h : CL w wr v0 v1 v2 v3 g c N) (i : Nat) (hi : i < N.length) :
    (∃ u, N[i]? = some u ∧ wr.cell? ⟨g, i, none⟩ = some (.string u)) ∧ wr.frozen? ⟨g, i, none⟩ = false ∧ ∀ s, CL w (wr.setCell ⟨g, i, none⟩ (.string s)) v0 v1 v2 v3 g c (N.set i s) := by
  obtain ⟨g', cap, e, hb, ⟨u, hu, hc⟩, hf, hset⟩ := owns_set h.o1 hi
  simp only [Value.slice.injEq, Option.some.injEq, Addr.mk.injEq, and_true, true_and] at e
  obtain ⟨rfl, rfl⟩ := e
  obtain ⟨q1, q2⟩ := own_g h.o1
  have hne : ∀ s k, k ≠ g → (wr.setCell ⟨g, i, none⟩ (.string s)).heap[k]? = wr.heap[k]? := fun s k hk => heap_setCell_other wr ⟨g, i, none⟩ k _ hk
  refine ⟨⟨N[i], List.getElem?_eq_getElem hi, by rw [hc, ← hu, SC_get N i hi]⟩, hf, fun s => ⟨(hne s _ (by omega)).trans h.r0, (hne s _ (by omega)).trans h.r1, ?_, h.bel.setCell (by show w.heap.size ≤ _; dsimp only; omega) _⟩⟩
  rw [List.length_set, ← SC_set]
  exact hset _
theorem CL.drew {w wr : World} {v0 v1 v2 v3 : Value} {g c : Nat} {N : List ByteArray} (h : CL w wr v0 v1 v2 v3 g c N) : CL w wr.drew v0 v1 v2 v3 g c N := ⟨h.r0, h.r1, h.o1, Below.drew h.bel⟩
theorem CL.fin {w wr : World} {h : Hd} {D : DD} {g c : Nat} {N : List ByteArray} (hx : XD w h D) (hw : CL w wr (.slice h.aN D.now.length h.cN) (.slice h.aS D.sure.length h.cS) (.slice h.aL D.loo.length h.cL) (.bool D.lost) g c N) (hl : N.length ≤ 4096) :
    ∃ W4, wr.setCell ⟨w.heap.size, 0, none⟩ (.slice (some ⟨g, 0, none⟩) N.length c) = W4 ∧ W4.heap[w.heap.size]? = some (.cells #[.slice (some ⟨g, 0, none⟩) N.length c, .slice h.aS D.sure.length h.cS, .slice h.aL D.loo.length h.cL, .bool D.lost] 34 (0, 0)) ∧
      (Calls Tryz.prog 51 #[.agg #[.slice (some ⟨g, 0, none⟩) N.length c, .slice h.aS D.sure.length h.cS, .slice h.aL D.loo.length h.cL, .bool D.lost]] W4 fun e w5 => ∃ x0 n0 d0 x1 n1 d1 x2 n2 d2 bb, e = .returned (.agg #[.slice x0 n0 d0, .slice x1 n1 d1, .slice x2 n2 d2, .bool bb]) ∧ w5.heap[w.heap.size + 1]? = some (.cells #[.slice none 0 0, .slice none 0 0, .slice none 0 0, .bool false] 34 (0, 0)) ∧
        (st4 w5 (w.heap.size + 1) (.slice x0 n0 d0) (.slice x1 n1 d1) (.slice x2 n2 d2) (.bool bb)).heap[w.heap.size + 1]? = some (.cells #[.slice x0 n0 d0, .slice x1 n1 d1, .slice x2 n2 d2, .bool bb] 34 (0, 0)) ∧ DOut w h (M.dflush { D with now := N }) .agg (.returned (.agg #[.slice x0 n0 d0, .slice x1 n1 d1, .slice x2 n2 d2, .bool bb])) (st4 w5 (w.heap.size + 1) (.slice x0 n0 d0) (.slice x1 n1 d1) (.slice x2 n2 d2) (.bool bb))) := by
  obtain ⟨a1, k1, e1, at1, bl1, _⟩ := owns_at hw.o1
  simp only [Value.slice.injEq, true_and] at e1
  obtain ⟨rfl, rfl⟩ := e1
  obtain ⟨q1, q2⟩ := own_g hw.o1
  have n5 : ∀ k, k ≠ w.heap.size → (wr.setCell ⟨w.heap.size, 0, none⟩ (.slice (some ⟨g, 0, none⟩) N.length c)).heap[k]? = wr.heap[k]? := fun k hk => heap_setCell_other wr ⟨w.heap.size, 0, none⟩ k _ hk
  have hB4 : Below w.heap.size w (wr.setCell ⟨w.heap.size, 0, none⟩ (.slice (some ⟨g, 0, none⟩) N.length c)) := hw.bel.setCell Lr _
  have hx4 := hx.keep hB4
  have hX4 : XD (wr.setCell ⟨w.heap.size, 0, none⟩ (.slice (some ⟨g, 0, none⟩) N.length c)) ⟨some ⟨g, 0, none⟩, c, h.aS, h.cS, h.aL, h.cL⟩ { D with now := N } := by
    refine ⟨at1.keepBut (fun k hk hb => n5 k (by have := (bl1 k hb).1; omega)), hx4.s, hx4.l, ?_⟩
    rintro k (hk | hk | hk)
    · have := (bl1 k hk).2.2; simpa using this
    · exact hx4.lt k (.inr (.inl hk))
    · exact hx4.lt k (.inr (.inr hk))
  refine ⟨_, rfl, heap_setCell_same wr _ 0 _ _ _ hw.r0, ?_⟩
  refine (rflush_any ⟨some ⟨g, 0, none⟩, c, h.aS, h.cS, h.aL, h.cL⟩ { D with now := N } _ hl hX4).mono ?_
  rintro e w5 ⟨h'', rfl, hX5, hb5, hB5⟩
  have hB5' : Below w.heap.size w w5 := Bu hB4 hB5 Lr
  have hr1 := (hB5.block (w.heap.size + 1) (by simp; omega)).trans ((n5 _ (by omega)).trans hw.r1)
  obtain ⟨r1, r2⟩ := ret4 (h := h) hB5' hr1 hX5 (by
    intro k hk
    rcases hb5 k hk with (h' | h' | h') | h'
    · have := (bl1 k h').1; exact ⟨by omega, .inr (by omega)⟩
    · have := hx.lt k (.inr (.inl h')); exact ⟨by omega, .inl (.inr (.inl h'))⟩
    · have := hx.lt k (.inr (.inr h')); exact ⟨by omega, .inl (.inr (.inr h'))⟩
    · simp only [World.size_setCell] at h'; exact ⟨by omega, .inr (by omega)⟩) .agg
  exact ⟨_, _, _, _, _, _, _, _, _, _, rfl, hr1, r1, r2⟩
theorem rcrash_any (h : Hd) (D : DD) (n : Nat) (keep : Nat) (tear : Int) (w : World) (hok : D.Ok n) (hkp : keep < 18446744073709551616) (hx : XD w h D) :
    Calls Tryz.prog 15 #[.agg (h.vals D), .int .u64 keep, .int .i64 tear] w (DOut w h (M.dcrash D keep tear) .agg) := by
  obtain ⟨aN, cN, aS, cS, aL, cL⟩ := h
  obtain ⟨W1, hW1, hs1, hB1, hr0, hr1⟩ := box2 w (.slice aN D.now.length cN) (.slice aS D.sure.length cS) (.slice aL D.loo.length cL) (.bool D.lost)
  have HW1 := Hf hW1
  have hn := hok.n1
  have hloo := rloose_any ⟨aN, cN, aS, cS, aL, cL⟩ D W1 (by have := hok.l3; omega) (hx.keep hB1)
  unfold Hd.vals at hloo
  dsimp only at hloo
  have HX := Hf hx
  have HOK := Hf hok
  have HB1 := Hf (And.intro hs1 (And.intro hB1 (And.intro hr0 hr1)))
  obtain ⟨⟨k0, k1, k2, k3⟩, _⟩ := row4 hr0
  obtain ⟨R, hR⟩ := Nq (M.dcrs keep tear.toNat D.sure D.now (M.dl D.loo) 0 (M.tears tear))
  have HDC : Hid (DC keep tear.toNat (M.tears tear) D.sure (M.dl D.loo) R n 0 (M.tears tear) D.now) := ⟨hok.l1, hok.s1, hR, id⟩
  have HD : Hid (M.dcrash D keep tear = M.dflush { D with now := R }) := by show _ = _; unfold M.dcrash; rw [hR]
  obtain ⟨T0, hT0⟩ := Nq (M.tears tear)
  have hTc : (decide (tear < 1) = true ∧ T0 = false) ∨ (decide (tear < 1) = false ∧ decide (64 ≤ tear) = !T0) := by
    rw [← hT0]
    unfold M.tears
    by_cases h1 : 1 ≤ tear
    · refine .inr ⟨by simp; omega, ?_⟩
      rw [decide_eq_true h1, Bool.true_and, ← decide_not]
      congr 1
      simp
    · exact .inl ⟨by simp; omega, by simp [h1]⟩
  have HTT : Hid (T0 = true → 1 ≤ tear ∧ tear < 64) := fun e => by
    rw [← hT0] at e
    unfold M.tears at e
    simpa using e
  have HT0 := Hf hT0
  have HDC : Hid (DC keep tear.toNat (M.tears tear) D.sure (M.dl D.loo) R n 0 T0 D.now) := by rw [← hT0]; exact HDC.out
  have HSU := Hf HOK.out.s2
  have hsul : D.sure.length ≤ 4096 := by have := HOK.out.l2; omega
  have hsul2 : n ≤ D.sure.length := by have := HOK.out.l2; omega
  have hnl : D.now.length ≤ 4096 := by have := HOK.out.l1; omega
  have hnl1 : n ≤ D.now.length ∧ D.now.length ≤ n := by have := HOK.out.l1; omega
  unfold Hd.vals
  dsimp only
  clear hx hW1 hB1 hr0 hr1 hR hok hs1 hT0
  rw [HD.out]
  have HLT : Hid (∀ j (hj : j < (M.dl D.loo).length), (M.dl D.loo)[j] < n) := fun j hj => by have := M.dl_lt (List.getElem_mem hj); have := HOK.out.l3; omega
  have hLl : (M.dl D.loo).length ≤ 4096 := by have := M.dl_len D.loo; have := HOK.out.l3; omega
  rcases hTc with ⟨h1, rfl⟩ | ⟨h1, h2⟩
  all_goals
    go_enter Tryz.func15, Tryz.ntmps15
    go_upto_region 1 with fail
    rw [HW1.out]
    clear HW1
    go_wp2_with fail
    refine hloo.mono ?_
    rintro x w2 ⟨v, rfl, ho, hb2⟩
    obtain ⟨a, cap, rfl, hat, hbl, _⟩ := owns_at ho
    obtain ⟨z1, z2, z3, z4⟩ := HB1.out
    have hb2' : Below w.heap.size w w2 := Bu z2 hb2 Lr
    obtain ⟨g, c, w3, run1, o3, b3⟩ := copyS w2 aN cN D.now (HX.out.keep hb2').n (by omega) (by omega)
    have hsz2 := hb2.size
    have hCL : CL w w3 (.slice aN D.now.length cN) (.slice aS D.sure.length cS) (.slice aL D.loo.length cL) (.bool D.lost) g c D.now :=
      ⟨(b3.block _ (by omega)).trans ((hb2.block _ (by omega)).trans z3), (b3.block _ (by omega)).trans ((hb2.block _ (by omega)).trans z4), owns_low o3 (by omega), Bu hb2' b3 Lr⟩
    have hat3 : AtV w3 a (IC (M.zs (M.dl D.loo))) := hat.keep b3
    have hgg := own_g o3
    have HG : Hid (∀ k, blk a k → k ≠ g) := fun k hk e => by have := (hbl k hk).2.2; omega
    obtain ⟨⟨e0, e1, e2, e3⟩, _⟩ := row4 ((hb2.block _ (by omega)).trans z3)
    have HCL := Hf hCL
    have HAT := Hf hat3
    have hzl := M.zs_len (M.dl D.loo)
    clear hloo ho hb2 hat hbl z1 z2 z3 z4 HB1 hb2' o3 b3 hCL hat3 hgg hsz2 k0 k1 k2 k3
    rw [hzl]
    generalize hLL : M.dl D.loo = L at *
    go_upto_region 3 with (at_builtin; refine wpList_append_known rfl (.const (.slice none 0 0)) (.tmp 15) 31 rfl _ _ (by simp [Act.eval]) (by simp [Act.eval]) _ _ (run1 _) ?_)
    clear run1 e0 e1 e2 e3
    go_wp2
    go_loopw [9, 10] (fun t i wr => ∃ (k : Nat) (T : Bool) (N : List ByteArray), k ≤ L.length ∧ t = .bool (!T) ∧ i = .int .i64 k ∧ DC keep tear.toNat (M.tears tear) D.sure L R n k T N ∧ CL w wr (.slice aN D.now.length cN) (.slice aS D.sure.length cS) (.slice aL D.loo.length cL) (.bool D.lost) g c N ∧ w3.grownBy wr (some g)) (fun _ i _ => L.length - (intOf i).toNat)
    case atStart => exact ⟨0, _, D.now, Nat.zero_le _, by first | rfl | (rw [h2]), rfl, HDC.out, HCL.out, World.grownBy.refl _ _⟩
    case round =>
      obtain ⟨k, T, N, hk, rfl, rfl, hDC, hCL, hg⟩ := hrel
      clear HDC HCL
      have hNl := hDC.len
      obtain ⟨⟨t0, t1, t2, t3⟩, _⟩ := row4 hCL.r0
      by_cases hlt : k < L.length
      · obtain ⟨ba, offa, rfl, c0⟩ := (HAT.out.keepBut (w' := wr) fun j hj hb => hg.block j hj (fun e => HG.out j hb (by cases e; rfl))).int k (by omega)
        rw [M.zs_get L k hlt] at c0
        have hi := HLT.out k hlt
        obtain ⟨x, y, hx, hy, hx64, hy64, hy1, hy0⟩ := hDC.step hlt hi HOK.out.l2 HSU.out (fun e => by rw [HT0.out] at e; have := HTT.out e; omega)
        have HTk := Hf hDC.t
        obtain ⟨i, hii⟩ := Nq (L[k])
        rw [hii] at c0 hi hx hy hy0
        obtain ⟨bs, offs, rfl, s0⟩ := (HX.out.keep hCL.bel).s.str i (by omega)
        have hxe : D.sure[i]'(by omega) = x := by
          rw [List.getElem?_eq_getElem (by omega), Option.some.injEq] at hx
          exact hx
        rw [hxe] at s0
        obtain ⟨⟨u, hu, d0⟩, df, hset⟩ := hCL.set i (by omega)
        rw [hy, Option.some.injEq] at hu
        subst hu
        have HSET := Hf hset
        have HY1 := Hf hy1
        have HY0 := Hf hy0
        have HGS : Hid (∀ z, w3.grownBy (wr.setCell ⟨g, i, none⟩ (.string z)) (some g)) := fun z => grown_trans hg (grown_set _ _ _ _)
        have HCG := Hf (And.intro hCL hg)
        have hbit := bit_kept keep k hkp
        clear hDC hCL hg hset hy1 hy0 hxe hx hy hii
        by_cases h64 : k < 64
        · have hmin : min k 64 = k := by omega
          have hd64 : decide ((k : Int) < 64) = true := by simp; omega
          rw [hmin] at hbit
          cases hkk : M.kept keep k with
          | true =>
            rw [hkk, cond_true] at hbit
            have HN := Hf (HY1.out hkk)
            clear HSET HY1 HY0 HGS hkk
            go_wp2
            go_roundw
            case rel => exact ⟨k + 1, T, N, by omega, rfl, by go_num, HN.out, HCG.out⟩
            case measure => simp [intOf]; omega
          | false =>
            rw [hkk, cond_false] at hbit
            have HN := Hf (HY0.out hkk)
            clear HY1 HY0 hkk HCG
            cases T with
            | false =>
              simp only [cond_false] at HN
              have HZ := Hf (And.intro (HSET.out x) (HGS.out x))
              clear HSET HGS HTk
              go_wp2_with fail
              go_region
              all_goals
                go_wp2
                go_roundw
                case rel => exact ⟨k + 1, false, _, by omega, rfl, by go_num, HN.out, HZ.out.1.drew, grown_drew HZ.out.2⟩
                case measure => simp [intOf]; omega
            | true =>
              first
                | (exact absurd (HTk.out rfl) (by rw [HT0.out]; decide))
                | (have htt := HTT.out (by rw [← HT0.out]; exact HTk.out rfl)
                   obtain ⟨tt, rfl⟩ := Int.eq_ofNat_of_zero_le (show 0 ≤ tear by omega)
                   have ht1 : 1 ≤ tt := by omega
                   have ht2 : tt < 64 := by omega
                   have htz : (tt : Int) ≤ 64 := by omega
                   have hz1 : (y.extract 0 tt).size ≤ 64 := by rw [ByteArray.size_extract]; omega
                   have hz2 : (x.extract tt 64).size ≤ 64 := by rw [ByteArray.size_extract]; omega
                   have HZ := Hf (And.intro (HSET.out (y.extract 0 tt ++ x.extract tt 64)) (HGS.out (y.extract 0 tt ++ x.extract tt 64)))
                   simp only [cond_true, Int.toNat_natCast] at HN
                   clear HSET HGS htt HTk
                   go_wp2_with fail
                   go_region
                   all_goals
                     go_wp2_with fail
                     go_region
                     all_goals
                       go_wp2
                       go_roundw
                       case rel => exact ⟨k + 1, false, _, by omega, rfl, by go_num, HN.out, HZ.out.1.drew.drew, grown_drew (grown_drew HZ.out.2)⟩
                       case measure => simp [intOf]; omega)
        · have hd64 : decide ((k : Int) < 64) = false := by simp; omega
          have HN := Hf (HY0.out (kept_ge keep k hkp (by omega)))
          clear HY1 HY0 HCG hbit
          cases T with
          | false =>
            simp only [cond_false] at HN
            have HZ := Hf (And.intro (HSET.out x) (HGS.out x))
            clear HSET HGS HTk
            go_wp2_with fail
            go_region
            all_goals
              go_wp2
              go_roundw
              case rel => exact ⟨k + 1, false, _, by omega, rfl, by go_num, HN.out, HZ.out.1.drew, grown_drew HZ.out.2⟩
              case measure => simp [intOf]; omega
          | true =>
            first
              | (exact absurd (HTk.out rfl) (by rw [HT0.out]; decide))
              | (have htt := HTT.out (by rw [← HT0.out]; exact HTk.out rfl)
                 obtain ⟨tt, rfl⟩ := Int.eq_ofNat_of_zero_le (show 0 ≤ tear by omega)
                 have ht1 : 1 ≤ tt := by omega
                 have ht2 : tt < 64 := by omega
                 have htz : (tt : Int) ≤ 64 := by omega
                 have hz1 : (y.extract 0 tt).size ≤ 64 := by rw [ByteArray.size_extract]; omega
                 have hz2 : (x.extract tt 64).size ≤ 64 := by rw [ByteArray.size_extract]; omega
                 have HZ := Hf (And.intro (HSET.out (y.extract 0 tt ++ x.extract tt 64)) (HGS.out (y.extract 0 tt ++ x.extract tt 64)))
                 simp only [cond_true, Int.toNat_natCast] at HN
                 clear HSET HGS htt HTk
                 go_wp2_with fail
                 go_region
                 all_goals
                   go_wp2_with fail
                   go_region
                   all_goals
                     go_wp2
                     go_roundw
                     case rel => exact ⟨k + 1, false, _, by omega, rfl, by go_num, HN.out, HZ.out.1.drew.drew, grown_drew (grown_drew HZ.out.2)⟩
                     case measure => simp [intOf]; omega)
      · obtain rfl : k = L.length := by omega
        have heq := hDC.eq
        rw [List.drop_length] at heq
        have heq' : N = R := heq
        subst heq'
        obtain ⟨W4, hW4, m0, m1⟩ := CL.fin (h := ⟨aN, cN, aS, cS, aL, cL⟩) HX.out hCL (by omega)
        dsimp only at hW4 m0 m1
        have HW4 := Hf hW4
        obtain ⟨⟨t4, t5, t6, t7⟩, _⟩ := row4 m0
        have tf := (row4 hCL.r0).2 0
        clear hDC hCL hg hW4 m0 heq HD
        have hNl' : D.now.length = N.length := by omega
        rw [← hNl'] at HW4 m1 t4
        clear hNl' hNl
        go_upto_region 14 with fail
        rw [HW4.out]
        clear HW4 t0 t1 t2 t3 tf
        go_wp2_with fail
        refine m1.mono ?_
        rintro x w6 ⟨x0, n0, d0, x1, n1, d1, x2, n2, d2, bb, rfl, r1, r2, r3⟩
        obtain ⟨⟨s0, s1, s2, s3⟩, sf⟩ := row4 r1
        have sf0 := sf 0
        have sf1 := sf 1
        have sf2 := sf 2
        have sf3 := sf 3
        have HR2 := Hf r2
        have HR3 := Hf r3
        clear m1 r1 r2 r3 sf t4 t5 t6 t7
        go_wp2
        refine bodyPost_ret (v := .agg #[.slice x0 n0 d0, .slice x1 n1 d1, .slice x2 n2 d2, .bool bb]) ?_ rfl HR3.out
        exact results_cell_row f15_res _ _ (w.heap.size + 1) 34 _ (0, 0) _ rfl HR2.out Tryz.underlying34 rfl Tryz.size34
end Go.Proofs.YtlnedgjikkhplaaGreat.Ns
