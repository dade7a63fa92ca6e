/-
  The document's Fill.
-/
import Derived.Test.YtpolmfgklgggcaaRF
namespace Go.Proofs.Ytpolmfgklgggcaa
open Go.RowKit Go.Maps
set_option linter.unusedVariables false
open M (E V fup)

theorem f15_res : Try.f15.results = #[.cell 2 32, .tmp 3] := rfl
theorem M.rlast_take (k : Int) (l : List V) (q : Nat) (h : q < l.length) : M.rlast k (l.take (q + 1)) = max (M.rlast k (l.take q)) l[q].s := by
  unfold M.rlast
  rw [List.take_add_one, List.getElem?_eq_getElem h, Option.toList_some, List.foldl_append]
  rfl
theorem M.of_take (l : List V) (q : Nat) (h : q < l.length) (k : Int) : M.of (l.take (q + 1)) k = M.of (l.take q) k ++ if l[q].s = k then [l[q]] else [] := by
  rw [List.take_add_one, List.getElem?_eq_getElem h, Option.toList_some, M.of_snoc]
/-- What Fill leaves. -/
def DFl (w : World) (a : Option Addr) (c : Nat) (x : M.R) (z : Ending) (w' : World) : Prop := ∃ ad cp, z = .returned (.tuple #[.agg (dvv a c (M.rfs x)), .slice ad (M.rfo x).length cp]) ∧ XL vl w' ad cp (M.rfo x) ∧ (∀ k, blk ad k → w.heap.size ≤ k ∧ k < w'.heap.size) ∧ Below w.heap.size w w'
set_option maxRecDepth 100000 in
set_option maxHeartbeats 4000000 in
theorem rfill_any {w : World} {a : Option Addr} {c : Nat} {x : M.R} (h : XX w a c x) (hf0 : 0 ≤ x.fr) (hf1 : x.fr ≤ 1024) (hM : M.rlast (x.fr - 1) x.l + 1 ≤ 1024) (hlen : x.l.length ≤ 900000) : Calls Try.prog 15 #[.agg (dvv a c x)] w (DFl w a c x) := by
  obtain ⟨W1, HW1⟩ : ∃ W1, Hid ((w.alloc (.cells (dvv a c x) 32)).alloc (.cells Z17 32) = W1) := ⟨_, Hid_of rfl⟩
  have HB1 : Hid (Below w.heap.size w W1) := by rw [← HW1.out]; exact bel2 w _ _
  have hr0 : W1.heap[w.heap.size]? = some (.cells (dvv a c x) 32 (0, 0)) := by rw [← HW1.out]; exact heap_alloc2_old w _ _
  have hr1 : W1.heap[w.heap.size + 1]? = some (.cells Z17 32 (0, 0)) := by rw [← HW1.out]; exact heap_alloc2_new w _ _
  have HR0 := Hid_of hr0
  have HR1 := Hid_of hr1
  have HX := Hid_of h
  have HNO : Hid (M.rfb x = false → ∀ w', Below w.heap.size w w' → DFl w a c x (.returned (.tuple #[.agg (dvv a c x), .slice none 0 0])) w') := fun h0 w' hw' => ⟨none, 0, by unfold M.rfs M.rfo; rw [h0]; rfl, by unfold M.rfo; rw [h0]; exact XL.emp _, (fun k hk => by obtain ⟨_, _, e⟩ := hk; cases e), hw'⟩
  clear h hr0 hr1
  rcases Bool.eq_false_or_eq_true x.ld with h1 | h1
  · rcases Bool.eq_false_or_eq_true x.fd with h2 | h2
    · obtain ⟨⟨c0, c1, c2, c3, c4, c5, c6, c7, c8, c9, c10, c11, c12, c13, c14, c15, c16⟩, cf⟩ := rowD HR0.out
      rw [h1] at c7
      rw [h2] at c8
      have HQ := Hid_of (HNO.out (by unfold M.rfb; rw [h1, h2]; rfl))
      clear HNO h1 h2 cf
      have ld := load32_row HR0.out
      have st := store32_row (w := W1) (b := w.heap.size + 1) (cs := Z17) rfl a c x HR1.out
      have HKB := Hid_of (bel_setRow HB1.out (show w.heap.size ≤ w.heap.size + 1 by omega) (dvv a c x))
      have HKG := Hid_of (setRow32 HR1.out (dvv a c x))
      clear HX
      go_enter Try.func15, Try.ntmps15
      go_upto_region 1 with fail
      rw [HW1.out]
      clear HW1
      go_wp2
      refine bodyPost_ret (v := .tuple #[.agg (dvv a c x), .slice none 0 0]) ?_ rfl (HQ.out _ HKB.out)
      exact res32 f15_res _ _ (w.heap.size + 1) _ _ _ rfl HKG.out
    · have HRB : Hid (M.rfb x = true) := Hid_of (by unfold M.rfb; rw [h1, h2]; rfl)
      clear HNO
      obtain ⟨x1, HX1⟩ : ∃ x1 : M.R, Hid (({ x with fd := true } : M.R) = x1) := ⟨_, Hid_of rfl⟩
      obtain ⟨⟨c0, c1, c2, c3, c4, c5, c6, c7, c8, c9, c10, c11, c12, c13, c14, c15, c16⟩, cf⟩ := rowD HR0.out
      rw [h1] at c7
      rw [h2] at c8
      have cf8 := cf 8
      have n0 : (W1.setCell ⟨w.heap.size, 8, none⟩ (.bool true)).heap[w.heap.size]? = some (.cells (dvv a c x1) 32 (0, 0)) := by
        rw [heap_setCell_same W1 _ 8 _ _ (.bool true) HR0.out, ← HX1.out]
        rfl
      have n1 := (heap_setCell_other W1 ⟨w.heap.size, 8, none⟩ (w.heap.size + 1) (.bool true) (show w.heap.size + 1 ≠ w.heap.size by omega)).trans HR1.out
      have nb : Below w.heap.size w (W1.setCell ⟨w.heap.size, 8, none⟩ (.bool true)) := HB1.out.setCell (Nat.le_refl _) _
      have nxl : XL vl (W1.setCell ⟨w.heap.size, 8, none⟩ (.bool true)) a c x.l := HX.out.xl.keepBut (fun kk hkk hb => by
        rw [heap_setCell_other W1 ⟨w.heap.size, 8, none⟩ kk _ (by show kk ≠ w.heap.size; omega)]
        exact HB1.out.block kk hkk)
      obtain ⟨W2, HW2⟩ : ∃ W2, Hid (W1.setCell ⟨w.heap.size, 8, none⟩ (.bool true) = W2) := ⟨_, Hid_of rfl⟩
      rw [HW2.out] at n0 n1 nb nxl
      have H0 := Hid_of n0
      have H1 := Hid_of n1
      have HBB := Hid_of nb
      have HXL := Hid_of nxl
      have HL1 : Hid (x1.l = x.l) := Hid_of (by rw [← HX1.out])
      have HB1E : Hid (x1.b = x.b) := Hid_of (by rw [← HX1.out])
      have HF1 : Hid (x1.fr = x.fr) := Hid_of (by rw [← HX1.out])
      have HFS : Hid (M.rfs x = x1) := Hid_of (by unfold M.rfs; rw [HRB.out, if_pos rfl, HX1.out])
      have HFO : Hid (M.rfo x = M.rfl' x (M.rlast (x.fr - 1) x.l + 1 - x.fr).toNat) := Hid_of (by unfold M.rfo; rw [HRB.out, if_pos rfl])
      have hsub : IntKind.i64.wrap (x.fr - 1) = x.fr - 1 := by rw [IntKind.wrap_i64]; omega
      clear n0 n1 nb nxl cf HX1 h1 h2 HRB HR0 HR1
      go_enter Try.func15, Try.ntmps15
      go_upto_region 1 with fail
      rw [HW1.out]
      clear HW1
      go_upto_region 4 with fail
      rw [HW2.out]
      clear HW2 c0 c1 c2 c3 c4 c5 c6 c7 c8 c9 c10 c11 c12 c13 c14 c15 c16 cf8
      obtain ⟨⟨c0, c1, c2, c3, c4, c5, c6, c7, c8, c9, c10, c11, c12, c13, c14, c15, c16⟩, -⟩ := rowD H0.out
      rw [HL1.out] at c16
      rw [HF1.out] at c2
      go_wp2_with fail
      go_loopw [4, 5] (fun t i wr => ∃ q : Nat, q ≤ x.l.length ∧ i = .int .i64 q ∧ t = .int .i64 (M.rlast (x.fr - 1) (x.l.take q)) ∧ wr = W2) (fun t i _ => x.l.length - (intOf i).toNat)
      case atStart => exact ⟨0, by omega, rfl, rfl, rfl⟩
      case round =>
        obtain ⟨q, hq, rfl, rfl, hwr⟩ := hrel
        obtain rfl := hwr.symm
        clear hwr
        by_cases hlq : q < x.l.length
        · have hqi : (q : Int) < (x.l.length : Int) := by omega
          obtain ⟨bv, ov, ea, x0, x1', x2', x3'⟩ := HXL.out.at'.getV q hlq
          have HRT := Hid_of (M.rlast_take (x.fr - 1) x.l q hlq)
          generalize M.rlast (x.fr - 1) (x.l.take q) = lq at *
          generalize x.l[q].s = vs at *
          subst ea
          go_wp2
          go_roundw
          case rel => exact ⟨q + 1, by omega, by go_num, by rw [HRT.out], trivial⟩
          case measure => simp [intOf]; omega
        · obtain rfl : q = x.l.length := by omega
          rw [List.take_of_length_le (Nat.le_refl _)]
          obtain ⟨la, HLA⟩ : ∃ la, Hid (M.rlast (x.fr - 1) x.l = la) := ⟨_, Hid_of rfl⟩
          rw [HLA.out] at hM HFO ⊢
          clear HLA hlq
          go_wp2_with fail
          go_loopw [6, 7] (fun v i wr => ∃ j : Nat, j ≤ (la + 1 - x.fr).toNat ∧ i = .int .i64 (x.fr + j) ∧ OwnL vl 36 wr W2.heap.size v (M.rfl' x j) ∧ Below W2.heap.size W2 wr) (fun v i _ => (la + 1 - intOf i).toNat)
          case atStart => exact ⟨0, Nat.zero_le _, by simp, OwnL.nil _ _ _, Below.refl _ _⟩
          case round =>
            obtain ⟨j, hj, rfl, how, hbw⟩ := hrel
            rename World => wb
            obtain ⟨k, HK⟩ : ∃ k : Int, Hid (x.fr + j = k) := ⟨_, Hid_of rfl⟩
            by_cases hle : x.fr + j ≤ la
            · rw [HK.out] at hle ⊢
              have hk0 : 0 ≤ k := by have := HK.out; omega
              have hjl : j ≤ 2000 := by have := HK.out; omega
              have dle : decide (k ≤ la) = true := decide_eq_true hle
              clear c0 c1 c2 c3 c4 c5 c6 c7 c8 c9 c10 c11 c12 c13 c14 c15 c16
              go_wp2_with fail
              go_loopw [8, 9] (fun v i wx => ∃ q : Nat, q ≤ x.l.length ∧ i = .int .i64 q ∧ OwnL vl 36 wx wb.heap.size v (M.of (x.l.take q) k) ∧ Below wb.heap.size wb wx) (fun v i _ => x.l.length - (intOf i).toNat)
              case atStart => exact ⟨0, by omega, rfl, OwnL.nil _ _ _, Below.refl _ _⟩
              case round =>
                obtain ⟨q, hq, rfl, ho8, hb8⟩ := hrel
                rename World => wx
                have hx8 := HXL.out.keep (bel_up hbw hb8 (show W2.heap.size ≤ W2.heap.size from Nat.le_refl _))
                obtain ⟨⟨c0, c1, c2, c3, c4, c5, c6, c7, c8, c9, c10, c11, c12, c13, c14, c15, c16⟩, -⟩ := rowD (bel_row H0.out (bel_up hbw hb8 (show W2.heap.size ≤ W2.heap.size from Nat.le_refl _)))
                rw [HL1.out] at c16
                have HO8 := Hid_of ho8
                have HB8 := Hid_of hb8
                by_cases hlq : q < x.l.length
                · have hqi : (q : Int) < (x.l.length : Int) := by omega
                  obtain ⟨bv, ov, ea, x0, x1', x2', x3'⟩ := hx8.at'.getV q hlq
                  have HFT := Hid_of (M.of_take x.l q hlq k)
                  obtain ⟨v, HV⟩ : ∃ v, Hid (x.l[q] = v) := ⟨_, Hid_of rfl⟩
                  rw [HV.out] at x0 x1' x2' x3' HFT
                  obtain ⟨ol, HOL⟩ : ∃ ol, Hid (M.of (x.l.take q) k = ol) := ⟨_, Hid_of rfl⟩
                  rw [HOL.out] at ho8 HFT HO8
                  have hol : ol.length ≤ x.l.length := by rw [← HOL.out]; unfold M.of; have := List.length_filter_le (fun v : V => decide (v.s = k)) (x.l.take q); rw [List.length_take] at this; omega
                  subst ea
                  clear hx8 HV HOL
                  by_cases hs : v.s = k
                  · have ds : (v.s == k) = true := by simpa using hs
                    have hsz := hb8.size
                    obtain ⟨a', c', w9, hrun, ho9, hr9⟩ := app1 v ho8 (by omega) (by omega)
                    obtain ⟨q8, n8, hv8, -⟩ := ho8.at
                    subst hv8
                    have HO9 : Hid (OwnL vl 36 w9 wb.heap.size (.slice a' (ol.length + 1) c') (M.of (x.l.take (q + 1)) k)) := Hid_of (by rw [HFT.out, if_pos hs]; exact ho9)
                    have HB9 : Hid (Below wb.heap.size wb w9) := HB8.out.trans (hr9.below (fun kk hkk => (HO8.out.lt hkk).1) (by omega))
                    clear hs ho8 hb8 ho9 hr9 HO8 HB8 HFT
                    go_wp2_with (at_builtin; refine wpList_append_known rfl _ _ 30 rfl _ _ rfl rfl _ _ (hrun _) ?_)
                    go_roundw
                    case rel => exact ⟨q + 1, by omega, by go_num, HO9.out, HB9.out⟩
                    case measure => simp [intOf]; omega
                  · have ds : (v.s == k) = false := by simpa using hs
                    have HO9 : Hid (OwnL vl 36 wx wb.heap.size u8 (M.of (x.l.take (q + 1)) k)) := Hid_of (by rw [HFT.out, if_neg hs, List.append_nil]; exact ho8)
                    clear hs ho8 hb8 HO8 HFT
                    go_wp2
                    go_roundw
                    case rel => exact ⟨q + 1, by omega, by go_num, HO9.out, HB8.out⟩
                    case measure => simp [intOf]; omega
                · obtain rfl : q = x.l.length := by omega
                  rw [List.take_of_length_le (Nat.le_refl _)] at ho8
                  obtain ⟨a8, c8', hv8, hx8', -⟩ := ho8.at
                  subst hv8
                  have hol : (M.of x.l k).length ≤ x.l.length := by unfold M.of; exact List.length_filter_le _ _
                  have cp := rpick_any a8 c8' (M.of x.l k) wx hx8'.at' (by omega)
                  obtain ⟨u, HU⟩ : ∃ u, Hid (M.vx (M.of x.l k) (M.of x.l k).length = u) := ⟨_, Hid_of rfl⟩
                  obtain ⟨fb, HFB⟩ : ∃ fb, Hid (decide (0 < (M.of x.l k).length) = fb) := ⟨_, Hid_of rfl⟩
                  rw [HU.out, HFB.out] at cp
                  obtain ⟨on, HON⟩ : ∃ on, Hid ((M.of x.l k).length = on) := ⟨_, Hid_of rfl⟩
                  rw [HON.out] at cp
                  have HRF : Hid (M.rf1 x j = ⟨k, x.b, u.v⟩) := Hid_of (by unfold M.rf1; rw [HK.out, HU.out])
                  rw [HON.out]
                  clear ho8 hx8' hx8 HFB hol HU HON
                  go_wp2_with fail
                  refine cp.mono ?_
                  clear cp c0 c1 c2 c3 c4 c5 c6 c7 c8 c9 c10 c11 c12 c13 c14 c15 c16
                  rintro z w9 ⟨rfl, hb9⟩
                  obtain ⟨W10, HW10⟩ : ∃ W10, Hid (w9.alloc (.cells #[.int .i64 u.s, .int .i64 u.b.i, .int .i64 u.b.t, .string u.v] 36) = W10) := ⟨_, Hid_of rfl⟩
                  have hb10 : Below w9.heap.size w9 W10 := by rw [← HW10.out]; exact bel1 w9 _
                  have hr10 : W10.heap[w9.heap.size]? = some (.cells #[.int .i64 u.s, .int .i64 u.b.i, .int .i64 u.b.t, .string u.v] 36 (0, 0)) := by rw [← HW10.out]; exact heap_alloc_last w9 _
                  have hb810 := bel_up (bel_up HB8.out hb9 (show wb.heap.size ≤ wb.heap.size from Nat.le_refl _)) hb10 (show wb.heap.size ≤ wb.heap.size from Nat.le_refl _)
                  have hbw10 := bel_up hbw hb810 (show W2.heap.size ≤ W2.heap.size from Nat.le_refl _)
                  obtain ⟨⟨y0, y1, y2, y3⟩, -⟩ := row4 hr10
                  obtain ⟨⟨c0, c1, c2, c3, c4, c5, c6, c7, c8, c9, c10, c11, c12, c13, c14, c15, c16⟩, -⟩ := rowD (bel_row H0.out hbw10)
                  rw [HB1E.out] at c4 c5
                  have hsz10 := hbw10.size
                  obtain ⟨a', c', w11, hrun, ho11, hr11⟩ := app1 ⟨k, x.b, u.v⟩ (how.keep hb810) (by omega) (by rw [M.rfl_len]; omega)
                  obtain ⟨q6, n6, hv6, -⟩ := how.at
                  rw [M.rfl_len] at hrun ho11 hr11 hv6
                  subst hv6
                  have HO11 : Hid (OwnL vl 36 w11 W2.heap.size (.slice a' (j + 1) c') (M.rfl' x (j + 1))) := Hid_of (by rw [M.rfl_succ, HRF.out]; exact ho11)
                  have HB11 : Hid (Below W2.heap.size W2 w11) := hbw10.trans (hr11.below (fun kk hkk => (how.lt hkk).1) (by omega))
                  have hk1 : x.fr + ((j + 1 : Nat) : Int) = k + 1 := by have := HK.out; omega
                  have hadd : IntKind.i64.wrap (k + 1) = k + 1 := by rw [IntKind.wrap_i64]; omega
                  clear ho11 hr11 hb9 hb10 hr10 hb810 hbw10 HO8 HB8 how hbw hb8
                  go_upto_region 20 with fail
                  rw [HW10.out]
                  clear HW10
                  go_wp2_with (at_builtin; refine wpList_append_known rfl _ _ 30 rfl _ _ rfl rfl _ _ (hrun _) ?_)
                  go_roundw
                  case rel => exact ⟨j + 1, by omega, by rw [hk1], HO11.out, HB11.out⟩
                  case measure => simp [intOf]; omega
            · have dle : decide (x.fr + j ≤ la) = false := decide_eq_false hle
              obtain rfl : j = (la + 1 - x.fr).toNat := by omega
              obtain ⟨a6, c6', hv6, hx6, hbk6⟩ := how.at
              subst hv6
              have q0 := bel_row H0.out hbw
              have q1 := bel_row H1.out hbw
              have ld := load32_row q0
              have st := store32_row (w := wb) (b := w.heap.size + 1) (cs := Z17) rfl a c x1 q1
              have hs2 : w.heap.size ≤ W2.heap.size := HBB.out.size
              have hs2' : w.heap.size + 1 < W2.heap.size := (Array.getElem?_eq_some_iff.1 H1.out).1
              have HKB := Hid_of (bel_setRow (bel_up HBB.out hbw (show w.heap.size ≤ w.heap.size from Nat.le_refl _)) (show w.heap.size ≤ w.heap.size + 1 by omega) (dvv a c x1))
              have HKG := Hid_of (setRow32 q1 (dvv a c x1))
              have HKX : Hid (XL vl (wb.setRow (w.heap.size + 1) (dvv a c x1)) a6 c6' (M.rfo x)) := Hid_of (by
                rw [HFO.out]
                exact hx6.keepBut (fun kk hkk hb => setRow_oth _ (by have := (hbk6 kk hb).1; omega)))
              have HKN : Hid (∀ kk, blk a6 kk → w.heap.size ≤ kk ∧ kk < (wb.setRow (w.heap.size + 1) (dvv a c x1)).heap.size) := fun kk hb => ⟨by have := (hbk6 kk hb).1; omega, by have := (hbk6 kk hb).2.2; simpa [World.setRow] using this⟩
              have HRL : Hid ((M.rfo x).length = (M.rfl' x (la + 1 - x.fr).toNat).length) := Hid_of (by rw [HFO.out])
              generalize (M.rfl' x (la + 1 - x.fr).toNat).length = on at *
              generalize (la + 1 - x.fr).toNat = jj at *
              clear how hbw hx6 hbk6 q0 q1 hle c0 c1 c2 c3 c4 c5 c6 c7 c8 c9 c10 c11 c12 c13 c14 c15 c16
              go_wp2
              refine bodyPost_ret (v := .tuple #[.agg (dvv a c x1), .slice a6 on c6']) ?_ rfl ⟨a6, c6', by rw [HFS.out, HRL.out], HKX.out, HKN.out, HKB.out⟩
              exact res32 f15_res _ _ (w.heap.size + 1) _ _ _ rfl HKG.out
  · obtain ⟨⟨c0, c1, c2, c3, c4, c5, c6, c7, c8, c9, c10, c11, c12, c13, c14, c15, c16⟩, cf⟩ := rowD HR0.out
    rw [h1] at c7
    have HQ := Hid_of (HNO.out (by unfold M.rfb; rw [h1]; rfl))
    clear HNO h1 cf
    have ld := load32_row HR0.out
    have st := store32_row (w := W1) (b := w.heap.size + 1) (cs := Z17) rfl a c x HR1.out
    have HKB := Hid_of (bel_setRow HB1.out (show w.heap.size ≤ w.heap.size + 1 by omega) (dvv a c x))
    have HKG := Hid_of (setRow32 HR1.out (dvv a c x))
    clear HX
    go_enter Try.func15, Try.ntmps15
    go_upto_region 1 with fail
    rw [HW1.out]
    clear HW1
    go_wp2
    refine bodyPost_ret (v := .tuple #[.agg (dvv a c x), .slice none 0 0]) ?_ rfl (HQ.out _ HKB.out)
    exact res32 f15_res _ _ (w.heap.size + 1) _ _ _ rfl HKG.out

end Go.Proofs.Ytpolmfgklgggcaa
