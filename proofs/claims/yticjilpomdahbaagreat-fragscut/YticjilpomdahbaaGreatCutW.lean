/-
  Behind a Put or a Delete that is cut, and a crash that tears nothing, all that was there is.
-/
import Derived.Test.YticjilpomdahbaaGreatCM
import Derived.Deep.CutRange
namespace Go.Proofs.YticjilpomdahbaaGreat
open Go.RowKit
open M (ofL ofL_size ofL_of)
set_option linter.unusedVariables false

theorem GS.getX {w0 w : World} {b s d : Nat} {F : Nat → Prop} {n : Nat} {P : List M.Pl} {L : List Fr.Sl} (h : GS w0 w b s d F n P L) {x : Int × Int} (hx : x ∈ pll L) :
    Calls Tryz.prog 12 #[.pointer (some ⟨b, 0, none⟩), .agg #[.int .i64 x.1, .int .i64 x.2]] w fun e w' => e = .returned (.tuple #[.string (bod L x), .int .i64 0]) ∧ Below w.heap.size w w' := by
  obtain ⟨i, a, c, t, hi, rfl⟩ := (mem_pll L x).1 hx
  rw [bod_eq h.g hi]
  exact h.get_yes hi
theorem map_take_step (L : List Fr.Sl) (lw : List (Int × Int)) (j : Nat) (h : j < lw.length) : (lw.take (j + 1)).map (bod L) = (lw.take j).map (bod L) ++ [bod L lw[j]] := by
  rw [List.take_add_one, List.getElem?_eq_getElem h, List.map_append]
  rfl
theorem owns_txt {w : World} {base : Nat} {v : Value} {n : Nat} {cs : List Value} (h : w.ownsRow base 9 1 v n cs) : ∀ k, v.ownBlock = some k → base ≤ k ∧ k < w.heap.size := fun k hk => World.ownsRow.lt h k hk
/-- Behind the call that may be cut. -/
def MidR (w2 w7 : World) (b s d : Nat) (G : Nat → Prop) (N : Nat) (L : List Fr.Sl) (k p q : Int) (t : ByteArray) (wc : World) : Prop := ∃ (G8 : Nat → Prop) (P8 : List M.Pl), DS w2 wc d G8 N P8 false ∧ Ch w7 (FP G b s) wc (FP G8 b s) ∧ ∀ keep, ∃ L', Fr.Good (M.crash P8 keep 0) L' ∧ CutR k p q t L L'
set_option maxRecDepth 100000 in
set_option maxHeartbeats 4000000 in
theorem cut_walk (n : Int) (a : Option Addr) (cap : Nat) (l : List Dd) (k st p q : Int) (t : ByteArray) (keep : Nat) (w : World) (hl : l.length ≤ maxLen) (hat : Dds w a l) (hok : ∀ d ∈ l, d.ok) (hd : (Dd.mk k st p q t keep).ok) :
    Calls Tryz.prog 3 #[.int .i64 n, .slice a l.length cap, .agg #[.int .i64 k, .int .i64 st, .int .i64 p, .int .i64 q, .string t, .int .u64 (keep : Int)]] w fun e w' => e = .returned (.bool true) ∧ Below w.heap.size w w' := by
  obtain ⟨W0, hW0⟩ : ∃ W0, w.alloc (.cells #[.int .i64 k, .int .i64 st, .int .i64 p, .int .i64 q, .string t, .int .u64 (keep : Int)] 27) = W0 := ⟨_, rfl⟩
  have hb0 : Below w.heap.size w W0 := by rw [← hW0]; exact bel1 w _
  have hB0 : DB W0 w.heap.size k st p q t keep := by rw [← hW0]; exact heap_alloc_last w _
  have hF0 := few_any n a cap l W0 hl (hat.keep hb0) hok
  have HW0 := Hid_of hW0
  have HB0 := Hid_of hb0
  have HDB0 := Hid_of hB0
  have HAT0 := Hid_of (hat.keep hb0)
  have HD := Hid_of hd
  obtain ⟨B, hB⟩ : ∃ B, w.heap.size = B := ⟨_, rfl⟩
  rw [hB] at HDB0
  obtain ⟨x0, x1, x2, x3, x4, x5⟩ := HDB0.out.c
  have HBB := Hid_of hB
  clear hW0 hb0 hB0 hat hok hd hB
  have hl' := hl
  unfold maxLen at hl'
  go_enter Tryz.func3, Tryz.ntmps3
  go_upto_region 1 with fail
  rw [HW0.out, HBB.out]
  clear HW0
  go_wp2_with fail
  refine hF0.mono ?_
  rintro e w1 ⟨fb, rfl, hfb, rfl⟩
  clear hF0
  cases fb with
  | false =>
    clear hfb
    go_wp2_with fail
    refine (awake_any _).mono ?_
    rintro x w2 ⟨rfl, hb⟩
    have HBX := Hid_of (bel_up HB0.out hb (Nat.le_refl _))
    clear hb
    go_wp2
    go_ret
    exact ⟨rfl, HBX.out⟩
  | true =>
    have hfew := hfb rfl
    clear hfb
    obtain ⟨W1, hW1⟩ : ∃ W1, w1.alloc (.cells #[.int .i64 k, .int .i64 st, .int .i64 p, .int .i64 q, .string t, .int .u64 (keep : Int)] 27) = W1 := ⟨_, rfl⟩
    have hb1 : Below w1.heap.size w1 W1 := by rw [← hW1]; exact bel1 w1 _
    have hB1 : DB W1 w1.heap.size k st p q t keep := by rw [← hW1]; exact heap_alloc_last w1 _
    have hF1 : Calls Tryz.prog 5 #[.int .i64 n, .slice (some ⟨w1.heap.size, 0, none⟩) 1 1] W1 (FewOut n [⟨k, st, p, q, t, keep⟩] W1) := few_any n (some ⟨w1.heap.size, 0, none⟩) 1 [⟨k, st, p, q, t, keep⟩] W1 (by simp; decide) hB1.dds (fun d hd => by simp at hd; subst hd; exact HD.out)
    have HW1 := Hid_of hW1
    have HB1 := Hid_of (bel_up HB0.out hb1 (Nat.le_refl _))
    have HDB1 := Hid_of (HDB0.out.keep hb1)
    have HAT1 := Hid_of (HAT0.out.keep hb1)
    have HFEW := Hid_of hfew
    clear hW1 hb1 hB1 hfew HB0 HDB0 HAT0
    go_wp2_with fail
    rw [HW1.out]
    refine hF1.mono ?_
    rintro e w2 ⟨fb, rfl, hfb, rfl⟩
    clear hF1 HW1 x0 x1 x2 x3 x4 x5
    cases fb with
    | false =>
      clear hfb
      go_wp2_with fail
      refine (awake_any _).mono ?_
      rintro x w3 ⟨rfl, hb⟩
      have HBX := Hid_of (bel_up HB1.out hb (Nat.le_refl _))
      clear hb
      go_wp2
      go_ret
      exact ⟨rfl, HBX.out⟩
    | true =>
      have HKP : Hid (keep < 18446744073709551616) := HD.out.2.2
      have hts : t.size ≤ 3000 := (hfb rfl).2.2 ⟨k, st, p, q, t, keep⟩ (by simp)
      clear hfb
      have hNW := newD n w2
      obtain ⟨hn1, hn2, -⟩ := cntOf_le n
      have hgn := new_good (cntOf n) hn1
      obtain ⟨N, hN⟩ : ∃ N, cntOf n = N := ⟨_, rfl⟩
      rw [hN] at hNW hgn hn1 hn2
      clear hN
      generalize new N = P0 at *
      generalize List.replicate (min (N / 9) 256) (none : Fr.Sl) = L0 at *
      have HGN := Hid_of hgn
      clear hgn
      go_wp2_with fail
      refine hNW.mono ?_
      rintro e w3 ⟨d, F3, rfl, S3⟩
      have c1 := openG S3 HGN.out.1 HGN.out.2
      clear hNW S3 HGN
      go_wp2_with fail
      refine c1.mono ?_
      rintro e w4 ⟨b, s, rfl, G4, -, -⟩
      have HBX : Hid (∀ W, Below w2.heap.size w2 W → DB W B k st p q t keep ∧ Dds W a l ∧ Below w.heap.size w W) := fun W hW => ⟨HDB1.out.keep hW, HAT1.out.keep hW, bel_up HB1.out hW (Nat.le_refl _)⟩
      obtain ⟨x0, x1, x2, x3, x4, x5⟩ := (HBX.out w4 G4.f.dev.bel).1.c
      clear c1
      have HG4 := Hid_of G4
      clear G4 HB1 HDB1 HAT1 x0 x1 x2 x3 x4 x5
      go_wp2
      go_loopw [10] (fun i wr => ∃ (j : Nat) (G : Nat → Prop) (P : List M.Pl) (L : List Fr.Sl), j ≤ l.length ∧ i = .int .i64 j ∧ GS w2 wr b s d G N P L) (fun i _ => l.length - (intOf i).toNat)
      case atStart => exact ⟨0, _, _, _, by omega, rfl, HG4.out⟩
      case round =>
        obtain ⟨j, G, P, L, hj, rfl, hG⟩ := hrel
        clear HG4
        have hbx := HBX.out wr hG.f.dev.bel
        by_cases hlt : j < l.length
        · obtain ⟨bb, off, rfl, y0, y1, y2, y3, y4, y5⟩ := hbx.2.1.get j hlt
          have hsz := HFEW.out.2.2 l[j] (List.getElem_mem hlt)
          generalize ek : l[j].k = kk at *
          generalize ep : l[j].p = kp at *
          generalize eq : l[j].q = kq at *
          generalize et : l[j].txt = kt at *
          clear y1 y5
          have HCL : Hid (∀ W, Below w2.heap.size w2 W → (W.cell? ⟨bb, off + j * 6 + 2, none⟩ = some (.int .i64 kp) ∧ W.cell? ⟨bb, off + j * 6 + 3, none⟩ = some (.int .i64 kq) ∧ W.cell? ⟨bb, off + j * 6 + 4, none⟩ = some (.string kt))) := fun W hW => by
            obtain ⟨b', o', e', z0, z1, z2, z3, z4, z5⟩ := (HBX.out W hW).2.1.get j hlt
            cases e'
            rw [ep] at z2
            rw [eq] at z3
            rw [et] at z4
            exact ⟨z2, z3, z4⟩
          have HGS := Hid_of hG
          clear ek ep eq et hbx hG
          by_cases hk1 : kk = 1
          · subst hk1
            have cD := HGS.out.del kp kq
            go_wp2_with fail
            refine cD.mono ?_
            rintro x w7 ⟨r, F7, P7, L7, rfl, G7, C7, R7⟩
            have HG7 := Hid_of G7
            clear cD G7 C7 R7
            go_wp2
            go_roundw
            case rel => exact ⟨j + 1, F7, P7, L7, by omega, by go_num, HG7.out⟩
            case measure => simp [intOf]; omega
          · have hk1' : (kk == 1) = false := by simpa using hk1
            have hS3 := HGS.out.keep (w' := wr.drew) (Below.drew (Below.refl _ _))
            have cP := hS3.put kp kq kt (by unfold maxLen; omega)
            have S0 : wr.drew.cell? ⟨bb, off + j * 6 + 2, none⟩ = some (.int .i64 kp) ∧ wr.drew.cell? ⟨bb, off + j * 6 + 3, none⟩ = some (.int .i64 kq) ∧ wr.drew.cell? ⟨bb, off + j * 6 + 4, none⟩ = some (.string kt) := ⟨y2, y3, y4⟩
            clear hS3
            go_wp2_with fail
            go_region_held3 (fun wq => wq.cell? ⟨bb, off + j * 6 + 2, none⟩ = some (.int .i64 kp) ∧ wq.cell? ⟨bb, off + j * 6 + 3, none⟩ = some (.int .i64 kq) ∧ wq.cell? ⟨bb, off + j * 6 + 4, none⟩ = some (.string kt)) (first | assumption) (first | (go_at_call 10; refine cP.mono ?_; rintro x w7 ⟨r, F7, P7, L7, rfl, G7, C7, R7⟩; have HG7 := Hid_of G7; have S7 := HCL.out w7 G7.f.dev.bel; clear cP G7 C7 R7))
            go_wp2
            go_roundw
            case rel => exact ⟨j + 1, F7, P7, L7, by omega, by go_num, HG7.out⟩
            case measure => simp [intOf]; omega
        · have HG5 := Hid_of hG
          clear hbx hG
          have cL := list_any b s d L false wr HG5.out.f.o
          go_wp2_with fail
          refine cL.mono ?_
          rintro e w6 ⟨a1, cap1, lw, rfl, hp, hAt, hblk, hb6⟩
          have HPM : Hid (∀ x, x ∈ lw ↔ x ∈ pll L) := fun x => hp.mem_iff
          have hlw : lw.length ≤ 256 := by rw [hp.length_eq]; exact Nat.le_trans (pll_len L) HG5.out.f.o.len
          have HX6 : Hid (AtX w6 (FP G b s) a1 lw) := ⟨hAt, fun k hk => ⟨fun hF => by have := (HG5.out.f.own k hF).2; have := (hblk k hk).1; omega, (hblk k hk).2⟩⟩
          have HG6 := Hid_of (HG5.out.keep hb6)
          clear cL hp hAt hblk hb6 HG5
          go_wp2
          go_loopw [12, 13] (fun v i wq => ∃ (j2 : Nat) (ab : Option Addr) (capb : Nat), j2 ≤ lw.length ∧ v = .slice ab j2 capb ∧ i = .int .i64 j2 ∧ Hid (wq.ownsRow w6.heap.size 9 1 (.slice ab j2 capb) j2 (SC ((lw.take j2).map (bod L)))) ∧ Below w6.heap.size w6 wq) (fun _ i _ => lw.length - (intOf i).toNat)
          case atStart => exact ⟨0, none, 0, by omega, rfl, rfl, World.ownsRow_nil _ _ _ _, Below.refl _ _⟩
          case round =>
            obtain ⟨j2, ab, capb, hj2, rfl, rfl, HO, hbel⟩ := hrel
            have HGQ := Hid_of (HG6.out.keep hbel)
            have HXQ := Hid_of (HX6.out.keep hbel)
            have HBQ := Hid_of hbel
            clear hbel
            by_cases hlt2 : j2 < lw.length
            · obtain ⟨g1, rfl, z0, z1⟩ := HXQ.out.v j2 hlt2
              have cG := HGQ.out.getX ((HPM.out _).1 (List.getElem_mem hlt2))
              have HST : Hid ((lw.take (j2 + 1)).map (bod L) = (lw.take j2).map (bod L) ++ [bod L lw[j2]]) := map_take_step L lw j2 hlt2
              have hln : ((lw.take j2).map (bod L)).length = j2 := by rw [List.length_map, List.length_take]; omega
              have HLN := Hid_of hln
              clear hln
              generalize bod L lw[j2] = tt at *
              generalize lw[j2].1 = xx at *
              generalize lw[j2].2 = yy at *
              generalize (lw.take j2).map (bod L) = TL at *
              go_wp2_with fail
              refine cG.mono ?_
              rintro x w7 ⟨rfl, b7⟩
              obtain ⟨W8, hW8⟩ : ∃ W8, w7.alloc (.cells #[.string tt] 9) = W8 := ⟨_, rfl⟩
              have hb8 : Below wr.heap.size wr W8 := by rw [← hW8]; exact b7.trans ((bel1 w7 _).mono b7.size)
              have hr8 : W8.heap[w7.heap.size]? = some (.cells #[.string tt] 9 (0, 0)) := by rw [← hW8]; exact heap_alloc_last w7 _
              have hO8 := owns_keep HO.out hb8
              have hB8 := bel_up HBQ.out hb8 (Nat.le_refl _)
              rw [← HLN.out] at hO8
              obtain ⟨gg, cp, w9, hrun, ho, hrw⟩ := run_app_str W8 w6.heap.size _ TL tt w7.heap.size 1 40 hO8 hr8 (by have := HLN.out; omega) hB8.size
              have HB9 := Hid_of (hB8.trans (hrw.below (fun k hk => (owns_txt hO8 k hk).1) hB8.size))
              rw [List.length_append, ← HST.out, HLN.out] at ho
              rw [HLN.out] at hrun
              have HN := Hid_of ho
              have HW8 := Hid_of hW8
              clear cG b7 hW8 hb8 hr8 hO8 hB8 ho hrw z0 z1
              go_wp2_with (at_builtin; rw [HW8.out]; refine wpList_append_known rfl (.tmp 96) (.tmp 98) 40 rfl _ _ (by simp [Act.eval]) (by simp [Act.eval]) _ _ hrun ?_; clear hrun)
              go_roundw
              case rel => exact ⟨j2 + 1, some ⟨gg, 0, none⟩, cp, by omega, rfl, by go_num, HN.out, HB9.out⟩
              case measure => simp [intOf]; omega
            · obtain rfl : j2 = lw.length := by omega
              rw [List.take_length] at HO
              obtain ⟨ab', capb', e', hBV, hBK, -, -, -, -⟩ := owns_at HO.out
              cases e'
              have HBV : Hid (AtO wr (FP G b s) ab (SC (lw.map (bod L)))) := ⟨hBV, fun k hk => ⟨fun hF => by have := (HG6.out.f.own k hF).2; have := (hBK k hk).1; omega, (hBK k hk).2.2⟩⟩
              clear hBV hBK HO HG6 HX6
              obtain ⟨x0, x1, x2, x3, x4, x5⟩ := (HBX.out wr HGQ.out.f.dev.bel).1.c
              go_upto_if 102 with fail
              go_cut [] from 100 to 116 (fun wc => MidR w2 wr b s d G N L k p q t wc)
              case first =>
                by_cases hk1 : k = 1
                · subst hk1
                  have cD := HGQ.out.delC p q st
                  go_wp2_with fail
                  refine cD.mono ?_
                  rintro x w8 ⟨r, G8, P8, rfl, D8, C8, R8⟩
                  have HM : Hid (MidR w2 wr b s d G N L 1 p q t w8) := ⟨G8, P8, D8, C8, fun kp => R8.cut t kp⟩
                  clear cD D8 C8 R8 x0 x1 x2 x3 x4 x5
                  go_wp2
                  go_meet
                  case rel => exact HM.out
                · have hk1' : (k == 1) = false := by simpa using hk1
                  have cP := HGQ.out.putC p q t (by unfold maxLen; omega) st
                  go_wp2_with fail
                  refine cP.mono ?_
                  rintro x w8 ⟨r, G8, P8, rfl, D8, C8, R8⟩
                  have HM : Hid (MidR w2 wr b s d G N L k p q t w8) := ⟨G8, P8, D8, C8, fun kp => R8.cut k hk1 kp⟩
                  clear cP D8 C8 R8 x0 x1 x2 x3 x4 x5
                  go_wp2
                  go_meet
                  case rel => exact HM.out
              case rest =>
                obtain ⟨G8, P8, D8, C8, R8⟩ := hcut
                have hcr := D8.crash keep 0 HKP.out
                have HC8 := Hid_of C8
                have HR8 := Hid_of R8
                have HOK8 : Hid (M.Ok P8) := D8.ok.1
                have hxc := (HBX.out wc D8.bel).1.c
                obtain ⟨x0, x1, x2, x3, x4, x5⟩ := hxc
                clear D8 C8 R8
                go_wp2_with fail
                refine hcr.mono ?_
                rintro x w9 ⟨G9, rfl, D9, C9⟩
                obtain ⟨L9, hg9, hcut9⟩ := HR8.out keep
                have cO := openG D9 hg9 (cl_lse (M.crash_spec HOK8.out keep 0).2.2)
                have HX9 : Hid (AtX w9 (FP G9 b s) a1 lw) := (HXQ.out.step HC8.out).step (C9.wide (b := b) (s := s))
                have HV9 : Hid (AtO w9 (FP G9 b s) ab (SC (lw.map (bod L)))) := (HBV.out.step HC8.out).step (C9.wide (b := b) (s := s))
                have HCUT := Hid_of hcut9
                have HGL : Hid (Fr.Good P L) := HGQ.out.g
                clear hcr D9 C9 hg9 hcut9 HC8 HR8 HOK8 HXQ HBV HGQ HBQ x0 x1 x2 x3 x4 x5
                generalize M.crash P8 keep 0 = P9 at *
                go_wp2_with fail
                refine cO.mono ?_
                rintro x w10 ⟨b2, s2, rfl, G10, -, hb10⟩
                have HG10 := Hid_of G10
                have HX10 : Hid (AtP w10 a1 lw) := HX9.out.v.keep hb10
                have HV10 : Hid (AtV w10 ab (SC (lw.map (bod L)))) := HV9.out.v.keep hb10
                have HD10 : Hid (DB w10 B k st p q t keep) := (HBX.out w10 G10.f.dev.bel).1
                clear cO G10 hb10 HX9 HV9
                go_wp2
                go_loopw [18] (fun i wq => ∃ j3 : Nat, j3 ≤ lw.length ∧ i = .int .i64 j3 ∧ Below w10.heap.size w10 wq) (fun i _ => lw.length - (intOf i).toNat)
                case atStart => exact ⟨0, by omega, rfl, Below.refl _ _⟩
                case round =>
                  obtain ⟨j3, hj3, rfl, hbel⟩ := hrel
                  have HB3 := Hid_of hbel
                  have HG3 := Hid_of (HG10.out.keep hbel)
                  have hx3 := HX10.out.keep hbel
                  have hv3 := HV10.out.keep hbel
                  have hd3 := HD10.out.keep hbel
                  clear hbel
                  by_cases hlt3 : j3 < lw.length
                  · obtain ⟨g1, rfl, z0, z1⟩ := hx3 j3 hlt3
                    obtain ⟨bb, off, rfl, v0⟩ := hv3.str j3 (by rw [List.length_map]; exact hlt3)
                    rw [List.getElem_map] at v0
                    have hlk := look3 HGL.out HG3.out.g HCUT.out ((HPM.out _).1 (List.getElem_mem hlt3))
                    have HXX : Hid (∀ W, Below wr.heap.size wr W → ((W.cell? ⟨g1, j3 * 2, none⟩ = some (.int .i64 lw[j3].1) ∧ W.cell? ⟨g1, j3 * 2 + 1, none⟩ = some (.int .i64 lw[j3].2)) ∧ W.cell? ⟨bb, off + j3, none⟩ = some (.string (bod L lw[j3]))) ∧ DB W B k st p q t keep) := fun W hW => by
                      have hW' := HB3.out.trans (hW.mono HB3.out.size)
                      obtain ⟨g', e', u0, u1⟩ := HX10.out.keep hW' j3 hlt3
                      cases e'
                      obtain ⟨b', o', e', u2⟩ := (HV10.out.keep hW').str j3 (by rw [List.length_map]; exact hlt3)
                      cases e'
                      rw [List.getElem_map] at u2
                      exact ⟨⟨⟨u0, u1⟩, u2⟩, HD10.out.keep hW'⟩
                    generalize bod L lw[j3] = tt at *
                    generalize lw[j3] = xy at *
                    obtain ⟨xx, yy⟩ := xy
                    simp only at z0 z1 HXX hlk
                    clear hx3 hv3 hd3 v0
                    rcases hlk with ⟨hab, hk1, hxy⟩ | ⟨i3, a3, c3, hxy, hi3⟩
                    · cases hxy
                      subst hk1
                      have cG := HG3.out.get_no hab
                      have heq := eq24 p q p q
                      have he : (decide (p = p) && decide (q = q)) = true := by simp
                      rw [he] at heq
                      clear he hab
                      go_wp2_with fail
                      refine cG.mono ?_
                      rintro x w11 ⟨rfl, b11⟩
                      obtain ⟨⟨⟨z0, z1⟩, v0⟩, hd⟩ := HXX.out w11 b11
                      obtain ⟨x0, x1, x2, x3, x4, x5⟩ := hd.c
                      have HB11 := Hid_of (bel_up HB3.out b11 (Nat.le_refl _))
                      clear cG b11 hd
                      go_wp2_with fail
                      refine wp_region_held_drew (S := fun wq => wq.cell? ⟨g1, j3 * 2, none⟩ = some (.int .i64 p) ∧ wq.cell? ⟨g1, j3 * 2 + 1, none⟩ = some (.int .i64 q) ∧ wq.cell? ⟨B, 0, none⟩ = some (.int .i64 1) ∧ wq.cell? ⟨B, 2, none⟩ = some (.int .i64 p) ∧ wq.cell? ⟨B, 3, none⟩ = some (.int .i64 q)) (by kernel_rfl) ⟨z0, z1, x0, x2, x3⟩ (fun hHeld => ?_)
                      refine wpAnyH_take (i := 0) (oi := ?p0a) (v := ?v0a) ?o0a (by kernel_rfl) (by kernel_rfl) (by kernel_rfl) ?q0a ?y0a hHeld ?r0a
                      case o0a => simp only [List.getElem?_toArray, List.getElem?_cons_zero]; rfl
                      case q0a => exact fun _ _ _ h => h
                      case y0a => (refine Or.inl ⟨rfl, ?_⟩; intro wq hq; obtain ⟨z0, z1, x0, x2, x3⟩ := hq; go_simp; try with_reducible rfl)
                      simp only [Act.put, List.setIfInBounds_toArray, List.set_cons_zero, List.set_cons_succ]
                      refine wpAnyH_take (i := 1) (oi := ?p1a) (v := ?v1a) ?o1a (by kernel_rfl) (by kernel_rfl) (by kernel_rfl) ?q1a ?y1a hHeld ?r1a
                      case o1a => simp only [List.getElem?_toArray, List.getElem?_cons_succ, List.getElem?_cons_zero]; rfl
                      case q1a => exact fun _ _ _ h => h
                      case y1a => (refine Or.inl ⟨rfl, ?_⟩; intro wq hq; obtain ⟨z0, z1, x0, x2, x3⟩ := hq; go_simp; try with_reducible rfl)
                      simp only [Act.put, List.setIfInBounds_toArray, List.set_cons_zero, List.set_cons_succ]
                      refine wpAnyH_take (i := 2) (oi := ?p2a) (v := ?v2a) ?o2a (by kernel_rfl) (by kernel_rfl) (by kernel_rfl) ?q2a ?y2a hHeld ?r2a
                      case o2a => simp only [List.getElem?_toArray, List.getElem?_cons_succ, List.getElem?_cons_zero]; rfl
                      case q2a => exact fun _ _ _ h => h
                      case y2a => (refine Or.inl ⟨rfl, ?_⟩; intro wq hq; obtain ⟨z0, z1, x0, x2, x3⟩ := hq; go_simp; try with_reducible rfl)
                      simp only [Act.put, List.setIfInBounds_toArray, List.set_cons_zero, List.set_cons_succ]
                      refine wpAnyH_take (i := 3) (oi := ?p3a) (v := ?v3a) ?o3a (by kernel_rfl) (by kernel_rfl) (by kernel_rfl) ?q3a ?y3a hHeld ?r3a
                      case o3a => simp only [List.getElem?_toArray, List.getElem?_cons_succ, List.getElem?_cons_zero]; rfl
                      case q3a => exact fun _ _ _ h => h
                      case y3a => (refine Or.inl ⟨rfl, ?_⟩; intro wq hq; obtain ⟨z0, z1, x0, x2, x3⟩ := hq; go_simp; try with_reducible rfl)
                      simp only [Act.put, List.setIfInBounds_toArray, List.set_cons_zero, List.set_cons_succ]
                      refine wpAnyH_take (i := 4) (oi := ?p4a) (v := ?v4a) ?o4a (by kernel_rfl) (by kernel_rfl) (by kernel_rfl) ?q4a ?y4a hHeld ?r4a
                      case o4a => simp only [List.getElem?_toArray, List.getElem?_cons_succ, List.getElem?_cons_zero]; rfl
                      case q4a => exact fun _ _ _ h => h
                      case y4a => (refine Or.inl ⟨rfl, ?_⟩; intro wq hq; obtain ⟨z0, z1, x0, x2, x3⟩ := hq; go_simp; try with_reducible rfl)
                      simp only [Act.put, List.setIfInBounds_toArray, List.set_cons_zero, List.set_cons_succ]
                      refine wpAnyH_take (i := 5) (oi := ?p5a) (v := ?v5a) ?o5a (by kernel_rfl) (by kernel_rfl) (by kernel_rfl) ?q5a ?y5a hHeld ?r5a
                      case o5a => simp only [List.getElem?_toArray, List.getElem?_cons_succ, List.getElem?_cons_zero]; rfl
                      case q5a => exact fun _ _ _ h => h
                      case y5a => (refine Or.inl ⟨rfl, ?_⟩; intro wq hq; obtain ⟨z0, z1, x0, x2, x3⟩ := hq; go_simp; try with_reducible rfl)
                      simp only [Act.put, List.setIfInBounds_toArray, List.set_cons_zero, List.set_cons_succ]
                      refine wpAnyH_take (i := 6) (oi := ?p6a) (v := ?v6a) ?o6a (by kernel_rfl) (by kernel_rfl) (by kernel_rfl) ?q6a ?y6a hHeld ?r6a
                      case o6a => simp only [List.getElem?_toArray, List.getElem?_cons_succ, List.getElem?_cons_zero]; rfl
                      case q6a => exact fun _ _ _ h => h
                      case y6a => (refine Or.inl ⟨rfl, ?_⟩; intro wq hq; obtain ⟨z0, z1, x0, x2, x3⟩ := hq; go_simp; try with_reducible rfl)
                      simp only [Act.put, List.setIfInBounds_toArray, List.set_cons_zero, List.set_cons_succ]
                      refine wpAnyH_take (i := 7) (oi := ?p7a) (v := ?v7a) ?o7a (by kernel_rfl) (by kernel_rfl) (by kernel_rfl) ?q7a ?y7a hHeld ?r7a
                      case o7a => simp only [List.getElem?_toArray, List.getElem?_cons_succ, List.getElem?_cons_zero]; rfl
                      case q7a => exact fun _ _ _ h => h
                      case y7a => (refine Or.inl ⟨rfl, ?_⟩; intro wq hq; obtain ⟨z0, z1, x0, x2, x3⟩ := hq; go_simp; try with_reducible rfl)
                      simp only [Act.put, List.setIfInBounds_toArray, List.set_cons_zero, List.set_cons_succ]
                      refine wpAnyH_take (i := 8) (oi := ?p8a) (v := ?v8a) ?o8a (by kernel_rfl) (by kernel_rfl) (by kernel_rfl) ?q8a ?y8a hHeld ?r8a
                      case o8a => simp only [List.getElem?_toArray, List.getElem?_cons_succ, List.getElem?_cons_zero]; rfl
                      case q8a => exact fun _ _ _ h => h
                      case y8a => (refine Or.inl ⟨rfl, ?_⟩; intro wq hq; obtain ⟨z0, z1, x0, x2, x3⟩ := hq; go_simp; try with_reducible rfl)
                      simp only [Act.put, List.setIfInBounds_toArray, List.set_cons_zero, List.set_cons_succ]
                      refine wpAnyH_take (i := 9) (oi := ?p9a) (v := ?v9a) ?o9a (by kernel_rfl) (by kernel_rfl) (by kernel_rfl) ?q9a ?y9a hHeld ?r9a
                      case o9a => simp only [List.getElem?_toArray, List.getElem?_cons_succ, List.getElem?_cons_zero]; rfl
                      case q9a => exact fun _ _ _ h => h
                      case y9a => (refine Or.inl ⟨rfl, ?_⟩; intro wq hq; obtain ⟨z0, z1, x0, x2, x3⟩ := hq; go_simp; try with_reducible rfl)
                      simp only [Act.put, List.setIfInBounds_toArray, List.set_cons_zero, List.set_cons_succ]
                      refine wpAnyH_take (i := 10) (oi := ?p10a) (v := ?v10a) ?o10a (by kernel_rfl) (by kernel_rfl) (by kernel_rfl) ?q10a ?y10a hHeld ?r10a
                      case o10a => simp only [List.getElem?_toArray, List.getElem?_cons_succ, List.getElem?_cons_zero]; rfl
                      case q10a => exact fun _ _ _ h => h
                      case y10a => (refine Or.inl ⟨rfl, ?_⟩; intro wq hq; obtain ⟨z0, z1, x0, x2, x3⟩ := hq; go_simp; try with_reducible rfl)
                      simp only [Act.put, List.setIfInBounds_toArray, List.set_cons_zero, List.set_cons_succ]
                      refine wpAnyH_take (i := 11) (oi := ?p11a) (v := ?v11a) ?o11a (by kernel_rfl) (by kernel_rfl) (by kernel_rfl) ?q11a ?y11a hHeld ?r11a
                      case o11a => simp only [List.getElem?_toArray, List.getElem?_cons_succ, List.getElem?_cons_zero]; rfl
                      case q11a => exact fun _ _ _ h => h
                      case y11a => (refine Or.inl ⟨rfl, ?_⟩; intro wq hq; obtain ⟨z0, z1, x0, x2, x3⟩ := hq; go_simp; try with_reducible rfl)
                      simp only [Act.put, List.setIfInBounds_toArray, List.set_cons_zero, List.set_cons_succ]
                      refine wpAnyH_take (i := 12) (oi := ?p12a) (v := ?v12a) ?o12a (by kernel_rfl) (by kernel_rfl) (by kernel_rfl) ?q12a ?y12a hHeld ?r12a
                      case o12a => simp only [List.getElem?_toArray, List.getElem?_cons_succ, List.getElem?_cons_zero]; rfl
                      case q12a => exact fun _ _ _ h => h
                      case y12a => (refine Or.inl ⟨rfl, ?_⟩; intro wq hq; obtain ⟨z0, z1, x0, x2, x3⟩ := hq; go_simp; try with_reducible rfl)
                      simp only [Act.put, List.setIfInBounds_toArray, List.set_cons_zero, List.set_cons_succ]
                      refine wpAnyH_take (i := 13) (oi := ?p13a) (v := ?v13a) ?o13a (by kernel_rfl) (by kernel_rfl) (by kernel_rfl) ?q13a ?y13a hHeld ?r13a
                      case o13a => simp only [List.getElem?_toArray, List.getElem?_cons_succ, List.getElem?_cons_zero]; rfl
                      case q13a => exact fun _ _ _ h => h
                      case y13a => (refine Or.inl ⟨rfl, ?_⟩; intro wq hq; obtain ⟨z0, z1, x0, x2, x3⟩ := hq; go_simp; try with_reducible rfl)
                      simp only [Act.put, List.setIfInBounds_toArray, List.set_cons_zero, List.set_cons_succ]
                      refine wpAnyH_take (i := 14) (oi := ?p14a) (v := ?v14a) ?o14a (by kernel_rfl) (by kernel_rfl) (by kernel_rfl) ?q14a ?y14a hHeld ?r14a
                      case o14a => simp only [List.getElem?_toArray, List.getElem?_cons_succ, List.getElem?_cons_zero]; rfl
                      case q14a => exact fun _ _ _ h => h
                      case y14a => (refine Or.inl ⟨rfl, ?_⟩; intro wq hq; obtain ⟨z0, z1, x0, x2, x3⟩ := hq; go_simp; try with_reducible rfl)
                      simp only [Act.put, List.setIfInBounds_toArray, List.set_cons_zero, List.set_cons_succ]
                      refine wpAnyH_take (i := 15) (oi := ?p15a) (v := ?v15a) ?o15a (by kernel_rfl) (by kernel_rfl) (by kernel_rfl) ?q15a ?y15a hHeld ?r15a
                      case o15a => simp only [List.getElem?_toArray, List.getElem?_cons_succ, List.getElem?_cons_zero]; rfl
                      case q15a => exact fun _ _ _ h => h
                      case y15a => (refine Or.inl ⟨rfl, ?_⟩; intro wq hq; obtain ⟨z0, z1, x0, x2, x3⟩ := hq; go_simp; try with_reducible rfl)
                      simp only [Act.put, List.setIfInBounds_toArray, List.set_cons_zero, List.set_cons_succ]
                      refine wpAnyH_done (by kernel_rfl) ?_ _
                      go_wp2
                      go_roundw
                      case rel => exact ⟨j3 + 1, by omega, by go_num, Below.drew HB11.out⟩
                      case measure => simp [intOf]; omega
                    · cases hxy
                      have cG := HG3.out.get_yes hi3
                      have heq := eq24 a3 c3 p q
                      have hteq : (tt.toList == tt.toList) = true := by simp
                      clear hi3
                      go_wp2_with fail
                      refine cG.mono ?_
                      rintro x w11 ⟨rfl, b11⟩
                      obtain ⟨⟨⟨z0, z1⟩, v0⟩, hd⟩ := HXX.out w11 b11
                      obtain ⟨x0, x1, x2, x3, x4, x5⟩ := hd.c
                      have HB11 := Hid_of (bel_up HB3.out b11 (Nat.le_refl _))
                      have v0d : w11.drew.cell? ⟨bb, off + j3, none⟩ = some (.string tt) := v0
                      clear cG b11 hd
                      cases he : (decide ((a3 : Int) = p) && decide ((c3 : Int) = q)) with
                      | false =>
                        rw [he] at heq
                        clear he
                        go_wp2_with fail
                        refine wp_region_held_drew (S := fun wq => wq.cell? ⟨g1, j3 * 2, none⟩ = some (.int .i64 a3) ∧ wq.cell? ⟨g1, j3 * 2 + 1, none⟩ = some (.int .i64 c3) ∧ wq.cell? ⟨B, 0, none⟩ = some (.int .i64 k) ∧ wq.cell? ⟨B, 2, none⟩ = some (.int .i64 p) ∧ wq.cell? ⟨B, 3, none⟩ = some (.int .i64 q)) (by kernel_rfl) ⟨z0, z1, x0, x2, x3⟩ (fun hHeld => ?_)
                        refine wpAnyH_take (i := 0) (oi := ?p0b) (v := ?v0b) ?o0b (by kernel_rfl) (by kernel_rfl) (by kernel_rfl) ?q0b ?y0b hHeld ?r0b
                        case o0b => simp only [List.getElem?_toArray, List.getElem?_cons_zero]; rfl
                        case q0b => exact fun _ _ _ h => h
                        case y0b => (refine Or.inl ⟨rfl, ?_⟩; intro wq hq; obtain ⟨z0, z1, x0, x2, x3⟩ := hq; go_simp; try with_reducible rfl)
                        simp only [Act.put, List.setIfInBounds_toArray, List.set_cons_zero, List.set_cons_succ]
                        refine wpAnyH_take (i := 1) (oi := ?p1b) (v := ?v1b) ?o1b (by kernel_rfl) (by kernel_rfl) (by kernel_rfl) ?q1b ?y1b hHeld ?r1b
                        case o1b => simp only [List.getElem?_toArray, List.getElem?_cons_succ, List.getElem?_cons_zero]; rfl
                        case q1b => exact fun _ _ _ h => h
                        case y1b => (refine Or.inl ⟨rfl, ?_⟩; intro wq hq; obtain ⟨z0, z1, x0, x2, x3⟩ := hq; go_simp; try with_reducible rfl)
                        simp only [Act.put, List.setIfInBounds_toArray, List.set_cons_zero, List.set_cons_succ]
                        refine wpAnyH_take (i := 2) (oi := ?p2b) (v := ?v2b) ?o2b (by kernel_rfl) (by kernel_rfl) (by kernel_rfl) ?q2b ?y2b hHeld ?r2b
                        case o2b => simp only [List.getElem?_toArray, List.getElem?_cons_succ, List.getElem?_cons_zero]; rfl
                        case q2b => exact fun _ _ _ h => h
                        case y2b => (refine Or.inl ⟨rfl, ?_⟩; intro wq hq; obtain ⟨z0, z1, x0, x2, x3⟩ := hq; go_simp; try with_reducible rfl)
                        simp only [Act.put, List.setIfInBounds_toArray, List.set_cons_zero, List.set_cons_succ]
                        refine wpAnyH_take (i := 3) (oi := ?p3b) (v := ?v3b) ?o3b (by kernel_rfl) (by kernel_rfl) (by kernel_rfl) ?q3b ?y3b hHeld ?r3b
                        case o3b => simp only [List.getElem?_toArray, List.getElem?_cons_succ, List.getElem?_cons_zero]; rfl
                        case q3b => exact fun _ _ _ h => h
                        case y3b => (refine Or.inl ⟨rfl, ?_⟩; intro wq hq; obtain ⟨z0, z1, x0, x2, x3⟩ := hq; go_simp; try with_reducible rfl)
                        simp only [Act.put, List.setIfInBounds_toArray, List.set_cons_zero, List.set_cons_succ]
                        refine wpAnyH_take (i := 4) (oi := ?p4b) (v := ?v4b) ?o4b (by kernel_rfl) (by kernel_rfl) (by kernel_rfl) ?q4b ?y4b hHeld ?r4b
                        case o4b => simp only [List.getElem?_toArray, List.getElem?_cons_succ, List.getElem?_cons_zero]; rfl
                        case q4b => exact fun _ _ _ h => h
                        case y4b => (refine Or.inl ⟨rfl, ?_⟩; intro wq hq; obtain ⟨z0, z1, x0, x2, x3⟩ := hq; go_simp; try with_reducible rfl)
                        simp only [Act.put, List.setIfInBounds_toArray, List.set_cons_zero, List.set_cons_succ]
                        refine wpAnyH_take (i := 5) (oi := ?p5b) (v := ?v5b) ?o5b (by kernel_rfl) (by kernel_rfl) (by kernel_rfl) ?q5b ?y5b hHeld ?r5b
                        case o5b => simp only [List.getElem?_toArray, List.getElem?_cons_succ, List.getElem?_cons_zero]; rfl
                        case q5b => exact fun _ _ _ h => h
                        case y5b => (refine Or.inl ⟨rfl, ?_⟩; intro wq hq; obtain ⟨z0, z1, x0, x2, x3⟩ := hq; go_simp; try with_reducible rfl)
                        simp only [Act.put, List.setIfInBounds_toArray, List.set_cons_zero, List.set_cons_succ]
                        refine wpAnyH_take (i := 6) (oi := ?p6b) (v := ?v6b) ?o6b (by kernel_rfl) (by kernel_rfl) (by kernel_rfl) ?q6b ?y6b hHeld ?r6b
                        case o6b => simp only [List.getElem?_toArray, List.getElem?_cons_succ, List.getElem?_cons_zero]; rfl
                        case q6b => exact fun _ _ _ h => h
                        case y6b => (refine Or.inl ⟨rfl, ?_⟩; intro wq hq; obtain ⟨z0, z1, x0, x2, x3⟩ := hq; go_simp; try with_reducible rfl)
                        simp only [Act.put, List.setIfInBounds_toArray, List.set_cons_zero, List.set_cons_succ]
                        refine wpAnyH_take (i := 7) (oi := ?p7b) (v := ?v7b) ?o7b (by kernel_rfl) (by kernel_rfl) (by kernel_rfl) ?q7b ?y7b hHeld ?r7b
                        case o7b => simp only [List.getElem?_toArray, List.getElem?_cons_succ, List.getElem?_cons_zero]; rfl
                        case q7b => exact fun _ _ _ h => h
                        case y7b => (refine Or.inl ⟨rfl, ?_⟩; intro wq hq; obtain ⟨z0, z1, x0, x2, x3⟩ := hq; go_simp; try with_reducible rfl)
                        simp only [Act.put, List.setIfInBounds_toArray, List.set_cons_zero, List.set_cons_succ]
                        refine wpAnyH_take (i := 8) (oi := ?p8b) (v := undef) ?o8b (by kernel_rfl) (by kernel_rfl) (by kernel_rfl) ?q8b ?y8b hHeld ?r8b
                        case o8b => simp only [List.getElem?_toArray, List.getElem?_cons_succ, List.getElem?_cons_zero]; rfl
                        case q8b => exact fun _ _ _ h => h
                        case y8b => exact Or.inr ⟨rfl, rfl⟩
                        simp only [Act.put, List.setIfInBounds_toArray, List.set_cons_zero, List.set_cons_succ]
                        refine wpAnyH_take (i := 9) (oi := ?p9b) (v := undef) ?o9b (by kernel_rfl) (by kernel_rfl) (by kernel_rfl) ?q9b ?y9b hHeld ?r9b
                        case o9b => simp only [List.getElem?_toArray, List.getElem?_cons_succ, List.getElem?_cons_zero]; rfl
                        case q9b => exact fun _ _ _ h => h
                        case y9b => exact Or.inr ⟨rfl, rfl⟩
                        simp only [Act.put, List.setIfInBounds_toArray, List.set_cons_zero, List.set_cons_succ]
                        refine wpAnyH_take (i := 10) (oi := ?p10b) (v := undef) ?o10b (by kernel_rfl) (by kernel_rfl) (by kernel_rfl) ?q10b ?y10b hHeld ?r10b
                        case o10b => simp only [List.getElem?_toArray, List.getElem?_cons_succ, List.getElem?_cons_zero]; rfl
                        case q10b => exact fun _ _ _ h => h
                        case y10b => exact Or.inr ⟨rfl, rfl⟩
                        simp only [Act.put, List.setIfInBounds_toArray, List.set_cons_zero, List.set_cons_succ]
                        refine wpAnyH_take (i := 11) (oi := ?p11b) (v := ?v11b) ?o11b (by kernel_rfl) (by kernel_rfl) (by kernel_rfl) ?q11b ?y11b hHeld ?r11b
                        case o11b => simp only [List.getElem?_toArray, List.getElem?_cons_succ, List.getElem?_cons_zero]; rfl
                        case q11b => exact fun _ _ _ h => h
                        case y11b => (refine Or.inl ⟨rfl, ?_⟩; intro wq hq; obtain ⟨z0, z1, x0, x2, x3⟩ := hq; go_simp; try with_reducible rfl)
                        simp only [Act.put, List.setIfInBounds_toArray, List.set_cons_zero, List.set_cons_succ]
                        refine wpAnyH_take (i := 12) (oi := ?p12b) (v := ?v12b) ?o12b (by kernel_rfl) (by kernel_rfl) (by kernel_rfl) ?q12b ?y12b hHeld ?r12b
                        case o12b => simp only [List.getElem?_toArray, List.getElem?_cons_succ, List.getElem?_cons_zero]; rfl
                        case q12b => exact fun _ _ _ h => h
                        case y12b => (refine Or.inl ⟨rfl, ?_⟩; intro wq hq; obtain ⟨z0, z1, x0, x2, x3⟩ := hq; go_simp; try with_reducible rfl)
                        simp only [Act.put, List.setIfInBounds_toArray, List.set_cons_zero, List.set_cons_succ]
                        refine wpAnyH_take (i := 13) (oi := ?p13b) (v := undef) ?o13b (by kernel_rfl) (by kernel_rfl) (by kernel_rfl) ?q13b ?y13b hHeld ?r13b
                        case o13b => simp only [List.getElem?_toArray, List.getElem?_cons_succ, List.getElem?_cons_zero]; rfl
                        case q13b => exact fun _ _ _ h => h
                        case y13b => exact Or.inr ⟨rfl, rfl⟩
                        simp only [Act.put, List.setIfInBounds_toArray, List.set_cons_zero, List.set_cons_succ]
                        refine wpAnyH_take (i := 14) (oi := ?p14b) (v := undef) ?o14b (by kernel_rfl) (by kernel_rfl) (by kernel_rfl) ?q14b ?y14b hHeld ?r14b
                        case o14b => simp only [List.getElem?_toArray, List.getElem?_cons_succ, List.getElem?_cons_zero]; rfl
                        case q14b => exact fun _ _ _ h => h
                        case y14b => exact Or.inr ⟨rfl, rfl⟩
                        simp only [Act.put, List.setIfInBounds_toArray, List.set_cons_zero, List.set_cons_succ]
                        refine wpAnyH_take (i := 15) (oi := ?p15b) (v := ?v15b) ?o15b (by kernel_rfl) (by kernel_rfl) (by kernel_rfl) ?q15b ?y15b hHeld ?r15b
                        case o15b => simp only [List.getElem?_toArray, List.getElem?_cons_succ, List.getElem?_cons_zero]; rfl
                        case q15b => exact fun _ _ _ h => h
                        case y15b => (refine Or.inl ⟨rfl, ?_⟩; intro wq hq; obtain ⟨z0, z1, x0, x2, x3⟩ := hq; go_simp; try with_reducible rfl)
                        simp only [Act.put, List.setIfInBounds_toArray, List.set_cons_zero, List.set_cons_succ]
                        refine wpAnyH_done (by kernel_rfl) ?_ _
                        go_wp2
                        go_roundw
                        case rel => exact ⟨j3 + 1, by omega, by go_num, Below.drew HB11.out⟩
                        case measure => simp [intOf]; omega
                      | true =>
                        rw [he] at heq
                        clear he
                        by_cases hk1 : k = 1
                        · subst hk1
                          go_wp2_with fail
                          refine wp_region_held_drew (S := fun wq => wq.cell? ⟨g1, j3 * 2, none⟩ = some (.int .i64 a3) ∧ wq.cell? ⟨g1, j3 * 2 + 1, none⟩ = some (.int .i64 c3) ∧ wq.cell? ⟨B, 0, none⟩ = some (.int .i64 1) ∧ wq.cell? ⟨B, 2, none⟩ = some (.int .i64 p) ∧ wq.cell? ⟨B, 3, none⟩ = some (.int .i64 q)) (by kernel_rfl) ⟨z0, z1, x0, x2, x3⟩ (fun hHeld => ?_)
                          refine wpAnyH_take (i := 0) (oi := ?p0c) (v := ?v0c) ?o0c (by kernel_rfl) (by kernel_rfl) (by kernel_rfl) ?q0c ?y0c hHeld ?r0c
                          case o0c => simp only [List.getElem?_toArray, List.getElem?_cons_zero]; rfl
                          case q0c => exact fun _ _ _ h => h
                          case y0c => (refine Or.inl ⟨rfl, ?_⟩; intro wq hq; obtain ⟨z0, z1, x0, x2, x3⟩ := hq; go_simp; try with_reducible rfl)
                          simp only [Act.put, List.setIfInBounds_toArray, List.set_cons_zero, List.set_cons_succ]
                          refine wpAnyH_take (i := 1) (oi := ?p1c) (v := ?v1c) ?o1c (by kernel_rfl) (by kernel_rfl) (by kernel_rfl) ?q1c ?y1c hHeld ?r1c
                          case o1c => simp only [List.getElem?_toArray, List.getElem?_cons_succ, List.getElem?_cons_zero]; rfl
                          case q1c => exact fun _ _ _ h => h
                          case y1c => (refine Or.inl ⟨rfl, ?_⟩; intro wq hq; obtain ⟨z0, z1, x0, x2, x3⟩ := hq; go_simp; try with_reducible rfl)
                          simp only [Act.put, List.setIfInBounds_toArray, List.set_cons_zero, List.set_cons_succ]
                          refine wpAnyH_take (i := 2) (oi := ?p2c) (v := ?v2c) ?o2c (by kernel_rfl) (by kernel_rfl) (by kernel_rfl) ?q2c ?y2c hHeld ?r2c
                          case o2c => simp only [List.getElem?_toArray, List.getElem?_cons_succ, List.getElem?_cons_zero]; rfl
                          case q2c => exact fun _ _ _ h => h
                          case y2c => (refine Or.inl ⟨rfl, ?_⟩; intro wq hq; obtain ⟨z0, z1, x0, x2, x3⟩ := hq; go_simp; try with_reducible rfl)
                          simp only [Act.put, List.setIfInBounds_toArray, List.set_cons_zero, List.set_cons_succ]
                          refine wpAnyH_take (i := 3) (oi := ?p3c) (v := ?v3c) ?o3c (by kernel_rfl) (by kernel_rfl) (by kernel_rfl) ?q3c ?y3c hHeld ?r3c
                          case o3c => simp only [List.getElem?_toArray, List.getElem?_cons_succ, List.getElem?_cons_zero]; rfl
                          case q3c => exact fun _ _ _ h => h
                          case y3c => (refine Or.inl ⟨rfl, ?_⟩; intro wq hq; obtain ⟨z0, z1, x0, x2, x3⟩ := hq; go_simp; try with_reducible rfl)
                          simp only [Act.put, List.setIfInBounds_toArray, List.set_cons_zero, List.set_cons_succ]
                          refine wpAnyH_take (i := 4) (oi := ?p4c) (v := ?v4c) ?o4c (by kernel_rfl) (by kernel_rfl) (by kernel_rfl) ?q4c ?y4c hHeld ?r4c
                          case o4c => simp only [List.getElem?_toArray, List.getElem?_cons_succ, List.getElem?_cons_zero]; rfl
                          case q4c => exact fun _ _ _ h => h
                          case y4c => (refine Or.inl ⟨rfl, ?_⟩; intro wq hq; obtain ⟨z0, z1, x0, x2, x3⟩ := hq; go_simp; try with_reducible rfl)
                          simp only [Act.put, List.setIfInBounds_toArray, List.set_cons_zero, List.set_cons_succ]
                          refine wpAnyH_take (i := 5) (oi := ?p5c) (v := ?v5c) ?o5c (by kernel_rfl) (by kernel_rfl) (by kernel_rfl) ?q5c ?y5c hHeld ?r5c
                          case o5c => simp only [List.getElem?_toArray, List.getElem?_cons_succ, List.getElem?_cons_zero]; rfl
                          case q5c => exact fun _ _ _ h => h
                          case y5c => (refine Or.inl ⟨rfl, ?_⟩; intro wq hq; obtain ⟨z0, z1, x0, x2, x3⟩ := hq; go_simp; try with_reducible rfl)
                          simp only [Act.put, List.setIfInBounds_toArray, List.set_cons_zero, List.set_cons_succ]
                          refine wpAnyH_take (i := 6) (oi := ?p6c) (v := ?v6c) ?o6c (by kernel_rfl) (by kernel_rfl) (by kernel_rfl) ?q6c ?y6c hHeld ?r6c
                          case o6c => simp only [List.getElem?_toArray, List.getElem?_cons_succ, List.getElem?_cons_zero]; rfl
                          case q6c => exact fun _ _ _ h => h
                          case y6c => (refine Or.inl ⟨rfl, ?_⟩; intro wq hq; obtain ⟨z0, z1, x0, x2, x3⟩ := hq; go_simp; try with_reducible rfl)
                          simp only [Act.put, List.setIfInBounds_toArray, List.set_cons_zero, List.set_cons_succ]
                          refine wpAnyH_take (i := 7) (oi := ?p7c) (v := ?v7c) ?o7c (by kernel_rfl) (by kernel_rfl) (by kernel_rfl) ?q7c ?y7c hHeld ?r7c
                          case o7c => simp only [List.getElem?_toArray, List.getElem?_cons_succ, List.getElem?_cons_zero]; rfl
                          case q7c => exact fun _ _ _ h => h
                          case y7c => (refine Or.inl ⟨rfl, ?_⟩; intro wq hq; obtain ⟨z0, z1, x0, x2, x3⟩ := hq; go_simp; try with_reducible rfl)
                          simp only [Act.put, List.setIfInBounds_toArray, List.set_cons_zero, List.set_cons_succ]
                          refine wpAnyH_take (i := 8) (oi := ?p8c) (v := ?v8c) ?o8c (by kernel_rfl) (by kernel_rfl) (by kernel_rfl) ?q8c ?y8c hHeld ?r8c
                          case o8c => simp only [List.getElem?_toArray, List.getElem?_cons_succ, List.getElem?_cons_zero]; rfl
                          case q8c => exact fun _ _ _ h => h
                          case y8c => (refine Or.inl ⟨rfl, ?_⟩; intro wq hq; obtain ⟨z0, z1, x0, x2, x3⟩ := hq; go_simp; try with_reducible rfl)
                          simp only [Act.put, List.setIfInBounds_toArray, List.set_cons_zero, List.set_cons_succ]
                          refine wpAnyH_take (i := 9) (oi := ?p9c) (v := ?v9c) ?o9c (by kernel_rfl) (by kernel_rfl) (by kernel_rfl) ?q9c ?y9c hHeld ?r9c
                          case o9c => simp only [List.getElem?_toArray, List.getElem?_cons_succ, List.getElem?_cons_zero]; rfl
                          case q9c => exact fun _ _ _ h => h
                          case y9c => (refine Or.inl ⟨rfl, ?_⟩; intro wq hq; obtain ⟨z0, z1, x0, x2, x3⟩ := hq; go_simp; try with_reducible rfl)
                          simp only [Act.put, List.setIfInBounds_toArray, List.set_cons_zero, List.set_cons_succ]
                          refine wpAnyH_take (i := 10) (oi := ?p10c) (v := ?v10c) ?o10c (by kernel_rfl) (by kernel_rfl) (by kernel_rfl) ?q10c ?y10c hHeld ?r10c
                          case o10c => simp only [List.getElem?_toArray, List.getElem?_cons_succ, List.getElem?_cons_zero]; rfl
                          case q10c => exact fun _ _ _ h => h
                          case y10c => (refine Or.inl ⟨rfl, ?_⟩; intro wq hq; obtain ⟨z0, z1, x0, x2, x3⟩ := hq; go_simp; try with_reducible rfl)
                          simp only [Act.put, List.setIfInBounds_toArray, List.set_cons_zero, List.set_cons_succ]
                          refine wpAnyH_take (i := 11) (oi := ?p11c) (v := ?v11c) ?o11c (by kernel_rfl) (by kernel_rfl) (by kernel_rfl) ?q11c ?y11c hHeld ?r11c
                          case o11c => simp only [List.getElem?_toArray, List.getElem?_cons_succ, List.getElem?_cons_zero]; rfl
                          case q11c => exact fun _ _ _ h => h
                          case y11c => (refine Or.inl ⟨rfl, ?_⟩; intro wq hq; obtain ⟨z0, z1, x0, x2, x3⟩ := hq; go_simp; try with_reducible rfl)
                          simp only [Act.put, List.setIfInBounds_toArray, List.set_cons_zero, List.set_cons_succ]
                          refine wpAnyH_take (i := 12) (oi := ?p12c) (v := ?v12c) ?o12c (by kernel_rfl) (by kernel_rfl) (by kernel_rfl) ?q12c ?y12c hHeld ?r12c
                          case o12c => simp only [List.getElem?_toArray, List.getElem?_cons_succ, List.getElem?_cons_zero]; rfl
                          case q12c => exact fun _ _ _ h => h
                          case y12c => (refine Or.inl ⟨rfl, ?_⟩; intro wq hq; obtain ⟨z0, z1, x0, x2, x3⟩ := hq; go_simp; try with_reducible rfl)
                          simp only [Act.put, List.setIfInBounds_toArray, List.set_cons_zero, List.set_cons_succ]
                          refine wpAnyH_take (i := 13) (oi := ?p13c) (v := ?v13c) ?o13c (by kernel_rfl) (by kernel_rfl) (by kernel_rfl) ?q13c ?y13c hHeld ?r13c
                          case o13c => simp only [List.getElem?_toArray, List.getElem?_cons_succ, List.getElem?_cons_zero]; rfl
                          case q13c => exact fun _ _ _ h => h
                          case y13c => (refine Or.inl ⟨rfl, ?_⟩; intro wq hq; obtain ⟨z0, z1, x0, x2, x3⟩ := hq; go_simp; try with_reducible rfl)
                          simp only [Act.put, List.setIfInBounds_toArray, List.set_cons_zero, List.set_cons_succ]
                          refine wpAnyH_take (i := 14) (oi := ?p14c) (v := ?v14c) ?o14c (by kernel_rfl) (by kernel_rfl) (by kernel_rfl) ?q14c ?y14c hHeld ?r14c
                          case o14c => simp only [List.getElem?_toArray, List.getElem?_cons_succ, List.getElem?_cons_zero]; rfl
                          case q14c => exact fun _ _ _ h => h
                          case y14c => (refine Or.inl ⟨rfl, ?_⟩; intro wq hq; obtain ⟨z0, z1, x0, x2, x3⟩ := hq; go_simp; try with_reducible rfl)
                          simp only [Act.put, List.setIfInBounds_toArray, List.set_cons_zero, List.set_cons_succ]
                          refine wpAnyH_take (i := 15) (oi := ?p15c) (v := ?v15c) ?o15c (by kernel_rfl) (by kernel_rfl) (by kernel_rfl) ?q15c ?y15c hHeld ?r15c
                          case o15c => simp only [List.getElem?_toArray, List.getElem?_cons_succ, List.getElem?_cons_zero]; rfl
                          case q15c => exact fun _ _ _ h => h
                          case y15c => (refine Or.inl ⟨rfl, ?_⟩; intro wq hq; obtain ⟨z0, z1, x0, x2, x3⟩ := hq; go_simp; try with_reducible rfl)
                          simp only [Act.put, List.setIfInBounds_toArray, List.set_cons_zero, List.set_cons_succ]
                          refine wpAnyH_done (by kernel_rfl) ?_ _
                          go_wp2
                          go_roundw
                          case rel => exact ⟨j3 + 1, by omega, by go_num, Below.drew HB11.out⟩
                          case measure => simp [intOf]; omega
                        · have hk1' : (k == 1) = false := by simpa using hk1
                          go_wp2_with fail
                          refine wp_region_held_drew (S := fun wq => wq.cell? ⟨g1, j3 * 2, none⟩ = some (.int .i64 a3) ∧ wq.cell? ⟨g1, j3 * 2 + 1, none⟩ = some (.int .i64 c3) ∧ wq.cell? ⟨B, 0, none⟩ = some (.int .i64 k) ∧ wq.cell? ⟨B, 2, none⟩ = some (.int .i64 p) ∧ wq.cell? ⟨B, 3, none⟩ = some (.int .i64 q)) (by kernel_rfl) ⟨z0, z1, x0, x2, x3⟩ (fun hHeld => ?_)
                          refine wpAnyH_take (i := 0) (oi := ?p0d) (v := ?v0d) ?o0d (by kernel_rfl) (by kernel_rfl) (by kernel_rfl) ?q0d ?y0d hHeld ?r0d
                          case o0d => simp only [List.getElem?_toArray, List.getElem?_cons_zero]; rfl
                          case q0d => exact fun _ _ _ h => h
                          case y0d => (refine Or.inl ⟨rfl, ?_⟩; intro wq hq; obtain ⟨z0, z1, x0, x2, x3⟩ := hq; go_simp; try with_reducible rfl)
                          simp only [Act.put, List.setIfInBounds_toArray, List.set_cons_zero, List.set_cons_succ]
                          refine wpAnyH_take (i := 1) (oi := ?p1d) (v := ?v1d) ?o1d (by kernel_rfl) (by kernel_rfl) (by kernel_rfl) ?q1d ?y1d hHeld ?r1d
                          case o1d => simp only [List.getElem?_toArray, List.getElem?_cons_succ, List.getElem?_cons_zero]; rfl
                          case q1d => exact fun _ _ _ h => h
                          case y1d => (refine Or.inl ⟨rfl, ?_⟩; intro wq hq; obtain ⟨z0, z1, x0, x2, x3⟩ := hq; go_simp; try with_reducible rfl)
                          simp only [Act.put, List.setIfInBounds_toArray, List.set_cons_zero, List.set_cons_succ]
                          refine wpAnyH_take (i := 2) (oi := ?p2d) (v := ?v2d) ?o2d (by kernel_rfl) (by kernel_rfl) (by kernel_rfl) ?q2d ?y2d hHeld ?r2d
                          case o2d => simp only [List.getElem?_toArray, List.getElem?_cons_succ, List.getElem?_cons_zero]; rfl
                          case q2d => exact fun _ _ _ h => h
                          case y2d => (refine Or.inl ⟨rfl, ?_⟩; intro wq hq; obtain ⟨z0, z1, x0, x2, x3⟩ := hq; go_simp; try with_reducible rfl)
                          simp only [Act.put, List.setIfInBounds_toArray, List.set_cons_zero, List.set_cons_succ]
                          refine wpAnyH_take (i := 3) (oi := ?p3d) (v := ?v3d) ?o3d (by kernel_rfl) (by kernel_rfl) (by kernel_rfl) ?q3d ?y3d hHeld ?r3d
                          case o3d => simp only [List.getElem?_toArray, List.getElem?_cons_succ, List.getElem?_cons_zero]; rfl
                          case q3d => exact fun _ _ _ h => h
                          case y3d => (refine Or.inl ⟨rfl, ?_⟩; intro wq hq; obtain ⟨z0, z1, x0, x2, x3⟩ := hq; go_simp; try with_reducible rfl)
                          simp only [Act.put, List.setIfInBounds_toArray, List.set_cons_zero, List.set_cons_succ]
                          refine wpAnyH_take (i := 4) (oi := ?p4d) (v := ?v4d) ?o4d (by kernel_rfl) (by kernel_rfl) (by kernel_rfl) ?q4d ?y4d hHeld ?r4d
                          case o4d => simp only [List.getElem?_toArray, List.getElem?_cons_succ, List.getElem?_cons_zero]; rfl
                          case q4d => exact fun _ _ _ h => h
                          case y4d => (refine Or.inl ⟨rfl, ?_⟩; intro wq hq; obtain ⟨z0, z1, x0, x2, x3⟩ := hq; go_simp; try with_reducible rfl)
                          simp only [Act.put, List.setIfInBounds_toArray, List.set_cons_zero, List.set_cons_succ]
                          refine wpAnyH_take (i := 5) (oi := ?p5d) (v := ?v5d) ?o5d (by kernel_rfl) (by kernel_rfl) (by kernel_rfl) ?q5d ?y5d hHeld ?r5d
                          case o5d => simp only [List.getElem?_toArray, List.getElem?_cons_succ, List.getElem?_cons_zero]; rfl
                          case q5d => exact fun _ _ _ h => h
                          case y5d => (refine Or.inl ⟨rfl, ?_⟩; intro wq hq; obtain ⟨z0, z1, x0, x2, x3⟩ := hq; go_simp; try with_reducible rfl)
                          simp only [Act.put, List.setIfInBounds_toArray, List.set_cons_zero, List.set_cons_succ]
                          refine wpAnyH_take (i := 6) (oi := ?p6d) (v := ?v6d) ?o6d (by kernel_rfl) (by kernel_rfl) (by kernel_rfl) ?q6d ?y6d hHeld ?r6d
                          case o6d => simp only [List.getElem?_toArray, List.getElem?_cons_succ, List.getElem?_cons_zero]; rfl
                          case q6d => exact fun _ _ _ h => h
                          case y6d => (refine Or.inl ⟨rfl, ?_⟩; intro wq hq; obtain ⟨z0, z1, x0, x2, x3⟩ := hq; go_simp; try with_reducible rfl)
                          simp only [Act.put, List.setIfInBounds_toArray, List.set_cons_zero, List.set_cons_succ]
                          refine wpAnyH_take (i := 7) (oi := ?p7d) (v := ?v7d) ?o7d (by kernel_rfl) (by kernel_rfl) (by kernel_rfl) ?q7d ?y7d hHeld ?r7d
                          case o7d => simp only [List.getElem?_toArray, List.getElem?_cons_succ, List.getElem?_cons_zero]; rfl
                          case q7d => exact fun _ _ _ h => h
                          case y7d => (refine Or.inl ⟨rfl, ?_⟩; intro wq hq; obtain ⟨z0, z1, x0, x2, x3⟩ := hq; go_simp; try with_reducible rfl)
                          simp only [Act.put, List.setIfInBounds_toArray, List.set_cons_zero, List.set_cons_succ]
                          refine wpAnyH_take (i := 8) (oi := ?p8d) (v := ?v8d) ?o8d (by kernel_rfl) (by kernel_rfl) (by kernel_rfl) ?q8d ?y8d hHeld ?r8d
                          case o8d => simp only [List.getElem?_toArray, List.getElem?_cons_succ, List.getElem?_cons_zero]; rfl
                          case q8d => exact fun _ _ _ h => h
                          case y8d => (refine Or.inl ⟨rfl, ?_⟩; intro wq hq; obtain ⟨z0, z1, x0, x2, x3⟩ := hq; go_simp; try with_reducible rfl)
                          simp only [Act.put, List.setIfInBounds_toArray, List.set_cons_zero, List.set_cons_succ]
                          refine wpAnyH_take (i := 9) (oi := ?p9d) (v := ?v9d) ?o9d (by kernel_rfl) (by kernel_rfl) (by kernel_rfl) ?q9d ?y9d hHeld ?r9d
                          case o9d => simp only [List.getElem?_toArray, List.getElem?_cons_succ, List.getElem?_cons_zero]; rfl
                          case q9d => exact fun _ _ _ h => h
                          case y9d => (refine Or.inl ⟨rfl, ?_⟩; intro wq hq; obtain ⟨z0, z1, x0, x2, x3⟩ := hq; go_simp; try with_reducible rfl)
                          simp only [Act.put, List.setIfInBounds_toArray, List.set_cons_zero, List.set_cons_succ]
                          refine wpAnyH_take (i := 10) (oi := ?p10d) (v := ?v10d) ?o10d (by kernel_rfl) (by kernel_rfl) (by kernel_rfl) ?q10d ?y10d hHeld ?r10d
                          case o10d => simp only [List.getElem?_toArray, List.getElem?_cons_succ, List.getElem?_cons_zero]; rfl
                          case q10d => exact fun _ _ _ h => h
                          case y10d => (refine Or.inl ⟨rfl, ?_⟩; intro wq hq; obtain ⟨z0, z1, x0, x2, x3⟩ := hq; go_simp; try with_reducible rfl)
                          simp only [Act.put, List.setIfInBounds_toArray, List.set_cons_zero, List.set_cons_succ]
                          refine wpAnyH_take (i := 11) (oi := ?p11d) (v := ?v11d) ?o11d (by kernel_rfl) (by kernel_rfl) (by kernel_rfl) ?q11d ?y11d hHeld ?r11d
                          case o11d => simp only [List.getElem?_toArray, List.getElem?_cons_succ, List.getElem?_cons_zero]; rfl
                          case q11d => exact fun _ _ _ h => h
                          case y11d => (refine Or.inl ⟨rfl, ?_⟩; intro wq hq; obtain ⟨z0, z1, x0, x2, x3⟩ := hq; go_simp; try with_reducible rfl)
                          simp only [Act.put, List.setIfInBounds_toArray, List.set_cons_zero, List.set_cons_succ]
                          refine wpAnyH_take (i := 12) (oi := ?p12d) (v := ?v12d) ?o12d (by kernel_rfl) (by kernel_rfl) (by kernel_rfl) ?q12d ?y12d hHeld ?r12d
                          case o12d => simp only [List.getElem?_toArray, List.getElem?_cons_succ, List.getElem?_cons_zero]; rfl
                          case q12d => exact fun _ _ _ h => h
                          case y12d => (refine Or.inl ⟨rfl, ?_⟩; intro wq hq; obtain ⟨z0, z1, x0, x2, x3⟩ := hq; go_simp; try with_reducible rfl)
                          simp only [Act.put, List.setIfInBounds_toArray, List.set_cons_zero, List.set_cons_succ]
                          refine wpAnyH_take (i := 13) (oi := ?p13d) (v := undef) ?o13d (by kernel_rfl) (by kernel_rfl) (by kernel_rfl) ?q13d ?y13d hHeld ?r13d
                          case o13d => simp only [List.getElem?_toArray, List.getElem?_cons_succ, List.getElem?_cons_zero]; rfl
                          case q13d => exact fun _ _ _ h => h
                          case y13d => exact Or.inr ⟨rfl, rfl⟩
                          simp only [Act.put, List.setIfInBounds_toArray, List.set_cons_zero, List.set_cons_succ]
                          refine wpAnyH_take (i := 14) (oi := ?p14d) (v := undef) ?o14d (by kernel_rfl) (by kernel_rfl) (by kernel_rfl) ?q14d ?y14d hHeld ?r14d
                          case o14d => simp only [List.getElem?_toArray, List.getElem?_cons_succ, List.getElem?_cons_zero]; rfl
                          case q14d => exact fun _ _ _ h => h
                          case y14d => exact Or.inr ⟨rfl, rfl⟩
                          simp only [Act.put, List.setIfInBounds_toArray, List.set_cons_zero, List.set_cons_succ]
                          refine wpAnyH_take (i := 15) (oi := ?p15d) (v := ?v15d) ?o15d (by kernel_rfl) (by kernel_rfl) (by kernel_rfl) ?q15d ?y15d hHeld ?r15d
                          case o15d => simp only [List.getElem?_toArray, List.getElem?_cons_succ, List.getElem?_cons_zero]; rfl
                          case q15d => exact fun _ _ _ h => h
                          case y15d => (refine Or.inl ⟨rfl, ?_⟩; intro wq hq; obtain ⟨z0, z1, x0, x2, x3⟩ := hq; go_simp; try with_reducible rfl)
                          simp only [Act.put, List.setIfInBounds_toArray, List.set_cons_zero, List.set_cons_succ]
                          refine wpAnyH_done (by kernel_rfl) ?_ _
                          go_wp2
                          go_roundw
                          case rel => exact ⟨j3 + 1, by omega, by go_num, Below.drew HB11.out⟩
                          case measure => simp [intOf]; omega
                  · have HX11 := Hid_of hx3
                    have HD11 := Hid_of hd3
                    clear hx3 hv3 hd3 HX10 HV10 HD10 HG10
                    have cL2 := list_any b2 s2 d L9 false wr HG3.out.f.o
                    go_wp2_with fail
                    refine cL2.mono ?_
                    rintro x w12 ⟨a2, cap2, lv, rfl, hp, hAt, -, hb12⟩
                    have HPN : Hid (∀ x, x ∈ lv ↔ x ∈ pll L9) := fun x => hp.mem_iff
                    have hlv : lv.length ≤ 256 := by rw [hp.length_eq]; exact Nat.le_trans (pll_len L9) HG3.out.f.o.len
                    have HY12 := Hid_of hAt
                    have HX12 := Hid_of (HX11.out.keep hb12)
                    have HD12 := Hid_of (HD11.out.keep hb12)
                    have HG12 := Hid_of (HG3.out.keep hb12)
                    clear cL2 hp hAt hb12 HX11 HD11 HG3 HB3
                    go_wp2
                    go_loopw [22] (fun i wq => ∃ j4 : Nat, j4 ≤ lv.length ∧ i = .int .i64 j4 ∧ Below w12.heap.size w12 wq) (fun i _ => lv.length - (intOf i).toNat)
                    case atStart => exact ⟨0, by omega, rfl, Below.refl _ _⟩
                    case round =>
                      obtain ⟨j4, hj4, rfl, hbel⟩ := hrel
                      have HB4 := Hid_of hbel
                      have HG4 := Hid_of (HG12.out.keep hbel)
                      have hx4 := HX12.out.keep hbel
                      have hy4 := HY12.out.keep hbel
                      have hd4 := HD12.out.keep hbel
                      clear hbel
                      by_cases hlt4 : j4 < lv.length
                      · obtain ⟨g2, rfl, z0, z1⟩ := hy4 j4 hlt4
                        obtain ⟨i4, a4, c4, s4, hyy, hi4, hor⟩ := look4 HG4.out.g HCUT.out ((HPN.out _).1 (List.getElem_mem hlt4))
                        have HYY : Hid (∀ W, Below wr.heap.size wr W → (W.cell? ⟨g2, j4 * 2, none⟩ = some (.int .i64 a4) ∧ W.cell? ⟨g2, j4 * 2 + 1, none⟩ = some (.int .i64 c4)) ∧ DB W B k st p q t keep ∧ AtP W a1 lw) := fun W hW => by
                          have hW' := HB4.out.trans (hW.mono HB4.out.size)
                          obtain ⟨g', e', u0, u1⟩ := HY12.out.keep hW' j4 hlt4
                          cases e'
                          rw [hyy] at u0 u1
                          exact ⟨⟨u0, u1⟩, HD12.out.keep hW', HX12.out.keep hW'⟩
                        rw [hyy] at z0 z1 hor
                        simp only at z0 z1
                        have HI4 := Hid_of hi4
                        have hor2 : (((a4 : Int), (c4 : Int)) ∈ lw) ∨ (k ≠ 1 ∧ ((a4 : Int), (c4 : Int)) = (p, q) ∧ s4 = t) := by
                          rcases hor with h | h
                          · exact .inl ((HPM.out _).2 h)
                          · exact .inr h
                        have HOR := Hid_of hor2
                        obtain ⟨x0, x1, x2, x3, x4, x5⟩ := hd4.c
                        have heq := eq24 a4 c4 p q
                        obtain ⟨E0, hE0⟩ : ∃ E0 : Bool, E0 = (bif (decide ((a4 : Int) = p) && decide ((c4 : Int) = q)) then (k != 1) else false) := ⟨_, rfl⟩
                        have HE0 := Hid_of hE0
                        clear hx4 hy4 hd4 hyy hi4 hor hor2 hE0
                        go_upto_region 36 with fail
                        go_cut [23] from 171 to 188 (fun v wx => v = .bool E0 ∧ wx = wr.drew)
                        case first =>
                          cases he : (decide ((a4 : Int) = p) && decide ((c4 : Int) = q)) with
                          | false =>
                            rw [he] at heq HE0
                            have HE1 : Hid (E0 = false) := HE0.out
                            clear he HE0
                            refine wp_region_held_drew (S := fun wq => wq.cell? ⟨g2, j4 * 2, none⟩ = some (.int .i64 a4) ∧ wq.cell? ⟨g2, j4 * 2 + 1, none⟩ = some (.int .i64 c4) ∧ wq.cell? ⟨B, 0, none⟩ = some (.int .i64 k) ∧ wq.cell? ⟨B, 2, none⟩ = some (.int .i64 p) ∧ wq.cell? ⟨B, 3, none⟩ = some (.int .i64 q)) (by kernel_rfl) ⟨z0, z1, x0, x2, x3⟩ (fun hHeld => ?_)
                            refine wpAnyH_take (i := 0) (oi := ?p0e) (v := ?v0e) ?o0e (by kernel_rfl) (by kernel_rfl) (by kernel_rfl) ?q0e ?y0e hHeld ?r0e
                            case o0e => simp only [List.getElem?_toArray, List.getElem?_cons_zero]; rfl
                            case q0e => exact fun _ _ _ h => h
                            case y0e => (refine Or.inl ⟨rfl, ?_⟩; intro wq hq; obtain ⟨z0, z1, x0, x2, x3⟩ := hq; go_simp; try with_reducible rfl)
                            simp only [Act.put, List.setIfInBounds_toArray, List.set_cons_zero, List.set_cons_succ]
                            refine wpAnyH_take (i := 1) (oi := ?p1e) (v := ?v1e) ?o1e (by kernel_rfl) (by kernel_rfl) (by kernel_rfl) ?q1e ?y1e hHeld ?r1e
                            case o1e => simp only [List.getElem?_toArray, List.getElem?_cons_succ, List.getElem?_cons_zero]; rfl
                            case q1e => exact fun _ _ _ h => h
                            case y1e => (refine Or.inl ⟨rfl, ?_⟩; intro wq hq; obtain ⟨z0, z1, x0, x2, x3⟩ := hq; go_simp; try with_reducible rfl)
                            simp only [Act.put, List.setIfInBounds_toArray, List.set_cons_zero, List.set_cons_succ]
                            refine wpAnyH_take (i := 2) (oi := ?p2e) (v := ?v2e) ?o2e (by kernel_rfl) (by kernel_rfl) (by kernel_rfl) ?q2e ?y2e hHeld ?r2e
                            case o2e => simp only [List.getElem?_toArray, List.getElem?_cons_succ, List.getElem?_cons_zero]; rfl
                            case q2e => exact fun _ _ _ h => h
                            case y2e => (refine Or.inl ⟨rfl, ?_⟩; intro wq hq; obtain ⟨z0, z1, x0, x2, x3⟩ := hq; go_simp; try with_reducible rfl)
                            simp only [Act.put, List.setIfInBounds_toArray, List.set_cons_zero, List.set_cons_succ]
                            refine wpAnyH_take (i := 3) (oi := ?p3e) (v := ?v3e) ?o3e (by kernel_rfl) (by kernel_rfl) (by kernel_rfl) ?q3e ?y3e hHeld ?r3e
                            case o3e => simp only [List.getElem?_toArray, List.getElem?_cons_succ, List.getElem?_cons_zero]; rfl
                            case q3e => exact fun _ _ _ h => h
                            case y3e => (refine Or.inl ⟨rfl, ?_⟩; intro wq hq; obtain ⟨z0, z1, x0, x2, x3⟩ := hq; go_simp; try with_reducible rfl)
                            simp only [Act.put, List.setIfInBounds_toArray, List.set_cons_zero, List.set_cons_succ]
                            refine wpAnyH_take (i := 4) (oi := ?p4e) (v := ?v4e) ?o4e (by kernel_rfl) (by kernel_rfl) (by kernel_rfl) ?q4e ?y4e hHeld ?r4e
                            case o4e => simp only [List.getElem?_toArray, List.getElem?_cons_succ, List.getElem?_cons_zero]; rfl
                            case q4e => exact fun _ _ _ h => h
                            case y4e => (refine Or.inl ⟨rfl, ?_⟩; intro wq hq; obtain ⟨z0, z1, x0, x2, x3⟩ := hq; go_simp; try with_reducible rfl)
                            simp only [Act.put, List.setIfInBounds_toArray, List.set_cons_zero, List.set_cons_succ]
                            refine wpAnyH_take (i := 5) (oi := ?p5e) (v := ?v5e) ?o5e (by kernel_rfl) (by kernel_rfl) (by kernel_rfl) ?q5e ?y5e hHeld ?r5e
                            case o5e => simp only [List.getElem?_toArray, List.getElem?_cons_succ, List.getElem?_cons_zero]; rfl
                            case q5e => exact fun _ _ _ h => h
                            case y5e => (refine Or.inl ⟨rfl, ?_⟩; intro wq hq; obtain ⟨z0, z1, x0, x2, x3⟩ := hq; go_simp; try with_reducible rfl)
                            simp only [Act.put, List.setIfInBounds_toArray, List.set_cons_zero, List.set_cons_succ]
                            refine wpAnyH_take (i := 6) (oi := ?p6e) (v := ?v6e) ?o6e (by kernel_rfl) (by kernel_rfl) (by kernel_rfl) ?q6e ?y6e hHeld ?r6e
                            case o6e => simp only [List.getElem?_toArray, List.getElem?_cons_succ, List.getElem?_cons_zero]; rfl
                            case q6e => exact fun _ _ _ h => h
                            case y6e => (refine Or.inl ⟨rfl, ?_⟩; intro wq hq; obtain ⟨z0, z1, x0, x2, x3⟩ := hq; go_simp; try with_reducible rfl)
                            simp only [Act.put, List.setIfInBounds_toArray, List.set_cons_zero, List.set_cons_succ]
                            refine wpAnyH_take (i := 7) (oi := ?p7e) (v := ?v7e) ?o7e (by kernel_rfl) (by kernel_rfl) (by kernel_rfl) ?q7e ?y7e hHeld ?r7e
                            case o7e => simp only [List.getElem?_toArray, List.getElem?_cons_succ, List.getElem?_cons_zero]; rfl
                            case q7e => exact fun _ _ _ h => h
                            case y7e => (refine Or.inl ⟨rfl, ?_⟩; intro wq hq; obtain ⟨z0, z1, x0, x2, x3⟩ := hq; go_simp; try with_reducible rfl)
                            simp only [Act.put, List.setIfInBounds_toArray, List.set_cons_zero, List.set_cons_succ]
                            refine wpAnyH_take (i := 8) (oi := ?p8e) (v := undef) ?o8e (by kernel_rfl) (by kernel_rfl) (by kernel_rfl) ?q8e ?y8e hHeld ?r8e
                            case o8e => simp only [List.getElem?_toArray, List.getElem?_cons_succ, List.getElem?_cons_zero]; rfl
                            case q8e => exact fun _ _ _ h => h
                            case y8e => exact Or.inr ⟨rfl, rfl⟩
                            simp only [Act.put, List.setIfInBounds_toArray, List.set_cons_zero, List.set_cons_succ]
                            refine wpAnyH_take (i := 9) (oi := ?p9e) (v := undef) ?o9e (by kernel_rfl) (by kernel_rfl) (by kernel_rfl) ?q9e ?y9e hHeld ?r9e
                            case o9e => simp only [List.getElem?_toArray, List.getElem?_cons_succ, List.getElem?_cons_zero]; rfl
                            case q9e => exact fun _ _ _ h => h
                            case y9e => exact Or.inr ⟨rfl, rfl⟩
                            simp only [Act.put, List.setIfInBounds_toArray, List.set_cons_zero, List.set_cons_succ]
                            refine wpAnyH_take (i := 10) (oi := ?p10e) (v := undef) ?o10e (by kernel_rfl) (by kernel_rfl) (by kernel_rfl) ?q10e ?y10e hHeld ?r10e
                            case o10e => simp only [List.getElem?_toArray, List.getElem?_cons_succ, List.getElem?_cons_zero]; rfl
                            case q10e => exact fun _ _ _ h => h
                            case y10e => exact Or.inr ⟨rfl, rfl⟩
                            simp only [Act.put, List.setIfInBounds_toArray, List.set_cons_zero, List.set_cons_succ]
                            refine wpAnyH_take (i := 11) (oi := ?p11e) (v := ?v11e) ?o11e (by kernel_rfl) (by kernel_rfl) (by kernel_rfl) ?q11e ?y11e hHeld ?r11e
                            case o11e => simp only [List.getElem?_toArray, List.getElem?_cons_succ, List.getElem?_cons_zero]; rfl
                            case q11e => exact fun _ _ _ h => h
                            case y11e => (refine Or.inl ⟨rfl, ?_⟩; intro wq hq; obtain ⟨z0, z1, x0, x2, x3⟩ := hq; go_simp; try with_reducible rfl)
                            simp only [Act.put, List.setIfInBounds_toArray, List.set_cons_zero, List.set_cons_succ]
                            refine wpAnyH_take (i := 12) (oi := ?p12e) (v := ?v12e) ?o12e (by kernel_rfl) (by kernel_rfl) (by kernel_rfl) ?q12e ?y12e hHeld ?r12e
                            case o12e => simp only [List.getElem?_toArray, List.getElem?_cons_succ, List.getElem?_cons_zero]; rfl
                            case q12e => exact fun _ _ _ h => h
                            case y12e => (refine Or.inl ⟨rfl, ?_⟩; intro wq hq; obtain ⟨z0, z1, x0, x2, x3⟩ := hq; go_simp; try with_reducible rfl)
                            simp only [Act.put, List.setIfInBounds_toArray, List.set_cons_zero, List.set_cons_succ]
                            refine wpAnyH_done (by kernel_rfl) ?_ _
                            go_wp2
                            go_meet
                            case rel => exact ⟨by rw [HE1.out], rfl⟩
                          | true =>
                            rw [he] at heq HE0
                            have HE1 : Hid (E0 = (k != 1)) := HE0.out
                            clear he HE0
                            refine wp_region_held_drew (S := fun wq => wq.cell? ⟨g2, j4 * 2, none⟩ = some (.int .i64 a4) ∧ wq.cell? ⟨g2, j4 * 2 + 1, none⟩ = some (.int .i64 c4) ∧ wq.cell? ⟨B, 0, none⟩ = some (.int .i64 k) ∧ wq.cell? ⟨B, 2, none⟩ = some (.int .i64 p) ∧ wq.cell? ⟨B, 3, none⟩ = some (.int .i64 q)) (by kernel_rfl) ⟨z0, z1, x0, x2, x3⟩ (fun hHeld => ?_)
                            refine wpAnyH_take (i := 0) (oi := ?p0f) (v := ?v0f) ?o0f (by kernel_rfl) (by kernel_rfl) (by kernel_rfl) ?q0f ?y0f hHeld ?r0f
                            case o0f => simp only [List.getElem?_toArray, List.getElem?_cons_zero]; rfl
                            case q0f => exact fun _ _ _ h => h
                            case y0f => (refine Or.inl ⟨rfl, ?_⟩; intro wq hq; obtain ⟨z0, z1, x0, x2, x3⟩ := hq; go_simp; try with_reducible rfl)
                            simp only [Act.put, List.setIfInBounds_toArray, List.set_cons_zero, List.set_cons_succ]
                            refine wpAnyH_take (i := 1) (oi := ?p1f) (v := ?v1f) ?o1f (by kernel_rfl) (by kernel_rfl) (by kernel_rfl) ?q1f ?y1f hHeld ?r1f
                            case o1f => simp only [List.getElem?_toArray, List.getElem?_cons_succ, List.getElem?_cons_zero]; rfl
                            case q1f => exact fun _ _ _ h => h
                            case y1f => (refine Or.inl ⟨rfl, ?_⟩; intro wq hq; obtain ⟨z0, z1, x0, x2, x3⟩ := hq; go_simp; try with_reducible rfl)
                            simp only [Act.put, List.setIfInBounds_toArray, List.set_cons_zero, List.set_cons_succ]
                            refine wpAnyH_take (i := 2) (oi := ?p2f) (v := ?v2f) ?o2f (by kernel_rfl) (by kernel_rfl) (by kernel_rfl) ?q2f ?y2f hHeld ?r2f
                            case o2f => simp only [List.getElem?_toArray, List.getElem?_cons_succ, List.getElem?_cons_zero]; rfl
                            case q2f => exact fun _ _ _ h => h
                            case y2f => (refine Or.inl ⟨rfl, ?_⟩; intro wq hq; obtain ⟨z0, z1, x0, x2, x3⟩ := hq; go_simp; try with_reducible rfl)
                            simp only [Act.put, List.setIfInBounds_toArray, List.set_cons_zero, List.set_cons_succ]
                            refine wpAnyH_take (i := 3) (oi := ?p3f) (v := ?v3f) ?o3f (by kernel_rfl) (by kernel_rfl) (by kernel_rfl) ?q3f ?y3f hHeld ?r3f
                            case o3f => simp only [List.getElem?_toArray, List.getElem?_cons_succ, List.getElem?_cons_zero]; rfl
                            case q3f => exact fun _ _ _ h => h
                            case y3f => (refine Or.inl ⟨rfl, ?_⟩; intro wq hq; obtain ⟨z0, z1, x0, x2, x3⟩ := hq; go_simp; try with_reducible rfl)
                            simp only [Act.put, List.setIfInBounds_toArray, List.set_cons_zero, List.set_cons_succ]
                            refine wpAnyH_take (i := 4) (oi := ?p4f) (v := ?v4f) ?o4f (by kernel_rfl) (by kernel_rfl) (by kernel_rfl) ?q4f ?y4f hHeld ?r4f
                            case o4f => simp only [List.getElem?_toArray, List.getElem?_cons_succ, List.getElem?_cons_zero]; rfl
                            case q4f => exact fun _ _ _ h => h
                            case y4f => (refine Or.inl ⟨rfl, ?_⟩; intro wq hq; obtain ⟨z0, z1, x0, x2, x3⟩ := hq; go_simp; try with_reducible rfl)
                            simp only [Act.put, List.setIfInBounds_toArray, List.set_cons_zero, List.set_cons_succ]
                            refine wpAnyH_take (i := 5) (oi := ?p5f) (v := ?v5f) ?o5f (by kernel_rfl) (by kernel_rfl) (by kernel_rfl) ?q5f ?y5f hHeld ?r5f
                            case o5f => simp only [List.getElem?_toArray, List.getElem?_cons_succ, List.getElem?_cons_zero]; rfl
                            case q5f => exact fun _ _ _ h => h
                            case y5f => (refine Or.inl ⟨rfl, ?_⟩; intro wq hq; obtain ⟨z0, z1, x0, x2, x3⟩ := hq; go_simp; try with_reducible rfl)
                            simp only [Act.put, List.setIfInBounds_toArray, List.set_cons_zero, List.set_cons_succ]
                            refine wpAnyH_take (i := 6) (oi := ?p6f) (v := ?v6f) ?o6f (by kernel_rfl) (by kernel_rfl) (by kernel_rfl) ?q6f ?y6f hHeld ?r6f
                            case o6f => simp only [List.getElem?_toArray, List.getElem?_cons_succ, List.getElem?_cons_zero]; rfl
                            case q6f => exact fun _ _ _ h => h
                            case y6f => (refine Or.inl ⟨rfl, ?_⟩; intro wq hq; obtain ⟨z0, z1, x0, x2, x3⟩ := hq; go_simp; try with_reducible rfl)
                            simp only [Act.put, List.setIfInBounds_toArray, List.set_cons_zero, List.set_cons_succ]
                            refine wpAnyH_take (i := 7) (oi := ?p7f) (v := ?v7f) ?o7f (by kernel_rfl) (by kernel_rfl) (by kernel_rfl) ?q7f ?y7f hHeld ?r7f
                            case o7f => simp only [List.getElem?_toArray, List.getElem?_cons_succ, List.getElem?_cons_zero]; rfl
                            case q7f => exact fun _ _ _ h => h
                            case y7f => (refine Or.inl ⟨rfl, ?_⟩; intro wq hq; obtain ⟨z0, z1, x0, x2, x3⟩ := hq; go_simp; try with_reducible rfl)
                            simp only [Act.put, List.setIfInBounds_toArray, List.set_cons_zero, List.set_cons_succ]
                            refine wpAnyH_take (i := 8) (oi := ?p8f) (v := ?v8f) ?o8f (by kernel_rfl) (by kernel_rfl) (by kernel_rfl) ?q8f ?y8f hHeld ?r8f
                            case o8f => simp only [List.getElem?_toArray, List.getElem?_cons_succ, List.getElem?_cons_zero]; rfl
                            case q8f => exact fun _ _ _ h => h
                            case y8f => (refine Or.inl ⟨rfl, ?_⟩; intro wq hq; obtain ⟨z0, z1, x0, x2, x3⟩ := hq; go_simp; try with_reducible rfl)
                            simp only [Act.put, List.setIfInBounds_toArray, List.set_cons_zero, List.set_cons_succ]
                            refine wpAnyH_take (i := 9) (oi := ?p9f) (v := ?v9f) ?o9f (by kernel_rfl) (by kernel_rfl) (by kernel_rfl) ?q9f ?y9f hHeld ?r9f
                            case o9f => simp only [List.getElem?_toArray, List.getElem?_cons_succ, List.getElem?_cons_zero]; rfl
                            case q9f => exact fun _ _ _ h => h
                            case y9f => (refine Or.inl ⟨rfl, ?_⟩; intro wq hq; obtain ⟨z0, z1, x0, x2, x3⟩ := hq; go_simp; try with_reducible rfl)
                            simp only [Act.put, List.setIfInBounds_toArray, List.set_cons_zero, List.set_cons_succ]
                            refine wpAnyH_take (i := 10) (oi := ?p10f) (v := ?v10f) ?o10f (by kernel_rfl) (by kernel_rfl) (by kernel_rfl) ?q10f ?y10f hHeld ?r10f
                            case o10f => simp only [List.getElem?_toArray, List.getElem?_cons_succ, List.getElem?_cons_zero]; rfl
                            case q10f => exact fun _ _ _ h => h
                            case y10f => (refine Or.inl ⟨rfl, ?_⟩; intro wq hq; obtain ⟨z0, z1, x0, x2, x3⟩ := hq; go_simp; try with_reducible rfl)
                            simp only [Act.put, List.setIfInBounds_toArray, List.set_cons_zero, List.set_cons_succ]
                            refine wpAnyH_take (i := 11) (oi := ?p11f) (v := ?v11f) ?o11f (by kernel_rfl) (by kernel_rfl) (by kernel_rfl) ?q11f ?y11f hHeld ?r11f
                            case o11f => simp only [List.getElem?_toArray, List.getElem?_cons_succ, List.getElem?_cons_zero]; rfl
                            case q11f => exact fun _ _ _ h => h
                            case y11f => (refine Or.inl ⟨rfl, ?_⟩; intro wq hq; obtain ⟨z0, z1, x0, x2, x3⟩ := hq; go_simp; try with_reducible rfl)
                            simp only [Act.put, List.setIfInBounds_toArray, List.set_cons_zero, List.set_cons_succ]
                            refine wpAnyH_take (i := 12) (oi := ?p12f) (v := ?v12f) ?o12f (by kernel_rfl) (by kernel_rfl) (by kernel_rfl) ?q12f ?y12f hHeld ?r12f
                            case o12f => simp only [List.getElem?_toArray, List.getElem?_cons_succ, List.getElem?_cons_zero]; rfl
                            case q12f => exact fun _ _ _ h => h
                            case y12f => (refine Or.inl ⟨rfl, ?_⟩; intro wq hq; obtain ⟨z0, z1, x0, x2, x3⟩ := hq; go_simp; try with_reducible rfl)
                            simp only [Act.put, List.setIfInBounds_toArray, List.set_cons_zero, List.set_cons_succ]
                            refine wpAnyH_done (by kernel_rfl) ?_ _
                            go_wp2
                            go_meet
                            case rel => exact ⟨by rw [HE1.out], rfl⟩
                        case rest =>
                          obtain ⟨rfl, rfl⟩ := hcut
                          clear heq z0 z1 x0 x1 x2 x3 x4 x5
                          go_wp2
                          go_loopw [23, 24] (fun v i wq => ∃ (j5 : Nat) (v5 : Bool), j5 ≤ lw.length ∧ v = .bool v5 ∧ i = .int .i64 j5 ∧ Hid (v5 = (E0 || tb lw ((a4 : Int), (c4 : Int)) j5)) ∧ Below wr.heap.size wr wq) (fun _ i _ => lw.length - (intOf i).toNat)
                          case atStart => exact ⟨0, E0, by omega, rfl, rfl, Hid_of (show E0 = (E0 || tb lw ((a4 : Int), (c4 : Int)) 0) by rw [tb_zero, Bool.or_false]), Below.drew (Below.refl _ _)⟩
                          case round =>
                            obtain ⟨j5, v5, hj5, rfl, rfl, HV5, hb5⟩ := hrel
                            obtain ⟨⟨z0, z1⟩, hd5, hx5⟩ := HYY.out _ hb5
                            have HB5 := Hid_of hb5
                            clear hb5
                            by_cases hlt5 : j5 < lw.length
                            · obtain ⟨g1, rfl, q0, q1⟩ := hx5 j5 hlt5
                              have HTB : Hid ((E0 || tb lw ((a4 : Int), (c4 : Int)) (j5 + 1)) = (v5 || (decide (lw[j5].1 = (a4 : Int)) && decide (lw[j5].2 = (c4 : Int))))) := by rw [tb_step lw _ j5 hlt5, ← Bool.or_assoc, ← HV5.out]; rfl
                              have heq := eq24 lw[j5].1 lw[j5].2 a4 c4
                              generalize (decide (lw[j5].1 = (a4 : Int)) && decide (lw[j5].2 = (c4 : Int))) = ev at *
                              generalize lw[j5].1 = xx at *
                              generalize lw[j5].2 = yy at *
                              clear hd5 hx5 HV5
                              cases v5 with
                              | true =>
                                have HT2 : Hid (true = (E0 || tb lw ((a4 : Int), (c4 : Int)) (j5 + 1))) := by rw [HTB.out]; rfl
                                clear HTB
                                go_wp2_with fail
                                refine wp_region_held_drew (S := fun wq => wq.cell? ⟨g1, j5 * 2, none⟩ = some (.int .i64 xx) ∧ wq.cell? ⟨g1, j5 * 2 + 1, none⟩ = some (.int .i64 yy) ∧ wq.cell? ⟨g2, j4 * 2, none⟩ = some (.int .i64 a4) ∧ wq.cell? ⟨g2, j4 * 2 + 1, none⟩ = some (.int .i64 c4)) (by kernel_rfl) ⟨q0, q1, z0, z1⟩ (fun hHeld => ?_)
                                refine wpAnyH_take (i := 0) (oi := ?p0g) (v := ?v0g) ?o0g (by kernel_rfl) (by kernel_rfl) (by kernel_rfl) ?q0g ?y0g hHeld ?r0g
                                case o0g => simp only [List.getElem?_toArray, List.getElem?_cons_zero]; rfl
                                case q0g => exact fun _ _ _ h => h
                                case y0g => (refine Or.inl ⟨rfl, ?_⟩; intro wq hq; obtain ⟨q0, q1, z0, z1⟩ := hq; go_simp; try with_reducible rfl)
                                simp only [Act.put, List.setIfInBounds_toArray, List.set_cons_zero, List.set_cons_succ]
                                refine wpAnyH_take (i := 1) (oi := ?p1g) (v := ?v1g) ?o1g (by kernel_rfl) (by kernel_rfl) (by kernel_rfl) ?q1g ?y1g hHeld ?r1g
                                case o1g => simp only [List.getElem?_toArray, List.getElem?_cons_succ, List.getElem?_cons_zero]; rfl
                                case q1g => exact fun _ _ _ h => h
                                case y1g => (refine Or.inl ⟨rfl, ?_⟩; intro wq hq; obtain ⟨q0, q1, z0, z1⟩ := hq; go_simp; try with_reducible rfl)
                                simp only [Act.put, List.setIfInBounds_toArray, List.set_cons_zero, List.set_cons_succ]
                                refine wpAnyH_take (i := 2) (oi := ?p2g) (v := undef) ?o2g (by kernel_rfl) (by kernel_rfl) (by kernel_rfl) ?q2g ?y2g hHeld ?r2g
                                case o2g => simp only [List.getElem?_toArray, List.getElem?_cons_succ, List.getElem?_cons_zero]; rfl
                                case q2g => exact fun _ _ _ h => h
                                case y2g => exact Or.inr ⟨rfl, rfl⟩
                                simp only [Act.put, List.setIfInBounds_toArray, List.set_cons_zero, List.set_cons_succ]
                                refine wpAnyH_take (i := 3) (oi := ?p3g) (v := undef) ?o3g (by kernel_rfl) (by kernel_rfl) (by kernel_rfl) ?q3g ?y3g hHeld ?r3g
                                case o3g => simp only [List.getElem?_toArray, List.getElem?_cons_succ, List.getElem?_cons_zero]; rfl
                                case q3g => exact fun _ _ _ h => h
                                case y3g => exact Or.inr ⟨rfl, rfl⟩
                                simp only [Act.put, List.setIfInBounds_toArray, List.set_cons_zero, List.set_cons_succ]
                                refine wpAnyH_take (i := 4) (oi := ?p4g) (v := undef) ?o4g (by kernel_rfl) (by kernel_rfl) (by kernel_rfl) ?q4g ?y4g hHeld ?r4g
                                case o4g => simp only [List.getElem?_toArray, List.getElem?_cons_succ, List.getElem?_cons_zero]; rfl
                                case q4g => exact fun _ _ _ h => h
                                case y4g => exact Or.inr ⟨rfl, rfl⟩
                                simp only [Act.put, List.setIfInBounds_toArray, List.set_cons_zero, List.set_cons_succ]
                                refine wpAnyH_take (i := 5) (oi := ?p5g) (v := undef) ?o5g (by kernel_rfl) (by kernel_rfl) (by kernel_rfl) ?q5g ?y5g hHeld ?r5g
                                case o5g => simp only [List.getElem?_toArray, List.getElem?_cons_succ, List.getElem?_cons_zero]; rfl
                                case q5g => exact fun _ _ _ h => h
                                case y5g => exact Or.inr ⟨rfl, rfl⟩
                                simp only [Act.put, List.setIfInBounds_toArray, List.set_cons_zero, List.set_cons_succ]
                                refine wpAnyH_take (i := 6) (oi := ?p6g) (v := undef) ?o6g (by kernel_rfl) (by kernel_rfl) (by kernel_rfl) ?q6g ?y6g hHeld ?r6g
                                case o6g => simp only [List.getElem?_toArray, List.getElem?_cons_succ, List.getElem?_cons_zero]; rfl
                                case q6g => exact fun _ _ _ h => h
                                case y6g => exact Or.inr ⟨rfl, rfl⟩
                                simp only [Act.put, List.setIfInBounds_toArray, List.set_cons_zero, List.set_cons_succ]
                                refine wpAnyH_take (i := 7) (oi := ?p7g) (v := undef) ?o7g (by kernel_rfl) (by kernel_rfl) (by kernel_rfl) ?q7g ?y7g hHeld ?r7g
                                case o7g => simp only [List.getElem?_toArray, List.getElem?_cons_succ, List.getElem?_cons_zero]; rfl
                                case q7g => exact fun _ _ _ h => h
                                case y7g => exact Or.inr ⟨rfl, rfl⟩
                                simp only [Act.put, List.setIfInBounds_toArray, List.set_cons_zero, List.set_cons_succ]
                                refine wpAnyH_take (i := 8) (oi := ?p8g) (v := undef) ?o8g (by kernel_rfl) (by kernel_rfl) (by kernel_rfl) ?q8g ?y8g hHeld ?r8g
                                case o8g => simp only [List.getElem?_toArray, List.getElem?_cons_succ, List.getElem?_cons_zero]; rfl
                                case q8g => exact fun _ _ _ h => h
                                case y8g => exact Or.inr ⟨rfl, rfl⟩
                                simp only [Act.put, List.setIfInBounds_toArray, List.set_cons_zero, List.set_cons_succ]
                                refine wpAnyH_take (i := 9) (oi := ?p9g) (v := undef) ?o9g (by kernel_rfl) (by kernel_rfl) (by kernel_rfl) ?q9g ?y9g hHeld ?r9g
                                case o9g => simp only [List.getElem?_toArray, List.getElem?_cons_succ, List.getElem?_cons_zero]; rfl
                                case q9g => exact fun _ _ _ h => h
                                case y9g => exact Or.inr ⟨rfl, rfl⟩
                                simp only [Act.put, List.setIfInBounds_toArray, List.set_cons_zero, List.set_cons_succ]
                                refine wpAnyH_take (i := 10) (oi := ?p10g) (v := undef) ?o10g (by kernel_rfl) (by kernel_rfl) (by kernel_rfl) ?q10g ?y10g hHeld ?r10g
                                case o10g => simp only [List.getElem?_toArray, List.getElem?_cons_succ, List.getElem?_cons_zero]; rfl
                                case q10g => exact fun _ _ _ h => h
                                case y10g => exact Or.inr ⟨rfl, rfl⟩
                                simp only [Act.put, List.setIfInBounds_toArray, List.set_cons_zero, List.set_cons_succ]
                                refine wpAnyH_take (i := 11) (oi := ?p11g) (v := ?v11g) ?o11g (by kernel_rfl) (by kernel_rfl) (by kernel_rfl) ?q11g ?y11g hHeld ?r11g
                                case o11g => simp only [List.getElem?_toArray, List.getElem?_cons_succ, List.getElem?_cons_zero]; rfl
                                case q11g => exact fun _ _ _ h => h
                                case y11g => (refine Or.inl ⟨rfl, ?_⟩; intro wq hq; obtain ⟨q0, q1, z0, z1⟩ := hq; go_simp; try with_reducible rfl)
                                simp only [Act.put, List.setIfInBounds_toArray, List.set_cons_zero, List.set_cons_succ]
                                refine wpAnyH_take (i := 12) (oi := ?p12g) (v := ?v12g) ?o12g (by kernel_rfl) (by kernel_rfl) (by kernel_rfl) ?q12g ?y12g hHeld ?r12g
                                case o12g => simp only [List.getElem?_toArray, List.getElem?_cons_succ, List.getElem?_cons_zero]; rfl
                                case q12g => exact fun _ _ _ h => h
                                case y12g => (refine Or.inl ⟨rfl, ?_⟩; intro wq hq; obtain ⟨q0, q1, z0, z1⟩ := hq; go_simp; try with_reducible rfl)
                                simp only [Act.put, List.setIfInBounds_toArray, List.set_cons_zero, List.set_cons_succ]
                                refine wpAnyH_done (by kernel_rfl) ?_ _
                                go_wp2
                                go_roundw
                                case rel => exact ⟨j5 + 1, true, by omega, rfl, by go_num, HT2, Below.drew HB5.out⟩
                                case measure => simp [intOf]; omega
                              | false =>
                                have HT2 : Hid (ev = (E0 || tb lw ((a4 : Int), (c4 : Int)) (j5 + 1))) := by rw [HTB.out]; rfl
                                clear HTB
                                go_wp2_with fail
                                refine wp_region_held_drew (S := fun wq => wq.cell? ⟨g1, j5 * 2, none⟩ = some (.int .i64 xx) ∧ wq.cell? ⟨g1, j5 * 2 + 1, none⟩ = some (.int .i64 yy) ∧ wq.cell? ⟨g2, j4 * 2, none⟩ = some (.int .i64 a4) ∧ wq.cell? ⟨g2, j4 * 2 + 1, none⟩ = some (.int .i64 c4)) (by kernel_rfl) ⟨q0, q1, z0, z1⟩ (fun hHeld => ?_)
                                refine wpAnyH_take (i := 0) (oi := ?p0h) (v := ?v0h) ?o0h (by kernel_rfl) (by kernel_rfl) (by kernel_rfl) ?q0h ?y0h hHeld ?r0h
                                case o0h => simp only [List.getElem?_toArray, List.getElem?_cons_zero]; rfl
                                case q0h => exact fun _ _ _ h => h
                                case y0h => (refine Or.inl ⟨rfl, ?_⟩; intro wq hq; obtain ⟨q0, q1, z0, z1⟩ := hq; go_simp; try with_reducible rfl)
                                simp only [Act.put, List.setIfInBounds_toArray, List.set_cons_zero, List.set_cons_succ]
                                refine wpAnyH_take (i := 1) (oi := ?p1h) (v := ?v1h) ?o1h (by kernel_rfl) (by kernel_rfl) (by kernel_rfl) ?q1h ?y1h hHeld ?r1h
                                case o1h => simp only [List.getElem?_toArray, List.getElem?_cons_succ, List.getElem?_cons_zero]; rfl
                                case q1h => exact fun _ _ _ h => h
                                case y1h => (refine Or.inl ⟨rfl, ?_⟩; intro wq hq; obtain ⟨q0, q1, z0, z1⟩ := hq; go_simp; try with_reducible rfl)
                                simp only [Act.put, List.setIfInBounds_toArray, List.set_cons_zero, List.set_cons_succ]
                                refine wpAnyH_take (i := 2) (oi := ?p2h) (v := ?v2h) ?o2h (by kernel_rfl) (by kernel_rfl) (by kernel_rfl) ?q2h ?y2h hHeld ?r2h
                                case o2h => simp only [List.getElem?_toArray, List.getElem?_cons_succ, List.getElem?_cons_zero]; rfl
                                case q2h => exact fun _ _ _ h => h
                                case y2h => (refine Or.inl ⟨rfl, ?_⟩; intro wq hq; obtain ⟨q0, q1, z0, z1⟩ := hq; go_simp; try with_reducible rfl)
                                simp only [Act.put, List.setIfInBounds_toArray, List.set_cons_zero, List.set_cons_succ]
                                refine wpAnyH_take (i := 3) (oi := ?p3h) (v := ?v3h) ?o3h (by kernel_rfl) (by kernel_rfl) (by kernel_rfl) ?q3h ?y3h hHeld ?r3h
                                case o3h => simp only [List.getElem?_toArray, List.getElem?_cons_succ, List.getElem?_cons_zero]; rfl
                                case q3h => exact fun _ _ _ h => h
                                case y3h => (refine Or.inl ⟨rfl, ?_⟩; intro wq hq; obtain ⟨q0, q1, z0, z1⟩ := hq; go_simp; try with_reducible rfl)
                                simp only [Act.put, List.setIfInBounds_toArray, List.set_cons_zero, List.set_cons_succ]
                                refine wpAnyH_take (i := 4) (oi := ?p4h) (v := ?v4h) ?o4h (by kernel_rfl) (by kernel_rfl) (by kernel_rfl) ?q4h ?y4h hHeld ?r4h
                                case o4h => simp only [List.getElem?_toArray, List.getElem?_cons_succ, List.getElem?_cons_zero]; rfl
                                case q4h => exact fun _ _ _ h => h
                                case y4h => (refine Or.inl ⟨rfl, ?_⟩; intro wq hq; obtain ⟨q0, q1, z0, z1⟩ := hq; go_simp; try with_reducible rfl)
                                simp only [Act.put, List.setIfInBounds_toArray, List.set_cons_zero, List.set_cons_succ]
                                refine wpAnyH_take (i := 5) (oi := ?p5h) (v := ?v5h) ?o5h (by kernel_rfl) (by kernel_rfl) (by kernel_rfl) ?q5h ?y5h hHeld ?r5h
                                case o5h => simp only [List.getElem?_toArray, List.getElem?_cons_succ, List.getElem?_cons_zero]; rfl
                                case q5h => exact fun _ _ _ h => h
                                case y5h => (refine Or.inl ⟨rfl, ?_⟩; intro wq hq; obtain ⟨q0, q1, z0, z1⟩ := hq; go_simp; try with_reducible rfl)
                                simp only [Act.put, List.setIfInBounds_toArray, List.set_cons_zero, List.set_cons_succ]
                                refine wpAnyH_take (i := 6) (oi := ?p6h) (v := ?v6h) ?o6h (by kernel_rfl) (by kernel_rfl) (by kernel_rfl) ?q6h ?y6h hHeld ?r6h
                                case o6h => simp only [List.getElem?_toArray, List.getElem?_cons_succ, List.getElem?_cons_zero]; rfl
                                case q6h => exact fun _ _ _ h => h
                                case y6h => (refine Or.inl ⟨rfl, ?_⟩; intro wq hq; obtain ⟨q0, q1, z0, z1⟩ := hq; go_simp; try with_reducible rfl)
                                simp only [Act.put, List.setIfInBounds_toArray, List.set_cons_zero, List.set_cons_succ]
                                refine wpAnyH_take (i := 7) (oi := ?p7h) (v := ?v7h) ?o7h (by kernel_rfl) (by kernel_rfl) (by kernel_rfl) ?q7h ?y7h hHeld ?r7h
                                case o7h => simp only [List.getElem?_toArray, List.getElem?_cons_succ, List.getElem?_cons_zero]; rfl
                                case q7h => exact fun _ _ _ h => h
                                case y7h => (refine Or.inl ⟨rfl, ?_⟩; intro wq hq; obtain ⟨q0, q1, z0, z1⟩ := hq; go_simp; try with_reducible rfl)
                                simp only [Act.put, List.setIfInBounds_toArray, List.set_cons_zero, List.set_cons_succ]
                                refine wpAnyH_take (i := 8) (oi := ?p8h) (v := ?v8h) ?o8h (by kernel_rfl) (by kernel_rfl) (by kernel_rfl) ?q8h ?y8h hHeld ?r8h
                                case o8h => simp only [List.getElem?_toArray, List.getElem?_cons_succ, List.getElem?_cons_zero]; rfl
                                case q8h => exact fun _ _ _ h => h
                                case y8h => (refine Or.inl ⟨rfl, ?_⟩; intro wq hq; obtain ⟨q0, q1, z0, z1⟩ := hq; go_simp; try with_reducible rfl)
                                simp only [Act.put, List.setIfInBounds_toArray, List.set_cons_zero, List.set_cons_succ]
                                refine wpAnyH_take (i := 9) (oi := ?p9h) (v := ?v9h) ?o9h (by kernel_rfl) (by kernel_rfl) (by kernel_rfl) ?q9h ?y9h hHeld ?r9h
                                case o9h => simp only [List.getElem?_toArray, List.getElem?_cons_succ, List.getElem?_cons_zero]; rfl
                                case q9h => exact fun _ _ _ h => h
                                case y9h => (refine Or.inl ⟨rfl, ?_⟩; intro wq hq; obtain ⟨q0, q1, z0, z1⟩ := hq; go_simp; try with_reducible rfl)
                                simp only [Act.put, List.setIfInBounds_toArray, List.set_cons_zero, List.set_cons_succ]
                                refine wpAnyH_take (i := 10) (oi := ?p10h) (v := ?v10h) ?o10h (by kernel_rfl) (by kernel_rfl) (by kernel_rfl) ?q10h ?y10h hHeld ?r10h
                                case o10h => simp only [List.getElem?_toArray, List.getElem?_cons_succ, List.getElem?_cons_zero]; rfl
                                case q10h => exact fun _ _ _ h => h
                                case y10h => (refine Or.inl ⟨rfl, ?_⟩; intro wq hq; obtain ⟨q0, q1, z0, z1⟩ := hq; go_simp; try with_reducible rfl)
                                simp only [Act.put, List.setIfInBounds_toArray, List.set_cons_zero, List.set_cons_succ]
                                refine wpAnyH_take (i := 11) (oi := ?p11h) (v := ?v11h) ?o11h (by kernel_rfl) (by kernel_rfl) (by kernel_rfl) ?q11h ?y11h hHeld ?r11h
                                case o11h => simp only [List.getElem?_toArray, List.getElem?_cons_succ, List.getElem?_cons_zero]; rfl
                                case q11h => exact fun _ _ _ h => h
                                case y11h => (refine Or.inl ⟨rfl, ?_⟩; intro wq hq; obtain ⟨q0, q1, z0, z1⟩ := hq; go_simp; try with_reducible rfl)
                                simp only [Act.put, List.setIfInBounds_toArray, List.set_cons_zero, List.set_cons_succ]
                                refine wpAnyH_take (i := 12) (oi := ?p12h) (v := ?v12h) ?o12h (by kernel_rfl) (by kernel_rfl) (by kernel_rfl) ?q12h ?y12h hHeld ?r12h
                                case o12h => simp only [List.getElem?_toArray, List.getElem?_cons_succ, List.getElem?_cons_zero]; rfl
                                case q12h => exact fun _ _ _ h => h
                                case y12h => (refine Or.inl ⟨rfl, ?_⟩; intro wq hq; obtain ⟨q0, q1, z0, z1⟩ := hq; go_simp; try with_reducible rfl)
                                simp only [Act.put, List.setIfInBounds_toArray, List.set_cons_zero, List.set_cons_succ]
                                refine wpAnyH_done (by kernel_rfl) ?_ _
                                go_wp2
                                go_roundw
                                case rel => exact ⟨j5 + 1, ev, by omega, rfl, by go_num, HT2, Below.drew HB5.out⟩
                                case measure => simp [intOf]; omega
                            · obtain rfl : j5 = lw.length := by omega
                              rw [tb_all] at HV5
                              have hv6 : v5 = true := by
                                rw [HV5.out]
                                rcases HOR.out with h | ⟨h1, h2, h3⟩
                                · rw [decide_eq_true h, Bool.or_true]
                                · have e1 : E0 = true := by
                                    rw [HE0.out]
                                    simp only [Prod.mk.injEq] at h2
                                    rw [decide_eq_true h2.1, decide_eq_true h2.2]
                                    simpa using h1
                                  rw [e1, Bool.true_or]
                              subst hv6
                              clear HV5 z0 z1 hd5 hx5
                              go_wp2
                              go_loopw [25, 26] (fun v i wq => ∃ (j6 : Nat) (v6 : Bool), j6 ≤ lw.length ∧ v = .bool v6 ∧ i = .int .i64 j6 ∧ Hid (v6 = !(tb lw ((a4 : Int), (c4 : Int)) j6)) ∧ Below wr.heap.size wr wq) (fun _ i _ => lw.length - (intOf i).toNat)
                              case atStart => exact ⟨0, true, by omega, rfl, rfl, Hid_of (show true = !(tb lw ((a4 : Int), (c4 : Int)) 0) by rw [tb_zero]; rfl), Below.refl _ _⟩
                              case round =>
                                obtain ⟨j6, v6, hj6, rfl, rfl, HV6, hb6⟩ := hrel
                                have hb6' := HB5.out.trans (hb6.mono HB5.out.size)
                                obtain ⟨⟨z0, z1⟩, hd6, hx6⟩ := HYY.out _ hb6'
                                have HB6 := Hid_of hb6
                                have HB6' := Hid_of hb6'
                                clear hb6 hb6'
                                by_cases hlt6 : j6 < lw.length
                                · obtain ⟨g1, rfl, q0, q1⟩ := hx6 j6 hlt6
                                  have HTB : Hid ((!(tb lw ((a4 : Int), (c4 : Int)) (j6 + 1))) = (v6 && !(decide (lw[j6].1 = (a4 : Int)) && decide (lw[j6].2 = (c4 : Int))))) := by rw [tb_step lw _ j6 hlt6, Bool.not_or, ← HV6.out]; rfl
                                  have heq := ne24 lw[j6].1 lw[j6].2 a4 c4
                                  generalize (!(decide (lw[j6].1 = (a4 : Int)) && decide (lw[j6].2 = (c4 : Int)))) = ev at *
                                  generalize lw[j6].1 = xx at *
                                  generalize lw[j6].2 = yy at *
                                  clear hd6 hx6 HV6
                                  cases v6 with
                                  | false =>
                                    have HT2 : Hid (false = !(tb lw ((a4 : Int), (c4 : Int)) (j6 + 1))) := by rw [HTB.out]; rfl
                                    clear HTB
                                    go_wp2_with fail
                                    refine wp_region_held_drew (S := fun wq => wq.cell? ⟨g1, j6 * 2, none⟩ = some (.int .i64 xx) ∧ wq.cell? ⟨g1, j6 * 2 + 1, none⟩ = some (.int .i64 yy) ∧ wq.cell? ⟨g2, j4 * 2, none⟩ = some (.int .i64 a4) ∧ wq.cell? ⟨g2, j4 * 2 + 1, none⟩ = some (.int .i64 c4)) (by kernel_rfl) ⟨q0, q1, z0, z1⟩ (fun hHeld => ?_)
                                    refine wpAnyH_take (i := 0) (oi := ?p0i) (v := ?v0i) ?o0i (by kernel_rfl) (by kernel_rfl) (by kernel_rfl) ?q0i ?y0i hHeld ?r0i
                                    case o0i => simp only [List.getElem?_toArray, List.getElem?_cons_zero]; rfl
                                    case q0i => exact fun _ _ _ h => h
                                    case y0i => (refine Or.inl ⟨rfl, ?_⟩; intro wq hq; obtain ⟨q0, q1, z0, z1⟩ := hq; go_simp; try with_reducible rfl)
                                    simp only [Act.put, List.setIfInBounds_toArray, List.set_cons_zero, List.set_cons_succ]
                                    refine wpAnyH_take (i := 1) (oi := ?p1i) (v := ?v1i) ?o1i (by kernel_rfl) (by kernel_rfl) (by kernel_rfl) ?q1i ?y1i hHeld ?r1i
                                    case o1i => simp only [List.getElem?_toArray, List.getElem?_cons_succ, List.getElem?_cons_zero]; rfl
                                    case q1i => exact fun _ _ _ h => h
                                    case y1i => (refine Or.inl ⟨rfl, ?_⟩; intro wq hq; obtain ⟨q0, q1, z0, z1⟩ := hq; go_simp; try with_reducible rfl)
                                    simp only [Act.put, List.setIfInBounds_toArray, List.set_cons_zero, List.set_cons_succ]
                                    refine wpAnyH_take (i := 2) (oi := ?p2i) (v := undef) ?o2i (by kernel_rfl) (by kernel_rfl) (by kernel_rfl) ?q2i ?y2i hHeld ?r2i
                                    case o2i => simp only [List.getElem?_toArray, List.getElem?_cons_succ, List.getElem?_cons_zero]; rfl
                                    case q2i => exact fun _ _ _ h => h
                                    case y2i => exact Or.inr ⟨rfl, rfl⟩
                                    simp only [Act.put, List.setIfInBounds_toArray, List.set_cons_zero, List.set_cons_succ]
                                    refine wpAnyH_take (i := 3) (oi := ?p3i) (v := undef) ?o3i (by kernel_rfl) (by kernel_rfl) (by kernel_rfl) ?q3i ?y3i hHeld ?r3i
                                    case o3i => simp only [List.getElem?_toArray, List.getElem?_cons_succ, List.getElem?_cons_zero]; rfl
                                    case q3i => exact fun _ _ _ h => h
                                    case y3i => exact Or.inr ⟨rfl, rfl⟩
                                    simp only [Act.put, List.setIfInBounds_toArray, List.set_cons_zero, List.set_cons_succ]
                                    refine wpAnyH_take (i := 4) (oi := ?p4i) (v := undef) ?o4i (by kernel_rfl) (by kernel_rfl) (by kernel_rfl) ?q4i ?y4i hHeld ?r4i
                                    case o4i => simp only [List.getElem?_toArray, List.getElem?_cons_succ, List.getElem?_cons_zero]; rfl
                                    case q4i => exact fun _ _ _ h => h
                                    case y4i => exact Or.inr ⟨rfl, rfl⟩
                                    simp only [Act.put, List.setIfInBounds_toArray, List.set_cons_zero, List.set_cons_succ]
                                    refine wpAnyH_take (i := 5) (oi := ?p5i) (v := undef) ?o5i (by kernel_rfl) (by kernel_rfl) (by kernel_rfl) ?q5i ?y5i hHeld ?r5i
                                    case o5i => simp only [List.getElem?_toArray, List.getElem?_cons_succ, List.getElem?_cons_zero]; rfl
                                    case q5i => exact fun _ _ _ h => h
                                    case y5i => exact Or.inr ⟨rfl, rfl⟩
                                    simp only [Act.put, List.setIfInBounds_toArray, List.set_cons_zero, List.set_cons_succ]
                                    refine wpAnyH_take (i := 6) (oi := ?p6i) (v := undef) ?o6i (by kernel_rfl) (by kernel_rfl) (by kernel_rfl) ?q6i ?y6i hHeld ?r6i
                                    case o6i => simp only [List.getElem?_toArray, List.getElem?_cons_succ, List.getElem?_cons_zero]; rfl
                                    case q6i => exact fun _ _ _ h => h
                                    case y6i => exact Or.inr ⟨rfl, rfl⟩
                                    simp only [Act.put, List.setIfInBounds_toArray, List.set_cons_zero, List.set_cons_succ]
                                    refine wpAnyH_take (i := 7) (oi := ?p7i) (v := undef) ?o7i (by kernel_rfl) (by kernel_rfl) (by kernel_rfl) ?q7i ?y7i hHeld ?r7i
                                    case o7i => simp only [List.getElem?_toArray, List.getElem?_cons_succ, List.getElem?_cons_zero]; rfl
                                    case q7i => exact fun _ _ _ h => h
                                    case y7i => exact Or.inr ⟨rfl, rfl⟩
                                    simp only [Act.put, List.setIfInBounds_toArray, List.set_cons_zero, List.set_cons_succ]
                                    refine wpAnyH_take (i := 8) (oi := ?p8i) (v := undef) ?o8i (by kernel_rfl) (by kernel_rfl) (by kernel_rfl) ?q8i ?y8i hHeld ?r8i
                                    case o8i => simp only [List.getElem?_toArray, List.getElem?_cons_succ, List.getElem?_cons_zero]; rfl
                                    case q8i => exact fun _ _ _ h => h
                                    case y8i => exact Or.inr ⟨rfl, rfl⟩
                                    simp only [Act.put, List.setIfInBounds_toArray, List.set_cons_zero, List.set_cons_succ]
                                    refine wpAnyH_take (i := 9) (oi := ?p9i) (v := undef) ?o9i (by kernel_rfl) (by kernel_rfl) (by kernel_rfl) ?q9i ?y9i hHeld ?r9i
                                    case o9i => simp only [List.getElem?_toArray, List.getElem?_cons_succ, List.getElem?_cons_zero]; rfl
                                    case q9i => exact fun _ _ _ h => h
                                    case y9i => exact Or.inr ⟨rfl, rfl⟩
                                    simp only [Act.put, List.setIfInBounds_toArray, List.set_cons_zero, List.set_cons_succ]
                                    refine wpAnyH_take (i := 10) (oi := ?p10i) (v := undef) ?o10i (by kernel_rfl) (by kernel_rfl) (by kernel_rfl) ?q10i ?y10i hHeld ?r10i
                                    case o10i => simp only [List.getElem?_toArray, List.getElem?_cons_succ, List.getElem?_cons_zero]; rfl
                                    case q10i => exact fun _ _ _ h => h
                                    case y10i => exact Or.inr ⟨rfl, rfl⟩
                                    simp only [Act.put, List.setIfInBounds_toArray, List.set_cons_zero, List.set_cons_succ]
                                    refine wpAnyH_take (i := 11) (oi := ?p11i) (v := ?v11i) ?o11i (by kernel_rfl) (by kernel_rfl) (by kernel_rfl) ?q11i ?y11i hHeld ?r11i
                                    case o11i => simp only [List.getElem?_toArray, List.getElem?_cons_succ, List.getElem?_cons_zero]; rfl
                                    case q11i => exact fun _ _ _ h => h
                                    case y11i => (refine Or.inl ⟨rfl, ?_⟩; intro wq hq; obtain ⟨q0, q1, z0, z1⟩ := hq; go_simp; try with_reducible rfl)
                                    simp only [Act.put, List.setIfInBounds_toArray, List.set_cons_zero, List.set_cons_succ]
                                    refine wpAnyH_take (i := 12) (oi := ?p12i) (v := ?v12i) ?o12i (by kernel_rfl) (by kernel_rfl) (by kernel_rfl) ?q12i ?y12i hHeld ?r12i
                                    case o12i => simp only [List.getElem?_toArray, List.getElem?_cons_succ, List.getElem?_cons_zero]; rfl
                                    case q12i => exact fun _ _ _ h => h
                                    case y12i => (refine Or.inl ⟨rfl, ?_⟩; intro wq hq; obtain ⟨q0, q1, z0, z1⟩ := hq; go_simp; try with_reducible rfl)
                                    simp only [Act.put, List.setIfInBounds_toArray, List.set_cons_zero, List.set_cons_succ]
                                    refine wpAnyH_done (by kernel_rfl) ?_ _
                                    go_wp2
                                    go_roundw
                                    case rel => exact ⟨j6 + 1, false, by omega, rfl, by go_num, HT2, Below.drew HB6.out⟩
                                    case measure => simp [intOf]; omega
                                  | true =>
                                    have HT2 : Hid (ev = !(tb lw ((a4 : Int), (c4 : Int)) (j6 + 1))) := by rw [HTB.out]; rfl
                                    clear HTB
                                    go_wp2_with fail
                                    refine wp_region_held_drew (S := fun wq => wq.cell? ⟨g1, j6 * 2, none⟩ = some (.int .i64 xx) ∧ wq.cell? ⟨g1, j6 * 2 + 1, none⟩ = some (.int .i64 yy) ∧ wq.cell? ⟨g2, j4 * 2, none⟩ = some (.int .i64 a4) ∧ wq.cell? ⟨g2, j4 * 2 + 1, none⟩ = some (.int .i64 c4)) (by kernel_rfl) ⟨q0, q1, z0, z1⟩ (fun hHeld => ?_)
                                    refine wpAnyH_take (i := 0) (oi := ?p0j) (v := ?v0j) ?o0j (by kernel_rfl) (by kernel_rfl) (by kernel_rfl) ?q0j ?y0j hHeld ?r0j
                                    case o0j => simp only [List.getElem?_toArray, List.getElem?_cons_zero]; rfl
                                    case q0j => exact fun _ _ _ h => h
                                    case y0j => (refine Or.inl ⟨rfl, ?_⟩; intro wq hq; obtain ⟨q0, q1, z0, z1⟩ := hq; go_simp; try with_reducible rfl)
                                    simp only [Act.put, List.setIfInBounds_toArray, List.set_cons_zero, List.set_cons_succ]
                                    refine wpAnyH_take (i := 1) (oi := ?p1j) (v := ?v1j) ?o1j (by kernel_rfl) (by kernel_rfl) (by kernel_rfl) ?q1j ?y1j hHeld ?r1j
                                    case o1j => simp only [List.getElem?_toArray, List.getElem?_cons_succ, List.getElem?_cons_zero]; rfl
                                    case q1j => exact fun _ _ _ h => h
                                    case y1j => (refine Or.inl ⟨rfl, ?_⟩; intro wq hq; obtain ⟨q0, q1, z0, z1⟩ := hq; go_simp; try with_reducible rfl)
                                    simp only [Act.put, List.setIfInBounds_toArray, List.set_cons_zero, List.set_cons_succ]
                                    refine wpAnyH_take (i := 2) (oi := ?p2j) (v := ?v2j) ?o2j (by kernel_rfl) (by kernel_rfl) (by kernel_rfl) ?q2j ?y2j hHeld ?r2j
                                    case o2j => simp only [List.getElem?_toArray, List.getElem?_cons_succ, List.getElem?_cons_zero]; rfl
                                    case q2j => exact fun _ _ _ h => h
                                    case y2j => (refine Or.inl ⟨rfl, ?_⟩; intro wq hq; obtain ⟨q0, q1, z0, z1⟩ := hq; go_simp; try with_reducible rfl)
                                    simp only [Act.put, List.setIfInBounds_toArray, List.set_cons_zero, List.set_cons_succ]
                                    refine wpAnyH_take (i := 3) (oi := ?p3j) (v := ?v3j) ?o3j (by kernel_rfl) (by kernel_rfl) (by kernel_rfl) ?q3j ?y3j hHeld ?r3j
                                    case o3j => simp only [List.getElem?_toArray, List.getElem?_cons_succ, List.getElem?_cons_zero]; rfl
                                    case q3j => exact fun _ _ _ h => h
                                    case y3j => (refine Or.inl ⟨rfl, ?_⟩; intro wq hq; obtain ⟨q0, q1, z0, z1⟩ := hq; go_simp; try with_reducible rfl)
                                    simp only [Act.put, List.setIfInBounds_toArray, List.set_cons_zero, List.set_cons_succ]
                                    refine wpAnyH_take (i := 4) (oi := ?p4j) (v := ?v4j) ?o4j (by kernel_rfl) (by kernel_rfl) (by kernel_rfl) ?q4j ?y4j hHeld ?r4j
                                    case o4j => simp only [List.getElem?_toArray, List.getElem?_cons_succ, List.getElem?_cons_zero]; rfl
                                    case q4j => exact fun _ _ _ h => h
                                    case y4j => (refine Or.inl ⟨rfl, ?_⟩; intro wq hq; obtain ⟨q0, q1, z0, z1⟩ := hq; go_simp; try with_reducible rfl)
                                    simp only [Act.put, List.setIfInBounds_toArray, List.set_cons_zero, List.set_cons_succ]
                                    refine wpAnyH_take (i := 5) (oi := ?p5j) (v := ?v5j) ?o5j (by kernel_rfl) (by kernel_rfl) (by kernel_rfl) ?q5j ?y5j hHeld ?r5j
                                    case o5j => simp only [List.getElem?_toArray, List.getElem?_cons_succ, List.getElem?_cons_zero]; rfl
                                    case q5j => exact fun _ _ _ h => h
                                    case y5j => (refine Or.inl ⟨rfl, ?_⟩; intro wq hq; obtain ⟨q0, q1, z0, z1⟩ := hq; go_simp; try with_reducible rfl)
                                    simp only [Act.put, List.setIfInBounds_toArray, List.set_cons_zero, List.set_cons_succ]
                                    refine wpAnyH_take (i := 6) (oi := ?p6j) (v := ?v6j) ?o6j (by kernel_rfl) (by kernel_rfl) (by kernel_rfl) ?q6j ?y6j hHeld ?r6j
                                    case o6j => simp only [List.getElem?_toArray, List.getElem?_cons_succ, List.getElem?_cons_zero]; rfl
                                    case q6j => exact fun _ _ _ h => h
                                    case y6j => (refine Or.inl ⟨rfl, ?_⟩; intro wq hq; obtain ⟨q0, q1, z0, z1⟩ := hq; go_simp; try with_reducible rfl)
                                    simp only [Act.put, List.setIfInBounds_toArray, List.set_cons_zero, List.set_cons_succ]
                                    refine wpAnyH_take (i := 7) (oi := ?p7j) (v := ?v7j) ?o7j (by kernel_rfl) (by kernel_rfl) (by kernel_rfl) ?q7j ?y7j hHeld ?r7j
                                    case o7j => simp only [List.getElem?_toArray, List.getElem?_cons_succ, List.getElem?_cons_zero]; rfl
                                    case q7j => exact fun _ _ _ h => h
                                    case y7j => (refine Or.inl ⟨rfl, ?_⟩; intro wq hq; obtain ⟨q0, q1, z0, z1⟩ := hq; go_simp; try with_reducible rfl)
                                    simp only [Act.put, List.setIfInBounds_toArray, List.set_cons_zero, List.set_cons_succ]
                                    refine wpAnyH_take (i := 8) (oi := ?p8j) (v := ?v8j) ?o8j (by kernel_rfl) (by kernel_rfl) (by kernel_rfl) ?q8j ?y8j hHeld ?r8j
                                    case o8j => simp only [List.getElem?_toArray, List.getElem?_cons_succ, List.getElem?_cons_zero]; rfl
                                    case q8j => exact fun _ _ _ h => h
                                    case y8j => (refine Or.inl ⟨rfl, ?_⟩; intro wq hq; obtain ⟨q0, q1, z0, z1⟩ := hq; go_simp; try with_reducible rfl)
                                    simp only [Act.put, List.setIfInBounds_toArray, List.set_cons_zero, List.set_cons_succ]
                                    refine wpAnyH_take (i := 9) (oi := ?p9j) (v := ?v9j) ?o9j (by kernel_rfl) (by kernel_rfl) (by kernel_rfl) ?q9j ?y9j hHeld ?r9j
                                    case o9j => simp only [List.getElem?_toArray, List.getElem?_cons_succ, List.getElem?_cons_zero]; rfl
                                    case q9j => exact fun _ _ _ h => h
                                    case y9j => (refine Or.inl ⟨rfl, ?_⟩; intro wq hq; obtain ⟨q0, q1, z0, z1⟩ := hq; go_simp; try with_reducible rfl)
                                    simp only [Act.put, List.setIfInBounds_toArray, List.set_cons_zero, List.set_cons_succ]
                                    refine wpAnyH_take (i := 10) (oi := ?p10j) (v := ?v10j) ?o10j (by kernel_rfl) (by kernel_rfl) (by kernel_rfl) ?q10j ?y10j hHeld ?r10j
                                    case o10j => simp only [List.getElem?_toArray, List.getElem?_cons_succ, List.getElem?_cons_zero]; rfl
                                    case q10j => exact fun _ _ _ h => h
                                    case y10j => (refine Or.inl ⟨rfl, ?_⟩; intro wq hq; obtain ⟨q0, q1, z0, z1⟩ := hq; go_simp; try with_reducible rfl)
                                    simp only [Act.put, List.setIfInBounds_toArray, List.set_cons_zero, List.set_cons_succ]
                                    refine wpAnyH_take (i := 11) (oi := ?p11j) (v := ?v11j) ?o11j (by kernel_rfl) (by kernel_rfl) (by kernel_rfl) ?q11j ?y11j hHeld ?r11j
                                    case o11j => simp only [List.getElem?_toArray, List.getElem?_cons_succ, List.getElem?_cons_zero]; rfl
                                    case q11j => exact fun _ _ _ h => h
                                    case y11j => (refine Or.inl ⟨rfl, ?_⟩; intro wq hq; obtain ⟨q0, q1, z0, z1⟩ := hq; go_simp; try with_reducible rfl)
                                    simp only [Act.put, List.setIfInBounds_toArray, List.set_cons_zero, List.set_cons_succ]
                                    refine wpAnyH_take (i := 12) (oi := ?p12j) (v := ?v12j) ?o12j (by kernel_rfl) (by kernel_rfl) (by kernel_rfl) ?q12j ?y12j hHeld ?r12j
                                    case o12j => simp only [List.getElem?_toArray, List.getElem?_cons_succ, List.getElem?_cons_zero]; rfl
                                    case q12j => exact fun _ _ _ h => h
                                    case y12j => (refine Or.inl ⟨rfl, ?_⟩; intro wq hq; obtain ⟨q0, q1, z0, z1⟩ := hq; go_simp; try with_reducible rfl)
                                    simp only [Act.put, List.setIfInBounds_toArray, List.set_cons_zero, List.set_cons_succ]
                                    refine wpAnyH_done (by kernel_rfl) ?_ _
                                    go_wp2
                                    go_roundw
                                    case rel => exact ⟨j6 + 1, ev, by omega, rfl, by go_num, HT2, Below.drew HB6.out⟩
                                    case measure => simp [intOf]; omega
                                · obtain rfl : j6 = lw.length := by omega
                                  rw [tb_all] at HV6
                                  have HG6 := Hid_of (HG4.out.keep HB6'.out)
                                  have cG := HG6.out.get_yes HI4.out
                                  have hteq : (t.toList == t.toList) = true := by simp
                                  have HS4 : Hid (v6 = true → s4 = t) := fun hv => by
                                    rw [HV6.out] at hv
                                    rcases HOR.out with h | ⟨h1, h2, h3⟩
                                    · rw [decide_eq_true h] at hv; cases hv
                                    · exact h3
                                  clear hd6 hx6 HV6
                                  cases v6 with
                                  | false =>
                                    go_wp2_with fail
                                    refine cG.mono ?_
                                    rintro x w13 ⟨rfl, b13⟩
                                    have HB13 := Hid_of ((HB4.out.trans (HB6'.out.mono HB4.out.size)).trans (b13.mono (by have := HB4.out.size; have := HB6'.out.size; omega)))
                                    clear cG b13 z0 z1
                                    go_wp2
                                    go_roundw
                                    case rel => exact ⟨j4 + 1, by omega, by go_num, HB13.out⟩
                                    case measure => simp [intOf]; omega
                                  | true =>
                                    obtain rfl := HS4.out rfl
                                    go_wp2_with fail
                                    refine cG.mono ?_
                                    rintro x w13 ⟨rfl, b13⟩
                                    obtain ⟨-, hd13, -⟩ := HYY.out w13 (HB6'.out.trans (b13.mono HB6'.out.size))
                                    obtain ⟨x0, x1, x2, x3, x4, x5⟩ := hd13.c
                                    have HB13 := Hid_of ((HB4.out.trans (HB6'.out.mono HB4.out.size)).trans (b13.mono (by have := HB4.out.size; have := HB6'.out.size; omega)))
                                    clear cG b13 z0 z1 hd13
                                    go_wp2
                                    go_roundw
                                    case rel => exact ⟨j4 + 1, by omega, by go_num, HB13.out⟩
                                    case measure => simp [intOf]; omega
                      · clear hx4 hy4 hd4
                        go_wp2_with fail
                        refine (awake_any _).mono ?_
                        rintro x w13 ⟨rfl, hb⟩
                        have HB13 := Hid_of (bel_up (HBX.out wr HG4.out.f.dev.bel).2.2 hb (Nat.le_refl _))
                        clear hb
                        go_wp2
                        go_ret
                        exact ⟨rfl, HB13.out⟩
end Go.Proofs.YticjilpomdahbaaGreat
