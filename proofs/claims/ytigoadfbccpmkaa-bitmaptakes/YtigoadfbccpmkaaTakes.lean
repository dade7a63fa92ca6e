/-
  Proved: for every number, deeds and number the law BitmapTakes of the program returns true, and the arguments read as they did.
-/
import Derived.Test.YtigoadfbccpmkaaL
import Derived.Test.YtigoadfbccpmkaaR
import Derived.Deep.RegionHeld3
import Derived.ShutString
import Derived.OpenShut
namespace Go.Proofs.Ytigoadfbccpmkaa
open Go.ChangeShapes Go.WideShapes Go.ChangeAt Go.RowKit
open Go.ChangeMaps (open_string shut_string)
set_option linter.unusedVariables false

theorem eqw_row (f : Nat → Bool) (a m : Nat) : eqw (M.andf (M.orf f (M.rowf a m)) (M.rowf a m)) (M.rowf a m) = true := by
  rw [eqw_iff]
  intro i _
  simp only [M.andf, M.orf]
  cases M.rowf a m i <;> simp
theorem gt_row (n : Nat) (f : Nat → Bool) (a m j : Nat) (h : a + m ≤ n) (hj : j < m) : gt n (M.orf f (M.rowf a m)) ((a + j : Nat) : Int) = true := by
  simp [gt, M.orf, M.rowf]
  omega

set_option maxRecDepth 100000 in
set_option maxHeartbeats 4000000 in
theorem takes_walk (n : Int) (a : Option Addr) (cap : Nat) (l : List Dd) (k : Int) (w : World) (hl : l.length ≤ maxLen) (hd : Dds w a l) :
    Calls Try.prog 5 #[.int .i64 n, .slice a l.length cap, .int .i64 k] w fun e w' => e = .returned (.bool true) ∧ Below w.heap.size w w' := by
  by_cases h60 : 60 < l.length
  · go_enter Try.func5, Try.ntmps5
    go_wp2_with fail
    refine (awake_any _).mono ?_
    rintro x w1 ⟨rfl, hb⟩
    go_wp2
    go_ret
    exact ⟨rfl, hb⟩
  · have hN := sz_le n
    go_enter Try.func5, Try.ntmps5
    go_wp2_with fail
    refine (new_any n w).mono ?_
    rintro e w1 h
    obtain ⟨b, rfl, hb, m1, B1⟩ := h
    generalize sz n = N at *
    go_wp2
    go_loopw [8] (fun i wr => ∃ (j : Nat) (f : Nat → Bool), j ≤ l.length ∧ i = .int .i64 j ∧ MIs wr b N f ∧ Below w.heap.size w wr) (fun i _ => l.length - (intOf i).toNat)
    case atStart => exact ⟨0, _, by omega, rfl, m1, B1⟩
    case round =>
      obtain ⟨j, f, hj, rfl, m2, B2⟩ := hrel
      clear m1 B1
      by_cases hlt : j < l.length
      · obtain ⟨bb, off, rfl, c0, c1, c2⟩ := (hd.keep B2) j hlt
        generalize l[j].k = dk at *
        generalize l[j].a = da at *
        generalize l[j].n = dn at *
        have d0 : wr.drew.cell? ⟨bb, off + j * 3, none⟩ = some (.int .i64 dk) := c0
        have d1 : wr.drew.cell? ⟨bb, off + j * 3 + 1, none⟩ = some (.int .i64 da) := c1
        have m3 := m2.drew
        have hz := B2.size
        have hbw : bb < w.heap.size := by
          obtain ⟨b', off', e', q0, _, _⟩ := hd j hlt
          cases e'
          exact World.block_lt_of_cell? w _ q0
        have hbr : bb < wr.heap.size := by omega
        clear hd c2
        go_wp2_with fail
        go_region_held3 (fun wq => wq.cell? ⟨bb, off + j * 3, none⟩ = some (.int .i64 dk) ∧ wq.cell? ⟨bb, off + j * 3 + 1, none⟩ = some (.int .i64 da)) (first | exact ⟨by assumption, by assumption⟩) ((go_at_call 12; refine (set_any b N f da (dk == 0) wr.drew m3).mono ?_; rintro x w4 ⟨rfl, m4, g4⟩; have q4 : w4.heap[bb]? = wr.drew.heap[bb]? := g4.block bb hbr (by simp; omega); have e0 := (World.cell?_of_block (w := wr.drew) (a := ⟨bb, off + j * 3, none⟩) q4).trans d0; have e1 := (World.cell?_of_block (w := wr.drew) (a := ⟨bb, off + j * 3 + 1, none⟩) q4).trans d1; clear q4))
        all_goals
          have B4 : Below w.heap.size w w4 := bgrow B2.drew (Nat.le_refl _) hb g4
          clear d0 d1 c0 c1 e0 e1
          go_wp2
          go_roundw
          case rel => exact ⟨j + 1, _, by omega, by go_num, m4, B4⟩
          case measure => simp [intOf]; omega
      · clear hd
        go_wp2_with fail
        refine (text_any b N f _ m2).mono ?_
        rintro x w3 ⟨rfl, hb3⟩
        have m3 := m2.below hb3
        have B3 := B2.trans (hb3.mono B2.size)
        clear m2 B2 hb3
        go_wp2_with fail
        refine (count_any b N f _ m3).mono ?_
        rintro x w4 ⟨rfl, rfl⟩
        go_wp2_with fail
        refine (take_any b N f k _ m3).mono ?_
        rintro x w5 ⟨rfl, m5, g5⟩
        have B5 := bgrow B3 (Nat.le_refl _) hb g5
        clear g5 B3 m3
        by_cases hk : k < 1
        · have hk' : decide (k < 1) = true := by simpa using hk
          simp only [takp, take, takf, if_pos hk] at m5 ⊢
          go_wp2_with fail
          refine (text_any b N f _ m5).mono ?_
          rintro x w6 ⟨rfl, hb6⟩
          have B6 := B5.trans (hb6.mono B5.size)
          generalize ofL (textOf f N) = tx
          go_wp2_with fail
          refine (awake_any _).mono ?_
          rintro x w7 ⟨rfl, hb7⟩
          go_wp2
          go_ret
          exact ⟨rfl, B6.trans (hb7.mono B6.size)⟩
        · have hk' : decide (k < 1) = false := by simpa using hk
          rcases M.find_cases f N k with he | ⟨p, m, rfl, hm1, he, ham, hfree⟩
          · simp only [takp, take, takf, if_neg hk, if_pos (show M.find f N k < 0 by omega)] at m5 ⊢
            go_wp2_with fail
            refine (text_any b N f _ m5).mono ?_
            rintro x w6 ⟨rfl, hb6⟩
            have B6 := B5.trans (hb6.mono B5.size)
            generalize ofL (textOf f N) = tx
            go_wp2_with fail
            refine (awake_any _).mono ?_
            rintro x w7 ⟨rfl, hb7⟩
            go_wp2
            go_ret
            exact ⟨rfl, B6.trans (hb7.mono B6.size)⟩
          · simp only [takp, take, takf, if_neg hk, if_neg (show ¬ M.find f N (m : Int) < 0 by omega)] at m5 ⊢
            rw [he] at m5 ⊢
            simp only [Int.toNat_natCast] at m5
            have hc := M.cnt_rowf f p m N ham hfree
            have hcle := M.cnt_le f 0 N
            have hg1 := gt_row N f p m 0 ham (by omega)
            have hg2 := gt_row N f p m (m - 1) ham (by omega)
            have hno := M.notf_orf f p m hfree
            have heq := eqw_row f p m
            have HX1 : Hid (_ ∧ _ ∧ _ ∧ _ ∧ _ ∧ _) := ⟨hc, hg1, hg2, hno, heq, he⟩
            generalize hcf : M.cnt f 0 N = c at *
            clear hc hg1 hg2 hno heq he hcf
            go_wp2_with fail
            refine (count_any b N _ _ m5).mono ?_
            rintro x w6 ⟨rfl, rfl⟩
            rw [HX1.out.1]
            have hcm : ((c + m : Nat) : Int) = (c : Int) + m := by omega
            go_wp2_with fail
            refine (get_any b N _ p _ m5).mono ?_
            rintro x w7 ⟨rfl, rfl⟩
            rw [show ((p : Nat) : Int) = ((p + 0 : Nat) : Int) from rfl, HX1.out.2.1]
            obtain ⟨y, HY⟩ : ∃ y : Nat, Hid (p + (m - 1) = y) := ⟨_, rfl⟩
            obtain ⟨z, HZ⟩ : ∃ z : Nat, Hid (p + m = z) := ⟨_, rfl⟩
            have hz1 : (p : Int) + m = (z : Int) := by have := HZ.out; omega
            have hz2 : (z : Int) - 1 = (y : Int) := by have := HZ.out; have := HY.out; omega
            have hz3 : z ≤ 4096 := by have := HZ.out; omega
            go_wp2_with fail
            refine (get_any b N _ (y : Int) _ m5).mono ?_
            rintro x w8 ⟨rfl, rfl⟩
            rw [← HY.out, HX1.out.2.2.1]
            clear hz1 hz2 hz3
            go_wp2_with fail
            refine (free_in b N _ p m _ m5 hm1 ham).mono ?_
            rintro x w9 ⟨rfl, m9, g9⟩
            have B9 := bgrow B5 (Nat.le_refl _) hb g9
            rw [HX1.out.2.2.2.2.1] at m9 ⊢
            rw [if_pos rfl] at m9 ⊢
            rw [HX1.out.2.2.2.1] at m9
            clear g9 B5 m5
            go_wp2_with fail
            refine (text_any b N f _ m9).mono ?_
            rintro x w10 ⟨rfl, hb10⟩
            have m10 := m9.below hb10
            have B10 := B9.trans (hb10.mono B9.size)
            clear m9 B9 hb10
            generalize ofL (textOf f N) = tx
            go_wp2_with fail
            refine (find_any b N f _ _ m10).mono ?_
            rintro x w11 ⟨rfl, hb11⟩
            rw [HX1.out.2.2.2.2.2]
            have B11 := B10.trans (hb11.mono B10.size)
            clear m10 B10 hb11
            go_wp2_with fail
            refine (awake_any _).mono ?_
            rintro x w12 ⟨rfl, hb12⟩
            go_wp2
            go_ret
            exact ⟨rfl, B11.trans (hb12.mono B11.size)⟩

set_option maxRecDepth 100000 in
theorem takes_lifted (os : Os) (started : os.Started) (H : Type) (enc : TypeId × Value → H) :
    ReturnsInHanded {} Try.checked os 5 .any (Rows.bitmapTakesSpec.pre6 enc Try.prog Try.f5 Rows.bitmapTakesRow.domain false) (Rows.bitmapTakesSpec.post enc Try.prog Try.f5 false true false false) := by
  refine returnsInHanded_of_change (C := Try.checked) own started (by kernel_rfl) Try.func5
    (ChangeSpec.witness6 (enc := enc) (C := Try.checked) false ⟨#[], #[.int .i64 0, .slice none 0 0, .int .i64 0], []⟩ 8 (by kernel_rfl) (by kernel_rfl) (by kernel_rfl) (by kernel_rfl)) ?_
  intro W base args ds gs before hval0 hW hcnd _
  have hval : ∀ (j : Nat) t v, Try.f5.params[j]? = some t → args[j]? = some v → Value.okWide Try.prog W .any base t v := hval0
  have hW' := hW
  obtain ⟨p, q, hA0, hV, rfl, hfz, hnd⟩ := hW
  have hA : DataW.TrodAll enc Try.prog W 0 (fun _ => true) true Try.f5.params.toList args.toList ds p := hA0
  rw [Try.params5] at hA hval
  obtain ⟨v0, vs0, d0, ds0, p0, q0, hargs, rfl, rfl, h0, r0⟩ := trodAll_cons hA
  obtain ⟨v1, vs1, d1, ds1, p1, q1, rfl, rfl, rfl, h1, r1⟩ := trodAll_cons r0
  obtain ⟨v2, vs2, d2, ds2, p2, q2, rfl, rfl, rfl, h2, r2⟩ := trodAll_cons r1
  obtain ⟨rfl, rfl, rfl⟩ := trodAll_nil r2
  obtain rfl : args = #[v0, v1, v2] := by cases args; simp_all
  obtain ⟨rfl, rfl⟩ := trodVars_none hV
  obtain ⟨a0, rfl, rfl, rfl, w0⟩ := open_int Try.underlying3 (hval 0 3 v0 rfl rfl) h0
  obtain ⟨a2, rfl, rfl, rfl, w2⟩ := open_int Try.underlying3 (hval 2 3 v2 rfl rfl) h2
  obtain ⟨a1, len1, cap1, rfl⟩ := okWide_slice Try.underlying22 (hval 1 22 v1 rfl rfl)
  have k1 := h1
  have lt1 : ∀ x ∈ p1, x.block < W.heap.size := by obtain ⟨m, hm⟩ := k1; exact DataW.trod_lt m _ _ _ hm
  obtain ⟨l, hlen, hit, hm⟩ : ∃ l : List Dd, len1 = l.length ∧ Dds W a1 l ∧ l.length ≤ maxLen := by
    obtain ⟨fuel, hf⟩ := h1
    obtain ⟨a', len', cap', l, hcs, hl, hi, hm⟩ := open_deeds hf
    simp [Value.cells] at hcs
    obtain ⟨rfl, rfl, rfl⟩ := hcs
    exact ⟨l, hl, hi, hm⟩
  clear hA0 hval0
  subst hlen
  refine (takes_walk a0 a1 cap1 l a2 W hm hit).mono fun e W' ⟨he, bel⟩ => ?_
  subst he
  exact ⟨_, rfl, _, _, _, [], _, [], hW', trodAll_mk1 (shut_bool Try.underlying4 _), (trodAll_cons_mk (shut_int Try.underlying3 w0) (trodAll_cons_mk (Below.trod laidOut (by kernel_rfl) (of_decide_eq_true (by kernel_rfl)) k1 bel lt1) (trodAll_cons_mk (shut_int Try.underlying3 w2) trodAll_mk0))), rfl, bel.frame _, fun h => by cases h⟩

theorem takes_holds : Rows.BitmapTakesSaid :=
  OpenClaim.holds_of_wide 5 Try.f5 rfl rfl rfl rfl rfl rfl rfl ⟨rfl, rfl, rfl, rfl, rfl⟩ rfl rfl rfl rfl rfl (by kernel_rfl) Try.func5 (by kernel_rfl)
    (of_decide_eq_true (by kernel_rfl)) (by unfold Func.isWrapper; first | (rw [if_pos (by decide +kernel)]; kernel_rfl) | (rw [if_neg (by decide +kernel)]; exact ⟨rfl, rfl⟩))
    (fun os started H enc _ => takes_lifted os started H enc)
#print axioms takes_holds


end Go.Proofs.Ytigoadfbccpmkaa
