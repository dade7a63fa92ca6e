/-
  Law 15: what is read.
-/
import Derived.Test.YtjbcchipbdkplaaQG
import Derived.Test.YtjbcchipbdkplaaPD
import Derived.Deep.CutRange
namespace Go.Proofs.Ytjbcchipbdkplaa
open Go.RowKit Go.Maps
set_option linter.unusedVariables false
open Rp (C fup)

set_option maxRecDepth 100000 in
set_option maxHeartbeats 2000000 in
theorem reads_walk (x : ByteArray) (w : World) (hx : x.size ≤ 140737488351232) : Calls Try.prog 6 #[.string x] w fun e w' => e = .returned (.bool true) ∧ Below w.heap.size w w' := by
  by_cases hlen : 10000 < x.size
  · have d0 : decide ((10000 : Int) < (x.size : Int)) = true := decide_eq_true (by omega)
    have d1 : decide (10000 < x.size) = true := decide_eq_true hlen
    go_enter Try.func6, Try.ntmps6
    go_wp2_with fail
    refine (awake_any _).mono ?_
    rintro e w8 ⟨rfl, b8⟩
    have HB8 := Hid_of b8
    clear b8
    go_wp2
    go_ret
    exact ⟨rfl, HB8.out⟩
  · have d0 : decide ((10000 : Int) < (x.size : Int)) = false := decide_eq_false (by omega)
    have d1 : decide (10000 < x.size) = false := decide_eq_false hlen
    have hsl : x.data.toList.length ≤ 10000 := by rw [len_data]; omega
    have hrd := read_any x.data.toList w (by omega)
    have hdd := fun W => readD_any x.data.toList W (by omega)
    rw [ofL_of] at hrd
    simp only [ofL_of] at hdd
    have HOF : Hid (ofL x.data.toList = x) := ofL_of _
    generalize x.data.toList = sl at *
    clear hsl
    go_enter Try.func6, Try.ntmps6
    go_wp2_with fail
    refine hrd.mono ?_
    rintro e w1 (⟨hno, rfl, hb1⟩ | ⟨room, ps, br, m, n, f, hyes, rfl, hX, hn64, hb1⟩)
    · have HN := Hid_of hno
      have HB1 := Hid_of hb1
      clear hrd hno hb1
      go_wp2_with fail
      refine (hdd w1).mono ?_
      rintro e w2 (⟨_, rfl, hb2⟩ | ⟨room, ps, dv, hyes, _, _, _⟩)
      · have hst := store30_row (w2.alloc (.cells (DA 0 nodv) 30)) w2.heap.size (0 : Int) 0 nodv nodv nodv_sl (heap_alloc_last w2 _)
        obtain ⟨W3, HW3⟩ : ∃ W3, Hid ((w2.alloc (.cells (DA 0 nodv) 30)).setRow w2.heap.size (DA 0 nodv) = W3) := ⟨_, Hid_of rfl⟩
        have HB3 : Hid (Below w.heap.size w W3) := by rw [← HW3.out]; exact below_setRow (bel_up (bel_up HB1.out hb2 (Nat.le_refl _)) (bel1 w2 _) (Nat.le_refl _)) (by have := HB1.out.size; have := hb2.size; omega) _
        clear hdd hb2 HB1 HN
        go_upto_region 5 with fail
        rw [HW3.out]
        clear hst HW3
        go_wp2_with fail
        refine (awake_any _).mono ?_
        rintro e w8 ⟨rfl, b8⟩
        have HB8 : Hid (Below w.heap.size w w8) := bel_up HB3.out b8 (Nat.le_refl _)
        clear b8 HB3
        go_wp2
        go_ret
        exact ⟨rfl, HB8.out⟩
      · rw [HN.out] at hyes
        cases hyes
    · have HY := Hid_of hyes
      have HB1 := Hid_of hb1
      have HX := Hid_of hX
      clear hrd hyes hb1 hX
      go_wp2_with fail
      refine (hdd w1).mono ?_
      rintro e w2 (⟨hno, _, _⟩ | ⟨room', ps', dv, hyes, rfl, hdr, hb2⟩)
      · rw [HY.out] at hno
        cases hno
      · rw [HY.out] at hyes
        simp only [Option.some.injEq, Prod.mk.injEq] at hyes
        obtain ⟨rfl, rfl⟩ := hyes
        obtain ⟨htx, hok, _⟩ := Rp.txt_rd HY.out
        have hst := store30_row (w2.alloc (.cells (DA 0 nodv) 30)) w2.heap.size (room : Int) 0 dv nodv hdr.sl (heap_alloc_last w2 _)
        obtain ⟨W3, HW3⟩ : ∃ W3, Hid ((w2.alloc (.cells (DA 0 nodv) 30)).setRow w2.heap.size (DA room dv) = W3) := ⟨_, Hid_of rfl⟩
        have hB3 : Below w2.heap.size w2 W3 := by rw [← HW3.out]; exact below_setRow (bel1 w2 _) (Nat.le_refl _) _
        have hr3 : W3.heap[w2.heap.size]? = some (.cells (DA room dv) 30 (0, 0)) := by rw [← HW3.out]; exact setRow_heap _ _ _ _ _ _ (heap_alloc_last w2 _)
        have hX3 := (HX.out.keep hb2).keep hB3
        have ht1 := textR_any hX3 hok (by omega)
        rw [htx, HOF.out] at ht1
        have HB3 : Hid (Below w.heap.size w W3) := bel_up (bel_up HB1.out hb2 (Nat.le_refl _)) hB3 (Nat.le_refl _)
        have HG : Hid (∀ W, Below W3.heap.size W3 W → DR W (Rp.tof ps) dv ∧ W.heap[w2.heap.size]? = some (.cells (DA room dv) 30 (0, 0))) := fun W hW => ⟨(hdr.keep hB3).keep hW, (hW.block _ (Array.getElem?_eq_some_iff.1 hr3).1).trans hr3⟩
        have HOK := Hid_of (And.intro hok htx)
        clear hdd hb2 HB1 HY HX hX3 hB3 hr3 hdr hok htx
        go_upto_region 5 with fail
        rw [HW3.out]
        clear hst HW3
        go_wp2_with fail
        refine ht1.mono ?_
        rintro e w4 ⟨rfl, hb4⟩
        obtain ⟨hd4, hr4⟩ := HG.out w4 hb4
        have hld := load30_row w4 _ _ _ hr4
        have ht2 := textD_any room hd4 HOK.out.1
        rw [HOK.out.2, HOF.out] at ht2
        have HB4 : Hid (Below w.heap.size w w4) := bel_up HB3.out hb4 (Nat.le_refl _)
        clear ht1 hb4 HG hd4 hr4 HB3
        go_wp2_with fail
        refine ht2.mono ?_
        rintro e w5 ⟨rfl, hb5⟩
        have HB5 : Hid (Below w.heap.size w w5) := bel_up HB4.out hb5 (Nat.le_refl _)
        clear ht2 hb5 HB4 hld
        go_wp2_with fail
        refine (awake_any _).mono ?_
        rintro e w8 ⟨rfl, b8⟩
        have HB8 : Hid (Below w.heap.size w w8) := bel_up HB5.out b8 (Nat.le_refl _)
        clear b8 HB5
        go_wp2
        go_ret
        exact ⟨rfl, HB8.out⟩
end Go.Proofs.Ytjbcchipbdkplaa
