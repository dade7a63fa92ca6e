/-
  May a stripe be: its servers apart, its numbers; is there room.
-/
import Derived.Test.YtgcfpihfoekllaaRC
namespace Go.Proofs.Ytgcfpihfoekllaa
open Go.RowKit
set_option linter.unusedVariables false
open Sm (S)

set_option maxRecDepth 100000 in
set_option maxHeartbeats 1000000 in
theorem apart_any (a : Option Addr) (cap : Nat) (xl : List Int) (w : World) (hl : xl.length ≤ 1000000) (hx : AtL il w a xl) :
    Calls Try.prog 81 #[.slice a xl.length cap] w fun e w' => e = .returned (.bool (Mb.apB xl)) ∧ Below w.heap.size w w' := by
  obtain ⟨W1, HW1⟩ : ∃ W1, Hid (w.alloc (.cells #[.bool false, .bool false, .bool false, .bool false, .bool false, .bool false, .bool false, .bool false, .bool false, .bool false, .bool false, .bool false, .bool false, .bool false, .bool false, .bool false, .bool false, .bool false, .bool false, .bool false, .bool false, .bool false, .bool false, .bool false, .bool false, .bool false, .bool false, .bool false, .bool false, .bool false, .bool false, .bool false, .bool false, .bool false, .bool false, .bool false, .bool false, .bool false, .bool false, .bool false, .bool false, .bool false, .bool false, .bool false, .bool false, .bool false, .bool false, .bool false, .bool false, .bool false, .bool false, .bool false, .bool false, .bool false, .bool false, .bool false, .bool false, .bool false, .bool false, .bool false, .bool false, .bool false, .bool false, .bool false] 130) = W1) := ⟨_, rfl⟩
  have H0 : Hid (SN w W1 []) := by
    refine ⟨?_, show Mb.Ap [] from ⟨by simp, List.nodup_nil⟩, ?_⟩
    · rw [show snv [] = _ from snv_zero, ← HW1.out]; exact heap_alloc_last w _
    · rw [← HW1.out]; exact bel1 w _
  have HX := Hid_of hx
  clear hx
  go_enter Try.func81, Try.ntmps81
  go_upto_region 2 with fail
  rw [HW1.out]
  clear HW1
  go_wp2
  go_loopw [8] (fun i wr => ∃ j : Nat, j ≤ xl.length ∧ i = .int .i64 j ∧ Hid (SN w wr (xl.take j))) (fun i _ => xl.length - (intOf i).toNat)
  case atStart => exact ⟨0, by omega, rfl, Hid_of (by simpa using H0.out)⟩
  case round =>
    obtain ⟨j, hj, rfl, H2⟩ := hrel
    clear H0
    by_cases hltj : j < xl.length
    · obtain ⟨b2, off2, rfl, d0⟩ := (HX.out.keep H2.out.bel).getI j hltj
      have hji : (j : Int) < (xl.length : Int) := by omega
      have HD : Hid (xl = xl.take j ++ xl[j] :: xl.drop (j + 1)) := Hid_of (by rw [← List.drop_eq_getElem_cons hltj, List.take_append_drop])
      have HU : Hid (xl.take (j + 1) = xl.take j ++ [xl[j]]) := Hid_of (List.take_succ_eq_append_getElem hltj)
      have HB := Hid_of H2.out.bel
      obtain ⟨x, hx⟩ : ∃ x, xl[j] = x := ⟨_, rfl⟩
      obtain ⟨q2, hq2⟩ : ∃ q2, xl.take j = q2 := ⟨_, rfl⟩
      rw [hx] at d0 HD HU
      rw [hq2] at HD HU H2
      obtain ⟨r2, hr2⟩ : ∃ r2, xl.drop (j + 1) = r2 := ⟨_, rfl⟩
      rw [hr2] at HD
      clear hx hq2 hr2
      have hid := isServer_any x wr
      by_cases hr : 0 ≤ x ∧ x ≤ 63
      · rw [decide_eq_true hr] at hid
        obtain ⟨i, hi0⟩ := Int.eq_ofNat_of_zero_le hr.1
        subst hi0
        have hi : i < 64 := by omega
        have hii : (i : Int) < 64 := by omega
        have cc := snv_cell H2.out.row i hi
        have cf := frozen_of_row wr w.heap.size i _ _ H2.out.row
        by_cases hm : (i : Int) ∈ q2
        · rw [decide_eq_true hm] at cc
          have HF : Hid (Mb.apB xl = false) := Hid_of (by rw [HD.out]; exact Mb.apB_bad fun h => h.2 hm)
          clear HD HU H2 HX hm
          go_wp2_with fail
          refine hid.mono ?_
          rintro e w2 ⟨rfl, rfl⟩
          clear hid
          go_wp2
          go_ret
          exact ⟨by rw [HF.out]; rfl, HB.out⟩
        · rw [decide_eq_false hm] at cc
          have HN := Hid_of (H2.out.set hi hm)
          clear HD H2 HX hm HB
          go_wp2_with fail
          refine hid.mono ?_
          rintro e w2 ⟨rfl, rfl⟩
          clear hid
          go_wp2
          go_roundw
          case rel => exact ⟨j + 1, by omega, by go_num, by rw [HU.out]; exact HN⟩
          case measure => simp [intOf]; omega
      · rw [decide_eq_false hr] at hid
        have HF : Hid (Mb.apB xl = false) := Hid_of (by rw [HD.out]; exact Mb.apB_bad fun h => hr h.1)
        clear HD HU H2 HX hr
        go_wp2_with fail
        refine hid.mono ?_
        rintro e w2 ⟨rfl, rfl⟩
        clear hid
        go_wp2
        go_ret
        exact ⟨by rw [HF.out]; rfl, HB.out⟩
    · have hjn : j = xl.length := by omega
      subst hjn
      have HF : Hid (Mb.apB xl = true ∧ Below w.heap.size w wr) := Hid_of ⟨Mb.apB_eq.2 (by have := H2.out.ap; rwa [List.take_length] at this), H2.out.bel⟩
      clear H2 HX
      go_wp2
      go_ret
      exact ⟨by rw [HF.out.1]; rfl, HF.out.2⟩
section
variable {w w' : World} {base b : Nat} {v : Value} {es : List E} {n : Int}
theorem e_box' (W : World) (x : E) : EAt (W.alloc (eO x)) W.heap.size 0 x := by
  obtain ⟨⟨c0, c1, c2, c3, c4, c5⟩, _⟩ := row6 (heap_alloc_last W (eO x))
  exact ⟨c0, c1, c2, c3, c4, c5⟩
set_option maxHeartbeats 1000000 in
theorem mayBe_any (x : E) (W : World) (hep : x.s.ep ≤ 9223372036854775807) (hl : x.s.l.length ≤ 1000000) (ha : AtL il W x.a x.s.l) : Calls Try.prog 61 #[eV x] W fun e w' => e = .returned (.bool (Sm.okB x.s)) ∧ Below W.heap.size W w' := by
  obtain ⟨c0, c1, c2, c3, c4, c5⟩ := e_box' W x
  have hap := apart_any x.a x.c x.s.l (W.alloc (eO x)) hl (ha.keep (bel1 W (eO x)))
  have HB := Hid_of (bel1 W (eO x))
  clear ha
  by_cases k0 : x.s.st < 1
  · have d0 : decide (x.s.st < 1) = true := decide_eq_true (by omega)
    rw [Sm.okB_no (s := x.s) (fun h => by obtain ⟨h1, h2, h3, h4, h5, h6, h7, h8⟩ := h; omega)]
    clear hap
    go_enter Try.func61, Try.ntmps61
    go_wp2
    go_ret
    exact ⟨rfl, HB.out⟩
  have d0 : decide (x.s.st < 1) = false := decide_eq_false (by omega)
  by_cases k1 : 3 < x.s.st
  · have d1 : decide (3 < x.s.st) = true := decide_eq_true (by omega)
    rw [Sm.okB_no (s := x.s) (fun h => by obtain ⟨h1, h2, h3, h4, h5, h6, h7, h8⟩ := h; omega)]
    clear hap
    go_enter Try.func61, Try.ntmps61
    go_wp2
    go_ret
    exact ⟨rfl, HB.out⟩
  have d1 : decide (3 < x.s.st) = false := decide_eq_false (by omega)
  by_cases k2 : x.s.ow < 0
  · have d2 : decide (x.s.ow < 0) = true := decide_eq_true (by omega)
    rw [Sm.okB_no (s := x.s) (fun h => by obtain ⟨h1, h2, h3, h4, h5, h6, h7, h8⟩ := h; omega)]
    clear hap
    go_enter Try.func61, Try.ntmps61
    go_wp2
    go_ret
    exact ⟨rfl, HB.out⟩
  have d2 : decide (x.s.ow < 0) = false := decide_eq_false (by omega)
  by_cases k3 : 16 ≤ x.s.ow
  · have d3 : decide (16 ≤ x.s.ow) = true := decide_eq_true (by omega)
    rw [Sm.okB_no (s := x.s) (fun h => by obtain ⟨h1, h2, h3, h4, h5, h6, h7, h8⟩ := h; omega)]
    clear hap
    go_enter Try.func61, Try.ntmps61
    go_wp2
    go_ret
    exact ⟨rfl, HB.out⟩
  have d3 : decide (16 ≤ x.s.ow) = false := decide_eq_false (by omega)
  by_cases k4 : x.s.ep < 1
  · have d4 : decide (x.s.ep < 1) = true := decide_eq_true (by omega)
    rw [Sm.okB_no (s := x.s) (fun h => by obtain ⟨h1, h2, h3, h4, h5, h6, h7, h8⟩ := h; omega)]
    clear hap
    go_enter Try.func61, Try.ntmps61
    go_wp2
    go_ret
    exact ⟨rfl, HB.out⟩
  have d4 : decide (x.s.ep < 1) = false := decide_eq_false (by omega)
  by_cases k5 : x.s.ln < 0
  · have d5 : decide (x.s.ln < 0) = true := decide_eq_true (by omega)
    rw [Sm.okB_no (s := x.s) (fun h => by obtain ⟨h1, h2, h3, h4, h5, h6, h7, h8⟩ := h; omega)]
    clear hap
    go_enter Try.func61, Try.ntmps61
    go_wp2
    go_ret
    exact ⟨rfl, HB.out⟩
  have d5 : decide (x.s.ln < 0) = false := decide_eq_false (by omega)
  by_cases k6 : 65536 < x.s.ln
  · have d6 : decide (65536 < x.s.ln) = true := decide_eq_true (by omega)
    rw [Sm.okB_no (s := x.s) (fun h => by obtain ⟨h1, h2, h3, h4, h5, h6, h7, h8⟩ := h; omega)]
    clear hap
    go_enter Try.func61, Try.ntmps61
    go_wp2
    go_ret
    exact ⟨rfl, HB.out⟩
  have d6 : decide (65536 < x.s.ln) = false := decide_eq_false (by omega)
  by_cases k7 : x.s.l.length < 2
  · have d7 : decide ((2 : Int) ≤ (x.s.l.length : Int)) = false := decide_eq_false (by omega)
    rw [Sm.okB_no (s := x.s) (fun h => by obtain ⟨h1, h2, h3, h4, h5, h6, h7, h8⟩ := h; omega)]
    clear hap
    go_enter Try.func61, Try.ntmps61
    go_wp2
    go_ret
    exact ⟨rfl, HB.out⟩
  have d7 : decide ((2 : Int) ≤ (x.s.l.length : Int)) = true := decide_eq_true (by omega)
  by_cases k8 : 8 < x.s.l.length
  · have d8 : decide ((x.s.l.length : Int) ≤ 8) = false := decide_eq_false (by omega)
    rw [Sm.okB_no (s := x.s) (fun h => by obtain ⟨h1, h2, h3, h4, h5, h6, h7, h8⟩ := h; omega)]
    clear hap
    go_enter Try.func61, Try.ntmps61
    go_wp2
    go_ret
    exact ⟨rfl, HB.out⟩
  have d8 : decide ((x.s.l.length : Int) ≤ 8) = true := decide_eq_true (by omega)
  rw [Sm.okB_ap (s := x.s) (by omega) (by omega) (by omega) (by omega) (by omega) (by omega)]
  go_enter Try.func61, Try.ntmps61
  go_wp2_with fail
  refine hap.mono ?_
  rintro e w1 ⟨rfl, hb⟩
  have HB2 := Hid_of (bel_up HB.out hb (Nat.le_refl _))
  clear hap hb HB
  go_wp2
  go_ret
  exact ⟨rfl, HB2.out⟩
theorem hasRoom_any (h : MI w base b v es n) (st : Int) : Calls Try.prog 62 #[.pointer (some ⟨b, 0, none⟩), .int .i64 st] w fun e w' => e = .returned (.bool (decide (es.length < 4096 ∧ (st = 3 ∨ n < 256)))) ∧ w' = w := by
  obtain ⟨a, cap, rfl, _⟩ := h.len
  obtain ⟨c0, c1, _, _⟩ := h.cells
  clear h
  by_cases k0 : es.length < 4096
  · have d0 : decide ((es.length : Int) < 4096) = true := decide_eq_true (by omega)
    by_cases k1 : st = 3
    · rw [decide_eq_true (show es.length < 4096 ∧ (st = 3 ∨ n < 256) from ⟨k0, .inl k1⟩)]
      have d1 : (st == 3) = true := beq_iff_eq.2 k1
      clear k1
      go_enter Try.func62, Try.ntmps62
      go_wp2
      go_ret
      exact ⟨rfl, rfl⟩
    · have d1 : (st == 3) = false := beq_false_of_ne k1
      rw [show decide (es.length < 4096 ∧ (st = 3 ∨ n < 256)) = decide (n < 256) by simp [k0, k1]]
      clear k1
      go_enter Try.func62, Try.ntmps62
      go_wp2
      go_ret
      exact ⟨rfl, rfl⟩
  · have d0 : decide ((es.length : Int) < 4096) = false := decide_eq_false (by omega)
    rw [decide_eq_false (show ¬ (es.length < 4096 ∧ (st = 3 ∨ n < 256)) from fun h => k0 h.1)]
    go_enter Try.func62, Try.ntmps62
    go_wp2
    go_ret
    exact ⟨rfl, rfl⟩
end
end Go.Proofs.Ytgcfpihfoekllaa
