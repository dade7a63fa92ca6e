/-
  So many of the steps are done.
-/
import Derived.Test.YticjilpomdahbaaFD
namespace Go.Proofs.Yticjilpomdahbaa
open Go.RowKit
open M (ofL ofL_size ofL_of)
set_option linter.unusedVariables false

/-- The device behind j steps of a Put, of a Delete. -/
def d4 (n : Nat) (P : List M.Pl) (a0 : Int) (t0 : ByteArray) (a1 : Int) (t1 : ByteArray) : Nat → List M.Pl
  | 0 => P
  | 1 => M.wrote n false P a0 t0
  | 2 => M.flush (M.wrote n false P a0 t0)
  | 3 => M.wrote n false (M.flush (M.wrote n false P a0 t0)) a1 t1
  | _ => M.flush (M.wrote n false (M.flush (M.wrote n false P a0 t0)) a1 t1)
def d2 (n : Nat) (P : List M.Pl) (a0 : Int) (t0 : ByteArray) : Nat → List M.Pl
  | 0 => P
  | 1 => M.wrote n false P a0 t0
  | _ => M.flush (M.wrote n false P a0 t0)
def dcode (c m : Nat) : Int := bif decide (m < c) then 16 else 0
/-- What 'do' leaves. -/
def DoOut (w0 w : World) (b s d : Nat) (F : Nat → Prop) (n : Nat) (P : List M.Pl) (L : List Fr.Sl) (r : Int) (cut : Bool) (e : Ending) (w' : World) : Prop := ∃ G, e = .returned (.int .i64 r) ∧ Sto w0 w' b s d G n P L cut ∧ Ch w (FP F b s) w' (FP G b s)

theorem row2_f {W : World} {g b k0 : Nat} (h : W.heap[g]? = some (.cells #[fw k0, ff b] 55 (0, 0))) : W.cell? ⟨g, 0, none⟩ = some (fw k0) ∧ W.cell? ⟨g, 1, none⟩ = some (ff b) := by
  refine ⟨?_, ?_⟩
  all_goals rw [cell_of_row W g _ _ _ _ h]; rfl
set_option maxRecDepth 100000 in
set_option maxHeartbeats 1000000 in
theorem do2 (w0 w : World) (b s d : Nat) (F : Nat → Prop) (n : Nat) (P : List M.Pl) (L : List Fr.Sl) (steps : Int) (g : Nat) (k0 : Nat) (a0 : Int) (t0 : ByteArray) (m : Nat) (h : Sto w0 w b s d F n P L false) (hg : w.heap[g]? = some (.cells #[fw k0, ff b] 55 (0, 0))) (hgF : ¬ F g) (hw0 : WB w F k0 b a0 t0) (z0 : M.wcode n false a0 t0 = 0) (y0 : t0.size ≤ 131072) (hm : m < 2 ∧ steps = m ∨ m = 2 ∧ ∀ j : Nat, j < 2 → steps ≠ j) :
    Calls Try.prog 20 #[.pointer (some ⟨b, 0, none⟩), .int .i64 steps, .slice (some ⟨g, 0, none⟩) 2 2] w fun e w' => DoOut w0 w b s d F n (d2 n P a0 t0 m) L (dcode 2 m) (decide (m < 2)) e w' := by
  have hgl : g < w.heap.size := (Array.getElem?_eq_some_iff.1 hg).1
  have hm4 : m ≤ 2 := by omega
  have HH := Hid_of h
  have HG := Hid_of hg
  have HG2 := Hid_of hg
  have HW0 := Hid_of hw0
  clear h hg hw0
  go_enter Try.func20, Try.ntmps20
  go_wp2
  go_loopw [12] (fun i wr => ∃ (j : Nat) (G : Nat → Prop), j ≤ m ∧ i = .int .i64 j ∧ Sto w0 wr b s d G n (d2 n P a0 t0 j) L false ∧ Ch w F wr G) (fun i _ => 2 - (intOf i).toNat)
  case atStart => exact ⟨0, F, by omega, rfl, HH.out, Ch.refl _ _⟩
  case round =>
    obtain ⟨j, G, hj, rfl, hS, hC⟩ := hrel
    have hgr := (hC.block g hgl hgF).trans HG.out
    obtain ⟨q0, q1⟩ := row2_f hgr
    have W0 := HW0.out.step hC
    have HS := Hid_of hS
    have HC := Hid_of hC
    obtain ⟨⟨r0, r1, r2⟩, rf⟩ := row3f hS.o.row
    have rf2 := rf 2
    clear hgr rf HG HH hS hC
    by_cases hjm : j < m
    · have hst : ∀ i : Nat, i = j → ((i : Int) = steps) = False := fun i hi => by
        rcases hm with ⟨_, e⟩ | ⟨_, e⟩
        · simp; omega
        · simp; intro e'; exact e j (by omega) (by omega)
      have hj' : j = 0 ∨ j = 1 := by omega
      rcases hj' with rfl | rfl
      · have hs0 := hst 0 rfl
        have hs0' : ((0 : Int) = steps) = False := hs0
        have hs1 : ((0 : Int) != steps) = true := by simp at hs0' ⊢; omega
        have hc := write_step HS.out W0 y0
        rw [z0] at hc
        clear hst hs0 hs0' hm W0 q1
        unfold fw at q0
        go_wp2_with fail
        refine hc.mono ?_
        rintro e w1 ⟨G1, rfl, hS1, hC1⟩
        have HR := Hid_of (And.intro hS1 (HC.out.trans hC1))
        clear hc hS1 hC1 r0 r1 r2 rf2 q0
        go_wp2
        go_roundw
        case rel => exact ⟨1, G1, by omega, by go_num, HR.out.1, HR.out.2⟩
        case measure => simp [intOf]
      · have hs0 := hst 1 rfl
        have hs0' : ((1 : Int) = steps) = False := hs0
        have hs1 : ((1 : Int) != steps) = true := by simp at hs0' ⊢; omega
        have hc := flush_step HS.out
        clear hst hs0 hs0' hm W0 q0
        unfold ff at q1
        go_wp2_with fail
        refine hc.mono ?_
        rintro e w1 ⟨G1, rfl, hS1, hC1⟩
        have HR := Hid_of (And.intro hS1 (HC.out.trans hC1))
        clear hc hS1 hC1 r0 r1 r2 rf2 q1
        go_wp2
        go_roundw
        case rel => exact ⟨2, G1, by omega, by go_num, HR.out.1, HR.out.2⟩
        case measure => simp [intOf]
    · obtain rfl : j = m := by omega
      by_cases hjc : j < 2
      · have e1 : steps = (j : Int) := by omega
        have HE : Hid (dcode 2 j = 16 ∧ decide (j < 2) = true) := by unfold dcode; rw [decide_eq_true hjc]; exact ⟨rfl, rfl⟩
        subst e1
        clear hm q0 q1 W0 hjm
        have hj' : j = 0 ∨ j = 1 := by omega
        rcases hj' with rfl | rfl
        · obtain ⟨q0, q1⟩ := row2_f ((HC.out.block g hgl hgF).trans HG2.out)
          unfold fw at q0
          clear q1
          go_wp2
          go_ret
          obtain ⟨e1, e2⟩ := HE.out
          rw [e1, e2]
          exact ⟨G, rfl, HS.out.cut_it.1, HC.out.wide.trans HS.out.cut_it.2⟩
        · obtain ⟨q0, q1⟩ := row2_f ((HC.out.block g hgl hgF).trans HG2.out)
          unfold ff at q1
          clear q0
          go_wp2
          go_ret
          obtain ⟨e1, e2⟩ := HE.out
          rw [e1, e2]
          exact ⟨G, rfl, HS.out.cut_it.1, HC.out.wide.trans HS.out.cut_it.2⟩
      · obtain rfl : j = 2 := by omega
        have HE : Hid (dcode 2 2 = 0 ∧ decide (2 < 2) = false) := ⟨rfl, rfl⟩
        clear hm q0 q1 W0 hjm r0 r1 r2 rf2
        go_wp2
        go_ret
        obtain ⟨e1, e2⟩ := HE.out
        rw [e1, e2]
        exact ⟨G, rfl, HS.out, HC.out.wide⟩
theorem row4_f {W : World} {g b k0 k1 : Nat} (h : W.heap[g]? = some (.cells #[fw k0, ff b, fw k1, ff b] 55 (0, 0))) : W.cell? ⟨g, 0, none⟩ = some (fw k0) ∧ W.cell? ⟨g, 1, none⟩ = some (ff b) ∧ W.cell? ⟨g, 2, none⟩ = some (fw k1) ∧ W.cell? ⟨g, 3, none⟩ = some (ff b) := by
  refine ⟨?_, ?_, ?_, ?_⟩
  all_goals rw [cell_of_row W g _ _ _ _ h]; rfl
set_option maxRecDepth 100000 in
set_option maxHeartbeats 1000000 in
theorem do4 (w0 w : World) (b s d : Nat) (F : Nat → Prop) (n : Nat) (P : List M.Pl) (L : List Fr.Sl) (steps : Int) (g : Nat) (k0 k1 : Nat) (a0 : Int) (t0 : ByteArray) (a1 : Int) (t1 : ByteArray) (m : Nat) (h : Sto w0 w b s d F n P L false) (hg : w.heap[g]? = some (.cells #[fw k0, ff b, fw k1, ff b] 55 (0, 0))) (hgF : ¬ F g) (hw0 : WB w F k0 b a0 t0) (hw1 : WB w F k1 b a1 t1) (z0 : M.wcode n false a0 t0 = 0) (z1 : M.wcode n false a1 t1 = 0) (y0 : t0.size ≤ 131072) (y1 : t1.size ≤ 131072) (hm : m < 4 ∧ steps = m ∨ m = 4 ∧ ∀ j : Nat, j < 4 → steps ≠ j) :
    Calls Try.prog 20 #[.pointer (some ⟨b, 0, none⟩), .int .i64 steps, .slice (some ⟨g, 0, none⟩) 4 4] w fun e w' => DoOut w0 w b s d F n (d4 n P a0 t0 a1 t1 m) L (dcode 4 m) (decide (m < 4)) e w' := by
  have hgl : g < w.heap.size := (Array.getElem?_eq_some_iff.1 hg).1
  have hm4 : m ≤ 4 := by omega
  have HH := Hid_of h
  have HG := Hid_of hg
  have HG2 := Hid_of hg
  have HW0 := Hid_of hw0
  have HW1 := Hid_of hw1
  clear h hg hw0 hw1
  go_enter Try.func20, Try.ntmps20
  go_wp2
  go_loopw [12] (fun i wr => ∃ (j : Nat) (G : Nat → Prop), j ≤ m ∧ i = .int .i64 j ∧ Sto w0 wr b s d G n (d4 n P a0 t0 a1 t1 j) L false ∧ Ch w F wr G) (fun i _ => 4 - (intOf i).toNat)
  case atStart => exact ⟨0, F, by omega, rfl, HH.out, Ch.refl _ _⟩
  case round =>
    obtain ⟨j, G, hj, rfl, hS, hC⟩ := hrel
    have hgr := (hC.block g hgl hgF).trans HG.out
    obtain ⟨q0, q1, q2, q3⟩ := row4_f hgr
    have W0 := HW0.out.step hC
    have W1 := HW1.out.step hC
    have HS := Hid_of hS
    have HC := Hid_of hC
    obtain ⟨⟨r0, r1, r2⟩, rf⟩ := row3f hS.o.row
    have rf2 := rf 2
    clear hgr rf HG HH hS hC
    by_cases hjm : j < m
    · have hst : ∀ i : Nat, i = j → ((i : Int) = steps) = False := fun i hi => by
        rcases hm with ⟨_, e⟩ | ⟨_, e⟩
        · simp; omega
        · simp; intro e'; exact e j (by omega) (by omega)
      have hj' : j = 0 ∨ j = 1 ∨ j = 2 ∨ j = 3 := by omega
      rcases hj' with rfl | rfl | rfl | rfl
      · have hs0 := hst 0 rfl
        have hs0' : ((0 : Int) = steps) = False := hs0
        have hs1 : ((0 : Int) != steps) = true := by simp at hs0' ⊢; omega
        have hc := write_step HS.out W0 y0
        rw [z0] at hc
        clear hst hs0 hs0' hm W0 W1 q1 q2 q3
        unfold fw at q0
        go_wp2_with fail
        refine hc.mono ?_
        rintro e w1 ⟨G1, rfl, hS1, hC1⟩
        have HR := Hid_of (And.intro hS1 (HC.out.trans hC1))
        clear hc hS1 hC1 r0 r1 r2 rf2 q0
        go_wp2
        go_roundw
        case rel => exact ⟨1, G1, by omega, by go_num, HR.out.1, HR.out.2⟩
        case measure => simp [intOf]
      · have hs0 := hst 1 rfl
        have hs0' : ((1 : Int) = steps) = False := hs0
        have hs1 : ((1 : Int) != steps) = true := by simp at hs0' ⊢; omega
        have hc := flush_step HS.out
        clear hst hs0 hs0' hm W0 W1 q0 q2 q3
        unfold ff at q1
        go_wp2_with fail
        refine hc.mono ?_
        rintro e w1 ⟨G1, rfl, hS1, hC1⟩
        have HR := Hid_of (And.intro hS1 (HC.out.trans hC1))
        clear hc hS1 hC1 r0 r1 r2 rf2 q1
        go_wp2
        go_roundw
        case rel => exact ⟨2, G1, by omega, by go_num, HR.out.1, HR.out.2⟩
        case measure => simp [intOf]
      · have hs0 := hst 2 rfl
        have hs0' : ((2 : Int) = steps) = False := hs0
        have hs1 : ((2 : Int) != steps) = true := by simp at hs0' ⊢; omega
        have hc := write_step HS.out W1 y1
        rw [z1] at hc
        clear hst hs0 hs0' hm W0 W1 q0 q1 q3
        unfold fw at q2
        go_wp2_with fail
        refine hc.mono ?_
        rintro e w1 ⟨G1, rfl, hS1, hC1⟩
        have HR := Hid_of (And.intro hS1 (HC.out.trans hC1))
        clear hc hS1 hC1 r0 r1 r2 rf2 q2
        go_wp2
        go_roundw
        case rel => exact ⟨3, G1, by omega, by go_num, HR.out.1, HR.out.2⟩
        case measure => simp [intOf]
      · have hs0 := hst 3 rfl
        have hs0' : ((3 : Int) = steps) = False := hs0
        have hs1 : ((3 : Int) != steps) = true := by simp at hs0' ⊢; omega
        have hc := flush_step HS.out
        clear hst hs0 hs0' hm W0 W1 q0 q1 q2
        unfold ff at q3
        go_wp2_with fail
        refine hc.mono ?_
        rintro e w1 ⟨G1, rfl, hS1, hC1⟩
        have HR := Hid_of (And.intro hS1 (HC.out.trans hC1))
        clear hc hS1 hC1 r0 r1 r2 rf2 q3
        go_wp2
        go_roundw
        case rel => exact ⟨4, G1, by omega, by go_num, HR.out.1, HR.out.2⟩
        case measure => simp [intOf]
    · obtain rfl : j = m := by omega
      by_cases hjc : j < 4
      · have e1 : steps = (j : Int) := by omega
        have HE : Hid (dcode 4 j = 16 ∧ decide (j < 4) = true) := by unfold dcode; rw [decide_eq_true hjc]; exact ⟨rfl, rfl⟩
        subst e1
        clear hm q0 q1 q2 q3 W0 W1 hjm
        have hj' : j = 0 ∨ j = 1 ∨ j = 2 ∨ j = 3 := by omega
        rcases hj' with rfl | rfl | rfl | rfl
        · obtain ⟨q0, q1, q2, q3⟩ := row4_f ((HC.out.block g hgl hgF).trans HG2.out)
          unfold fw at q0
          clear q1 q2 q3
          go_wp2
          go_ret
          obtain ⟨e1, e2⟩ := HE.out
          rw [e1, e2]
          exact ⟨G, rfl, HS.out.cut_it.1, HC.out.wide.trans HS.out.cut_it.2⟩
        · obtain ⟨q0, q1, q2, q3⟩ := row4_f ((HC.out.block g hgl hgF).trans HG2.out)
          unfold ff at q1
          clear q0 q2 q3
          go_wp2
          go_ret
          obtain ⟨e1, e2⟩ := HE.out
          rw [e1, e2]
          exact ⟨G, rfl, HS.out.cut_it.1, HC.out.wide.trans HS.out.cut_it.2⟩
        · obtain ⟨q0, q1, q2, q3⟩ := row4_f ((HC.out.block g hgl hgF).trans HG2.out)
          unfold fw at q2
          clear q0 q1 q3
          go_wp2
          go_ret
          obtain ⟨e1, e2⟩ := HE.out
          rw [e1, e2]
          exact ⟨G, rfl, HS.out.cut_it.1, HC.out.wide.trans HS.out.cut_it.2⟩
        · obtain ⟨q0, q1, q2, q3⟩ := row4_f ((HC.out.block g hgl hgF).trans HG2.out)
          unfold ff at q3
          clear q0 q1 q2
          go_wp2
          go_ret
          obtain ⟨e1, e2⟩ := HE.out
          rw [e1, e2]
          exact ⟨G, rfl, HS.out.cut_it.1, HC.out.wide.trans HS.out.cut_it.2⟩
      · obtain rfl : j = 4 := by omega
        have HE : Hid (dcode 4 4 = 0 ∧ decide (4 < 4) = false) := ⟨rfl, rfl⟩
        clear hm q0 q1 q2 q3 W0 W1 hjm r0 r1 r2 rf2
        go_wp2
        go_ret
        obtain ⟨e1, e2⟩ := HE.out
        rw [e1, e2]
        exact ⟨G, rfl, HS.out, HC.out.wide⟩
end Go.Proofs.Yticjilpomdahbaa
