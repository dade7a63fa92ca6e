import Derived.Test.YtgodnpngdbelhaaGreatGP11
set_option maxRecDepth 100000
set_option maxHeartbeats 8000000
set_option linter.unusedVariables false
set_option linter.unusedSimpArgs false
open Go.Proofs.Tryz
namespace Go.Proofs.YtgodnpngdbelhaaGreat.Np
open Go.RowKit Go.Maps
open Go.Proofs.YtgodnpngdbelhaaGreat.M (E V)
open Go.Proofs.YtgodnpngdbelhaaGreat.Np.M (fup)
theorem equal42 (a b c d : Int) (w : World) : (Op.equalIn 10000 42 (.agg #[.int .i64 a, .int .i64 b]) (.agg #[.int .i64 c, .int .i64 d])).run prog w = .ok (decide (a = c) && decide (b = d)) w := by
 have u3 := underlying3; have a3 := Tryz.isAgg3; have z3 := Tryz.sizeOf3; have hS : prog.underlying 42 = some (.struct (prog.fieldsOf 42)) := by kernel_rfl
 have hp : prog.stoodInHeld 42 = false := by kernel_rfl
 rw [show (10000 : Nat) = 9999 + 1 from rfl, run_equalIn_agg w 9999 42 _ _ hS hp]; simp only [Program.fieldsOf, underlying42]; by_cases h1 : a = c
 ·by_cases h2 : b = d
  ·subst h1 h2; go_simp
  ·subst h1; go_simp
 ·go_simp
theorem ne42 (a b c d : Int) (w : World) : (binOp .neq 42 (.agg #[.int .i64 a, .int .i64 b]) (.agg #[.int .i64 c, .int .i64 d])).run prog w = .ok (.bool (!(decide (a = c) && decide (b = d)))) w := by
 rw [run_neq_struct, equal42]; rfl
theorem prow_who (s : M.S) (mv : Option Nat) (j : Nat) (h : j < 7) : (prow s mv).setIfInBounds (6 + j) (.bool true) = prow { s with who := M.wset s.who j } mv := by
 obtain rfl | rfl | rfl | rfl | rfl | rfl | rfl : j = 0 ∨ j = 1 ∨ j = 2 ∨ j = 3 ∨ j = 4 ∨ j = 5 ∨ j = 6 := by omega
 all_goals simp [prow, M.wset]
theorem whoCell {w : World} {b : Nat} {s : M.S} {mv : Option Nat} (h : w.heap[b]? = some (.cells (prow s mv) 137 (0, 0))) (j : Nat) (hj : j < 7) : w.cell? ⟨b, 6 + j, none⟩ = some (.bool (s.who j)) := by
 obtain ⟨⟨c0, c1, c2, c3, c4, c5, c6, c7, c8, c9, c10, c11, c12, c13, c14, c15⟩, _⟩ := row16 h; obtain rfl | rfl | rfl | rfl | rfl | rfl | rfl : j = 0 ∨ j = 1 ∨ j = 2 ∨ j = 3 ∨ j = 4 ∨ j = 5 ∨ j = 6 := by omega
 ·exact c6
 ·exact c7
 ·exact c8
 ·exact c9
 ·exact c10
 ·exact c11
 ·exact c12
def PrOut (w : World) (base b : Nat) (mv : Option Nat) (s : M.S) (k : Int) (x : E) (l : List V) (e : Ending) (w' : World) : Prop := ∃ mv', e = .returned (.bool (M.prb s k x)) ∧ PI w' base b mv' (M.prs s k x l) ∧ Fr w (fpp b mv) w' (fpp b mv')
section
variable {w : World} {base b : Nat} {mv : Option Nat} {s : M.S}
theorem promise_any (h : PI w base b mv s) (ok : M.Ok s) (k : Int) (x : E) (a : Option Addr) (cap : Nat) (l : List V) (hat : AtL vl w a l) (hap : 0 < l.length → ∀ k, blk a k → ¬ fpp b mv k) (hcl : s.c + l.length ≤ 900000) : Calls prog 126 #[.pointer (some ⟨b, 0, none⟩), .int .i64 k, bV x, .slice a l.length cap] w (PrOut w base b mv s k x l) := by
 obtain ⟨W1, HW1⟩ := Nh (w.alloc (.cells #[.int .i64 x.i, .int .i64 x.t] 42)); have hb1 := Ab HW1; have hr1 := Ac HW1; have h1 := h.keep hb1; have HS : Hid (∀ w', Bl W1 w' → (w'.cell? ⟨w.heap.size, 0, none⟩ = some (.int .i64 x.i) ∧ w'.cell? ⟨w.heap.size, 1, none⟩ = some (.int .i64 x.t)) ∧ w'.cell? ⟨b, 0, none⟩ = some (.int .i64 s.n) ∧ w'.cell? ⟨b, 2, none⟩ = some (.int .i64 s.st) ∧ w'.cell? ⟨b, 3, none⟩ = some (.int .i64 s.b.i) ∧ w'.cell? ⟨b, 4, none⟩ = some (.int .i64 s.b.t)) := fun w' hw' => by
  obtain ⟨⟨c0, c1, c2, c3, c4, c5, c6, c7, c8, c9, c10, c11, c12, c13, c14, c15⟩, -⟩ := row16 (h1.keep hw').row; exact ⟨(row2 (Br hr1 hw')).1, c0, c2, c3, c4⟩
 have HNO : Hid (M.prm s k x = false → ∀ w', Bl W1 w' → PrOut w base b mv s k x l (.returned (.bool false)) w') := fun e w' hw' => ⟨mv, by unfold M.prb; rw [e]; rfl, by unfold M.prs; rw [e]; exact h1.keep hw', Fr.ofBelow (Bu hb1 hw' Lr)⟩; have HPM : Hid (M.prm s k x = (decide (s.st = 1) && (decide (x.i = s.b.i) && decide (x.t = s.b.t)) && decide (0 ≤ k) && decide (k < s.n) && !s.who k.toNat)) := rfl; have HP1 := Hf h1; have HB1 := Hf hb1; have hne := ne42 x.i x.t s.b.i s.b.t; have HAT := Hf hat; have HAP := Hf hap; have hn7 := ok.n7; clear h h1 hb1 hr1 hat hap; by_cases h0 : s.st = 1
 ·have d0 : (s.st != 1) = false := by simpa using h0
  have e0 : decide (s.st = 1) = true := decide_eq_true h0; cases hb : (decide (x.i = s.b.i) && decide (x.t = s.b.t)) with
  | false =>
   have HQ := Hf (HNO.out (by rw [HPM.out, hb, Bool.and_false]; rfl)); rw [hb] at hne; clear HNO HPM h0 e0 hb; go_enter func126, ntmps126; go_upto_region 1 with fail
   rw [HW1.out]; clear HW1; refine Wn fun wdb hBwd Hl => ?_; refine Tm 0 Hl ?_; simp only [Act.put, Pz]; refine Tm 1 Hl ?_; simp only [Act.put, Pz]; refine Tm 2 Hl ?_; simp only [Act.put, Pz]; refine Tm 3 Hl ?_; simp only [Act.put, Pz]; refine Tm 4 Hl ?_; simp only [Act.put, Pz]; refine Tm 5 Hl ?_; simp only [Act.put, Pz]; refine Tj 6 Hl ?_; simp only [Act.put, Pz]; refine Tm 7 Hl ?_; simp only [Act.put, Pz]; refine Tm 8 Hl ?_; simp only [Act.put, Pz]; refine Tm 9 Hl ?_; simp only [Act.put, Pz]; refine Tj 10 Hl ?_; simp only [Act.put, Pz]; refine Tm 11 Hl ?_; simp only [Act.put, Pz]; refine Tm 12 Hl ?_; simp only [Act.put, Pz]; refine Tm 13 Hl ?_; simp only [Act.put, Pz]; refine Tj 14 Hl ?_; simp only [Act.put, Pz]; refine Tm 15 Hl ?_; simp only [Act.put, Pz]; refine Tm 16 Hl ?_; simp only [Act.put, Pz]; refine Tm 17 Hl ?_; simp only [Act.put, Pz]; refine Ts 18 Hl ?_; simp only [Act.put, Pz]; refine Ts 19 Hl ?_; simp only [Act.put, Pz]; refine Tm 20 Hl ?_; simp only [Act.put, Pz]; refine Tm 21 Hl ?_; simp only [Act.put, Pz]; refine Ts 22 Hl ?_; simp only [Act.put, Pz]; refine Ts 23 Hl ?_; simp only [Act.put, Pz]; refine Ts 24 Hl ?_; simp only [Act.put, Pz]; refine Ts 25 Hl ?_; simp only [Act.put, Pz]; refine Ts 26 Hl ?_; simp only [Act.put, Pz]; refine Ts 27 Hl ?_; simp only [Act.put, Pz]; refine Tm 28 Hl ?_; simp only [Act.put, Pz]; refine Tm 29 Hl ?_; simp only [Act.put, Pz]; refine Ts 30 Hl ?_; simp only [Act.put, Pz]; refine Ts 31 Hl ?_; simp only [Act.put, Pz]
   refine Ts 32 Hl ?_
   simp only [Act.put, Pz]; refine Ts 33 Hl ?_; simp only [Act.put, Pz]; refine Ts 34 Hl ?_; simp only [Act.put, Pz]; refine Ts 35 Hl ?_; simp only [Act.put, Pz]; refine Tm 36 Hl ?_; simp only [Act.put, Pz]; refine Wd ?_; go_wp2; go_ret; exact HQ.out _ Hl
  | true =>
   rw [hb] at hne; by_cases h2 : k < 0
   ·have d2 : decide (k < 0) = true := decide_eq_true h2; have HQ := Hf (HNO.out (by rw [HPM.out, decide_eq_false (show ¬ 0 ≤ k by omega), Bool.and_false]; rfl)); clear HNO HPM h0 e0 hb h2; go_enter func126, ntmps126; go_upto_region 1 with fail
    rw [HW1.out]; clear HW1; refine Wn fun wdc hBwd Hl => ?_; refine Tm 0 Hl ?_; simp only [Act.put, Pz]; refine Tm 1 Hl ?_; simp only [Act.put, Pz]; refine Tm 2 Hl ?_; simp only [Act.put, Pz]; refine Tm 3 Hl ?_; simp only [Act.put, Pz]; refine Tm 4 Hl ?_; simp only [Act.put, Pz]; refine Tm 5 Hl ?_; simp only [Act.put, Pz]; refine Tj 6 Hl ?_; simp only [Act.put, Pz]; refine Tm 7 Hl ?_; simp only [Act.put, Pz]; refine Tm 8 Hl ?_; simp only [Act.put, Pz]; refine Tm 9 Hl ?_; simp only [Act.put, Pz]; refine Tj 10 Hl ?_; simp only [Act.put, Pz]; refine Tm 11 Hl ?_; simp only [Act.put, Pz]; refine Tm 12 Hl ?_; simp only [Act.put, Pz]; refine Tm 13 Hl ?_; simp only [Act.put, Pz]; refine Tj 14 Hl ?_; simp only [Act.put, Pz]; refine Tm 15 Hl ?_; simp only [Act.put, Pz]; refine Tm 16 Hl ?_; simp only [Act.put, Pz]; refine Tm 17 Hl ?_; simp only [Act.put, Pz]; refine Tm 18 Hl ?_; simp only [Act.put, Pz]; refine Tm 19 Hl ?_; simp only [Act.put, Pz]; refine Tm 20 Hl ?_; simp only [Act.put, Pz]; refine Tm 21 Hl ?_; simp only [Act.put, Pz]; refine Ts 22 Hl ?_; simp only [Act.put, Pz]; refine Ts 23 Hl ?_; simp only [Act.put, Pz]; refine Ts 24 Hl ?_; simp only [Act.put, Pz]; refine Ts 25 Hl ?_; simp only [Act.put, Pz]; refine Ts 26 Hl ?_; simp only [Act.put, Pz]; refine Ts 27 Hl ?_; simp only [Act.put, Pz]; refine Tm 28 Hl ?_; simp only [Act.put, Pz]; refine Tm 29 Hl ?_; simp only [Act.put, Pz]; refine Ts 30 Hl ?_; simp only [Act.put, Pz]; refine Ts 31 Hl ?_; simp only [Act.put, Pz]
    refine Ts 32 Hl ?_
    simp only [Act.put, Pz]; refine Ts 33 Hl ?_; simp only [Act.put, Pz]; refine Ts 34 Hl ?_; simp only [Act.put, Pz]; refine Ts 35 Hl ?_; simp only [Act.put, Pz]; refine Tm 36 Hl ?_; simp only [Act.put, Pz]; refine Wd ?_; go_wp2; go_ret; exact HQ.out _ Hl
   ·have d2 : decide (k < 0) = false := decide_eq_false h2; by_cases h3 : s.n ≤ k
    ·have d3 : decide (s.n ≤ k) = true := decide_eq_true h3; have HQ := Hf (HNO.out (by rw [HPM.out, decide_eq_false (show ¬ k < s.n by omega), Bool.and_false]; rfl)); clear HNO HPM h0 e0 hb h2 h3; go_enter func126, ntmps126; go_upto_region 1 with fail
     rw [HW1.out]; clear HW1; refine Wn fun wdd hBwd Hl => ?_; refine Tm 0 Hl ?_; simp only [Act.put, Pz]; refine Tm 1 Hl ?_; simp only [Act.put, Pz]; refine Tm 2 Hl ?_; simp only [Act.put, Pz]; refine Tm 3 Hl ?_; simp only [Act.put, Pz]; refine Tm 4 Hl ?_; simp only [Act.put, Pz]; refine Tm 5 Hl ?_; simp only [Act.put, Pz]; refine Tj 6 Hl ?_; simp only [Act.put, Pz]; refine Tm 7 Hl ?_; simp only [Act.put, Pz]; refine Tm 8 Hl ?_; simp only [Act.put, Pz]; refine Tm 9 Hl ?_; simp only [Act.put, Pz]; refine Tj 10 Hl ?_; simp only [Act.put, Pz]; refine Tm 11 Hl ?_; simp only [Act.put, Pz]; refine Tm 12 Hl ?_; simp only [Act.put, Pz]; refine Tm 13 Hl ?_; simp only [Act.put, Pz]; refine Tj 14 Hl ?_; simp only [Act.put, Pz]; refine Tm 15 Hl ?_; simp only [Act.put, Pz]; refine Tm 16 Hl ?_; simp only [Act.put, Pz]; refine Tm 17 Hl ?_; simp only [Act.put, Pz]; refine Tm 18 Hl ?_; simp only [Act.put, Pz]; refine Tm 19 Hl ?_; simp only [Act.put, Pz]; refine Tm 20 Hl ?_; simp only [Act.put, Pz]; refine Tm 21 Hl ?_; simp only [Act.put, Pz]; refine Tm 22 Hl ?_; simp only [Act.put, Pz]; refine Tm 23 Hl ?_; simp only [Act.put, Pz]; refine Tm 24 Hl ?_; simp only [Act.put, Pz]; refine Tm 25 Hl ?_; simp only [Act.put, Pz]; refine Tj 26 Hl ?_; simp only [Act.put, Pz]; refine Tm 27 Hl ?_; simp only [Act.put, Pz]; refine Tm 28 Hl ?_; simp only [Act.put, Pz]; refine Tm 29 Hl ?_; simp only [Act.put, Pz]; refine Ts 30 Hl ?_; simp only [Act.put, Pz]; refine Ts 31 Hl ?_; simp only [Act.put, Pz]
     refine Ts 32 Hl ?_
     simp only [Act.put, Pz]; refine Ts 33 Hl ?_; simp only [Act.put, Pz]; refine Ts 34 Hl ?_; simp only [Act.put, Pz]; refine Ts 35 Hl ?_; simp only [Act.put, Pz]; refine Tm 36 Hl ?_; simp only [Act.put, Pz]; refine Wd ?_; go_wp2; go_ret; exact HQ.out _ Hl
    ·have d3 : decide (s.n ≤ k) = false := decide_eq_false h3; obtain ⟨j, rfl⟩ : ∃ j : Nat, k = j := ⟨k.toNat, by omega⟩; have hj7 : j < 7 := by omega
     have hji : (j : Int) < 7 := by omega
     have HSW : Hid (∀ w', Bl W1 w' → (w'.cell? ⟨w.heap.size, 0, none⟩ = some (.int .i64 x.i) ∧ w'.cell? ⟨w.heap.size, 1, none⟩ = some (.int .i64 x.t)) ∧ w'.cell? ⟨b, 0, none⟩ = some (.int .i64 s.n) ∧ w'.cell? ⟨b, 2, none⟩ = some (.int .i64 s.st) ∧ w'.cell? ⟨b, 3, none⟩ = some (.int .i64 s.b.i) ∧ w'.cell? ⟨b, 4, none⟩ = some (.int .i64 s.b.t) ∧ w'.cell? ⟨b, 6 + j, none⟩ = some (.bool (s.who j))) := fun w' hw' =>
      have hh := HS.out w' hw'
      ⟨hh.1, hh.2.1, hh.2.2.1, hh.2.2.2.1, hh.2.2.2.2, whoCell (HP1.out.keep hw').row j hj7⟩
     rw [Int.toNat_natCast] at HPM; have HE1 := Hf h0; cases hw : s.who j with
     | true =>
      have HQ := Hf (HNO.out (by rw [HPM.out, hw, Bool.not_true, Bool.and_false])); rw [hw] at HSW; clear HNO HPM h0 e0 hb h2 h3 hw; go_enter func126, ntmps126; go_upto_region 1 with fail
      rw [HW1.out]; clear HW1; refine Wn fun wde hBwd Hl => ?_; refine Tm 0 Hl ?_; simp only [Act.put, Pz]; refine Tm 1 Hl ?_; simp only [Act.put, Pz]; refine Tm 2 Hl ?_; simp only [Act.put, Pz]; refine Tm 3 Hl ?_; simp only [Act.put, Pz]; refine Tm 4 Hl ?_; simp only [Act.put, Pz]; refine Tm 5 Hl ?_; simp only [Act.put, Pz]; refine Tk 6 ?pB3 ?vB3 ?yB3 Hl ?rB3
      case yB3 => intro wq hq; have g := HSW.out wq hq; go_simp; try with_reducible rfl
      simp only [Act.put, Pz]; refine Tm 7 Hl ?_; simp only [Act.put, Pz]; refine Tm 8 Hl ?_; simp only [Act.put, Pz]; refine Tm 9 Hl ?_; simp only [Act.put, Pz]; refine Tk 10 ?pB7 ?vB7 ?yB7 Hl ?rB7
      case yB7 => intro wq hq; have g := HSW.out wq hq; go_simp; try with_reducible rfl
      simp only [Act.put, Pz]; refine Tm 11 Hl ?_; simp only [Act.put, Pz]; refine Tm 12 Hl ?_; simp only [Act.put, Pz]; refine Tm 13 Hl ?_; simp only [Act.put, Pz]; refine Tk 14 ?pCB ?vCB ?yCB Hl ?rCB
      case yCB => intro wq hq; have g := HSW.out wq hq; go_simp; try with_reducible rfl
      simp only [Act.put, Pz]; refine Tm 15 Hl ?_; simp only [Act.put, Pz]; refine Tm 16 Hl ?_; simp only [Act.put, Pz]; refine Tm 17 Hl ?_; simp only [Act.put, Pz]; refine Tm 18 Hl ?_; simp only [Act.put, Pz]; refine Tm 19 Hl ?_; simp only [Act.put, Pz]; refine Tm 20 Hl ?_; simp only [Act.put, Pz]; refine Tm 21 Hl ?_; simp only [Act.put, Pz]; refine Tm 22 Hl ?_; simp only [Act.put, Pz]; refine Tm 23 Hl ?_; simp only [Act.put, Pz]; refine Tm 24 Hl ?_; simp only [Act.put, Pz]; refine Tm 25 Hl ?_; simp only [Act.put, Pz]; refine Tk 26 ?pCN ?vCN ?yCN Hl ?rCN
      case yCN => intro wq hq; have g := HSW.out wq hq; go_simp; try with_reducible rfl
      simp only [Act.put, Pz]; refine Tm 27 Hl ?_; simp only [Act.put, Pz]; refine Tm 28 Hl ?_; simp only [Act.put, Pz]; refine Tm 29 Hl ?_; simp only [Act.put, Pz]; refine Tm 30 Hl ?_; simp only [Act.put, Pz]; refine Tm 31 Hl ?_; simp only [Act.put, Pz]; refine Tm 32 Hl ?_; simp only [Act.put, Pz]; refine Tm 33 Hl ?_; simp only [Act.put, Pz]; refine Tm 34 Hl ?_; simp only [Act.put, Pz]; refine Tk 35 ?pCW ?vCW ?yCW Hl ?rCW
      case yCW => intro wq hq; have g := HSW.out wq hq; go_simp; try with_reducible rfl
      simp only [Act.put, Pz]; refine Tm 36 Hl ?_; simp only [Act.put, Pz]; refine Wd ?_; go_wp2; go_ret; exact HQ.out _ Hl
     | false =>
      have HPM : Hid (M.prm s j x = true) := Hf (by rw [HPM.out, hb, hw, e0, decide_eq_true (show (0 : Int) ≤ (j : Int) by omega), decide_eq_true (show (j : Int) < s.n by omega)]; rfl); rw [hw] at HSW; obtain ⟨s1, HS1⟩ := Nh ({ s with who := M.wset s.who j })
      have HOK1 : Hid (M.Ok s1) := Hf (by rw [← HS1.out]; exact ok.who _); clear HNO h0 e0 hb h2 h3 hw; go_enter func126, ntmps126; go_upto_region 1 with fail
      rw [HW1.out]; clear HW1; refine Wn fun wdf hBwd Hl => ?_; refine Tm 0 Hl ?_; simp only [Act.put, Pz]; refine Tm 1 Hl ?_; simp only [Act.put, Pz]; refine Tm 2 Hl ?_; simp only [Act.put, Pz]; refine Tm 3 Hl ?_; simp only [Act.put, Pz]; refine Tm 4 Hl ?_; simp only [Act.put, Pz]; refine Tm 5 Hl ?_; simp only [Act.put, Pz]; refine Tk 6 ?pCe ?vCe ?yCe Hl ?rCe
      case yCe => intro wq hq; have g := HSW.out wq hq; go_simp; try with_reducible rfl
      simp only [Act.put, Pz]; refine Tm 7 Hl ?_; simp only [Act.put, Pz]; refine Tm 8 Hl ?_; simp only [Act.put, Pz]; refine Tm 9 Hl ?_; simp only [Act.put, Pz]; refine Tk 10 ?pCi ?vCi ?yCi Hl ?rCi
      case yCi => intro wq hq; have g := HSW.out wq hq; go_simp; try with_reducible rfl
      simp only [Act.put, Pz]; refine Tm 11 Hl ?_; simp only [Act.put, Pz]; refine Tm 12 Hl ?_; simp only [Act.put, Pz]; refine Tm 13 Hl ?_; simp only [Act.put, Pz]; refine Tk 14 ?pCm ?vCm ?yCm Hl ?rCm
      case yCm => intro wq hq; have g := HSW.out wq hq; go_simp; try with_reducible rfl
      simp only [Act.put, Pz]; refine Tm 15 Hl ?_; simp only [Act.put, Pz]; refine Tm 16 Hl ?_; simp only [Act.put, Pz]; refine Tm 17 Hl ?_; simp only [Act.put, Pz]; refine Tm 18 Hl ?_; simp only [Act.put, Pz]; refine Tm 19 Hl ?_; simp only [Act.put, Pz]; refine Tm 20 Hl ?_; simp only [Act.put, Pz]; refine Tm 21 Hl ?_; simp only [Act.put, Pz]; refine Tm 22 Hl ?_; simp only [Act.put, Pz]; refine Tm 23 Hl ?_; simp only [Act.put, Pz]; refine Tm 24 Hl ?_; simp only [Act.put, Pz]; refine Tm 25 Hl ?_; simp only [Act.put, Pz]; refine Tk 26 ?pCy ?vCy ?yCy Hl ?rCy
      case yCy => intro wq hq; have g := HSW.out wq hq; go_simp; try with_reducible rfl
      simp only [Act.put, Pz]; refine Tm 27 Hl ?_; simp only [Act.put, Pz]; refine Tm 28 Hl ?_; simp only [Act.put, Pz]; refine Tm 29 Hl ?_; simp only [Act.put, Pz]; refine Tm 30 Hl ?_; simp only [Act.put, Pz]; refine Tm 31 Hl ?_; simp only [Act.put, Pz]; refine Tm 32 Hl ?_; simp only [Act.put, Pz]; refine Tm 33 Hl ?_; simp only [Act.put, Pz]; refine Tm 34 Hl ?_; simp only [Act.put, Pz]; refine Tk 35 ?pC7 ?vC7 ?yC7 Hl ?rC7
      case yC7 => intro wq hq; have g := HSW.out wq hq; go_simp; try with_reducible rfl
      simp only [Act.put, Pz]; refine Tm 36 Hl ?_; simp only [Act.put, Pz]; refine Wd ?_; have h1d := HP1.out.keep Hl; have hjj : decide ((j : Int) < 0) = false := decide_eq_false (by omega); obtain ⟨⟨c0, c1, c2, c3, c4, c5, c6, c7, c8, c9, c10, c11, c12, c13, c14, c15⟩, cf⟩ := row16 (h1d.row); have fj := cf (6 + j); have cj := whoCell h1d.row j hj7; have h2 : PI (wdf.setCell ⟨b, 6 + j, none⟩ (.bool true)) base b mv s1 := h1d.cell (6 + j) _ (by rw [← HS1.out]; exact prow_who s mv j hj7) (by rw [← HS1.out]) (by rw [← HS1.out]); have hf2 : Fr w (fpp b mv) (wdf.setCell ⟨b, 6 + j, none⟩ (.bool true)) (fpp b mv) := fr_set (Fr.ofBelow (Bu HB1.out Hl Lr)) (.inl rfl) (6 + j) _; obtain ⟨W2, HW2⟩ := Nh (wdf.setCell ⟨b, 6 + j, none⟩ (.bool true)); rw [HW2.out] at h2 hf2; have HP2 := Hf h2; have HF2 := Hf hf2; clear h1d h2 hf2 cf c0 c1 c2 c3 c4 c5 c6 c7 c8 c9 c10 c11 c12 c13 c14 c15 Hl hBwd HS HSW; go_upto_region 4 with fail
      rw [HW2.out]; clear HW2 fj cj; go_wp2_with fail; go_loopw [55] (fun i wr => ∃ q : Nat, q ≤ l.length ∧ i = .int .i64 q ∧ ∃ mv', PI wr base b mv' (M.cntL s1 (l.take q)) ∧ Fr w (fpp b mv) wr (fpp b mv')) (fun i _ => l.length - (intOf i).toNat)
      case atStart => exact ⟨0, by omega, rfl, mv, by rw [List.take_zero]; exact HP2.out, HF2.out⟩
      case round =>
       obtain ⟨q, hq, rfl, mv', hpr, hfr⟩ := hrel; by_cases hlt : q < l.length
       ·have hqi : (q : Int) < (l.length : Int) := by omega
        have hat' : AtL vl wr a l := HAT.out.keepBut (fun k hk hb => hfr.block k hk (HAP.out (by omega) k hb)); obtain ⟨ba, oa, rfl, x0, x1, x2, x3⟩ := hat'.getV q hlt; have HT := Hf (M.cntL_take s1 l q hlt); have hcq : (M.cntL s1 (l.take q)).c < 1000000 := by
         have h1 := (M.cntL_keep (l.take q) s1).2.2.2.2.2.2; have h2 : s1.c = s.c := by rw [← HS1.out]
         rw [List.length_take] at h1; omega
        have okq := HOK1.out.cntL (l.take q); obtain ⟨v, HV⟩ := Nh (l[q]); rw [HV.out] at x0 x1 x2 x3 HT; obtain ⟨W5, HW5⟩ := Nh (wr.alloc (.cells #[.int .i64 v.s, .int .i64 v.b.i, .int .i64 v.b.t, .string v.v] 126)); have hb5 := Ab HW5; have hr5 := Ac HW5; obtain ⟨y0, -⟩ := row4 hr5; have cc := count_any (hpr.keep hb5) okq hcq v; have HF5 := Hf (hfr.up hb5); clear hpr hfr hat' hb5 hr5 okq hcq HV; go_upto_region 7 with fail
        rw [HW5.out]; clear HW5 x0 x1 x2 x3; go_wp2_with fail; refine cc.mono ?_; clear cc; rintro e w6 ⟨mv6, rfl, h6, hf6⟩; have HP6 := Hf h6; have HF6 := Hf (HF5.out.trans hf6); clear h6 hf6; go_wp2; go_roundw
        case rel => exact ⟨q + 1, by omega, by go_num, mv6, by rw [HT.out]; exact HP6.out, HF6.out⟩
        case measure => simp [intOf]; omega
       ·obtain rfl : q = l.length := by omega
        rw [List.take_of_length_le Lr] at hpr; have HPr := Hf hpr; have HFr := Hf hfr; obtain ⟨s2, HS2⟩ := Nh (M.cntL s1 l); rw [HS2.out] at HPr; have HN2 : Hid (s2.n = s.n) := Hf (by rw [← HS2.out, (M.cntL_keep l s1).1, ← HS1.out]); have HW2 : Hid (s2.who = M.wset s.who j) := Hf (by rw [← HS2.out, (M.cntL_keep l s1).2.2.2.2.2.1, ← HS1.out]); have HS9 : Hid (∀ wq, Bl wr wq → wq.cell? ⟨b, 0, none⟩ = some (.int .i64 s2.n)) := fun wq hq => (row16 (HPr.out.keep hq).row).1.1; have cQ := quorum_any s2.n; obtain ⟨qn, HQN⟩ := Nh (M.quo s2.n); rw [HQN.out] at cQ; clear hpr hfr hlt hq HAT; by_cases hge : qn ≤ ((M.wcnt s2.who 7 : Nat) : Int)
        ·have dge : decide (((M.wcnt s2.who 7 : Nat) : Int) < qn) = false := decide_eq_false (by omega); have HE : Hid (M.enough s j = true) := Hf (by unfold M.enough; rw [← HN2.out, HQN.out, Int.toNat_natCast, ← HW2.out]; exact decide_eq_true hge); clear hge; go_upto_region 9 with fail
         refine Wn fun wdf9 hBwd Hl => ?_; have h9 := HPr.out.keep hBwd; have cP := promises_any h9; refine Tm 0 Hl ?_; refine Tm 2 Hl ?_; refine Tm 3 Hl ?_; refine Tm 4 Hl ?_; refine Tk 5 ?pDD ?vDD ?yDD Hl ?rDD
         case yDD => intro wq hq; have g := HS9.out wq hq; go_simp; try with_reducible rfl
         simp only [Act.put, Pz]; refine Rd 1 ?pDE ?sDE; intro K hK; go_simp; refine cP.mono ?_; rintro e v1 ⟨rfl, hq1⟩; obtain rfl := hq1.symm; clear hq1; refine hK.out _ _ Hl fun Hl => ?_; refine Rd 6 ?pDF ?sDF; intro K hK; go_simp; refine (cQ _).mono ?_; rintro e v6 ⟨rfl, hq6⟩; obtain rfl := hq6.symm; clear hq6; refine hK.out _ _ Hl fun Hl => ?_; refine Tm 7 Hl ?_; simp only [Act.put, Pz]; refine Wd ?_; have h9s : PI (wdf9.setCell ⟨b, 2, none⟩ (.int .i64 2)) base b mv' { s2 with st := 2 } := h9.cell 2 _ rfl rfl rfl
         have HF9 : Hid (Fr w (fpp b mv) (wdf9.setCell ⟨b, 2, none⟩ (.int .i64 2)) (fpp b mv')) := Hf ((HFr.out.up Hl).trans (fr_cell 2 _)); obtain ⟨⟨c0, c1, c2, c3, c4, c5, c6, c7, c8, c9, c10, c11, c12, c13, c14, c15⟩, cf⟩ := row16 h9.row; have f2 := cf 2; have HP9 := Hf h9s; clear h9 h9s cf Hl hBwd HS9 cP cQ; go_wp2; go_ret; exact ⟨mv', by unfold M.prb; rw [HPM.out, HE.out]; rfl, by unfold M.prs; rw [HPM.out, HE.out, Int.toNat_natCast, if_pos rfl, if_pos rfl, HS1.out, HS2.out]; exact HP9.out, HF9.out⟩
        ·have dge : decide (((M.wcnt s2.who 7 : Nat) : Int) < qn) = true := decide_eq_true (by omega); have HE : Hid (M.enough s j = false) := Hf (by unfold M.enough; rw [← HN2.out, HQN.out, Int.toNat_natCast, ← HW2.out]; exact decide_eq_false hge); clear hge; go_upto_region 9 with fail
         refine Wn fun wdf8 hBwd Hl => ?_; have h9 := HPr.out.keep hBwd; have cP := promises_any h9; refine Tm 0 Hl ?_; refine Tm 2 Hl ?_; refine Tm 3 Hl ?_; refine Tm 4 Hl ?_; refine Tk 5 ?pDL ?vDL ?yDL Hl ?rDL
         case yDL => intro wq hq; have g := HS9.out wq hq; go_simp; try with_reducible rfl
         simp only [Act.put, Pz]; refine Rd 1 ?pDM ?sDM; intro K hK; go_simp; refine cP.mono ?_; rintro e v1 ⟨rfl, hq1⟩; obtain rfl := hq1.symm; clear hq1; refine hK.out _ _ Hl fun Hl => ?_; refine Rd 6 ?pDN ?sDN; intro K hK; go_simp; refine (cQ _).mono ?_; rintro e v6 ⟨rfl, hq6⟩; obtain rfl := hq6.symm; clear hq6; refine hK.out _ _ Hl fun Hl => ?_; refine Tm 7 Hl ?_; simp only [Act.put, Pz]; refine Wd ?_; have HP9 := Hf h9; have HF9 := Hf (HFr.out.up Hl); clear h9 Hl hBwd HS9 cP cQ; go_wp2; go_ret; exact ⟨mv', by unfold M.prb; rw [HPM.out, HE.out]; rfl, by unfold M.prs; rw [HPM.out, HE.out, Int.toNat_natCast, if_pos rfl, if_neg (by simp), HS1.out, HS2.out]; exact HP9.out, HF9.out⟩
 ·have d0 : (s.st != 1) = true := by simpa using h0
  have HQ := Hf (HNO.out (by rw [HPM.out, decide_eq_false h0]; rfl)); clear HNO HPM h0; go_enter func126, ntmps126; go_upto_region 1 with fail
  rw [HW1.out]; clear HW1; refine Wn fun wda hBwd Hl => ?_; refine Tm 0 Hl ?_; simp only [Act.put, Pz]; refine Tm 1 Hl ?_; simp only [Act.put, Pz]; refine Tm 2 Hl ?_; simp only [Act.put, Pz]; refine Tm 3 Hl ?_; simp only [Act.put, Pz]; refine Tm 4 Hl ?_; simp only [Act.put, Pz]; refine Tm 5 Hl ?_; simp only [Act.put, Pz]; refine Tj 6 Hl ?_; simp only [Act.put, Pz]; refine Tm 7 Hl ?_; simp only [Act.put, Pz]; refine Tm 8 Hl ?_; simp only [Act.put, Pz]; refine Tm 9 Hl ?_; simp only [Act.put, Pz]; refine Ts 10 Hl ?_; simp only [Act.put, Pz]; refine Ts 11 Hl ?_; simp only [Act.put, Pz]; refine Ts 12 Hl ?_; simp only [Act.put, Pz]; refine Ts 13 Hl ?_; simp only [Act.put, Pz]; refine Ts 14 Hl ?_; simp only [Act.put, Pz]; refine Ts 15 Hl ?_; simp only [Act.put, Pz]; refine Tm 16 Hl ?_; simp only [Act.put, Pz]; refine Tm 17 Hl ?_; simp only [Act.put, Pz]; refine Ts 18 Hl ?_; simp only [Act.put, Pz]; refine Ts 19 Hl ?_; simp only [Act.put, Pz]; refine Tm 20 Hl ?_; simp only [Act.put, Pz]; refine Tm 21 Hl ?_; simp only [Act.put, Pz]; refine Ts 22 Hl ?_; simp only [Act.put, Pz]; refine Ts 23 Hl ?_; simp only [Act.put, Pz]; refine Ts 24 Hl ?_; simp only [Act.put, Pz]; refine Ts 25 Hl ?_; simp only [Act.put, Pz]; refine Ts 26 Hl ?_; simp only [Act.put, Pz]; refine Ts 27 Hl ?_; simp only [Act.put, Pz]; refine Tm 28 Hl ?_; simp only [Act.put, Pz]; refine Tm 29 Hl ?_; simp only [Act.put, Pz]; refine Ts 30 Hl ?_; simp only [Act.put, Pz]; refine Ts 31 Hl ?_; simp only [Act.put, Pz]
  refine Ts 32 Hl ?_
  simp only [Act.put, Pz]; refine Ts 33 Hl ?_; simp only [Act.put, Pz]; refine Ts 34 Hl ?_; simp only [Act.put, Pz]; refine Ts 35 Hl ?_; simp only [Act.put, Pz]; refine Tm 36 Hl ?_; simp only [Act.put, Pz]; refine Wd ?_; go_wp2; go_ret; exact HQ.out _ Hl
end
theorem val_get (o : Option V) : (o.getD zo).v = M.val o := by cases o <;> rfl
theorem field126 (a b c : Int) (v : ByteArray) (w : World) : (Instr.field 126 (.agg #[.int .i64 a, .int .i64 b, .int .i64 c, .string v]) 2).run prog w = .ok (.string v) w := by kernel_rfl
theorem app1 {w : World} {base : Nat} {v : Value} {l : List V} (x : V) (ho : OwnL vl 126 w base v l) (hb : base ≤ w.heap.size) (hl : l.length + 1 ≤ 1000000) :
  ∃ a' c' w', (∀ ty, (Builtin.append_ #[43, 43] ty #[v, .slice (some ⟨w.heap.size, 0, none⟩) 1 1]).run prog (w.alloc (.cells #[.int .i64 x.s, .int .i64 x.b.i, .int .i64 x.b.t, .string x.v] 126)) = .ok (.slice a' (l.length + 1) c') w') ∧ OwnL vl 126 w' base (.slice a' (l.length + 1) c') (l ++ [x]) ∧ Rw w v w' (.slice a' (l.length + 1) c') := by
 obtain ⟨a', c', w4, hrun, ho4, hr4⟩ := run_appL_ty tiV (w.alloc (.cells #[.int .i64 x.s, .int .i64 x.b.i, .int .i64 x.b.t, .string x.v] 126)) base v l [x] w.heap.size 0 1 1 (ho.keep (bel1 w _)) (atL_one (t := 126) (heap_alloc_last w _)) rfl (by simp; omega) (by simp; omega); exact ⟨a', c', w4, hrun, ho4, (Rw.ofBelow _ (bel1 w _)).trans hr4⟩
def FlOut (w : World) (base b : Nat) (mv : Option Nat) (s : M.S) (e : Ending) (w' : World) : Prop := ∃ mv' u, e = .returned u ∧ OwnL vl 126 w' w.heap.size u (M.flo s) ∧ PI w' base b mv' (M.fls s) ∧ Fr w (fpp b mv) w' (fpp b mv')
section
variable {w : World} {base b : Nat} {mv : Option Nat} {s : M.S}
theorem fill_any (h : PI w base b mv s) (ok : M.Ok s) : Calls prog 127 #[.pointer (some ⟨b, 0, none⟩)] w (FlOut w base b mv s) := by
 obtain ⟨c0, cf⟩ := row16 h.row; have HP := Hf h; have HOK := Hf ok; by_cases h0 : s.st = 2
 ·have d0 : (s.st != 2) = false := by simpa using h0
  have HO : Hid (M.flo s = M.fl s (s.fin - s.ask).toNat) := Hf (by unfold M.flo; rw [if_pos h0]); have HSF : Hid (M.fls s = { s with st := 3, f := fun _ => none }) := Hf (by unfold M.fls; rw [if_pos h0])
  have ha0 := ok.a0; have haf := ok.af; have hfx : s.fin ≤ 1024 := by have := ok.fx; have := ok.x1; omega
  clear h ok h0 cf; go_enter func127, ntmps127; go_wp2_with fail; go_loopw [3, 4] (fun v i wr => ∃ j : Nat, j ≤ (s.fin - s.ask).toNat ∧ i = .int .i64 (s.ask + j) ∧ OwnL vl 126 wr w.heap.size v (M.fl s j) ∧ Bl w wr) (fun v i _ => (s.fin - intOf i).toNat)
  case atStart => exact ⟨0, Nat.zero_le _, by simp, OwnL.nil _ _ _, Below.refl _ _⟩
  case round =>
   obtain ⟨j, hj, rfl, ho, hbl⟩ := hrel; have hpr := HP.out.keep hbl; obtain ⟨p0, pf⟩ := row16 hpr.row; have hlen := M.fl_len s j; by_cases hlt : s.ask + j < s.fin
   ·have hl := hpr.map.look (s.ask + j) (wf_small (by omega) (by omega)); have hvv := val_get (s.f (s.ask + j)); have hsz : ((s.f (s.ask + j)).getD zo).v.size ≤ 4096 := by
     cases hf : s.f (s.ask + j) with
     | none => show (0 : Nat) ≤ 4096; omega
     | some u => exact HOK.out.sz _ u hf
    have HS1 := Hf (M.fl_succ s j); have HF1 : Hid (M.fl1 s j = ⟨s.ask + j, s.b, ((s.f (s.ask + j)).getD zo).v⟩) := Hf (by unfold M.fl1; rw [hvv]); obtain ⟨u, HU⟩ := Nh ((s.f (s.ask + j)).getD zo); rw [HU.out] at hl hsz HF1; obtain ⟨k, HK⟩ : ∃ k : Int, Hid (s.ask + j = k) := ⟨_, Hf rfl⟩; have hadd : IntKind.i64.wrap (s.ask + j + 1) = s.ask + j + 1 := by rw [IntKind.wrap_i64]; omega
    have hk1 : s.ask + ((j + 1 : Nat) : Int) = s.ask + j + 1 := by omega
    have cv := vote_any hpr (s.ask + j) u.v (by omega); have HO4 := Hf ho; have HB4 := Hf hbl; obtain ⟨a1, c1', hv1, -⟩ := ho.at; rw [hlen] at hv1; subst hv1; have hl : (Instr.lookup 135 (.map mv) (.int .i64 (s.ask + j)) false).run prog wr = .ok (.agg #[.int .i64 u.s, .int .i64 u.b.i, .int .i64 u.b.t, .string u.v]) wr := hl; have hfd := field126 u.s u.b.i u.b.t u.v; clear HU HK hvv pf hpr ho hbl c0; go_wp2_with fail; refine cv.mono ?_; clear cv hl hfd p0; rintro e w2 ⟨rfl, hb2⟩; have ho2 := HO4.out.keep hb2; obtain ⟨a', c', w4, hrun, ho4, hr4⟩ := app1 ⟨s.ask + j, s.b, u.v⟩ ho2 (by have := HB4.out.size; have := hb2.size; omega) (by rw [hlen]; omega); rw [hlen] at hrun ho4 hr4; simp only at hrun; have hr6 : Rw wr (.slice a1 j c1') w4 (.slice a' (j + 1) c') := (Rw.ofBelow _ hb2).trans hr4; have HB5 : Hid (Bl w w4) := HB4.out.trans (hr6.below (fun q hq => (HO4.out.lt hq).1) HB4.out.size); have HO5 := Hf ho4; clear ho2 ho4 hr4 hr6 hb2 HO4 HB4; go_wp2_with (at_builtin; refine wpList_append_known rfl _ _ 43 rfl _ _ rfl rfl _ _ (hrun _) ?_); go_roundw
    case rel => exact ⟨j + 1, by omega, by rw [hk1], by rw [HS1.out, HF1.out]; exact HO5.out, HB5.out⟩
    case measure => simp [intOf]; omega
   ·obtain rfl : j = (s.fin - s.ask).toNat := by omega
    have hnl : decide (s.ask + ((s.fin - s.ask).toNat : Int) < s.fin) = false := decide_eq_false hlt; have h3 : PI (wr.setCell ⟨b, 2, none⟩ (.int .i64 3)) base b mv { s with st := 3 } := hpr.cell 2 _ rfl rfl rfl
    have h4 : PI ((wr.setCell ⟨b, 2, none⟩ (.int .i64 3)).setCell ⟨b, 13, none⟩ (.map none)) base b none { s with st := 3, f := fun _ => none } := h3.remap rfl ⟨fun _ _ => rfl, fun m hm => by cases hm⟩
    have hf4 : Fr w (fpp b mv) ((wr.setCell ⟨b, 2, none⟩ (.int .i64 3)).setCell ⟨b, 13, none⟩ (.map none)) (fpp b none) := (fr_set (fr_set (Fr.ofBelow hbl) (.inl rfl) 2 _) (.inl rfl) 13 _).weak (fun _ => fpp_none); have ho4 : OwnL vl 126 ((wr.setCell ⟨b, 2, none⟩ (.int .i64 3)).setCell ⟨b, 13, none⟩ (.map none)) w.heap.size u3 (M.fl s (s.fin - s.ask).toNat) := ho.keepBut (fun k hk hb => by
     have h1 := (ho.lt hb).1; have h2 := HP.out.lt; rw [heap_setCell_other _ ⟨b, 13, none⟩ k _ (by simp; omega), heap_setCell_other _ ⟨b, 2, none⟩ k _ (by simp; omega)])
    have HQ : Hid (FlOut w base b mv s (.returned u3) ((wr.setCell ⟨b, 2, none⟩ (.int .i64 3)).setCell ⟨b, 13, none⟩ (.map none))) := ⟨none, u3, rfl, by rw [HO.out]; exact ho4, by rw [HSF.out]; exact h4, hf4⟩; have pf2 := pf 2; have pf13 := pf 13; clear h3 h4 hf4 ho4 ho hbl hpr pf c0; go_wp2; go_ret; exact HQ.out
 ·have d0 : (s.st != 2) = true := by simpa using h0
  have HQ : Hid (FlOut w base b mv s (.returned (.slice none 0 0)) w) := ⟨mv, .slice none 0 0, rfl, by unfold M.flo; rw [if_neg h0]; exact OwnL.nil _ _ _, by unfold M.fls; rw [if_neg h0]; exact h, Fr.refl _ _⟩; clear h h0 ok cf; go_enter func127, ntmps127; go_wp2; go_ret; exact HQ.out
end
structure PS (w0 w : World) (F : Nat → Prop) (b : Nat) (s : M.S) : Prop where
 pi : ∃ mv, F = fpp b mv ∧ PI w w0.heap.size b mv s
 bel : Bl w0 w
 ok : M.Ok s
section
variable {w0 w w' : World} {F G G' : Nat → Prop} {b : Nat} {s : M.S}
theorem PS.keep (h : PS w0 w F b s) (hb : Bl w w') : PS w0 w' F b s := by
 obtain ⟨v, hF, hX⟩ := h.pi; exact ⟨⟨v, hF, hX.keep hb⟩, Bu h.bel hb Lr, h.ok⟩
theorem PS.mine (h : PS w0 w F b s) : ∀ k, F k → w0.heap.size ≤ k ∧ k < w.heap.size := by
 obtain ⟨v, rfl, hX⟩ := h.pi; exact hX.mine
theorem PS.step (h : PS w0 w F b s) (hF : Fr w G w' G') (hap : ∀ k, F k → ¬ G k) (hG : ∀ k, G k → w0.heap.size ≤ k) : PS w0 w' F b s ∧ ∀ k, F k → ¬ G' k := by
 have hm := h.mine; obtain ⟨v, e, hX⟩ := h.pi; refine ⟨⟨⟨v, e, hX.keepBut (fun k hk hk2 => hF.block k hk (hap k (by rw [e]; exact hk2)))⟩, h.bel.trans (hF.below hG h.bel.size), h.ok⟩, fun k hk hg => ?_⟩; rcases hF.n k hg with h' | h'
 ·exact hap k hk h'
 ·have := (hm k hk).2; omega
theorem PS.fr (h : PS w0 w F b s) (hF : Fr w F w' G) : Bl w0 w' := h.bel.trans (hF.below (fun k hk => (h.mine k hk).1) h.bel.size)
def NwOut (w0 w : World) (n me : Int) (e : Ending) (w' : World) : Prop :=
 (M.nde n me = false ∧ e = .returned (.pointer none) ∧ w' = w) ∨ (M.nde n me = true ∧ ∃ b F, e = .returned (.pointer (some ⟨b, 0, none⟩)) ∧ PS w0 w' F b (M.S0 n me) ∧ Bl w w' ∧ ∀ k, F k → w.heap.size ≤ k)
theorem newS_any (w0 w : World) (hb : Bl w0 w) (n me : Int) : Calls prog 47 #[.int .i64 n, .int .i64 me] w (NwOut w0 w n me) :=
 (new_any n me w).mono fun e w' h => by
  rcases h with h | ⟨h0, b, h1, h2, h3, h4⟩
  ·exact .inl h
  ·exact .inr ⟨h0, b, _, h1, ⟨⟨none, rfl, ⟨h2.row, ⟨h2.map.no, fun m hm => by cases hm⟩, Nat.le_trans hb.size h2.lo⟩⟩, Bu hb h3 Lr, M.Ok.zero h0⟩, h3, fun k hk => (h2.mine k hk).1⟩
theorem PS.lead (h : PS w0 w F b s) (a : E) (k : Int) : Calls prog 70 #[.pointer (some ⟨b, 0, none⟩), bV a, .int .i64 k] w fun e w' => ∃ G, e = .returned (.tuple #[bV (M.lde s a k), .int .i64 (M.ldc s a k)]) ∧ PS w0 w' G b (M.lds s a k) ∧ Fr w F w' G := by
 have h0 := h; obtain ⟨v, rfl, hX⟩ := h.pi; refine (lead_any hX a k).mono ?_; rintro e w' ⟨v', h1, h2, h3⟩; exact ⟨_, h1, ⟨⟨v', rfl, h2⟩, h0.fr h3, h.ok.lds a k⟩, h3⟩
theorem PS.promise (h : PS w0 w F b s) (k : Int) (x : E) (a : Option Addr) (cap : Nat) (l : List V) (hat : AtL vl w a l) (hap : 0 < l.length → ∀ k, blk a k → ¬ F k) (hcl : s.c + l.length ≤ 900000) : Calls prog 126 #[.pointer (some ⟨b, 0, none⟩), .int .i64 k, bV x, .slice a l.length cap] w fun e w' => ∃ G, e = .returned (.bool (M.prb s k x)) ∧ PS w0 w' G b (M.prs s k x l) ∧ Fr w F w' G := by
 have h0 := h; obtain ⟨v, rfl, hX⟩ := h.pi; refine (promise_any hX h.ok k x a cap l hat hap hcl).mono ?_; rintro e w' ⟨v', h1, h2, h3⟩; exact ⟨_, h1, ⟨⟨v', rfl, h2⟩, h0.fr h3, h.ok.prs k x l⟩, h3⟩
theorem PS.leads (h : PS w0 w F b s) : Calls prog 68 #[.pointer (some ⟨b, 0, none⟩)] w fun e w' => e = .returned (.bool (decide (2 ≤ s.st))) ∧ w' = w := by
 obtain ⟨v, rfl, hX⟩ := h.pi; exact leads_any hX
theorem PS.fill (h : PS w0 w F b s) : Calls prog 127 #[.pointer (some ⟨b, 0, none⟩)] w fun e w' => ∃ G ad c, e = .returned (.slice ad (M.flo s).length c) ∧ XL vl w' ad c (M.flo s) ∧ (∀ j, blk ad j → w.heap.size ≤ j ∧ j < w'.heap.size ∧ ¬ G j) ∧ PS w0 w' G b (M.fls s) ∧ Fr w F w' G := by
 have h0 := h; obtain ⟨v, rfl, hX⟩ := h.pi; have hm := hX.mine; refine (fill_any hX h.ok).mono ?_; rintro e w' ⟨v', u, h1, h2, h3, h4⟩; obtain ⟨ad, c, rfl, hx, hbk⟩ := h2.at; refine ⟨_, ad, c, h1, hx, fun j hj => ⟨(hbk j hj).1, (hbk j hj).2.2, fun hG => ?_⟩, ⟨⟨v', rfl, h3⟩, h0.fr h4, h.ok.fls⟩, h4⟩; rcases hG with rfl | hm'
 ·have := hX.lt; have := (hbk _ hj).1; omega
 ·have hmi := (h3.map.yes j hm').1; obtain ⟨hrow⟩ : ∃ cs : Array Value, ∃ t z, w'.heap[j]? = some (.cells cs t z) := by
   rcases h2.2 with ⟨e, _⟩ | ⟨g, cap, cur, e, _, hh, _⟩
   ·have := (hbk j hj).2.1; rw [e] at this; simp [Value.ownBlock] at this
   ·have := (hbk j hj).2.1; rw [e] at this; simp [Value.ownBlock] at this; subst this; exact ⟨_, _, _, hh⟩
  rename_i hr
  obtain ⟨t, z, hr⟩ := hr; exact hmi.ne hr rfl
theorem PS.propose (h : PS w0 w F b s) (v : ByteArray) : Calls prog 73 #[.pointer (some ⟨b, 0, none⟩), .string v] w fun e w' => e = .returned (.tuple #[vV (M.ppv s v), .int .i64 (M.ppc s v)]) ∧ PS w0 w' F b (M.pps s v) ∧ Fr w F w' F := by
 have h0 := h; obtain ⟨v', rfl, hX⟩ := h.pi; refine (propose_any hX h.ok v).mono ?_; rintro e w' ⟨h1, h2, h3⟩; exact ⟨h1, ⟨⟨v', rfl, h2⟩, h0.fr h3, h.ok.pps v⟩, h3⟩
theorem PS.stepB (h : PS w0 w F b s) (x : E) : Calls prog 125 #[.pointer (some ⟨b, 0, none⟩), bV x] w fun e w' => ∃ G, e = .returned (.bool (M.stb s x)) ∧ PS w0 w' G b (M.sts s x) ∧ Fr w F w' G := by
 have h0 := h; obtain ⟨v, rfl, hX⟩ := h.pi; refine (step_any hX x).mono ?_; rintro e w' ⟨v', h1, h2, h3⟩; exact ⟨_, h1, ⟨⟨v', rfl, h2⟩, h0.fr h3, h.ok.sts x⟩, h3⟩
end
end Go.Proofs.YtgodnpngdbelhaaGreat.Np
