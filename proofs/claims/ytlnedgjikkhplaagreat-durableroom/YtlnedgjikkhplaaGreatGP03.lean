import Derived.Test.YtlnedgjikkhplaaGreatGP02
import Derived.Lib.Strings
import Derived.Lib.BufferWrite
import Derived.Lib.UnsafeStr
import Derived.Lib.Overlaps
import Derived.Lib.AppendZerosOnto
set_option maxRecDepth 100000
set_option maxHeartbeats 8000000
set_option linter.unusedVariables false
set_option linter.unusedSimpArgs false
namespace Go.Proofs.YtlnedgjikkhplaaGreat.Na
open Go.RowKit
open M (E)
theorem isnan_any (a : Int) (w : World) : Calls Tryz.prog 158 #[.int .i64 a] w fun e w' => e = .returned (.bool false) ∧ w' = w := by
 go_enter Tryz.func158, Tryz.ntmps158
 go_wp2
 go_ret
 exact ⟨rfl, rfl⟩
theorem compare_any (a b : Int) (w : World) : Calls Tryz.prog 118 #[.int .i64 a, .int .i64 b] w fun e w' => e = .returned (.int .i64 (M.cmp a b)) ∧ w' = w := by
 rcases M.cmp_three a b with ⟨h, e⟩ | ⟨h, e⟩ | ⟨h, e⟩
 ·rw [e]
  clear e
  go_enter Tryz.func118, Tryz.ntmps118
  go_wp2_with fail
  refine (isnan_any _ _).mono ?_; rintro e w1 ⟨rfl, rfl⟩
  go_wp2_with fail
  refine (isnan_any _ _).mono ?_; rintro e w2 ⟨rfl, rfl⟩
  go_wp2
  go_ret
  exact ⟨rfl, rfl⟩
 ·rw [e]
  clear e; subst h
  go_enter Tryz.func118, Tryz.ntmps118
  go_wp2_with fail
  refine (isnan_any _ _).mono ?_; rintro e w1 ⟨rfl, rfl⟩
  go_wp2_with fail
  refine (isnan_any _ _).mono ?_; rintro e w2 ⟨rfl, rfl⟩
  go_wp2
  go_ret
  exact ⟨rfl, rfl⟩
 ·rw [e]
  clear e
  have h' : ¬ a < b := by omega
  go_enter Tryz.func118, Tryz.ntmps118
  go_wp2_with fail
  refine (isnan_any _ _).mono ?_; rintro e w1 ⟨rfl, rfl⟩
  go_wp2_with fail
  refine (isnan_any _ _).mono ?_; rintro e w2 ⟨rfl, rfl⟩
  go_wp2
  go_ret
  exact ⟨rfl, rfl⟩
def orI (x y : Int) : Int := if x = 0 then y else x
theorem or_any (g : Nat) (x y : Int) (w : World) (h : w.heap[g]? = some (.cells #[.int .i64 x, .int .i64 y] 3 (0, 0))) :
  Calls Tryz.prog 116 #[.slice (some ⟨g, 0, none⟩) 2 2] w fun e w' => e = .returned (.int .i64 (orI x y)) ∧ w' = w := by
 obtain ⟨⟨c0, c1⟩, _⟩ := row2 h
 clear h
 have H1 : Hid (x ≠ 0 → orI x y = x) := fun h => by unfold orI; rw [if_neg h]
 have H2 : Hid (x = 0 → orI x y = y) := fun h => by unfold orI; rw [if_pos h]
 generalize orI x y = R at *
 go_enter Tryz.func116, Tryz.ntmps116
 go_wp2
 go_loopw [8] (fun i wr => ∃ k : Nat, k ≤ 2 ∧ (0 < k → x = 0) ∧ (1 < k → y = 0) ∧ i = .int .i64 k ∧ wr = w) (fun i _ => 2 - (intOf i).toNat)
 case atStart => exact ⟨0, by omega, by omega, by omega, rfl, rfl⟩
 case round =>
  obtain ⟨k, hk, hx, hy, rfl, rfl⟩ := hrel
  match k, hk with
  | 0, _ =>
   clear hx hy
   by_cases h0 : x = 0
   ·have hb : (x == 0) = true := by simpa using h0
    have HX := Hf h0
    clear h0; go_wp2
    go_roundw
    case rel => exact ⟨1, by omega, fun _ => HX.out, by omega, rfl, by trivial⟩
    case measure => simp [intOf]
   ·obtain rfl := H1.out h0
    go_wp2
    go_ret
    exact ⟨rfl, rfl⟩
  | 1, _ =>
   have HX := Hf (hx (by omega))
   obtain rfl := H2.out HX.out
   clear hx hy H1 H2
   by_cases h0 : R = 0
   ·have HY := Hf h0
    have hb : (R == 0) = true := by simpa using h0
    clear h0; go_wp2
    go_roundw
    case rel => exact ⟨2, by omega, fun _ => HX.out, fun _ => HY.out, rfl, by trivial⟩
    case measure => simp [intOf]
   ·go_wp2
    go_ret
    exact ⟨rfl, rfl⟩
  | 2, _ =>
   have HX := hx (by omega)
   have HY := hy (by omega)
   obtain rfl := H2.out HX
   subst HY; clear hx hy H1 H2; go_wp2
   go_ret
   exact ⟨rfl, rfl⟩
theorem cmp_any (x y : E) (w : World) :
  Calls Tryz.prog 117 #[.agg #[.int .i64 x.i, .int .i64 x.t], .agg #[.int .i64 y.i, .int .i64 y.t]] w fun e w' => e = .returned (.int .i64 (M.cmpE x y)) ∧ Below w.heap.size w w' := by
 have HC : Hid (M.cmpE x y = orI (M.cmp x.i y.i) (M.cmp x.t y.t)) := rfl
 rw [HC.out]; clear HC
 obtain ⟨xi, xt⟩ := x
 obtain ⟨yi, yt⟩ := y
 simp only
 obtain ⟨W1, HW1⟩ := Nh ((w.alloc (.cells #[.int .i64 xi, .int .i64 xt] 36)).alloc (.cells #[.int .i64 yi, .int .i64 yt] 36))
 have HB1 : Hid (Below w.heap.size w W1) := by rw [← HW1.out]; exact (bel1 w _).alloc (by simp) _
 have hs1 : W1.heap.size = w.heap.size + 2 := by rw [← HW1.out]; simp
 have HS : Hid (∀ w', Below W1.heap.size W1 w' → (w'.cell? ⟨w.heap.size, 0, none⟩ = some (.int .i64 xi) ∧ w'.cell? ⟨w.heap.size, 1, none⟩ = some (.int .i64 xt)) ∧ (w'.cell? ⟨w.heap.size + 1, 0, none⟩ = some (.int .i64 yi) ∧ w'.cell? ⟨w.heap.size + 1, 1, none⟩ = some (.int .i64 yt))) := by
  intro w' hb
  have h1 : W1.heap[w.heap.size]? = some (.cells #[.int .i64 xi, .int .i64 xt] 36 (0, 0)) := by rw [← HW1.out]; exact heap_alloc2_old w _ _
  have h2 : W1.heap[w.heap.size + 1]? = some (.cells #[.int .i64 yi, .int .i64 yt] 36 (0, 0)) := by rw [← HW1.out]; exact heap_alloc2_new w _ _
  exact ⟨(row2 ((hb.block _ (by omega)).trans h1)).1, (row2 ((hb.block _ (by omega)).trans h2)).1⟩
 go_enter Tryz.func117, Tryz.ntmps117
 go_wp2_with fail
 rw [HW1.out]; clear HW1
 have HL : Hid (∀ a b : Value, (W1.alloc (.cells #[a, b] 3)).drew.heap[w.heap.size + 2]? = some (.cells #[a, b] 3 (0, 0))) := fun a b => by rw [← hs1]; exact heap_alloc_last W1 _
 refine wp_region_held_drew (S := fun wq => Below (W1).heap.size (W1) wq) (by kernel_rfl) (Below.drew (Below.refl _ _)) fun Hl => ?_
 refine Tm 0 ?pA ?vA Hl ?rA
 refine Tk 1 ?pB ?vB ?yB Hl ?rB
 case yB => intro q h; obtain ⟨⟨a0, a1⟩, ⟨b0, b1⟩⟩ := HS.out q h; go_simp; try with_reducible rfl
 refine Tm 2 ?pC ?vC Hl ?rC
 refine Tk 3 ?pD ?vD ?yD Hl ?rD
 case yD => intro q h; obtain ⟨⟨a0, a1⟩, ⟨b0, b1⟩⟩ := HS.out q h; go_simp; try with_reducible rfl
 refine Tm 5 ?pE ?vE Hl ?rE
 refine Tk 6 ?pF ?vF ?yF Hl ?rF
 case yF => intro q h; obtain ⟨⟨a0, a1⟩, ⟨b0, b1⟩⟩ := HS.out q h; go_simp; try with_reducible rfl
 refine Tm 7 ?pG ?vG Hl ?rG
 refine Tk 8 ?pH ?vH ?yH Hl ?rH
 case yH => intro q h; obtain ⟨⟨a0, a1⟩, ⟨b0, b1⟩⟩ := HS.out q h; go_simp; try with_reducible rfl
 simp only [Act.put, Pa, Pb, Pc]
 refine Rd 4 ?pI ?sI
 intro K hK; go_simp
 refine (compare_any _ _ _).mono ?_; rintro x w2 ⟨rfl, rfl⟩
 refine hK.out _ _ Hl fun Hl => ?_; clear hK K
 refine Rd 9 ?pJ ?sJ
 intro K hK; go_simp
 refine (compare_any _ _ _).mono ?_; rintro x w3 ⟨rfl, rfl⟩
 refine hK.out _ _ Hl fun Hl => ?_; clear hK K
 refine Rd 10 ?pK ?sK
 intro K hK; go_simp
 refine hK.out _ _ ((bel1 W1 _).drew) fun Hl => ?_; clear hK K
 refine Rd 11 ?pL ?sL
 intro K hK; go_simp
 refine (or_any (w.heap.size + 2) _ _ _ (HL.out _ _)).mono ?_; rintro x w4 ⟨rfl, rfl⟩
 refine hK.out _ _ Hl fun Hl => ?_; clear hK K
 refine Tm 12 ?pM ?vM Hl ?rM
 simp only [Act.put, Pa, Pb, Pc]
 refine wpAnyH_done (by kernel_rfl) ?_ _
 go_wp2
 go_ret
 exact ⟨rfl, Bu HB1.out Hl Lr⟩
end Go.Proofs.YtlnedgjikkhplaaGreat.Na
namespace Go.Proofs.YtlnedgjikkhplaaGreat.Na
open Go.RowKit
open M (E V)
theorem eq28 (a b c d : Int) (w : World) : (binOp .eql 36 (.agg #[.int .i64 a, .int .i64 b]) (.agg #[.int .i64 c, .int .i64 d])).run Tryz.prog w = .ok (.bool (decide (a = c) && decide (b = d))) w := by
 have u3 := Tryz.underlying3
 have a3 := Tryz.isAgg3
 have z3 := Tryz.sizeOf3
 have hS : Tryz.prog.underlying 36 = some (.struct (Tryz.prog.fieldsOf 36)) := by kernel_rfl
 have hp : Tryz.prog.stoodInHeld 36 = false := by kernel_rfl
 rw [run_eql_struct, show (10000 : Nat) = 9999 + 1 from rfl, run_equalIn_agg w 9999 36 _ _ hS hp]
 simp only [Program.fieldsOf, Tryz.underlying36]
 by_cases h1 : a = c
 ·by_cases h2 : b = d
  ·subst h1 h2
   go_simp
  ·subst h1
   go_simp
 ·go_simp
theorem valid_any (x : E) (w : World) : Calls Tryz.prog 148 #[.agg #[.int .i64 x.i, .int .i64 x.t]] w fun e w' => e = .returned (.bool (M.vld x)) ∧ Below w.heap.size w w' := by
 obtain ⟨i, t⟩ := x
 simp only
 have HB := Hf (bel1 w (.cells #[.int .i64 i, .int .i64 t] 36))
 have HV : Hid (M.vld ⟨i, t⟩ = (decide (0 ≤ i) && decide (i ≤ 2147483647) && decide (0 ≤ t) && decide (t ≤ 6))) := rfl
 rw [HV.out]; clear HV
 by_cases h0 : 0 ≤ i
 ·have dh0 : decide (0 ≤ i) = true := decide_eq_true h0
  by_cases h1 : i ≤ 2147483647
  ·have dh1 : decide (i ≤ 2147483647) = true := decide_eq_true h1
   by_cases h2 : 0 ≤ t
   ·have dh2 : decide (0 ≤ t) = true := decide_eq_true h2
    by_cases h3 : t ≤ 6
    ·have dh3 : decide (t ≤ 6) = true := decide_eq_true h3
     have eh0 : decide (0 ≤ i) = true := decide_eq_true (by omega)
     have eh1 : decide (i ≤ 2147483647) = true := decide_eq_true (by omega)
     have eh2 : decide (0 ≤ t) = true := decide_eq_true (by omega)
     have eh3 : decide (t ≤ 6) = true := decide_eq_true (by omega)
     rw [eh0, eh1, eh2, eh3]; clear eh0 eh1 eh2 eh3 h0 h1 h2 h3
     go_enter Tryz.func148, Tryz.ntmps148
     go_wp2
     go_ret
     exact ⟨rfl, HB.out⟩
    ·have dh3 : decide (t ≤ 6) = false := decide_eq_false h3
     have eh0 : decide (0 ≤ i) = true := decide_eq_true (by omega)
     have eh1 : decide (i ≤ 2147483647) = true := decide_eq_true (by omega)
     have eh2 : decide (0 ≤ t) = true := decide_eq_true (by omega)
     have eh3 : decide (t ≤ 6) = false := decide_eq_false (by omega)
     rw [eh0, eh1, eh2, eh3]; clear eh0 eh1 eh2 eh3 h0 h1 h2 h3
     go_enter Tryz.func148, Tryz.ntmps148
     go_wp2
     go_ret
     exact ⟨rfl, HB.out⟩
   ·have dh2 : decide (0 ≤ t) = false := decide_eq_false h2
    have eh0 : decide (0 ≤ i) = true := decide_eq_true (by omega)
    have eh1 : decide (i ≤ 2147483647) = true := decide_eq_true (by omega)
    have eh2 : decide (0 ≤ t) = false := decide_eq_false (by omega)
    rw [eh0, eh1, eh2]; clear eh0 eh1 eh2 h0 h1 h2
    go_enter Tryz.func148, Tryz.ntmps148
    go_wp2
    go_ret
    exact ⟨rfl, HB.out⟩
  ·have dh1 : decide (i ≤ 2147483647) = false := decide_eq_false h1
   have eh0 : decide (0 ≤ i) = true := decide_eq_true (by omega)
   have eh1 : decide (i ≤ 2147483647) = false := decide_eq_false (by omega)
   rw [eh0, eh1]; clear eh0 eh1 h0 h1
   go_enter Tryz.func148, Tryz.ntmps148
   go_wp2
   go_ret
   exact ⟨rfl, HB.out⟩
 ·have dh0 : decide (0 ≤ i) = false := decide_eq_false h0
  have eh0 : decide (0 ≤ i) = false := decide_eq_false (by omega)
  rw [eh0]; clear eh0 h0
  go_enter Tryz.func148, Tryz.ntmps148
  go_wp2
  go_ret
  exact ⟨rfl, HB.out⟩
theorem rvalid_any (x : E) (w : World) : Calls Tryz.prog 110 #[.agg #[.int .i64 x.i, .int .i64 x.t]] w fun e w' => e = .returned (.bool (M.vld x)) ∧ Below w.heap.size w w' := by
 obtain ⟨i, t⟩ := x
 simp only
 have HB := Hf (bel1 w (.cells #[.int .i64 i, .int .i64 t] 36))
 have HV : Hid (M.vld ⟨i, t⟩ = (decide (0 ≤ i) && decide (i ≤ 2147483647) && decide (0 ≤ t) && decide (t ≤ 6))) := rfl
 rw [HV.out]; clear HV
 by_cases h0 : 0 ≤ i
 ·have dh0 : decide (0 ≤ i) = true := decide_eq_true h0
  by_cases h1 : i < 2147483648
  ·have dh1 : decide (i < 2147483648) = true := decide_eq_true h1
   by_cases h2 : 0 ≤ t
   ·have dh2 : decide (0 ≤ t) = true := decide_eq_true h2
    by_cases h3 : t < 7
    ·have dh3 : decide (t < 7) = true := decide_eq_true h3
     have eh0 : decide (0 ≤ i) = true := decide_eq_true (by omega)
     have eh1 : decide (i ≤ 2147483647) = true := decide_eq_true (by omega)
     have eh2 : decide (0 ≤ t) = true := decide_eq_true (by omega)
     have eh3 : decide (t ≤ 6) = true := decide_eq_true (by omega)
     rw [eh0, eh1, eh2, eh3]; clear eh0 eh1 eh2 eh3 h0 h1 h2 h3
     go_enter Tryz.func110, Tryz.ntmps110
     go_wp2
     go_ret
     exact ⟨rfl, HB.out⟩
    ·have dh3 : decide (t < 7) = false := decide_eq_false h3
     have eh0 : decide (0 ≤ i) = true := decide_eq_true (by omega)
     have eh1 : decide (i ≤ 2147483647) = true := decide_eq_true (by omega)
     have eh2 : decide (0 ≤ t) = true := decide_eq_true (by omega)
     have eh3 : decide (t ≤ 6) = false := decide_eq_false (by omega)
     rw [eh0, eh1, eh2, eh3]; clear eh0 eh1 eh2 eh3 h0 h1 h2 h3
     go_enter Tryz.func110, Tryz.ntmps110
     go_wp2
     go_ret
     exact ⟨rfl, HB.out⟩
   ·have dh2 : decide (0 ≤ t) = false := decide_eq_false h2
    have eh0 : decide (0 ≤ i) = true := decide_eq_true (by omega)
    have eh1 : decide (i ≤ 2147483647) = true := decide_eq_true (by omega)
    have eh2 : decide (0 ≤ t) = false := decide_eq_false (by omega)
    rw [eh0, eh1, eh2]; clear eh0 eh1 eh2 h0 h1 h2
    go_enter Tryz.func110, Tryz.ntmps110
    go_wp2
    go_ret
    exact ⟨rfl, HB.out⟩
  ·have dh1 : decide (i < 2147483648) = false := decide_eq_false h1
   have eh0 : decide (0 ≤ i) = true := decide_eq_true (by omega)
   have eh1 : decide (i ≤ 2147483647) = false := decide_eq_false (by omega)
   rw [eh0, eh1]; clear eh0 eh1 h0 h1
   go_enter Tryz.func110, Tryz.ntmps110
   go_wp2
   go_ret
   exact ⟨rfl, HB.out⟩
 ·have dh0 : decide (0 ≤ i) = false := decide_eq_false h0
  have eh0 : decide (0 ≤ i) = false := decide_eq_false (by omega)
  rw [eh0]; clear eh0 h0
  go_enter Tryz.func110, Tryz.ntmps110
  go_wp2
  go_ret
  exact ⟨rfl, HB.out⟩
theorem rcmp_any (x y : E) (w : World) :
  Calls Tryz.prog 111 #[.agg #[.int .i64 x.i, .int .i64 x.t], .agg #[.int .i64 y.i, .int .i64 y.t]] w fun e w' => e = .returned (.int .i64 (M.cmpE x y)) ∧ Below w.heap.size w w' := by
 have HC := Hf (M.cmpE_three x y)
 generalize M.cmpE x y = r at *
 obtain ⟨a, b⟩ := x
 obtain ⟨c, d⟩ := y
 simp only at HC ⊢
 have HB := Hf (Bu (bel1 w (.cells #[.int .i64 a, .int .i64 b] 36)) (bel1 _ (.cells #[.int .i64 c, .int .i64 d] 36)) Lr)
 have he := eq28 a b c d
 rcases HC.out with ⟨h, rfl⟩ | ⟨h, rfl⟩ | ⟨h, rfl⟩
 ·by_cases h0 : a < c
  ·have d0 : decide (a < c) = true := decide_eq_true h0
   clear h HC h0
   go_enter Tryz.func111, Tryz.ntmps111
   go_wp2
   go_ret
   exact ⟨rfl, HB.out⟩
  ·have d0 : decide (a < c) = false := decide_eq_false h0
   obtain rfl : a = c := by omega
   have d1 : decide (b < d) = true := decide_eq_true (by omega)
   clear h HC h0
   go_enter Tryz.func111, Tryz.ntmps111
   go_wp2
   go_ret
   exact ⟨rfl, HB.out⟩
 ·obtain ⟨rfl, rfl⟩ := h
  clear HC
  go_enter Tryz.func111, Tryz.ntmps111
  go_wp2
  go_ret
  exact ⟨rfl, HB.out⟩
 ·by_cases h0 : a = c
  ·obtain rfl := h0
   have d1 : decide (b < d) = false := decide_eq_false (by omega)
   have d2 : decide (b = d) = false := decide_eq_false (by omega)
   clear h HC
   go_enter Tryz.func111, Tryz.ntmps111
   go_wp2
   go_ret
   exact ⟨rfl, HB.out⟩
  ·have d0 : decide (a < c) = false := decide_eq_false (by omega)
   have d2 : decide (a = c) = false := decide_eq_false h0
   have d3 : (a == c) = false := by simpa using h0
   clear h HC
   go_enter Tryz.func111, Tryz.ntmps111
   go_wp2
   go_ret
   exact ⟨rfl, HB.out⟩
end Go.Proofs.YtlnedgjikkhplaaGreat.Na
namespace Go.Proofs.YtlnedgjikkhplaaGreat.Na
open Go.RowKit
theorem Tryz.info5 : (Tryz.prog.info? 5).map (fun i => (i.zero, i.size, i.bytes)) = some (some (.int .u8 0), 1, 1) := by kernel_rfl
theorem sclone0_any (s : ByteArray) (w : World) (hlim : s.size ≤ 140737488351232) :
  Calls Tryz.prog 168 #[.string s] w fun e w' => e = .returned (.string s) ∧ Below w.heap.size w w' := by
 by_cases h0 : s.size = 0
 ·have hs : s = ⟨#[]⟩ := by
   apply ByteArray.ext
   exact Array.eq_empty_of_size_eq_zero h0
  subst hs
  go_enter Tryz.func168, Tryz.ntmps168
  go_wp2
  go_ret
  exact ⟨rfl, Below.refl _ _⟩
 ·obtain ⟨i0, hi, hz0, hz1, hz2⟩ := info_parts Tryz.info5
  have hinfo : (Tryz.prog.info? 5).map (·.size) = some 1 := by rw [hi]; simp [hz1]
  have hco : Tryz.prog.cellsOf 5 = 1 := by simp [Program.cellsOf, hi, hz1]
  obtain ⟨M, hM⟩ : ∃ M, M = madeCells (Value.int .u8 0).cells (((s.size : Nat) : Int).toNat * i0.size) := ⟨_, rfl⟩
  have hMs : M.size = s.size := by rw [hM, size_madeCells, hz1]; simp
  have hmk : ∀ W : World, (Instr.makeSlice 138 (.int .i64 (s.size : Int)) (.int .i64 (s.size : Int))).run Tryz.prog W = .ok (.slice (some ⟨W.heap.size, 0, none⟩) s.size s.size) (W.alloc (.cells M 5)) := fun W => by
   have h := run_make (P := Tryz.prog) W 138 5 i0 (.int .u8 0) Tryz.underlying138 hi hz0 .i64 .i64 (s.size : Int) (s.size : Int) (by omega) (by omega) (by rw [hz2]; omega) (by omega)
   rw [← hM] at h
   simpa using h
  clear hM
  have hcp := Lib.run_copy_row_string (P := Tryz.prog) (w.alloc (.cells M 5)) 138 9 3 5 w.heap.size 0 s.size s.size s M 5 Tryz.underlying138 hinfo (heap_alloc_new w _) Lr (by omega)
  obtain ⟨Y, hY⟩ : ∃ Y, Y = (M.toList.take 0 ++ Lib.byteCells s.data.toList ++ M.toList.drop (0 + s.size)).toArray := ⟨_, rfl⟩
  rw [← hY] at hcp
  have hYl : Y.toList = Lib.byteCells s.data.toList := by
   rw [hY, List.toList_toArray, List.take_zero, List.nil_append, List.drop_of_length_le (by rw [Array.length_toList]; omega), List.append_nil]
  have hYs : Y.size = s.size := by rw [← Array.length_toList, hYl, Lib.byteCells_length, ← Lib.size_eq]
  have hgY : ((w.alloc (.cells M 5)).setRow w.heap.size Y).heap[w.heap.size]? = some (.cells Y 5 (0, 0)) := setRow_heap _ _ M _ 5 (0, 0) (heap_alloc_new w _)
  have hne : s.data.toList ≠ [] := fun e => h0 (by rw [Lib.size_eq, e]; rfl)
  have hUS := Lib.run_unsafeString_row (P := Tryz.prog) ((w.alloc (.cells M 5)).setRow w.heap.size Y) 206 3 9 5 Tryz.underlying206 hco w.heap.size Y.size (by unfold World.shape?; rw [hgY]) s.data.toList hne (by rw [← Lib.size_eq]; omega) (by rw [← Lib.size_eq]; omega)
   (fun j x hx => Lib.cells_of_row hgY Y.size j _ (by rw [List.take_of_length_le (by rw [Array.length_toList]; exact Nat.le_refl _), hYl]; simp [Lib.byteCells, hx]))
  rw [← Lib.size_eq] at hUS; clear hY
  go_enter Tryz.func168, Tryz.ntmps168
  go_wp2
  go_ret
  have hb1 : Below w.heap.size w (w.alloc (.cells M 5)) := (Below.refl _ w).alloc Lr _
  have hb2 : Below w.heap.size (w.alloc (.cells M 5)) ((w.alloc (.cells M 5)).setRow w.heap.size Y) := ⟨rfl, rfl, rfl, by simp, fun k hk => setRow_other _ _ _ _ (by omega)⟩
  exact ⟨rfl, Lib.below_freeze (hb1.trans hb2) (p := ⟨w.heap.size, 0, none⟩) Lr _⟩
theorem sclone_any (s : ByteArray) (w : World) (hs : s.size ≤ 140737488351232) :
  Calls Tryz.prog 134 #[.string s] w fun e w' => e = .returned (.string s) ∧ Below w.heap.size w w' := by
 go_enter Tryz.func134, Tryz.ntmps134
 go_wp2_with fail
 refine (sclone0_any s w hs).mono ?_; rintro e w1 ⟨rfl, hb⟩
 go_wp2
 go_ret
 exact ⟨rfl, hb⟩
theorem run_copy4 {P : Program} (w : World) (dT sT ty elem : TypeId) (g off dLen dCap : Nat) (sp : Option Addr) (sLen sCap : Nat) (cur : List Value) (t : TypeId) (cs : List Value) (m : Nat)
  (hu : P.underlying dT = some (.slice elem)) (hs : (P.info? elem).map (·.size) = some 4)
  (hg : w.heap[g]? = some (.cells cur.toArray t (0, 0))) (hm : Nat.min sLen dLen = m) (hn : cs.length = m * 4)
  (hsrc : 0 < m → ∃ ad, sp = some ad ∧ ∀ j v, cs[j]? = some v → w.cell? (ad.add j) = some v) (hfit : off + cs.length ≤ cur.length) (h1 : ∀ v ∈ cs, v.oneCell' = true) :
  (Builtin.copy_ #[dT, sT] ty #[.slice (some ⟨g, off, none⟩) dLen dCap, .slice sp sLen sCap]).run P w = .ok (goInt m) (w.setRow g (splice cur off cs).toArray) := by
 cases hq : P.info? elem with
 | none => simp [hq] at hs
 | some i =>
  have hi : i.size = 4 := by simpa [hq] using hs
  have hst := run_storeCells_at P g off t cs 0 cur.toArray w hg (by simpa using hfit) h1
  have hst' : (storeCells ⟨g, off, none⟩ cs).run P w = .ok () (w.setRow g (splice cur off cs).toArray) := by
   have := hst
   simp only [Nat.add_zero] at this
   simpa [splice] using this
  rcases Nat.eq_zero_or_pos m with h0 | hp
  ·subst h0
   obtain rfl : cs = [] := List.eq_nil_of_length_eq_zero (by simpa using hn)
   cases sp with
   | none => simp [Builtin.copy_, run_underlying hu, Builtin.lenOf, Builtin.firstCells, sizeOf, typeInfo, hq, hm, hst']
   | some ad =>
    have hl := run_loadCells_list (P := P) w ad [] (by simp)
    simp at hl
    simp [Builtin.copy_, run_underlying hu, Builtin.lenOf, Builtin.firstCells, sizeOf, typeInfo, hq, hm, hl, hst']
  ·obtain ⟨ad, rfl, hc⟩ := hsrc hp
   have hl := run_loadCells_list (P := P) w ad cs hc
   rw [hn] at hl
   simp [Builtin.copy_, run_underlying hu, Builtin.lenOf, Builtin.firstCells, sizeOf, typeInfo, hq, hi, hm, hl, hst']
theorem wp_copy_runI {P : Program} (w : World) {o : Oper} {a : Act} {K : Act → World → Prop} {Q : Exit → Act → World → Prop} (d s : Operand) (t t' : TypeId)
  (ho : o.op = .call { callee := .builtin .copy, args := #[d, s], argTypes := #[t, t'] }) (v u : Value) (hd : a.eval d = v) (hs : a.eval s = u) {v' : Value} {w' : World}
  (hr : (Builtin.copy_ #[t, t'] o.type #[v, u]).run P w = .ok v' w') (h : K (a.put o.dst v') w') : o.wp P a w K Q := by
 unfold Oper.wp execOp
 simp only [ho, resolve, invoke, builtin, Sem.run_bind, Sem.run_pure, Result.andThen_ok, List.map_toArray, List.map_cons, List.map_nil, hd, hs, hr]
 exact h
theorem wpList_copy_runI {P : Program} (w : World) {ops : Array Oper} {rest : List Oper} {o : Oper} {a : Act} {Q : Exit → Act → World → Prop} (hgd : o.guard = none) (d s : Operand) (t t' : TypeId)
  (ho : o.op = .call { callee := .builtin .copy, args := #[d, s], argTypes := #[t, t'] }) (v u : Value) (hd : a.eval d = v) (hs : a.eval s = u) {v' : Value} {w' : World}
  (hr : (Builtin.copy_ #[t, t'] o.type #[v, u]).run P w = .ok v' w') (h : wpList P ops Q rest (a.put o.dst v') w') : wpList P ops Q (o :: rest) a w :=
 wpList_plain hgd fun _ hK => wp_copy_runI w d s t t' ho v u hd hs hr (hK _ _ h)
theorem step_copy_runI {P : Program} {ops : Array Oper} {o : Oper} {a : Act} {w : World} {K : Act → World → Prop} {Q : Exit → Act → World → Prop} {E : Prop}
  (hg : o.guard = none) (d x : Operand) (dT sT : TypeId) (hop : o.op = Op.call { callee := Callee.builtin Builtin.copy, args := #[d, x], argTypes := #[dT, sT] })
  (v u : Value) (hd : a.eval d = v) (hx : a.eval x = u) {v' : Value} {w' : World} (hr : (Builtin.copy_ #[dT, sT] o.type #[v, u]).run P w = .ok v' w') (hK : K (a.put o.dst v') w') :
  if Region.wanted o (yielded ops a.tmps) = true then Oper.wp P o a w K Q else E := by
 have hw : Region.wanted o (yielded ops a.tmps) = true := by simp [Region.wanted, hg]
 rw [if_pos hw]; unfold Oper.wp
 simp [execOp, hop, resolve, invoke, builtin, hd, hx, hr, Result.andThen]
 exact hK
theorem run_clear4 {P : Program} (w : World) (t e ty : TypeId) (z : Value) (ht : P.underlying t = some (.slice e)) (hv : ∀ w, (zeroValue e).run P w = .ok z w) (hz : z.cells.size = 4) (h1 : ∀ v ∈ z.cells.toList, v.oneCell' = true)
  (g off n c : Nat) (a : Addr) (cur : List Value) (tt : TypeId) (hg : w.heap[g]? = some (.cells cur.toArray tt (0, 0))) (ha : 0 < n → a = ⟨g, off, none⟩) (hfit : off + n * 4 ≤ cur.length) :
  (Builtin.clear_ #[t] ty #[.slice (some a) n c]).run P w = .ok (.tuple #[]) (w.setRow g (splice cur off (Builtin.zeroCells z.cells n).toList).toArray) := by
 rcases Nat.eq_zero_or_pos n with h0 | hp
 ·subst h0
  have e0 : (Builtin.zeroCells z.cells 0).toList = [] := List.eq_nil_of_length_eq_zero (by simp [size_zeroCells])
  rw [e0, show splice cur off [] = cur by simp [splice], setRow_self w g _ _ _ hg]
  simp [Builtin.clear_, run_underlying ht]
 ·obtain rfl := ha hp
  have hone : ∀ v ∈ (Builtin.zeroCells z.cells n).toList, v.oneCell' = true := by
   intro v hv'
   apply h1
   simp [Builtin.zeroCells] at hv'
   obtain ⟨k, hk, rfl⟩ := hv'
   have hk4 : k % z.cells.size < z.cells.size := Nat.mod_lt _ (by omega)
   rw [getElem!_pos z.cells _ hk4]
   simp
  have hst := run_storeCells_at P g off tt (Builtin.zeroCells z.cells n).toList 0 cur.toArray w hg (by simp [size_zeroCells, hz]; omega) hone
  have hst' : (storeCells ⟨g, off, none⟩ (Builtin.zeroCells z.cells n).toList).run P w = .ok () (w.setRow g (splice cur off (Builtin.zeroCells z.cells n).toList).toArray) := by
   have := hst
   simp only [Nat.add_zero] at this
   simpa [splice] using this
  obtain ⟨k, rfl⟩ : ∃ k, n = k + 1 := ⟨n - 1, by omega⟩
  simp [Builtin.clear_, run_underlying ht, hv, hst']
theorem append_types {P : Program} {t u e e' : TypeId} (ht : P.underlying t = some (.slice e)) (hu : P.underlying u = some (.slice e')) (i : TypeInfo) (hi : P.info? e = some i) (ty : TypeId) (b : Option Addr) (n c : Nat) (x : Value) (w : World) :
  (Builtin.append_ #[t, u] ty #[.slice b n c, x]).run P w = (Builtin.append_ #[t, t] ty #[.slice b n c, x]).run P w := by
 simp [Builtin.append_, run_underlying ht, run_underlying hu, sizeOf, typeInfo, hi]
theorem wpList_append_lies2 {P : Program} (w : World) {ops : Array Oper} {rest : List Oper} {o : Oper} {a : Act} {Q : Exit → Act → World → Prop} (hgd : o.guard = none) (s x : Operand) (t u : TypeId)
  (ho : o.op = .call { callee := .builtin .append, args := #[s, x], argTypes := #[t, u] })
  (base : Nat) (e e' : TypeId) (i : TypeInfo) (z : Value) (size bytes : Nat) (ht : P.underlying t = some (.slice e)) (hu : P.underlying u = some (.slice e')) (hi : P.info? e = some i) (hz : i.zero = some z)
  (hsize : i.size = size) (hby : i.bytes = bytes) (hzs : z.cells.size = size) (hsz : 0 < size)
  (v : Value) (n : Nat) (xs : List Value) (hs : a.eval s = v) (hown : w.ownsRow base e size v n xs)
  (ad : Addr) (m c : Nat) (news : List Value) (hx : a.eval x = .slice (some ad) m c) (hl : news.length = m * size) (hnews : ∀ j u, news[j]? = some u → w.cell? (ad.add j) = some u) (h1 : ∀ u ∈ news, u.oneCell' = true)
  (hm : 0 < m) (h63 : n + m ≤ maxLen) (hbytes : (n + m) * bytes ≤ 140737488355328) (hbase : base ≤ w.heap.size) (H : Nat) (hH : w.heap.size = H)
  (h : ∀ g cap w', w'.ownsRow base e size (.slice (some ⟨g, 0, none⟩) (n + m) cap) (n + m) (xs ++ news) → w.grownBy w' v.ownBlock → (v.ownBlock = some g ∨ g = H) → g < w'.heap.size → wpList P ops Q rest (a.put o.dst (.slice (some ⟨g, 0, none⟩) (n + m) cap)) w') : wpList P ops Q (o :: rest) a w := by
 obtain ⟨g, cap, w', hr, h2, h3, h4, h5⟩ := run_append_lies (P := P) w t o.type base e i z size bytes ht hi hz hsize hby hzs hsz v n xs hown ad m c news hl hnews h1 hm h63 hbytes hbase H hH
 obtain ⟨b', n', c', rfl⟩ : ∃ b n c, v = .slice b n c := by
  rcases hown.2 with ⟨h, _⟩ | ⟨g, c, _, h, _⟩
  ·exact ⟨_, _, _, h⟩
  ·exact ⟨_, _, _, h⟩
 refine wpList_plain hgd fun K' hK' => ?_
 unfold Oper.wp execOp
 simp only [ho, resolve, invoke, builtin, Sem.run_bind, Sem.run_pure, Result.andThen_ok, List.map_toArray, List.map_cons, List.map_nil, hs, hx, append_types ht hu i hi, hr]
 exact hK' _ _ (h g cap w' h2 h3 h4 h5)
end Go.Proofs.YtlnedgjikkhplaaGreat.Na
