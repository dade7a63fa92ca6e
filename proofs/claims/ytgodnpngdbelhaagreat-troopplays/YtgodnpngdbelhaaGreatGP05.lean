import Derived.Test.YtgodnpngdbelhaaGreatGP04
import Derived.Lib.Strings
import Derived.Lib.BufferWrite
import Derived.Lib.UnsafeStr
import Derived.Lib.Overlaps
import Derived.Lib.AppendZerosOnto
set_option maxRecDepth 100000
set_option maxHeartbeats 8000000
set_option linter.unusedVariables false
set_option linter.unusedSimpArgs false
open Go.Proofs.Tryz
namespace Go.Proofs.YtgodnpngdbelhaaGreat
open Go.RowKit
open M (E V)
theorem eq42 (a b c d : Int) (w : World) : (binOp .eql 42 (.agg #[.int .i64 a, .int .i64 b]) (.agg #[.int .i64 c, .int .i64 d])).run prog w = .ok (.bool (decide (a = c) && decide (b = d))) w := by
 have u3 := underlying3; have a3 := Tryz.isAgg3; have z3 := Tryz.sizeOf3; have hS : prog.underlying 42 = some (.struct (prog.fieldsOf 42)) := by kernel_rfl
 have hp : prog.stoodInHeld 42 = false := by kernel_rfl
 rw [run_eql_struct, show (10000 : Nat) = 9999 + 1 from rfl, run_equalIn_agg w 9999 42 _ _ hS hp]; simp only [Program.fieldsOf, underlying42]; by_cases h1 : a = c
 ·by_cases h2 : b = d
  ·subst h1 h2; go_simp
  ·subst h1; go_simp
 ·go_simp
theorem valid_any (x : E) (w : World) : Calls prog 94 #[.agg #[.int .i64 x.i, .int .i64 x.t]] w fun e w' => e = .returned (.bool (M.vld x)) ∧ Bl w w' := by
 obtain ⟨i, t⟩ := x; simp only; have HB := Hf (bel1 w (.cells #[.int .i64 i, .int .i64 t] 42)); have HV : Hid (M.vld ⟨i, t⟩ = (decide (0 ≤ i) && decide (i ≤ 2147483647) && decide (0 ≤ t) && decide (t ≤ 6))) := rfl; rw [HV.out]; clear HV; by_cases h0 : 0 ≤ i
 ·have dh0 : decide (0 ≤ i) = true := decide_eq_true h0; by_cases h1 : i ≤ 2147483647
  ·have dh1 : decide (i ≤ 2147483647) = true := decide_eq_true h1; by_cases h2 : 0 ≤ t
   ·have dh2 : decide (0 ≤ t) = true := decide_eq_true h2; by_cases h3 : t ≤ 6
    ·have dh3 : decide (t ≤ 6) = true := decide_eq_true h3; have eh0 : decide (0 ≤ i) = true := decide_eq_true (by omega); have eh1 : decide (i ≤ 2147483647) = true := decide_eq_true (by omega); have eh2 : decide (0 ≤ t) = true := decide_eq_true (by omega); have eh3 : decide (t ≤ 6) = true := decide_eq_true (by omega); rw [eh0, eh1, eh2, eh3]; clear eh0 eh1 eh2 eh3 h0 h1 h2 h3; go_enter func94, ntmps94; go_wp2; go_ret; exact ⟨rfl, HB.out⟩
    ·have dh3 : decide (t ≤ 6) = false := decide_eq_false h3; have eh0 : decide (0 ≤ i) = true := decide_eq_true (by omega); have eh1 : decide (i ≤ 2147483647) = true := decide_eq_true (by omega); have eh2 : decide (0 ≤ t) = true := decide_eq_true (by omega); have eh3 : decide (t ≤ 6) = false := decide_eq_false (by omega); rw [eh0, eh1, eh2, eh3]; clear eh0 eh1 eh2 eh3 h0 h1 h2 h3; go_enter func94, ntmps94; go_wp2; go_ret; exact ⟨rfl, HB.out⟩
   ·have dh2 : decide (0 ≤ t) = false := decide_eq_false h2; have eh0 : decide (0 ≤ i) = true := decide_eq_true (by omega); have eh1 : decide (i ≤ 2147483647) = true := decide_eq_true (by omega); have eh2 : decide (0 ≤ t) = false := decide_eq_false (by omega); rw [eh0, eh1, eh2]; clear eh0 eh1 eh2 h0 h1 h2; go_enter func94, ntmps94; go_wp2; go_ret; exact ⟨rfl, HB.out⟩
  ·have dh1 : decide (i ≤ 2147483647) = false := decide_eq_false h1; have eh0 : decide (0 ≤ i) = true := decide_eq_true (by omega); have eh1 : decide (i ≤ 2147483647) = false := decide_eq_false (by omega); rw [eh0, eh1]; clear eh0 eh1 h0 h1; go_enter func94, ntmps94; go_wp2; go_ret; exact ⟨rfl, HB.out⟩
 ·have dh0 : decide (0 ≤ i) = false := decide_eq_false h0; have eh0 : decide (0 ≤ i) = false := decide_eq_false (by omega); rw [eh0]; clear eh0 h0; go_enter func94, ntmps94; go_wp2; go_ret; exact ⟨rfl, HB.out⟩
theorem quorum_any (n : Int) (w : World) : Calls prog 139 #[.int .i64 n] w fun e w' => e = .returned (.int .i64 (M.quo n)) ∧ w' = w := by
 by_cases h0 : n < 1
 ·have HQ : Hid (M.quo n = 0) := Hf (by unfold M.quo; rw [if_pos (.inl h0)]); have d0 : decide (n < 1) = true := decide_eq_true h0; rw [HQ.out]; clear HQ h0; go_enter func139, ntmps139; go_wp2; go_ret; exact ⟨rfl, rfl⟩
 ·have d0 : decide (n < 1) = false := decide_eq_false h0; by_cases h1 : 7 < n
  ·have HQ : Hid (M.quo n = 0) := Hf (by unfold M.quo; rw [if_pos (.inr h1)]); have d1 : decide (7 < n) = true := decide_eq_true h1; rw [HQ.out]; clear HQ h0 h1; go_enter func139, ntmps139; go_wp2; go_ret; exact ⟨rfl, rfl⟩
  ·have d1 : decide (7 < n) = false := decide_eq_false h1; have HQ : Hid (M.quo n = n / 2 + 1) := Hf (by unfold M.quo; rw [if_neg (by omega)]); rw [HQ.out]; clear HQ; obtain rfl | rfl | rfl | rfl | rfl | rfl | rfl : n = 1 ∨ n = 2 ∨ n = 3 ∨ n = 4 ∨ n = 5 ∨ n = 6 ∨ n = 7 := by omega
   all_goals
    clear h0 h1 d0 d1; go_enter func139, ntmps139; go_wp2; go_ret; exact ⟨rfl, rfl⟩
theorem rquorum_any (n : Int) (w : World) : Calls prog 21 #[.int .i64 n] w fun e w' => e = .returned (.int .i64 (M.quo n)) ∧ w' = w := by
 by_cases h0 : n < 1
 ·have HQ : Hid (M.quo n = 0) := Hf (by unfold M.quo; rw [if_pos (.inl h0)]); have d0 : decide (n < 1) = true := decide_eq_true h0; rw [HQ.out]; clear HQ h0; go_enter func21, ntmps21; go_wp2; go_ret; exact ⟨rfl, rfl⟩
 ·have d0 : decide (n < 1) = false := decide_eq_false h0; by_cases h1 : 7 < n
  ·have HQ : Hid (M.quo n = 0) := Hf (by unfold M.quo; rw [if_pos (.inr h1)]); have d1 : decide (7 < n) = true := decide_eq_true h1; rw [HQ.out]; clear HQ h0 h1; go_enter func21, ntmps21; go_wp2; go_ret; exact ⟨rfl, rfl⟩
  ·have d1 : decide (7 < n) = false := decide_eq_false h1; have HQ : Hid (M.quo n = n / 2 + 1) := Hf (by unfold M.quo; rw [if_neg (by omega)]); rw [HQ.out]; clear HQ; obtain rfl | rfl | rfl | rfl | rfl | rfl | rfl : n = 1 ∨ n = 2 ∨ n = 3 ∨ n = 4 ∨ n = 5 ∨ n = 6 ∨ n = 7 := by omega
   all_goals
    clear h0 h1 d0 d1; go_enter func21, ntmps21; go_wp2; go_ret; exact ⟨rfl, rfl⟩
theorem f98_res : Tryz.f98.results = #[.cell 4 42] := rfl
theorem next_any (x : E) (n : Int) (w : World) : Calls prog 98 #[.agg #[.int .i64 x.i, .int .i64 x.t], .int .i64 n] w fun e w' => e = .returned (.agg #[.int .i64 (M.nxt x n).i, .int .i64 (M.nxt x n).t]) ∧ Bl w w' := by
 obtain ⟨i, t⟩ := x; simp only; have HB := Hf (fun a b => Bu (bel1 w (.cells #[.int .i64 i, .int .i64 t] 42)) (bel1 _ (.cells #[a, b] 42)) Lr); by_cases h0 : i < 0
 ·have HQ : Hid (M.nxt ⟨i, t⟩ n = ⟨0, 0⟩) := Hf (by unfold M.nxt; rw [if_pos (.inl h0)]); have d0 : decide (i < 0) = true := decide_eq_true h0; rw [HQ.out]; clear HQ h0; go_enter func98, ntmps98; go_wp2; refine bodyPost_ret (v := .agg #[.int .i64 0, .int .i64 0]) ?_ rfl ⟨rfl, HB.out _ _⟩; exact results_cell_row f98_res _ _ (w.heap.size + 1) 42 _ (0, 0) _ rfl (heap_alloc2_new w _ _) underlying42 rfl Tryz.size42
 ·have d0 : decide (i < 0) = false := decide_eq_false h0; by_cases h1 : 2147483647 ≤ i
  ·have HQ : Hid (M.nxt ⟨i, t⟩ n = ⟨0, 0⟩) := Hf (by unfold M.nxt; rw [if_pos (.inr h1)]); have d1 : decide (2147483647 ≤ i) = true := decide_eq_true h1; rw [HQ.out]; clear HQ h0 h1; go_enter func98, ntmps98; go_wp2; refine bodyPost_ret (v := .agg #[.int .i64 0, .int .i64 0]) ?_ rfl ⟨rfl, HB.out _ _⟩; exact results_cell_row f98_res _ _ (w.heap.size + 1) 42 _ (0, 0) _ rfl (heap_alloc2_new w _ _) underlying42 rfl Tryz.size42
  ·have d1 : decide (2147483647 ≤ i) = false := decide_eq_false h1; have HQ : Hid (M.nxt ⟨i, t⟩ n = ⟨i + 1, M.nod n⟩) := Hf (by unfold M.nxt; rw [if_neg (by simp only; omega)]); have hw : IntKind.i64.wrap (i + 1) = i + 1 := by rw [IntKind.wrap_i64]; omega
   rw [HQ.out]; clear HQ; have HN : Hid (min (max n 0) 6 = M.nod n) := rfl; clear h0 h1; go_enter func98, ntmps98; go_wp2; rw [HN.out]; refine bodyPost_ret (v := .agg #[.int .i64 (i + 1), .int .i64 (M.nod n)]) ?_ rfl ⟨rfl, HB.out _ _⟩; exact results_cell_row f98_res _ _ (w.heap.size + 1) 42 _ (0, 0) _ rfl (heap_alloc2_new w _ _) underlying42 rfl Tryz.size42
end Go.Proofs.YtgodnpngdbelhaaGreat
namespace Go.Proofs.YtgodnpngdbelhaaGreat
open Go.RowKit
theorem Tryz.info5 : (prog.info? 5).map (fun i => (i.zero, i.size, i.bytes)) = some (some (.int .u8 0), 1, 1) := by kernel_rfl
theorem sclone0_any (s : ByteArray) (w : World) (hlim : s.size ≤ 140737488351232) :
  Calls prog 120 #[.string s] w fun e w' => e = .returned (.string s) ∧ Bl w w' := by
 by_cases h0 : s.size = 0
 ·have hs : s = ⟨#[]⟩ := by
   apply ByteArray.ext
   exact Array.eq_empty_of_size_eq_zero h0
  subst hs; go_enter func120, ntmps120; go_wp2; go_ret; exact ⟨rfl, Below.refl _ _⟩
 ·obtain ⟨i0, hi, hz0, hz1, hz2⟩ := info_parts Tryz.info5; have hinfo : (prog.info? 5).map (·.size) = some 1 := by rw [hi]; simp [hz1]
  have hco : prog.cellsOf 5 = 1 := by simp [Program.cellsOf, hi, hz1]
  obtain ⟨M, hM⟩ : ∃ M, M = madeCells (Value.int .u8 0).cells (((s.size : Nat) : Int).toNat * i0.size) := ⟨_, rfl⟩; have hMs : M.size = s.size := by rw [hM, size_madeCells, hz1]; simp
  have hmk : ∀ W : World, (Instr.makeSlice 209 (.int .i64 (s.size : Int)) (.int .i64 (s.size : Int))).run prog W = .ok (.slice (some ⟨W.heap.size, 0, none⟩) s.size s.size) (W.alloc (.cells M 5)) := fun W => by
   have h := run_make (P := prog) W 209 5 i0 (.int .u8 0) underlying209 hi hz0 .i64 .i64 (s.size : Int) (s.size : Int) (by omega) (by omega) (by rw [hz2]; omega) (by omega); rw [← hM] at h; simpa using h
  clear hM; have hcp := Lib.run_copy_row_string (P := prog) (w.alloc (.cells M 5)) 209 9 3 5 w.heap.size 0 s.size s.size s M 5 underlying209 hinfo (heap_alloc_new w _) Lr (by omega); obtain ⟨Y, hY⟩ : ∃ Y, Y = (M.toList.take 0 ++ Lib.byteCells s.data.toList ++ M.toList.drop (0 + s.size)).toArray := ⟨_, rfl⟩; rw [← hY] at hcp; have hYl : Y.toList = Lib.byteCells s.data.toList := by
   rw [hY, List.toList_toArray, List.take_zero, List.nil_append, List.drop_of_length_le (by rw [Array.length_toList]; omega), List.append_nil]
  have hYs : Y.size = s.size := by rw [← Array.length_toList, hYl, Lib.byteCells_length, ← Lib.size_eq]
  have hgY : ((w.alloc (.cells M 5)).setRow w.heap.size Y).heap[w.heap.size]? = some (.cells Y 5 (0, 0)) := setRow_heap _ _ M _ 5 (0, 0) (heap_alloc_new w _); have hne : s.data.toList ≠ [] := fun e => h0 (by rw [Lib.size_eq, e]; rfl); have hUS := Lib.run_unsafeString_row (P := prog) ((w.alloc (.cells M 5)).setRow w.heap.size Y) 210 3 9 5 underlying210 hco w.heap.size Y.size (by unfold World.shape?; rw [hgY]) s.data.toList hne (by rw [← Lib.size_eq]; omega) (by rw [← Lib.size_eq]; omega)
   (fun j x hx => Lib.cells_of_row hgY Y.size j _ (by rw [List.take_of_length_le (by rw [Array.length_toList]; exact Nat.le_refl _), hYl]; simp [Lib.byteCells, hx]))
  rw [← Lib.size_eq] at hUS; clear hY; go_enter func120, ntmps120; go_wp2; go_ret; have hb1 : Below w.heap.size w (w.alloc (.cells M 5)) := (Below.refl _ w).alloc Lr _; have hb2 : Below w.heap.size (w.alloc (.cells M 5)) ((w.alloc (.cells M 5)).setRow w.heap.size Y) := ⟨rfl, rfl, rfl, by simp, fun k hk => setRow_other _ _ _ _ (by omega)⟩; exact ⟨rfl, Lib.below_freeze (hb1.trans hb2) (p := ⟨w.heap.size, 0, none⟩) Lr _⟩
theorem sclone_any (s : ByteArray) (w : World) (hs : s.size ≤ 140737488351232) :
  Calls prog 93 #[.string s] w fun e w' => e = .returned (.string s) ∧ Bl w w' := by
 go_enter func93, ntmps93; go_wp2_with fail; refine (sclone0_any s w hs).mono ?_; rintro e w1 ⟨rfl, hb⟩; go_wp2; go_ret; exact ⟨rfl, hb⟩
end Go.Proofs.YtgodnpngdbelhaaGreat
namespace Go.Proofs.YtgodnpngdbelhaaGreat.Na
open Go.RowKit
theorem run_copy4 {P : Program} (w : World) (dT sT ty elem : TypeId) (g off dLen dCap : Nat) (sp : Option Addr) (sLen sCap : Nat) (cur : List Value) (t : TypeId) (cs : List Value) (m : Nat)
  (hu : P.underlying dT = some (.slice elem)) (hs : (P.info? elem).map (·.size) = some 4)
  (hg : w.heap[g]? = some (.cells cur.toArray t (0, 0))) (hm : Nat.min sLen dLen = m) (hn : cs.length = m * 4)
  (hsrc : 0 < m → ∃ ad, sp = some ad ∧ ∀ j v, cs[j]? = some v → w.cell? (ad.add j) = some v) (hfit : off + cs.length ≤ cur.length) (h1 : ∀ v ∈ cs, v.oneCell' = true) :
  (Builtin.copy_ #[dT, sT] ty #[.slice (some ⟨g, off, none⟩) dLen dCap, .slice sp sLen sCap]).run P w = .ok (goInt m) (w.setRow g (splice cur off cs).toArray) := by
 cases hq : P.info? elem with
 | none => simp [hq] at hs
 | some i =>
  have hi : i.size = 4 := by simpa [hq] using hs
  have hst := run_storeCells_at P g off t cs 0 cur.toArray w hg (by simpa using hfit) h1; have hst' : (storeCells ⟨g, off, none⟩ cs).run P w = .ok () (w.setRow g (splice cur off cs).toArray) := by
   have := hst; simp only [Nat.add_zero] at this; simpa [splice] using this
  rcases Nat.eq_zero_or_pos m with h0 | hp
  ·subst h0; obtain rfl : cs = [] := List.eq_nil_of_length_eq_zero (by simpa using hn); cases sp with
   | none => simp [Builtin.copy_, run_underlying hu, Builtin.lenOf, Builtin.firstCells, sizeOf, typeInfo, hq, hm, hst']
   | some ad =>
    have hl := run_loadCells_list (P := P) w ad [] (by simp); simp at hl; simp [Builtin.copy_, run_underlying hu, Builtin.lenOf, Builtin.firstCells, sizeOf, typeInfo, hq, hm, hl, hst']
  ·obtain ⟨ad, rfl, hc⟩ := hsrc hp; have hl := run_loadCells_list (P := P) w ad cs hc; rw [hn] at hl; simp [Builtin.copy_, run_underlying hu, Builtin.lenOf, Builtin.firstCells, sizeOf, typeInfo, hq, hi, hm, hl, hst']
theorem append_types {P : Program} {t u e e' : TypeId} (ht : P.underlying t = some (.slice e)) (hu : P.underlying u = some (.slice e')) (i : TypeInfo) (hi : P.info? e = some i) (ty : TypeId) (b : Option Addr) (n c : Nat) (x : Value) (w : World) :
  (Builtin.append_ #[t, u] ty #[.slice b n c, x]).run P w = (Builtin.append_ #[t, t] ty #[.slice b n c, x]).run P w := by
 simp [Builtin.append_, run_underlying ht, run_underlying hu, sizeOf, typeInfo, hi]
theorem wpList_append_lies2 {P : Program} (w : World) {ops : Array Oper} {rest : List Oper} {o : Oper} {a : Act} {Q : Exit → Act → World → Prop} (hgd : o.guard = none) (s x : Operand) (t u : TypeId)
  (ho : o.op = .call { callee := .builtin .append, args := #[s, x], argTypes := #[t, u] })
  (base : Nat) (e e' : TypeId) (i : TypeInfo) (z : Value) (size bytes : Nat) (ht : P.underlying t = some (.slice e)) (hu : P.underlying u = some (.slice e')) (hi : P.info? e = some i) (hz : i.zero = some z)
  (hsize : i.size = size) (hby : i.bytes = bytes) (hzs : z.cells.size = size) (hsz : 0 < size)
  (v : Value) (n : Nat) (xs : List Value) (hs : a.eval s = v) (hown : w.ownsRow base e size v n xs)
  (ad : Addr) (m c : Nat) (news : List Value) (hx : a.eval x = .slice (some ad) m c) (hl : news.length = m * size) (hnews : ∀ j u, news[j]? = some u → w.cell? (ad.add j) = some u) (h1 : ∀ u ∈ news, u.oneCell' = true)
  (hm : 0 < m) (h63 : n + m ≤ maxLen) (hbytes : (n + m) * bytes ≤ 140737488355328) (hbase : base ≤ w.heap.size) (H : Nat) (hH : w.heap.size = H)
  (h : ∀ g cap w', w'.ownsRow base e size (.slice (some ⟨g, 0, none⟩) (n + m) cap) (n + m) (xs ++ news) → w.grownBy w' v.ownBlock → (v.ownBlock = some g ∨ g = H) → g < w'.heap.size → wpList P ops Q rest (a.put o.dst (.slice (some ⟨g, 0, none⟩) (n + m) cap)) w') : wpList P ops Q (o :: rest) a w := by
 obtain ⟨g, cap, w', hr, h2, h3, h4, h5⟩ := run_append_lies (P := P) w t o.type base e i z size bytes ht hi hz hsize hby hzs hsz v n xs hown ad m c news hl hnews h1 hm h63 hbytes hbase H hH; obtain ⟨b', n', c', rfl⟩ : ∃ b n c, v = .slice b n c := by
  rcases hown.2 with ⟨h, _⟩ | ⟨g, c, _, h, _⟩
  ·exact ⟨_, _, _, h⟩
  ·exact ⟨_, _, _, h⟩
 refine wpList_plain hgd fun K' hK' => ?_; unfold Oper.wp execOp; simp only [ho, resolve, invoke, builtin, Sem.run_bind, Sem.run_pure, Result.andThen_ok, List.map_toArray, List.map_cons, List.map_nil, hs, hx, append_types ht hu i hi, hr]; exact hK' _ _ (h g cap w' h2 h3 h4 h5)
theorem step_append_run {P : Program} {w : World} {ops : Array Oper} {o : Oper} {a : Act} {C : Act → World → Prop} {Q : Exit → Act → World → Prop} {E : Prop} (hgd : o.guard = none) (s x : Operand) (t : TypeId)
  (ho : o.op = .call { callee := .builtin .append, args := #[s, x], argTypes := #[t, t] }) (v sv : Value) (hs : a.eval s = v) (hx : a.eval x = sv) (v' : Value) (w' : World)
  (hr : (Builtin.append_ #[t, t] o.type #[v, sv]).run P w = .ok v' w') (h : C (a.put o.dst v') w') : if Region.wanted o (yielded ops a.tmps) = true then Oper.wp P o a w C Q else E := by
 have hw : Region.wanted o (yielded ops a.tmps) = true := by simp [Region.wanted, hgd]
 rw [if_pos hw]; unfold Oper.wp execOp; simp only [ho, resolve, invoke, builtin, Sem.run_bind, Sem.run_pure, Result.andThen_ok, List.map_toArray, List.map_cons, List.map_nil, hs, hx, hr]; exact h
end Go.Proofs.YtgodnpngdbelhaaGreat.Na
