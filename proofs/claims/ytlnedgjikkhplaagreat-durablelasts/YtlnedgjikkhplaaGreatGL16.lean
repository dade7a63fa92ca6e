/-
  A new device.
  A device in memory that is new, lost or not; the chapter's example.
  The calls that shift and sum return what the plain functions of the text M say, for every input.
-/
import Derived.Test.YtlnedgjikkhplaaGreatGL13
import Derived.Test.YtlnedgjikkhplaaGreatGL14
import Derived.Laws.CopyOwn
import Derived.Laws.MakeOwn
import Derived.Laws.OwnMore
import Derived.Lib.Overlaps
import Derived.Lib.AppendZerosOnto
import Derived.Deep.RegionLaw
import Derived.Lib.SliceRun
import Derived.Test.YtlnedgjikkhplaaGreatGL15
import Derived.Test.YtlnedgjikkhplaaGreatRows
import Derived.Test.YtlnedgjikkhplaaGreatGL03
import Derived.WalkKit
import Derived.WalkSpells
import Derived.WalkLawsBesides
import Derived.Deep.QuietTactic
import Derived.BigQuiet
import Derived.WalkMore
import Derived.ScopeJumps
section
namespace Go.Proofs.YtlnedgjikkhplaaGreat.Ns
open Go.RowKit
open M (ofL ofL_size ofL_of)
set_option linter.unusedVariables false

theorem run_copy2 {P : Program} (w : World) (dT sT ty elem : TypeId) (g off dLen dCap : Nat) (sp : Option Addr) (sLen sCap : Nat) (cur : List Value) (t : TypeId) (cs : List Value) (m : Nat)
    (hu : P.underlying dT = some (.slice elem)) (hs : (P.info? elem).map (·.size) = some 2)
    (hg : w.heap[g]? = some (.cells cur.toArray t (0, 0))) (hm : Nat.min sLen dLen = m) (hn : cs.length = m * 2)
    (hsrc : 0 < m → ∃ ad, sp = some ad ∧ ∀ j v, cs[j]? = some v → w.cell? (ad.add j) = some v) (hfit : off + cs.length ≤ cur.length) (h1 : ∀ v ∈ cs, v.oneCell' = true) :
    (Builtin.copy_ #[dT, sT] ty #[.slice (some ⟨g, off, none⟩) dLen dCap, .slice sp sLen sCap]).run P w = .ok (goInt m) (w.setRow g (splice cur off cs).toArray) := by
  cases hq : P.info? elem with
  | none => simp [hq] at hs
  | some i =>
    have hi : i.size = 2 := by simpa [hq] using hs
    have hst := run_storeCells_at P g off t cs 0 cur.toArray w hg (by simpa using hfit) h1
    have hst' : (storeCells ⟨g, off, none⟩ cs).run P w = .ok () (w.setRow g (splice cur off cs).toArray) := by
      have := hst
      simp only [Nat.add_zero] at this
      simpa [splice] using this
    rcases Nat.eq_zero_or_pos m with h0 | hp
    · subst h0
      obtain rfl : cs = [] := List.eq_nil_of_length_eq_zero (by simpa using hn)
      cases sp with
      | none => simp [Builtin.copy_, run_underlying hu, Builtin.lenOf, Builtin.firstCells, sizeOf, typeInfo, hq, hm, hst']
      | some ad =>
        have hl := run_loadCells_list (P := P) w ad [] (by simp)
        simp at hl
        simp [Builtin.copy_, run_underlying hu, Builtin.lenOf, Builtin.firstCells, sizeOf, typeInfo, hq, hm, hl, hst']
    · obtain ⟨ad, rfl, hc⟩ := hsrc hp
      have hl := run_loadCells_list (P := P) w ad cs hc
      rw [hn] at hl
      simp [Builtin.copy_, run_underlying hu, Builtin.lenOf, Builtin.firstCells, sizeOf, typeInfo, hq, hi, hm, hl, hst']
theorem wp_copy_runI {P : Program} (w : World) {o : Oper} {a : Act} {K : Act → World → Prop} {Q : Exit → Act → World → Prop} (d s : Operand) (t t' : TypeId)
    (ho : o.op = .call { callee := .builtin .copy, args := #[d, s], argTypes := #[t, t'] }) (v u : Value) (hd : a.eval d = v) (hs : a.eval s = u) {v' : Value} {w' : World}
    (hr : (Builtin.copy_ #[t, t'] o.type #[v, u]).run P w = .ok v' w') (h : K (a.put o.dst v') w') : o.wp P a w K Q := by
  unfold Oper.wp execOp
  simp only [ho, resolve, invoke, builtin, Sem.run_bind, Sem.run_pure, Result.andThen_ok, List.map_toArray, List.map_cons, List.map_nil, hd, hs, hr]
  exact h
theorem wpList_copy_runI {P : Program} (w : World) {ops : Array Oper} {rest : List Oper} {o : Oper} {a : Act} {Q : Exit → Act → World → Prop} (hgd : o.guard = none) (d s : Operand) (t t' : TypeId)
    (ho : o.op = .call { callee := .builtin .copy, args := #[d, s], argTypes := #[t, t'] }) (v u : Value) (hd : a.eval d = v) (hs : a.eval s = u) {v' : Value} {w' : World}
    (hr : (Builtin.copy_ #[t, t'] o.type #[v, u]).run P w = .ok v' w') (h : wpList P ops Q rest (a.put o.dst v') w') : wpList P ops Q (o :: rest) a w :=
  wpList_plain hgd fun _ hK => wp_copy_runI w d s t t' ho v u hd hs hr (hK _ _ h)
theorem step_copy_runI {P : Program} {ops : Array Oper} {o : Oper} {a : Act} {w : World} {K : Act → World → Prop} {Q : Exit → Act → World → Prop} {E : Prop}
    (hg : o.guard = none) (d x : Operand) (dT sT : TypeId) (hop : o.op = Op.call { callee := Callee.builtin Builtin.copy, args := #[d, x], argTypes := #[dT, sT] })
    (v u : Value) (hd : a.eval d = v) (hx : a.eval x = u) {v' : Value} {w' : World} (hr : (Builtin.copy_ #[dT, sT] o.type #[v, u]).run P w = .ok v' w') (hK : K (a.put o.dst v') w') :
    if Region.wanted o (yielded ops a.tmps) = true then Oper.wp P o a w K Q else E := by
  have hw : Region.wanted o (yielded ops a.tmps) = true := by simp [Region.wanted, hg]
  rw [if_pos hw]
  unfold Oper.wp
  simp [execOp, hop, resolve, invoke, builtin, hd, hx, hr, Result.andThen]
  exact hK

/-- Bytes 0. -/
def zr : ByteArray := ofL (List.replicate 64 0)
theorem zr_size : zr.size = 64 := by rw [zr, ofL_size, List.length_replicate]
theorem pad_zr : ofL (pad (M.E).data.toList 64) = zr := by rfl
/-- k of the sectors are laid. -/
def nw (n k : Nat) : List M.Pl := List.replicate k (zr, M.E) ++ List.replicate (n - k) (M.E, M.E)
theorem nw_len (n k : Nat) (h : k ≤ n) : (nw n k).length = n := by simp [nw]; omega
theorem nw_all (n : Nat) : nw n n = List.replicate n (zr, M.E) := by simp [nw]
theorem nw_step (n k m : Nat) (h : k + m ≤ n) : splice (PC (nw n k)) (k * 2) (PC (List.replicate m (zr, M.E))) = PC (nw n (k + m)) := by
  have e1 : nw n k = List.replicate k (zr, M.E) ++ (List.replicate m (M.E, M.E) ++ List.replicate (n - (k + m)) (M.E, M.E)) := by
    unfold nw
    rw [List.replicate_append_replicate]
    congr 2
    omega
  have e2 : nw n (k + m) = List.replicate k (zr, M.E) ++ (List.replicate m (zr, M.E) ++ List.replicate (n - (k + m)) (M.E, M.E)) := by
    unfold nw
    rw [← List.replicate_append_replicate, List.append_assoc]
  rw [e1, e2]
  simp only [PC_app]
  have l1 : (PC (List.replicate k (zr, M.E))).length = k * 2 := by rw [PC_len, List.length_replicate]
  have l2 : (PC (List.replicate m (zr, M.E))).length = m * 2 := by rw [PC_len, List.length_replicate]
  have l3 : (PC (List.replicate m (M.E, M.E))).length = m * 2 := by rw [PC_len, List.length_replicate]
  unfold splice
  have e3 : (PC (List.replicate k (zr, M.E)) ++ (PC (List.replicate m (M.E, M.E)) ++ PC (List.replicate (n - (k + m)) (M.E, M.E)))).drop (k * 2 + m * 2) = PC (List.replicate (n - (k + m)) (M.E, M.E)) := by
    rw [← List.append_assoc]
    exact List.drop_left' (by rw [List.length_append, l1, l3])
  rw [List.take_left' l1, l2, e3]
theorem PC_one (P : List M.Pl) : ∀ v ∈ PC P, v.oneCell' = true := by
  induction P with
  | nil => intro v h; simp [PC] at h
  | cons p r ih =>
    intro v h
    simp only [PC, List.mem_cons] at h
    rcases h with rfl | rfl | h
    · rfl
    · rfl
    · exact ih v h
theorem made2 (n : Nat) : (madeCells #[.string M.E, .string M.E] (n * 2)).toList = PC (nw n 0) := by
  have e : PC (nw n 0) = List.replicate (n * 2) (.string M.E) := by
    unfold nw
    rw [List.replicate_zero, List.nil_append, Nat.sub_zero]
    induction n with
    | zero => rfl
    | succ n ih => rw [show (n + 1) * 2 = n * 2 + 1 + 1 by omega, List.replicate_succ, PC, ih]; rfl
  rw [e]
  apply List.ext_getElem
  · simp [size_madeCells]
  · intro j h1 h2
    simp only [madeCells, Array.getElem_toList, Array.getElem_map, Array.getElem_range, List.getElem_replicate]
    rcases Nat.mod_two_eq_zero_or_one j with h | h
    · simp [h]
    · simp [h]
theorem Tryz.info81 : (Tryz.prog.info? 81).map (fun i => (i.zero, i.size, i.bytes)) = some (some (.agg #[.string M.E, .string M.E]), 2, 32) := by kernel_rfl
theorem Tryz.size81 : (Tryz.prog.info? 81).map (·.size) = some 2 := by kernel_rfl
set_option maxRecDepth 100000 in
set_option maxHeartbeats 1000000 in
theorem pad_any (w : World) : Calls Tryz.prog 30 #[.string M.E, .int .i64 64] w fun e w' => e = .returned (.tuple #[.string zr, .int .i64 0]) ∧ Below w.heap.size w w' := by
  have hp := padded_any M.E 64 w (by omega) (by decide)
  rw [pad_zr] at hp
  go_enter Tryz.func30, Tryz.ntmps30
  go_wp2_with fail
  refine hp.mono ?_
  rintro e w1 ⟨rfl, hb⟩
  clear hp
  go_wp2
  go_ret2
  exact ⟨rfl, hb⟩
theorem pr_of_owns {w : World} {base g n : Nat} {P : List M.Pl} (hl : P.length = n) (h : w.ownsRow base 81 2 (.slice (some ⟨g, 0, none⟩) n n) n (PC P)) : PR w g P := by
  rcases h.2 with ⟨h', _⟩ | ⟨g', cap, cur, h', _, hh, _, _, hs, ht⟩
  · cases h'
  · simp only [Value.slice.injEq, Option.some.injEq, Addr.mk.injEq, and_true, true_and] at h'
    obtain ⟨rfl, rfl⟩ := h'
    rw [List.take_of_length_le (by rw [Array.length_toList, hs]; exact Nat.le_refl _)] at ht
    unfold PR
    rw [hh, ← ht]
/-- A copy within the row, or into it. -/
theorem copy_nw (w : World) (g n k m : Nat) (sp : Addr) (sLen sCap dCap : Nat) (hp : PR w g (nw n k)) (hk : k ≤ n) (hm : Nat.min sLen (n - k) = m) (hs : ∀ j v, (PC (List.replicate m (zr, M.E)))[j]? = some v → w.cell? (sp.add j) = some v) :
    ∃ w', (∀ ty, (Builtin.copy_ #[78, 78] ty #[.slice (some ⟨g, k * 2, none⟩) (n - k) dCap, .slice (some sp) sLen sCap]).run Tryz.prog w = .ok (goInt m) w') ∧ PR w' g (nw n (k + m)) ∧ w.grownBy w' (some g) := by
  have hmk : k + m ≤ n := by
    have : Nat.min sLen (n - k) ≤ n - k := Nat.min_le_right _ _
    omega
  refine ⟨_, fun ty => run_copy2 w 78 78 ty 81 g (k * 2) (n - k) dCap (some sp) sLen sCap (PC (nw n k)) 81 (PC (List.replicate m (zr, M.E))) m Tryz.underlying78 Tryz.size81 hp hm (by rw [PC_len, List.length_replicate]) (fun _ => ⟨sp, rfl, hs⟩) (by rw [PC_len, PC_len, List.length_replicate, nw_len n k hk]; omega) (PC_one _), ?_, ?_⟩
  · unfold PR
    rw [← nw_step n k m hmk]
    exact setRow_heap _ _ _ _ 81 (0, 0) hp
  · exact ⟨rfl, rfl, rfl, by simp, fun j hj hn => setRow_other _ _ _ _ (fun e => hn (by rw [e]))⟩
theorem nw_cells {w : World} {g n k m : Nat} (hp : PR w g (nw n k)) (hmk : m ≤ k) : ∀ j v, (PC (List.replicate m (zr, M.E)))[j]? = some v → w.cell? ((⟨g, 0, none⟩ : Addr).add j) = some v := by
  intro j v hv
  rw [add_none, Nat.zero_add, cell_of_row w g j _ _ _ hp]
  have hl := (List.getElem?_eq_some_iff.1 hv).1
  have e : PC (nw n k) = PC (List.replicate m (zr, M.E)) ++ PC (List.replicate (k - m) (zr, M.E) ++ List.replicate (n - k) (M.E, M.E)) := by
    rw [← PC_app, ← List.append_assoc, List.replicate_append_replicate, Nat.add_sub_cancel' hmk]
    rfl
  rw [e]
  simp only [List.getElem?_toArray]
  rw [List.getElem?_append_left hl]
  exact hv
set_option maxRecDepth 100000 in
set_option maxHeartbeats 2000000 in
theorem repeat_any (B n : Nat) (w : World) (hB : w.heap[B]? = some (.cells #[.string zr, .string M.E] 81 (0, 0))) (h1 : 1 ≤ n) (h2 : n ≤ 4096) :
    Calls Tryz.prog 31 #[.slice (some ⟨B, 0, none⟩) 1 1, .int .i64 n] w fun e w' => ∃ g, e = .returned (.slice (some ⟨g, 0, none⟩) n n) ∧ w.heap.size ≤ g ∧ PR w' g (List.replicate n (zr, M.E)) ∧ Below w.heap.size w w' := by
  obtain ⟨i0, hi, hz0, hz1, hz2⟩ := info_parts Tryz.info81
  have hmul := Tryz.bits_Mul 1 n (by omega) (by omega) w
  rw [show 1 * n / 18446744073709551616 = 0 by omega, show 1 * n % 18446744073709551616 = n by omega] at hmul
  have hd0 : decide ((n : Int) < 0) = false := by simp
  have hd1 : decide ((9223372036854775807 : Int) < (n : Int)) = false := by simp; omega
  go_enter Tryz.func31, Tryz.ntmps31
  go_wp2_with fail
  refine hmul.mono ?_
  rintro e w1 ⟨rfl, rfl⟩
  clear hmul
  go_wp2_with (at_make; refine wpList_make_full _ rfl (.tmp 29) (.tmp 29) 78 rfl w1.heap.size 81 i0 (.agg #[.string M.E, .string M.E]) 2 Tryz.underlying78 hi hz0 hz1 .i64 .i64 _ _ n rfl rfl (by omega) (by omega) (by rw [hz2]; omega) (by unfold maxLen; omega) (Nat.le_refl _) ?_; intro w2 ho hg; rw [show (Value.agg #[.string M.E, .string M.E]).cells = #[.string M.E, .string M.E] from rfl, made2] at ho; have hp2 := pr_of_owns (nw_len n 0 (by omega)) ho; clear ho)
  have hb2 : Below w1.heap.size w1 w2 := (Below.refl _ _).grown hg (Nat.le_refl _) (by simp)
  have hB2 : w2.heap[B]? = some (.cells #[.string zr, .string M.E] 81 (0, 0)) := (hb2.block B (Array.getElem?_eq_some_iff.1 hB).1).trans hB
  obtain ⟨w3, hcp, hp3, hg3⟩ := copy_nw w2 w1.heap.size n 0 1 ⟨B, 0, none⟩ 1 1 n hp2 (by omega) (by simp only [Nat.min_def]; split <;> omega) (by
    intro j v hv
    rw [add_none, Nat.zero_add, cell_of_row w2 B j _ _ _ hB2]
    simpa [PC] using hv)
  rw [Nat.zero_mul, Nat.sub_zero] at hcp
  have HB3 : Hid (PR w3 w1.heap.size (nw n 1) ∧ Below w1.heap.size w1 w3) := ⟨by simpa using hp3, hb2.grown hg3 hb2.size (fun k e => by cases e; exact Nat.le_refl _)⟩
  clear hp2 hB2 hb2 hg3 hp3 hi hz0 hz1 hz2 hg hB
  rw [hcp]
  clear hcp
  go_wp2
  go_loopw [8] (fun i wr => ∃ k : Nat, 1 ≤ k ∧ k ≤ n ∧ i = .int .i64 k ∧ PR wr w1.heap.size (nw n k) ∧ Below w1.heap.size w1 wr) (fun i _ => n - (intOf i).toNat)
  case atStart => exact ⟨1, by omega, h1, rfl, HB3.out⟩
  case round =>
    obtain ⟨k, hk1, hkn, rfl, hp, hb⟩ := hrel
    by_cases hlt : k < n
    · obtain ⟨m, hm⟩ : ∃ m, Nat.min k (n - k) = m := ⟨_, rfl⟩
      have hm1 : 1 ≤ m ∧ m ≤ k ∧ k + m ≤ n := by
        rw [← hm]
        simp only [Nat.min_def]
        split <;> omega
      obtain ⟨w4, hcp, hp4, hg4⟩ := copy_nw wr.drew w1.heap.size n k m ⟨w1.heap.size, 0, none⟩ k n (n - k) hp hkn hm (nw_cells (w := wr) hp hm1.2.1)
      have HR : Hid (PR w4 w1.heap.size (nw n (k + m)) ∧ Below w1.heap.size w1 w4) := ⟨hp4, (Below.drew hb).grown hg4 (Below.drew hb).size (fun k e => by cases e; exact Nat.le_refl _)⟩
      clear hp hb hp4 hg4 HB3 hm
      have hnk : ¬ n = k := by omega
      obtain ⟨hm2, hm3, hm4⟩ := hm1
      have hwr : IntKind.i64.wrap ((k : Int) + (m : Int)) = (k : Int) + (m : Int) := by rw [IntKind.wrap_i64]; omega
      go_wp2_with fail
      go_region_law (refine step_copy_runI rfl _ _ 78 78 rfl _ _ (by simp [Act.eval, Act.put]) (by simp [Act.eval, Act.put]) (hcp _) ?_)
      all_goals
        simp only [Act.put, List.getElem_cons_succ, List.getElem_cons_zero, List.getElem_toArray, List.setIfInBounds_toArray, List.set_cons_succ, List.set_cons_zero]
        go_wp2
        go_roundw
        case rel => exact ⟨k + m, by omega, by omega, by go_num, HR.out⟩
        case measure => simp [intOf]; omega
    · obtain rfl : k = n := by omega
      rw [nw_all] at hp
      have HR := Hid_of (And.intro hp hb)
      clear hp hb HB3
      go_wp2
      go_ret
      exact ⟨w1.heap.size, rfl, Nat.le_refl _, HR.out⟩
/-- How many sectors there are. -/
def cntOf (n : Int) : Nat := (min (max n 1) 4096).toNat
theorem cntOf_le (n : Int) : 1 ≤ cntOf n ∧ cntOf n ≤ 4096 ∧ min (max n 1) 4096 = (cntOf n : Int) := by unfold cntOf; omega
def new (n : Nat) : List M.Pl := List.replicate n (zr, M.E)
theorem new_len (n : Nat) : (new n).length = n := by simp [new]
theorem new_lse (n : Nat) : ∀ p ∈ new n, M.lse p = false := by
  intro p hp
  rw [(List.mem_replicate.1 hp).2]
  rfl
theorem new_ok (n : Nat) : M.Ok (new n) := by
  intro p hp
  rw [(List.mem_replicate.1 hp).2]
  exact ⟨zr_size, .inr rfl⟩
set_option maxRecDepth 100000 in
set_option maxHeartbeats 2000000 in
theorem new_any (n : Int) (w : World) : Calls Tryz.prog 9 #[.int .i64 n] w fun e w' => ∃ b g, e = .returned (.pointer (some ⟨b, 0, none⟩)) ∧ DI w' w.heap.size b g (.slice none 0 0) (cntOf n) (new (cntOf n)) [] ∧ Below w.heap.size w w' := by
  obtain ⟨h1, h2, h3⟩ := cntOf_le n
  generalize cntOf n = c at *
  obtain ⟨mx, hmx⟩ : ∃ x, max n 1 = x := ⟨_, rfl⟩
  rw [hmx] at h3
  go_enter Tryz.func9, Tryz.ntmps9
  go_wp2_with fail
  refine (pad_any w).mono ?_
  rintro e w1 ⟨rfl, hb1⟩
  obtain ⟨W2, HW2⟩ : ∃ W2, Hid (w1.alloc (.cells #[.string zr, .string M.E] 81) = W2) := ⟨_, Hid_of rfl⟩
  have hrep := repeat_any w1.heap.size c W2 (by rw [← HW2.out]; exact heap_alloc_last w1 _) h1 h2
  have HB2 : Hid (Below w.heap.size w W2) := by rw [← HW2.out]; exact bel_up hb1 (bel1 w1 _) (Nat.le_refl _)
  clear hb1
  go_wp2_with fail
  rw [HW2.out]
  refine hrep.mono ?_
  rintro e w3 ⟨g, rfl, hg, hp, hb3⟩
  have HQ : Hid (∃ b' g', Ending.returned (.pointer (some ⟨w3.heap.size, 0, none⟩)) = .returned (.pointer (some ⟨b', 0, none⟩)) ∧ DI (w3.alloc (.cells #[.int .i64 c, .slice (some ⟨g, 0, none⟩) c c, .slice none 0 0, .bool false] 84)) w.heap.size b' g' (.slice none 0 0) c (new c) [] ∧ Below w.heap.size w (w3.alloc (.cells #[.int .i64 c, .slice (some ⟨g, 0, none⟩) c c, .slice none 0 0, .bool false] 84))) := by
    have hb4 : Below w.heap.size w w3 := bel_up HB2.out hb3 (Nat.le_refl _)
    have hs2 := HB2.out.size
    have hs4 := hb4.size
    refine ⟨w3.heap.size, g, rfl, ⟨heap_alloc_last w3 _, (Below.heap_alloc _ _ g hp.lt).trans hp, new_len c, ⟨h1, h2⟩, new_ok c, World.ownsRow_nil _ _ _ _, M.Lo.none (new_lse c), ⟨?_, by simp [Value.ownBlock], by simp [Value.ownBlock]⟩, ⟨hs4, by omega⟩⟩, bel_up hb4 (bel1 w3 _) (Nat.le_refl _)⟩
    have := hp.lt
    omega
  clear hrep hg hp hb3 HB2 HW2
  go_wp2
  go_ret
  exact HQ.out
end Go.Proofs.YtlnedgjikkhplaaGreat.Ns
end
section
namespace Go.Proofs.YtlnedgjikkhplaaGreat.Ns
open Go.RowKit
open M (ofL ofL_size ofL_of)
set_option linter.unusedVariables false

/-- A device that is new since w0; F: what is its own. -/
structure DS (w0 w : World) (b : Nat) (F : Nat → Prop) (n : Nat) (P : List M.Pl) (lost : Bool) : Prop where
  x : (lost = false ∧ ∃ g vl ls, F = fp b g vl ∧ DI w w0.heap.size b g vl n P ls) ∨ (lost = true ∧ P = [] ∧ F = (· = b) ∧ LI w w0.heap.size b n)
  bel : Below w0.heap.size w0 w
/-- A slice that is not the device's own. -/
structure AtO (w : World) (F : Nat → Prop) (a : Option Addr) (cs : List Value) : Prop where
  v : AtV w a cs
  o : ∀ k, blk a k → ¬ F k ∧ k < w.heap.size
theorem AtO.step {w w' : World} {F G : Nat → Prop} {a : Option Addr} {cs : List Value} (h : AtO w F a cs) (hc : Ch w F w' G) : AtO w' G a cs :=
  ⟨h.v.keepBut (fun k hk hb => hc.block k hk (h.o k hb).1), fun k hb => ⟨fun hG => by
    rcases hc.n k hG with h' | h'
    · exact (h.o k hb).1 h'
    · have := (h.o k hb).2; omega, Nat.lt_of_lt_of_le (h.o k hb).2 hc.size⟩⟩
theorem AtO.keep {w w' : World} {F : Nat → Prop} {a : Option Addr} {cs : List Value} (h : AtO w F a cs) (hb : Below w.heap.size w w') : AtO w' F a cs := h.step (Ch.ofBelow hb)
section
variable {w0 w w' : World} {b : Nat} {F G : Nat → Prop} {n : Nat} {P P' : List M.Pl} {lost : Bool}
theorem DS.own (h : DS w0 w b F n P lost) : ∀ k, F k → w0.heap.size ≤ k ∧ k < w.heap.size := by
  intro k hk
  rcases h.x with ⟨_, g, vl, ls, rfl, hd⟩ | ⟨_, _, rfl, hl⟩
  · exact hd.mine k hk
  · subst hk
    exact ⟨hl.low, hl.lt⟩
theorem DS.keepBut (h : DS w0 w b F n P lost) (hb : ∀ k, k < w.heap.size → F k → w'.heap[k]? = w.heap[k]?) (hB : Below w0.heap.size w0 w') : DS w0 w' b F n P lost := by
  refine ⟨?_, hB⟩
  rcases h.x with ⟨hl, g, vl, ls, rfl, hd⟩ | ⟨hl, hP, rfl, hi⟩
  · exact .inl ⟨hl, g, vl, ls, rfl, hd.keepBut hb⟩
  · exact .inr ⟨hl, hP, rfl, ⟨(hb b hi.lt rfl).trans hi.row, hi.n1, hi.low⟩⟩
theorem DS.keep (h : DS w0 w b F n P lost) (hb : Below w.heap.size w w') : DS w0 w' b F n P lost := h.keepBut (fun k hk _ => hb.block k hk) (bel_up h.bel hb (Nat.le_refl _))
theorem DS.n1 (h : DS w0 w b F n P lost) : 1 ≤ n ∧ n ≤ 4096 := by
  rcases h.x with ⟨_, g, vl, ls, rfl, hd⟩ | ⟨_, _, rfl, hl⟩
  · exact hd.n1
  · exact hl.n1
theorem DS.row (h : DS w0 w b F n P lost) : ∃ v1 v2, w.heap[b]? = some (.cells #[.int .i64 n, v1, v2, .bool lost] 84 (0, 0)) := by
  rcases h.x with ⟨rfl, g, vl, ls, rfl, hd⟩ | ⟨rfl, _, rfl, hl⟩
  · exact ⟨_, _, hd.row⟩
  · exact ⟨_, _, hl.row⟩
theorem DS.fb (h : DS w0 w b F n P lost) : F b := by
  rcases h.x with ⟨_, g, vl, ls, rfl, hd⟩ | ⟨_, _, rfl, hl⟩
  · exact .inl rfl
  · rfl
theorem DS.ok (h : DS w0 w b F n P lost) : M.Ok P ∧ P.length ≤ 4096 := by
  rcases h.x with ⟨_, g, vl, ls, rfl, hd⟩ | ⟨_, rfl, rfl, hl⟩
  · exact ⟨hd.ok, by rw [hd.len]; exact hd.n1.2⟩
  · exact ⟨fun p hp => by simp at hp, by simp⟩
theorem DS.len (h : DS w0 w b F n P false) : P.length = n := by
  rcases h.x with ⟨_, g, vl, ls, rfl, hd⟩ | ⟨hl, _⟩
  · exact hd.len
  · cases hl
theorem DS.ch (h : DS w0 w b F n P lost) (hc : Ch w F w' G) : Below w0.heap.size w0 w' := h.bel.trans (hc.below (fun k hk => (h.own k hk).1) h.bel.size)
theorem newD (n : Int) (w : World) : Calls Tryz.prog 9 #[.int .i64 n] w fun e w' => ∃ b F, e = .returned (.pointer (some ⟨b, 0, none⟩)) ∧ DS w w' b F (cntOf n) (new (cntOf n)) false :=
  (new_any n w).mono fun e w' ⟨b, g, h1, h2, h3⟩ => ⟨b, _, h1, .inl ⟨rfl, g, _, _, rfl, h2⟩, h3⟩
theorem DS.write (h : DS w0 w b F n P lost) (at' : Int) (s : ByteArray) (hs : s.size ≤ 131072) :
    Calls Tryz.prog 71 #[.pointer (some ⟨b, 0, none⟩), .int .i64 at', .string s] w fun e w' => ∃ G, e = .returned (.int .i64 (M.wcode n lost at' s)) ∧ DS w0 w' b G n (M.wrote n lost P at' s) lost ∧ Ch w F w' G := by
  rcases h.x with ⟨rfl, g, vl, ls, rfl, hd⟩ | ⟨rfl, rfl, rfl, hl⟩
  · refine (write_any _ b g vl n P ls at' s w h.bel.size hd hs).mono ?_
    rintro e w' ⟨vl', ls', h1, h2, h3⟩
    exact ⟨_, h1, ⟨.inl ⟨rfl, g, vl', ls', rfl, h2⟩, h.ch h3⟩, h3⟩
  · refine (write_no b n _ _ true at' s w hl.row hl.n1.2 (by unfold maxLen; omega) (wcode_lost n at' s)).mono ?_
    rintro e w' ⟨h1, rfl⟩
    refine ⟨_, h1, ?_, Ch.refl _ _⟩
    unfold M.wrote
    rw [decide_eq_false (wcode_lost n at' s)]
    exact h
theorem DS.read (h : DS w0 w b F n P lost) (at' m : Int) (hm : m ≤ 9223372036854775807) :
    Calls Tryz.prog 35 #[.pointer (some ⟨b, 0, none⟩), .int .i64 at', .int .i64 m] w fun e w' => e = .returned (.tuple #[.string (M.rtext n lost P at' m), .int .i64 (M.refused n lost at' m)]) ∧ Below w.heap.size w w' ∧ DS w0 w' b F n P lost := by
  rcases h.x with ⟨rfl, g, vl, ls, rfl, hd⟩ | ⟨rfl, rfl, rfl, hl⟩
  · refine (read_any _ b g vl n P ls at' m w hd hm).mono ?_
    rintro e w' ⟨h1, h2⟩
    exact ⟨h1, h2, h.keep h2⟩
  · refine (read_no b n _ _ true [] at' m w hl.row hl.n1.2 hm (ref_lost n at' m)).mono ?_
    rintro e w' ⟨h1, h2⟩
    exact ⟨h1, h2, h.keep h2⟩
theorem DS.flush (h : DS w0 w b F n P lost) : Calls Tryz.prog 109 #[.pointer (some ⟨b, 0, none⟩)] w fun e w' => ∃ G, e = .returned (.tuple #[]) ∧ DS w0 w' b G n (M.flush P) lost ∧ Ch w F w' G := by
  rcases h.x with ⟨rfl, g, vl, ls, rfl, hd⟩ | ⟨rfl, rfl, rfl, hl⟩
  · refine (flush_any _ b g vl n P ls w hd).mono ?_
    rintro e w' ⟨vl', ls', h1, h2, h3⟩
    exact ⟨_, h1, ⟨.inl ⟨rfl, g, vl', ls', rfl, h2⟩, h.ch h3⟩, h3⟩
  · refine (flush_lost _ b n w hl).mono ?_
    rintro e w' ⟨h1, h2, h3⟩
    exact ⟨_, h1, ⟨.inr ⟨rfl, rfl, rfl, h2⟩, h.ch h3⟩, h3⟩
theorem DS.crash (h : DS w0 w b F n P lost) (keep : Nat) (tear : Int) (hk : keep < 18446744073709551616) : Calls Tryz.prog 14 #[.pointer (some ⟨b, 0, none⟩), .int .u64 keep, .int .i64 tear] w fun e w' => ∃ G, e = .returned (.tuple #[]) ∧ DS w0 w' b G n (M.crash P keep tear) lost ∧ Ch w F w' G := by
  rcases h.x with ⟨rfl, g, vl, ls, rfl, hd⟩ | ⟨rfl, rfl, rfl, hl⟩
  · refine (crash_any _ b g vl n P ls keep tear w hd hk).mono ?_
    rintro e w' ⟨vl', ls', h1, h2, h3⟩
    exact ⟨_, h1, ⟨.inl ⟨rfl, g, vl', ls', rfl, h2⟩, h.ch h3⟩, h3⟩
  · refine (crash_lost _ b n keep tear w hl).mono ?_
    rintro e w' ⟨h1, h2, h3⟩
    exact ⟨_, h1, ⟨.inr ⟨rfl, rfl, rfl, h2⟩, h.ch h3⟩, h3⟩
theorem DS.loose (h : DS w0 w b F n P lost) : Calls Tryz.prog 48 #[.pointer (some ⟨b, 0, none⟩)] w fun e w' => ∃ a cap, e = .returned (.slice a (M.lo P).length cap) ∧ AtO w' F a (IC (M.zs (M.lo P))) ∧ (∀ k, blk a k → w.heap.size ≤ k) ∧ Below w.heap.size w w' ∧ DS w0 w' b F n P lost := by
  rcases h.x with ⟨rfl, g, vl, ls, rfl, hd⟩ | ⟨rfl, rfl, rfl, hl⟩
  · refine (loose_any _ b g vl n P ls w hd).mono ?_
    rintro e w' ⟨v, h1, h2, h3⟩
    obtain ⟨a, cap, rfl, hat, hbl, _⟩ := owns_at h2
    exact ⟨a, cap, h1, ⟨hat, fun k hk => ⟨fun hF => by have := (h.own k hF).2; have := (hbl k hk).1; omega, (hbl k hk).2.2⟩⟩, fun k hk => (hbl k hk).1, h3, h.keep h3⟩
  · refine (loose_lost _ b n w hl).mono ?_
    rintro e w' ⟨v, h1, h2, h3⟩
    obtain ⟨a, cap, rfl, hat, hbl, _⟩ := owns_at h2
    exact ⟨a, cap, h1, ⟨hat, fun k hk => ⟨fun hF => by have := (h.own k hF).2; have := (hbl k hk).1; omega, (hbl k hk).2.2⟩⟩, fun k hk => (hbl k hk).1, h3, h.keep h3⟩
end
end Go.Proofs.YtlnedgjikkhplaaGreat.Ns
end
section
namespace Go.Proofs.YtlnedgjikkhplaaGreat.Ns
open Go.RowKit
open M (ofL ofL_size ofL_of)
set_option linter.unusedVariables false

theorem ret_int {k : IntKind} {a b : Int} (h : a = b) : Ending.returned (.int k a) = .returned (.int k b) := by rw [h]

theorem xor_bits (a b : BitVec 32) : bits .xor .u32 (a.toNat : Int) (b.toNat : Int) = ((a ^^^ b).toNat : Int) := by
  rw [u32_xor_nat _ _ a.isLt b.isLt, BitVec.toNat_xor]
theorem and_bits (a b : BitVec 32) : bits .and .u32 (a.toNat : Int) (b.toNat : Int) = ((a &&& b).toNat : Int) := by
  rw [u32_and_nat _ _ a.isLt b.isLt, BitVec.toNat_and]
theorem and_one_bits (a : BitVec 32) : bits .and .u32 (a.toNat : Int) 1 = ((a &&& 1#32).toNat : Int) := and_bits a 1#32
theorem half_bits (a : BitVec 32) : ((a.toNat : Int) / (2 : Int)) = ((a >>> 1).toNat : Int) := by
  rw [BitVec.toNat_ushiftRight, Nat.shiftRight_eq_div_pow]
  omega
theorem sh_bits (c : BitVec 32) : bits .xor .u32 ((c.toNat : Int) / 2) (3988292384 * bits .and .u32 (c.toNat : Int) 1 % 4294967296) = ((K2.sh c).toNat : Int) := by
  have e : 3988292384 * ((c &&& 1#32).toNat : Int) % 4294967296 = ((K2.poly * (c &&& 1#32)).toNat : Int) := by
    rw [BitVec.toNat_mul]
    show _ = ((3988292384 * (c &&& 1#32).toNat % 4294967296 : Nat) : Int)
    omega
  rw [and_one_bits, e, half_bits, xor_bits]
  rfl

set_option maxRecDepth 1000000 in
set_option maxHeartbeats 400000 in
theorem shift_any (c : BitVec 32) (n : Nat) (hn : n ≤ 8) (w : World) :
    Calls Tryz.prog 220 #[.int .u32 c.toNat, .int .i64 n] w fun e w' => e = .returned (.int .u32 (K2.shn n c).toNat) ∧ w' = w := by
  have hc : c.toNat < 4294967296 := c.isLt
  go_enter Tryz.func220, Tryz.ntmps220
  go_wp2
  refine wp_scope_jumps 0 (fun a' w' => w' = w ∧ ∃ (m : Nat) (d : BitVec 32) (u5 u6 u7 u8 u9 u10 u11 u12 u13 u14 u15 u16 u17 : Value), a' = { tmps := #[.int .u32 d.toNat, .int .i64 m, undef, undef, .int .u32 0, u5, u6, u7, u8, u9, u10, u11, u12, u13, u14, u15, u16, u17], defers := [] } ∧ K2.shn m d = K2.shn n c ∧ m ≤ 8) (fun a' _ => (intOf (a'.tmps.getD 1 undef)).toNat) rfl ?_ ?_
  · go_wp2
    go_step3
    go_wp2
    · rename_i h0
      simp only [Exit.jump]
      go_ret
      have hz : n = 0 := by simpa using h0
      subst hz
      exact ⟨rfl, rfl⟩
    · rename_i h0
      go_step3
      have hz : n ≠ 0 := by
        rintro rfl
        simp at h0
      obtain ⟨m, rfl⟩ : ∃ m, n = m + 1 := ⟨n - 1, by omega⟩
      rw [sh_bits, show ((m + 1 : Nat) : Int) - 1 = (m : Int) by omega]
      exact ⟨rfl, rfl, m, K2.sh c, _, _, _, _, _, _, _, _, _, _, _, _, _, rfl, rfl, by omega⟩
  · rintro a' w' ⟨rfl, m, d, u5, u6, u7, u8, u9, u10, u11, u12, u13, u14, u15, u16, u17, rfl, hs, hm⟩
    have hd : d.toNat < 4294967296 := d.isLt
    have HS : Hid (K2.shn m d = K2.shn n c) := hs
    clear hs
    go_wp2
    · rename_i h0
      simp only [Exit.jump]
      go_ret
      have hz : m = 0 := by simpa using h0
      subst hz
      rw [← HS.out]
      exact ⟨rfl, rfl⟩
    · rename_i h0
      go_step3
      have hz : m ≠ 0 := by
        rintro rfl
        simp at h0
      obtain ⟨j, rfl⟩ : ∃ j, m = j + 1 := ⟨m - 1, by omega⟩
      rw [sh_bits, show ((j + 1 : Nat) : Int) - 1 = (j : Int) by omega]
      refine ⟨rfl, ⟨rfl, j, K2.sh d, _, _, _, _, _, _, _, _, _, _, _, _, _, rfl, HS.out, by omega⟩, ?_⟩
      simp [intOf]
theorem shift8_any (c : BitVec 32) (w : World) :
    Calls Tryz.prog 220 #[.int .u32 c.toNat, .int .i64 8] w fun e w' => e = .returned (.int .u32 (K2.shn 8 c).toNat) ∧ w' = w := shift_any c 8 (by decide) w
theorem shift1_any (c : BitVec 32) (w : World) :
    Calls Tryz.prog 220 #[.int .u32 c.toNat, .int .i64 1] w fun e w' => e = .returned (.int .u32 (K2.sh c).toNat) ∧ w' = w := shift_any c 1 (by decide) w

/-! the document's step -/
theorem convert_wide (b : UInt8) : (b.toNat : Int) = ((K2.wide b).toNat : Int) := by
  unfold K2.wide
  rw [BitVec.toNat_setWidth, Nat.mod_eq_of_lt]
  · rfl
  · exact Nat.lt_of_lt_of_le b.toNat_lt (by decide)

theorem and_bit (d : BitVec 32) (v : Bool) (h : d.getLsbD 0 = v) : bits .and .u32 (d.toNat : Int) 1 = if v then 1 else 0 := by
  rw [and_one_bits, K2.and_one, h]
  cases v <;> rfl
theorem sh_even (d : BitVec 32) (h : d.getLsbD 0 = false) : ((d.toNat : Int) / (2 : Int)) = ((K2.sh d).toNat : Int) := by
  rw [K2.sh_if, h, half_bits]
  simp
theorem sh_odd (d : BitVec 32) (h : d.getLsbD 0 = true) : bits .xor .u32 ((d.toNat : Int) / (2 : Int)) 3988292384 = ((K2.sh d).toNat : Int) := by
  rw [K2.sh_if, h, half_bits]
  exact xor_bits (d >>> 1) K2.poly

set_option maxHeartbeats 400000 in
theorem refStep_any (c : BitVec 32) (b : UInt8) (w : World) :
    Calls Tryz.prog 216 #[.int .u32 c.toNat, .int .u8 b.toNat] w fun e w' => e = .returned (.int .u32 (K2.step c b).toNat) ∧ w' = w := by
  have hc : c.toNat < 4294967296 := c.isLt
  have hb : b.toNat < 256 := b.toNat_lt
  go_enter Tryz.func216, Tryz.ntmps216
  go_wp2
  rw [convert_wide b, xor_bits]
  go_loop [0, 5] (fun x i => ∃ k : Nat, k ≤ 8 ∧ i = .int .i64 k ∧ x = .int .u32 (K2.shn k (c ^^^ K2.wide b)).toNat) (fun _ i => 8 - (intOf i).toNat)
  case atStart => exact ⟨0, Nat.zero_le _, rfl, rfl⟩
  case round =>
    obtain ⟨k, hk, rfl, rfl⟩ := hrel
    have HE : Hid (K2.shn (k + 1) (c ^^^ K2.wide b) = K2.sh (K2.shn k (c ^^^ K2.wide b))) := K2.shn_succ _ _
    have HE8 : Hid (k = 8 → K2.shn k (c ^^^ K2.wide b) = K2.step c b) := fun h => by rw [h]; rfl
    generalize K2.shn k (c ^^^ K2.wide b) = d at HE HE8 ⊢
    have hd : d.toNat < 4294967296 := d.isLt
    by_cases hlt : k < 8
    · cases hbit : d.getLsbD 0
      · have h1 := and_bit d _ hbit
        simp only [Bool.false_eq_true, if_false] at h1
        go_wp2
        go_round
        case rel => exact ⟨k + 1, by omega, by go_num, by rw [sh_even d hbit, HE.out]⟩
        case measure => simp [intOf]; omega
      · have h1 := and_bit d _ hbit
        simp only [if_true] at h1
        go_wp2
        go_round
        case rel => exact ⟨k + 1, by omega, by go_num, by rw [sh_odd d hbit, HE.out]⟩
        case measure => simp [intOf]; omega
    · go_wp2
      go_ret
      rw [HE8.out (by omega)]
      exact ⟨rfl, rfl⟩

theorem max_bits (c : BitVec 32) : bits .xor .u32 IntKind.u32.max (c.toNat : Int) = ((~~~ c).toNat : Int) := by
  have h := xor_bits (~~~ 0#32) c
  rw [← K2.not_xor] at h
  exact h
theorem run_on (c : BitVec 32) (s : ByteArray) (k : Nat) (h : k < s.size) :
    K2.run c (s.data.toList.take (k + 1)) = K2.step (K2.run c (s.data.toList.take k)) s[k] := by
  rw [List.take_succ_eq_append_getElem (by rw [len_data]; exact h), K2.run_snoc]
  rfl
theorem run_all (c : BitVec 32) (s : ByteArray) (k : Nat) (h : s.size ≤ k) :
    K2.run c (s.data.toList.take k) = K2.run c s.data.toList := by
  rw [List.take_of_length_le (by rw [len_data]; exact h)]

set_option maxHeartbeats 400000 in
theorem more_any (c : BitVec 32) (s : ByteArray) (w : World) (hs : s.size ≤ maxLen) :
    Calls Tryz.prog 209 #[.int .u32 c.toNat, .string s] w fun e w' => e = .returned (.int .u32 (K2.more c s.data.toList).toNat) ∧ w' = w := by
  have hc : c.toNat < 4294967296 := c.isLt
  unfold maxLen at hs
  go_enter Tryz.func209, Tryz.ntmps209
  go_wp2
  rw [max_bits]
  obtain ⟨c1, hc1⟩ : ∃ c1, c1 = ~~~ c := ⟨_, rfl⟩
  rw [← hc1]
  have HC1 : Hid (c1 = ~~~ c) := hc1
  clear hc1
  go_loop [5, 11] (fun x i => ∃ k : Nat, k ≤ s.size ∧ i = .int .i64 k ∧ x = .int .u32 (K2.run c1 (s.data.toList.take k)).toNat) (fun _ i => s.size - (intOf i).toNat)
  case atStart => exact ⟨0, Nat.zero_le _, rfl, rfl⟩
  case round =>
    obtain ⟨k, hk, rfl, rfl⟩ := hrel
    by_cases hlt : k < s.size
    · have HE : Hid (_ = _) := run_on c1 s k hlt
      generalize K2.run c1 (s.data.toList.take k) = d at HE ⊢
      have hd : d.toNat < 4294967296 := d.isLt
      obtain ⟨x, hX0⟩ : ∃ x, x = d ^^^ K2.wide s[k] := ⟨_, rfl⟩
      have hX : Hid (x = d ^^^ K2.wide s[k]) := hX0
      clear hX0
      have hx : bits .xor .u32 (d.toNat : Int) (s[k].toNat : Int) = (x.toNat : Int) := by rw [convert_wide, xor_bits, hX.out]
      have hsk : s[k].toNat < 256 := s[k].toNat_lt
      have hm : ((s[k].toNat : Int) % 4294967296) = (s[k].toNat : Int) := by omega
      go_wp2_with fail
      try rw [hm]
      try rw [hx]
      refine (shift8_any x w).mono ?_
      rintro e w1 ⟨rfl, rfl⟩
      go_wp2
      go_round
      case rel => exact ⟨k + 1, by omega, by go_num, by rw [HE.out, hX.out]; rfl⟩
      case measure => simp [intOf]; omega
    · have HE : Hid (_ = _) := run_all c1 s k (by omega)
      generalize K2.run c1 (s.data.toList.take k) = d at HE ⊢
      have hd : d.toNat < 4294967296 := d.isLt
      go_wp2
      go_ret
      rw [max_bits, HE.out, HC1.out]
      exact ⟨rfl, rfl⟩

theorem ones_bits (c : BitVec 32) : bits .xor .u32 (c.toNat : Int) 4294967295 = ((~~~ c).toNat : Int) := by
  have h := xor_bits c (~~~ 0#32)
  rw [BitVec.xor_comm, ← K2.not_xor] at h
  exact h

set_option maxHeartbeats 400000 in
theorem refMore_any (c : BitVec 32) (s : ByteArray) (w : World) (hs : s.size ≤ maxLen) :
    Calls Tryz.prog 195 #[.int .u32 c.toNat, .string s] w fun e w' => e = .returned (.int .u32 (K2.more c s.data.toList).toNat) ∧ w' = w := by
  have hc : c.toNat < 4294967296 := c.isLt
  unfold maxLen at hs
  go_enter Tryz.func195, Tryz.ntmps195
  go_wp2
  rw [ones_bits]
  obtain ⟨c1, hc1⟩ : ∃ c1, c1 = ~~~ c := ⟨_, rfl⟩
  rw [← hc1]
  have HC1 : Hid (c1 = ~~~ c) := hc1
  clear hc1
  go_loop [5, 6] (fun x i => ∃ k : Nat, k ≤ s.size ∧ i = .int .i64 k ∧ x = .int .u32 (K2.run c1 (s.data.toList.take k)).toNat) (fun _ i => s.size - (intOf i).toNat)
  case atStart => exact ⟨0, Nat.zero_le _, rfl, rfl⟩
  case round =>
    obtain ⟨k, hk, rfl, rfl⟩ := hrel
    by_cases hlt : k < s.size
    · have HE : Hid (_ = _) := run_on c1 s k hlt
      generalize K2.run c1 (s.data.toList.take k) = d at HE ⊢
      have hd : d.toNat < 4294967296 := d.isLt
      go_wp2_with fail
      refine (refStep_any d s[k] w).mono ?_
      rintro e w1 ⟨rfl, rfl⟩
      go_wp2
      go_round
      case rel => exact ⟨k + 1, by omega, by go_num, by rw [HE.out]⟩
      case measure => simp [intOf]; omega
    · have HE : Hid (_ = _) := run_all c1 s k (by omega)
      generalize K2.run c1 (s.data.toList.take k) = d at HE ⊢
      have hd : d.toNat < 4294967296 := d.isLt
      go_wp2
      go_ret
      rw [ones_bits, HE.out, HC1.out]
      exact ⟨rfl, rfl⟩

set_option maxHeartbeats 400000 in
theorem sum_any (s : ByteArray) (w : World) (hs : s.size ≤ maxLen) :
    Calls Tryz.prog 179 #[.string s] w fun e w' => e = .returned (.int .u32 (K2.sum s.data.toList).toNat) ∧ w' = w := by
  go_enter Tryz.func179, Tryz.ntmps179
  go_wp2_with fail
  refine (more_any 0#32 s w hs).mono ?_
  rintro e w1 ⟨rfl, rfl⟩
  go_wp2
  go_ret
  exact ⟨rfl, rfl⟩

set_option maxHeartbeats 400000 in
theorem refSum_any (s : ByteArray) (w : World) (hs : s.size ≤ maxLen) :
    Calls Tryz.prog 163 #[.string s] w fun e w' => e = .returned (.int .u32 (K2.sum s.data.toList).toNat) ∧ w' = w := by
  go_enter Tryz.func163, Tryz.ntmps163
  go_wp2_with fail
  refine (refMore_any 0#32 s w hs).mono ?_
  rintro e w1 ⟨rfl, rfl⟩
  go_wp2
  go_ret
  exact ⟨rfl, rfl⟩
end Go.Proofs.YtlnedgjikkhplaaGreat.Ns
end
