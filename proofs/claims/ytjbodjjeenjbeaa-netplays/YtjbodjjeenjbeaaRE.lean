/-
  The document's net: one less.
-/
import Derived.Test.YtjbodjjeenjbeaaRC
namespace Go.Proofs.Ytjbodjjeenjbeaa
open Go.RowKit
set_option linter.unusedVariables false
set_option linter.unusedSimpArgs false
open Nt (Pk)

theorem Try.size44 : (Try.prog.info? 44).map (·.size) = some 3 := by kernel_rfl
theorem f15_res : Try.f15.results = #[.cell 4 30, .cell 5 44, .tmp 6] := rfl
theorem f13_res : Try.f13.results = #[.cell 4 30, .cell 5 33, .tmp 6] := rfl
theorem results_cells_tmp {fn : Func} {p q u : Tmp} {t t' : TypeId} (h : fn.results = #[.cell p t, .cell q t', .tmp u]) (tmps : Array Value) (P : Program) (w : World) :
    (results fn tmps).run P w =
      ((asAddr (tmps.getD p undef)).run P w).andThen fun a w₁ => ((loadVar t a).run P w₁).andThen fun v w₂ => ((asAddr (tmps.getD q undef)).run P w₂).andThen fun a' w₃ => ((loadVar t' a').run P w₃).andThen fun v' w₄ => .ok (.tuple #[v, v', tmps.getD u undef]) w₄ := by
  simp only [results, h]
  simp [Sem.run_bind, Result.andThen]
theorem res33 {fn : Func} {p q u : Tmp} (h : fn.results = #[.cell p 30, .cell q 44, .tmp u]) (tmps : Array Value) (w : World) (g g' : Nat) (v0 v1 v2 u0 u1 u2 : Value) (hp : tmps.getD p undef = .pointer (some ⟨g, 0, none⟩)) (hq : tmps.getD q undef = .pointer (some ⟨g', 0, none⟩)) (hg : w.heap[g]? = some (.cells #[v0, v1, v2] 30 (0, 0))) (hg' : w.heap[g']? = some (.cells #[u0, u1, u2] 44 (0, 0))) :
    (results fn tmps).run Try.prog w = .ok (.tuple #[.agg #[v0, v1, v2], .agg #[u0, u1, u2], tmps.getD u undef]) w := by
  have hp' : tmps[p]?.getD undef = .pointer (some ⟨g, 0, none⟩) := by simpa using hp
  have hq' : tmps[q]?.getD undef = .pointer (some ⟨g', 0, none⟩) := by simpa using hq
  rw [results_cells_tmp h]
  simp [asAddr, hp', hq', run_loadVar_row w g 30 30 #[v0, v1, v2] (0, 0) _ hg Try.underlying30 rfl Try.size30, run_loadVar_row w g' 44 44 #[u0, u1, u2] (0, 0) _ hg' Try.underlying44 rfl Try.size44]
theorem res35 {fn : Func} {p q u : Tmp} (h : fn.results = #[.cell p 30, .cell q 33, .tmp u]) (tmps : Array Value) (w : World) (g g' : Nat) (v0 v1 v2 u0 u1 u2 u3 u4 : Value) (hp : tmps.getD p undef = .pointer (some ⟨g, 0, none⟩)) (hq : tmps.getD q undef = .pointer (some ⟨g', 0, none⟩)) (hg : w.heap[g]? = some (.cells #[v0, v1, v2] 30 (0, 0))) (hg' : w.heap[g']? = some (.cells #[u0, u1, u2, u3, u4] 33 (0, 0))) :
    (results fn tmps).run Try.prog w = .ok (.tuple #[.agg #[v0, v1, v2], .agg #[u0, u1, u2, u3, u4], tmps.getD u undef]) w := by
  have hp' : tmps[p]?.getD undef = .pointer (some ⟨g, 0, none⟩) := by simpa using hp
  have hq' : tmps[q]?.getD undef = .pointer (some ⟨g', 0, none⟩) := by simpa using hq
  rw [results_cells_tmp h]
  simp [asAddr, hp', hq', run_loadVar_row w g 30 30 #[v0, v1, v2] (0, 0) _ hg Try.underlying30 rfl Try.size30, run_loadVar_row w g' 33 33 #[u0, u1, u2, u3, u4] (0, 0) _ hg' Try.underlying33 rfl Try.size33]
/-- What Drop leaves. -/
def DrOut (w : World) (N : Int) (a : Option Addr) (cap : Nat) (R : List Pk) (ka : Option Addr) (kc : Nat) (K : List (Int × Int)) (R' : List Pk) (p : Pk) (r : Bool) (e : Ending) (w' : World) : Prop :=
  ∃ v1, e = .returned (.tuple #[.agg #[.int .i64 N, v1, .slice ka K.length kc], .agg #[.int .i64 p.a, .int .i64 p.b, .string p.s], .bool r]) ∧ XRes w w' a cap R v1 R' ∧ Below w.heap.size w w'
set_option maxRecDepth 100000 in
set_option maxHeartbeats 1000000 in
theorem rdrop_none {w : World} {N : Int} {a : Option Addr} {cap : Nat} {ka : Option Addr} {kc : Nat} {K : List (Int × Int)} (h : RN w a cap [] ka kc K) (i : Int) :
    Calls Try.prog 15 #[.agg #[.int .i64 N, .slice a 0 cap, .slice ka K.length kc], .int .i64 i] w (DrOut w N a cap [] ka kc K [] ⟨0, 0, ⟨#[]⟩⟩ false) := by
  obtain ⟨W1, HW1⟩ : ∃ W1, Hid (((w.alloc (.cells #[.int .i64 N, .slice a 0 cap, .slice ka K.length kc] 30)).alloc (.cells #[.int .i64 0, .slice none 0 0, .slice none 0 0] 30)).alloc (.cells #[.int .i64 0, .int .i64 0, .string ⟨#[]⟩] 44) = W1) := ⟨_, rfl⟩
  have hB1 : Below w.heap.size w W1 := by rw [← HW1.out]; exact (bel2 w _ _).alloc (by simp; omega) _
  obtain ⟨hr1, hr2, hr3⟩ : W1.heap[w.heap.size]? = some (.cells #[.int .i64 N, .slice a 0 cap, .slice ka K.length kc] 30 (0, 0)) ∧ W1.heap[w.heap.size + 1]? = some (.cells #[.int .i64 0, .slice none 0 0, .slice none 0 0] 30 (0, 0)) ∧ W1.heap[w.heap.size + 2]? = some (.cells #[.int .i64 0, .int .i64 0, .string ⟨#[]⟩] 44 (0, 0)) := by
    rw [← HW1.out]
    exact heap_alloc3 w _ _ _
  obtain ⟨⟨n0, n1, n2⟩, _⟩ := rw3 hr1
  obtain ⟨⟨y0, y1, y2⟩, yf⟩ := rw3 hr2
  obtain ⟨⟨z0, z1, z2⟩, zf⟩ := rw3 hr3
  have yf0 := yf 0
  have yf1 := yf 1
  have yf2 := yf 2
  have zf0 := zf 0
  have zf1 := zf 1
  have zf2 := zf 2
  obtain ⟨W2, HW2⟩ : ∃ W2, Hid (put3 W1 (w.heap.size + 1) (.int .i64 N) (.slice a 0 cap) (.slice ka K.length kc) = W2) := ⟨_, rfl⟩
  have h22 : W2.heap[w.heap.size + 1]? = some (.cells #[.int .i64 N, .slice a 0 cap, .slice ka K.length kc] 30 (0, 0)) := by rw [← HW2.out]; exact put3_row hr2 _ _ _
  have h23 : W2.heap[w.heap.size + 2]? = some (.cells #[.int .i64 0, .int .i64 0, .string ⟨#[]⟩] 44 (0, 0)) := by rw [← HW2.out, put3_oth (by omega)]; exact hr3
  have hB2 : Below w.heap.size w W2 := by rw [← HW2.out]; exact put3_bel hB1 (by omega) _ _ _
  have HQ1 : Hid ((put3 W2 (w.heap.size + 2) (.int .i64 0) (.int .i64 0) (.string ⟨#[]⟩)).heap[w.heap.size + 1]? = some (.cells #[.int .i64 N, .slice a 0 cap, .slice ka K.length kc] 30 (0, 0))) := Hid_of (by rw [put3_oth (by omega)]; exact h22)
  have HQ2 : Hid ((put3 W2 (w.heap.size + 2) (.int .i64 0) (.int .i64 0) (.string ⟨#[]⟩)).heap[w.heap.size + 2]? = some (.cells #[.int .i64 0, .int .i64 0, .string ⟨#[]⟩] 44 (0, 0))) := put3_row h23 _ _ _
  have HK : Hid (DrOut w N a cap [] ka kc K [] ⟨0, 0, ⟨#[]⟩⟩ false (.returned (.tuple #[.agg #[.int .i64 N, .slice a 0 cap, .slice ka K.length kc], .agg #[.int .i64 0, .int .i64 0, .string ⟨#[]⟩], .bool false])) (put3 W2 (w.heap.size + 2) (.int .i64 0) (.int .i64 0) (.string ⟨#[]⟩))) := ⟨_, rfl, XRes.same, put3_bel hB2 (by omega) _ _ _⟩
  unfold put3 at HW2
  rw [← HW2.out] at HQ1 HQ2 HK
  clear h hr1 hr2 hr3 hB1 hB2 h22 h23 yf zf HW2
  go_enter Try.func15, Try.ntmps15
  go_upto_region 1 with fail
  rw [HW1.out]
  clear HW1
  go_wp2
  refine bodyPost_ret (v := .tuple #[.agg #[.int .i64 N, .slice a 0 cap, .slice ka K.length kc], .agg #[.int .i64 0, .int .i64 0, .string ⟨#[]⟩], .bool false]) ?_ rfl HK.out
  exact res33 f15_res _ _ (w.heap.size + 1) (w.heap.size + 2) _ _ _ _ _ _ rfl rfl HQ1.out HQ2.out
set_option maxRecDepth 100000 in
set_option maxHeartbeats 1000000 in
theorem rdrop_some {w : World} {N : Int} {b off : Nat} {cap : Nat} {R : List Pk} {ka : Option Addr} {kc : Nat} {K : List (Int × Int)} (h : RN w (some ⟨b, off, none⟩) cap R ka kc K) (i : Int) (hR : 0 < R.length) (j : Nat) (hjw : Nt.wr i R.length = j) (hj : j < R.length) :
    Calls Try.prog 15 #[.agg #[.int .i64 N, .slice (some ⟨b, off, none⟩) R.length cap, .slice ka K.length kc], .int .i64 i] w (DrOut w N (some ⟨b, off, none⟩) cap R ka kc K (R.eraseIdx j) R[j] true) := by
  obtain ⟨W1, HW1⟩ : ∃ W1, Hid (((w.alloc (.cells #[.int .i64 N, .slice (some ⟨b, off, none⟩) R.length cap, .slice ka K.length kc] 30)).alloc (.cells #[.int .i64 0, .slice none 0 0, .slice none 0 0] 30)).alloc (.cells #[.int .i64 0, .int .i64 0, .string ⟨#[]⟩] 44) = W1) := ⟨_, rfl⟩
  have hB1 : Below w.heap.size w W1 := by rw [← HW1.out]; exact (bel2 w _ _).alloc (by simp; omega) _
  obtain ⟨hr1, hr2, hr3⟩ : W1.heap[w.heap.size]? = some (.cells #[.int .i64 N, .slice (some ⟨b, off, none⟩) R.length cap, .slice ka K.length kc] 30 (0, 0)) ∧ W1.heap[w.heap.size + 1]? = some (.cells #[.int .i64 0, .slice none 0 0, .slice none 0 0] 30 (0, 0)) ∧ W1.heap[w.heap.size + 2]? = some (.cells #[.int .i64 0, .int .i64 0, .string ⟨#[]⟩] 44 (0, 0)) := by
    rw [← HW1.out]
    exact heap_alloc3 w _ _ _
  have hl1 : w.heap.size + 2 < W1.heap.size := (Array.getElem?_eq_some_iff.1 hr3).1
  have HS1 : Hid (W1.heap.size = w.heap.size + 3) := Hid_of (by rw [← HW1.out]; simp)
  have hRn := h.ok.n
  have hAt := fun W => rat_any i R.length hR (by omega) W
  rw [hjw] at hAt
  have hX1 := h.r.keep hB1
  obtain ⟨b', off', e, q0, q1, q2⟩ := hX1.at' j hj
  cases e
  have hle := h.r.le
  have hmx : cap ≤ 9223372036854775807 := by have := h.r.mx; unfold maxLen at this; omega
  obtain ⟨W4, HW4⟩ : ∃ W4, Hid (W1.alloc (.cells #[.int .i64 R[j].a, .int .i64 R[j].b, .string R[j].s] 44) = W4) := ⟨_, Hid_of rfl⟩
  have hB4 : Below W1.heap.size W1 W4 := by rw [← HW4.out]; exact bel1 W1 _
  have hq4 : W4.heap[W1.heap.size]? = some (.cells #[.int .i64 R[j].a, .int .i64 R[j].b, .string R[j].s] 44 (0, 0)) := by rw [← HW4.out]; exact heap_alloc_last W1 _
  have hs4 : W4.heap.size = W1.heap.size + 1 := by rw [← HW4.out]; simp
  have hX4 := hX1.keep hB4
  obtain ⟨a1, cp1, w1, hrun1, o1, rw1'⟩ := run_appP pt27 W4.drew 27 W4.heap.size (.slice none 0 0) [] (R.take j) b off cap j (OwnP.nil _ _ _) (hX4.at'.take j) (by simp; omega) (Nat.le_refl _) (by simp; omega)
  have B0 := rw1'.below (B := W4.drew.heap.size) (fun k hk => by simp [Value.ownBlock] at hk) (Nat.le_refl _)
  have B1 : Below W4.heap.size W4 w1 := ⟨B0.os, B0.tape, B0.output, B0.size, B0.block⟩
  clear B0
  have hX2 := hX4.keep B1
  have hli : (R.take j).length = j := by simp; omega
  rw [List.nil_append] at o1
  simp only [List.length_nil, Nat.zero_add, hli] at hrun1 o1
  have HE : Hid (R.take j ++ R.drop (j + 1) = R.eraseIdx j) := (List.eraseIdx_eq_take_drop_succ R j).symm
  have H2 : Hid (∃ a2 cp2 w2, ((cap = j + 1 → (Builtin.append_ #[27, 27] 27 #[.slice a1 j cp1, .slice (some ⟨b, off, none⟩) 0 0]).run Try.prog w1 = .ok (.slice a2 (R.length - 1) cp2) w2) ∧ (¬ cap = j + 1 → (Builtin.append_ #[27, 27] 27 #[.slice a1 j cp1, .slice (some ⟨b, off + (j + 1) * 3, none⟩) (R.length - (j + 1)) (cap - (j + 1))]).run Try.prog w1 = .ok (.slice a2 (R.length - 1) cp2) w2)) ∧ OwnP 44 w2 W4.heap.size (.slice a2 (R.length - 1) cp2) (R.eraseIdx j) ∧ Below W4.heap.size w1 w2) := by
    by_cases hc : cap = j + 1
    · have hd : R.drop (j + 1) = [] := List.drop_of_length_le (by omega)
      obtain ⟨a2, cp2, w2, hrun2, o2, rw2⟩ := run_appP pt27 w1 27 W4.heap.size _ _ [] b off 0 0 o1 (fun j h => by simp at h) rfl B1.size (by simp; omega)
      rw [← HE.out, hd]
      rw [hli] at hrun2 o2 rw2
      have e1 : j + ([] : List Pk).length = R.length - 1 := by simp; omega
      rw [e1] at hrun2 o2 rw2
      exact ⟨a2, cp2, w2, ⟨fun _ => hrun2, fun h => absurd hc h⟩, o2, rw2.below (fun k hk => (o1.lt hk).1) B1.size⟩
    · obtain ⟨a2, cp2, w2, hrun2, o2, rw2⟩ := run_appP pt27 w1 27 W4.heap.size _ _ (R.drop (j + 1)) b (off + (j + 1) * 3) (cap - (j + 1)) (R.length - (j + 1)) o1 (hX2.at'.drop (j + 1)) (by simp) B1.size (by simp; omega)
      rw [← HE.out]
      rw [hli] at hrun2 o2 rw2
      have e1 : j + (R.drop (j + 1)).length = R.length - 1 := by simp; omega
      rw [e1] at hrun2 o2 rw2
      exact ⟨a2, cp2, w2, ⟨fun h => absurd h hc, fun _ => hrun2⟩, o2, rw2.below (fun k hk => (o1.lt hk).1) B1.size⟩
  obtain ⟨a2, cp2, w2, hr, o2, B2⟩ := H2.out
  have B12 : Below W4.heap.size W4 w2 := B1.trans B2
  obtain ⟨⟨s0, s1, s2⟩, _⟩ := rw3 (bel_row hr1 hB4)
  obtain ⟨⟨t0, t1, t2⟩, _⟩ := rw3 (bel_row (bel_row hr1 hB4) B1)
  obtain ⟨⟨n0, n1, n2⟩, _⟩ := rw3 hr1
  have p2 := bel_row (bel_row hr1 hB4) B12
  have p3 := bel_row (bel_row hr2 hB4) B12
  have p4 := bel_row (bel_row hr3 hB4) B12
  have p5 := bel_row hq4 B12
  obtain ⟨⟨_, u1, _⟩, uf⟩ := rw3 p2
  have uf1 := uf 1
  obtain ⟨W6, HW6⟩ : ∃ W6, Hid (w2.setCell ⟨w.heap.size, 1, none⟩ (.slice a2 (R.length - 1) cp2) = W6) := ⟨_, rfl⟩
  have p26 : W6.heap[w.heap.size]? = some (.cells #[.int .i64 N, .slice a2 (R.length - 1) cp2, .slice ka K.length kc] 30 (0, 0)) := by rw [← HW6.out]; exact heap_setCell_same w2 _ 1 _ _ _ p2
  have hoth : ∀ k, k ≠ w.heap.size → W6.heap[k]? = w2.heap[k]? := fun k hk => by rw [← HW6.out]; exact heap_setCell_other w2 ⟨w.heap.size, 1, none⟩ k _ hk
  have p36 := (hoth (w.heap.size + 1) (by omega)).trans p3
  have p46 := (hoth (w.heap.size + 2) (by omega)).trans p4
  have p56 := (hoth W1.heap.size (by omega)).trans p5
  have hB6 : Below w.heap.size w W6 := by rw [← HW6.out]; exact (bel_up hB1 (bel_up hB4 B12 (Nat.le_refl _)) (Nat.le_refl _)).setCell (p := ⟨w.heap.size, 1, none⟩) (Nat.le_refl _) _
  have hne : ∀ k, (Value.slice a2 (R.length - 1) cp2).ownBlock = some k → W4.heap.size ≤ k := fun k hk => (o2.lt hk).1
  have o6 : OwnP 44 W6 w.heap.size (.slice a2 (R.length - 1) cp2) (R.eraseIdx j) := (o2.keepBut fun k hk hv => hoth k (by have := hne k hv; omega)).low (by omega)
  have HFIN : Hid (∀ W, (W = put3 (put3 W6 (w.heap.size + 1) (.int .i64 N) (.slice a2 (R.length - 1) cp2) (.slice ka K.length kc)) (w.heap.size + 2) (.int .i64 R[j].a) (.int .i64 R[j].b) (.string R[j].s) ∨ W = put3 (put3 W6 (w.heap.size + 2) (.int .i64 R[j].a) (.int .i64 R[j].b) (.string R[j].s)) (w.heap.size + 1) (.int .i64 N) (.slice a2 (R.length - 1) cp2) (.slice ka K.length kc)) → W.drew.heap[w.heap.size + 1]? = some (.cells #[.int .i64 N, .slice a2 (R.length - 1) cp2, .slice ka K.length kc] 30 (0, 0)) ∧ W.drew.heap[w.heap.size + 2]? = some (.cells #[.int .i64 R[j].a, .int .i64 R[j].b, .string R[j].s] 44 (0, 0)) ∧ DrOut w N (some ⟨b, off, none⟩) cap R ka kc K (R.eraseIdx j) R[j] true (.returned (.tuple #[.agg #[.int .i64 N, .slice a2 (R.length - 1) cp2, .slice ka K.length kc], .agg #[.int .i64 R[j].a, .int .i64 R[j].b, .string R[j].s], .bool true])) W.drew) := by
    intro W hW
    have key : W.heap[w.heap.size + 1]? = some (.cells #[.int .i64 N, .slice a2 (R.length - 1) cp2, .slice ka K.length kc] 30 (0, 0)) ∧ W.heap[w.heap.size + 2]? = some (.cells #[.int .i64 R[j].a, .int .i64 R[j].b, .string R[j].s] 44 (0, 0)) ∧ (∀ k, k ≠ w.heap.size + 1 → k ≠ w.heap.size + 2 → W.heap[k]? = W6.heap[k]?) ∧ Below w.heap.size w W := by
      rcases hW with rfl | rfl
      · exact ⟨(put3_oth (by omega) _ _ _).trans (put3_row p36 _ _ _), put3_row ((put3_oth (by omega) _ _ _).trans p46) _ _ _, fun k h1 h2 => (put3_oth h2 _ _ _).trans (put3_oth h1 _ _ _), put3_bel (put3_bel hB6 (by omega) _ _ _) (by omega) _ _ _⟩
      · exact ⟨put3_row ((put3_oth (by omega) _ _ _).trans p36) _ _ _, (put3_oth (by omega) _ _ _).trans (put3_row p46 _ _ _), fun k h1 h2 => (put3_oth h1 _ _ _).trans (put3_oth h2 _ _ _), put3_bel (put3_bel hB6 (by omega) _ _ _) (by omega) _ _ _⟩
    obtain ⟨k1, k2, k3, k4⟩ := key
    refine ⟨k1, k2, _, rfl, .inr ?_, k4.drew⟩
    exact o6.keepBut fun k hk hv => k3 k (by have := hne k hv; omega) (by have := hne k hv; omega)
  obtain ⟨⟨v0, v1, v2⟩, _⟩ := rw3 p26
  obtain ⟨⟨y0, y1, y2⟩, yf⟩ := rw3 p36
  obtain ⟨⟨z0, z1, z2⟩, zf⟩ := rw3 p46
  obtain ⟨⟨x0, x1, x2⟩, _⟩ := rw3 p56
  have yf0 := yf 0
  have yf1 := yf 1
  have yf2 := yf 2
  have zf0 := zf 0
  have zf1 := zf 1
  have zf2 := zf 2
  have hji : (j : Int) < (R.length : Int) := by omega
  have hjc : j ≤ cap := by omega
  have hz : ((R.length : Int) == 0) = false := by
    rw [beq_eq_false_iff_ne]
    omega
  have hwj : IntKind.i64.wrap ((j : Int) + 1) = (j : Int) + 1 := by rw [IntKind.wrap_i64]; omega
  have hb1 : (0 : Int) ≤ (j : Int) + 1 := by omega
  have hb2 : (j : Int) + 1 ≤ (R.length : Int) := by omega
  have hb3 : ((j : Int) + 1).toNat = j + 1 := by omega
  have hb5 : j + 1 ≤ R.length := by omega
  have hb6 : j ≤ R.length := by omega
  have hb7 : (j : Int) ≤ (j : Int) + 1 := by omega
  generalize R.eraseIdx j = RR at *
  generalize R[j].a = pa at *
  generalize R[j].b = pb at *
  generalize R[j].s = ps at *
  generalize hnl : R.length - 1 = nl at *
  clear h hX1 hX4 hX2 o1 rw1' hli HE H2 o2 B1 B2 B12 hr1 hr2 hr3 hB1 hB4 hq4 p2 p3 p4 p5 p26 p36 p46 p56 hoth hB6 hne o6 uf yf zf hs4 hl1 hnl hjw hR
  by_cases hct : cap = j + 1
  · have hrun2 := hr.1 hct
    clear hr
    subst hct
    go_enter Try.func15, Try.ntmps15
    go_upto_region 1 with fail
    rw [HW1.out]
    clear HW1
    go_wp2_with fail
    refine (hAt _).mono ?_
    rintro e wx ⟨rfl, rfl⟩
    clear hAt
    go_upto_region 5 with fail
    rw [HW4.out]
    clear HW4 q0 q1 q2
    refine wp_region_held_drew (S := fun _ => True) (by kernel_rfl) trivial (fun hHeld => ?_)
    refine wpAnyH_take (i := 0) (oi := ?p0x1) (v := ?v0x1) ?o0x1 (by kernel_rfl) (by kernel_rfl) (by kernel_rfl) ?q0x1 ?y0x1 hHeld ?r0x1
    case o0x1 => (simp only [List.getElem?_toArray, List.getElem?_cons_zero]; try rfl)
    case q0x1 => exact fun _ _ _ h => h
    case y0x1 => (refine Or.inl ⟨rfl, ?_⟩; intro wq hq; go_simp; try with_reducible rfl)
    simp only [Act.put, List.setIfInBounds_toArray, List.set_cons_zero, List.set_cons_succ]
    refine wpAnyH_take (i := 2) (oi := ?p2x2) (v := ?v2x2) ?o2x2 (by kernel_rfl) (by kernel_rfl) (by kernel_rfl) ?q2x2 ?y2x2 hHeld ?r2x2
    case o2x2 => (simp only [List.getElem?_toArray, List.getElem?_cons_succ, List.getElem?_cons_zero]; try rfl)
    case q2x2 => exact fun _ _ _ h => h
    case y2x2 => (refine Or.inl ⟨rfl, ?_⟩; intro wq hq; go_simp; try with_reducible rfl)
    simp only [Act.put, List.setIfInBounds_toArray, List.set_cons_zero, List.set_cons_succ]
    refine wpAnyH_take (i := 5) (oi := ?p5x3) (v := ?v5x3) ?o5x3 (by kernel_rfl) (by kernel_rfl) (by kernel_rfl) ?q5x3 ?y5x3 hHeld ?r5x3
    case o5x3 => (simp only [List.getElem?_toArray, List.getElem?_cons_succ, List.getElem?_cons_zero]; try rfl)
    case q5x3 => exact fun _ _ _ h => h
    case y5x3 => (refine Or.inl ⟨rfl, ?_⟩; intro wq hq; go_simp; try with_reducible rfl)
    simp only [Act.put, List.setIfInBounds_toArray, List.set_cons_zero, List.set_cons_succ]
    refine wpAnyH_take (i := 7) (oi := ?p7x4) (v := ?v7x4) ?o7x4 (by kernel_rfl) (by kernel_rfl) (by kernel_rfl) ?q7x4 ?y7x4 hHeld ?r7x4
    case o7x4 => (simp only [List.getElem?_toArray, List.getElem?_cons_succ, List.getElem?_cons_zero]; try rfl)
    case q7x4 => exact fun _ _ _ h => h
    case y7x4 => (refine Or.inl ⟨rfl, ?_⟩; intro wq hq; go_simp; try with_reducible rfl)
    simp only [Act.put, List.setIfInBounds_toArray, List.set_cons_zero, List.set_cons_succ]
    refine wpAnyH_take (i := 8) (oi := ?p8x5) (v := ?v8x5) ?o8x5 (by kernel_rfl) (by kernel_rfl) (by kernel_rfl) ?q8x5 ?y8x5 hHeld ?r8x5
    case o8x5 => (simp only [List.getElem?_toArray, List.getElem?_cons_succ, List.getElem?_cons_zero]; try rfl)
    case q8x5 => exact fun _ _ _ h => h
    case y8x5 => (refine Or.inl ⟨rfl, ?_⟩; intro wq hq; go_simp; try with_reducible rfl)
    simp only [Act.put, List.setIfInBounds_toArray, List.set_cons_zero, List.set_cons_succ]
    refine wpAnyH_ready (rs := [1, 6]) (by kernel_rfl) (by simp) ?_
    refine (AllReadyH.cons (o := ?p1x6) ?o1x6 ?s1x6 (AllReadyH.cons (o := ?p6x6) ?o6x6 ?s6x6 AllReadyH.nil))
    case o1x6 => (simp only [List.getElem?_toArray, List.getElem?_cons_succ, List.getElem?_cons_zero]; try rfl)
    case o6x6 => (simp only [List.getElem?_toArray, List.getElem?_cons_succ, List.getElem?_cons_zero]; try rfl)
    case s1x6 =>
      intro Kk hK
      go_simp
      refine hK.out _ _ trivial (fun hHeld => ?_)
      clear hK Kk
      refine wpAnyH_take (i := 3) (oi := ?p3x7) (v := ?v3x7) ?o3x7 (by kernel_rfl) (by kernel_rfl) (by kernel_rfl) ?q3x7 ?y3x7 hHeld ?r3x7
      case o3x7 => (simp only [List.getElem?_toArray, List.getElem?_cons_succ, List.getElem?_cons_zero]; try rfl)
      case q3x7 => exact fun _ _ _ h => h
      case y3x7 => (refine Or.inl ⟨rfl, ?_⟩; intro wq hq; go_simp; try with_reducible rfl)
      simp only [Act.put, List.setIfInBounds_toArray, List.set_cons_zero, List.set_cons_succ]
      refine wpAnyH_ready (rs := [4, 6]) (by kernel_rfl) (by simp) ?_
      refine (AllReadyH.cons (o := ?p4x8) ?o4x8 ?s4x8 (AllReadyH.cons (o := ?p6x8) ?o6x8 ?s6x8 AllReadyH.nil))
      case o4x8 => (simp only [List.getElem?_toArray, List.getElem?_cons_succ, List.getElem?_cons_zero]; try rfl)
      case o6x8 => (simp only [List.getElem?_toArray, List.getElem?_cons_succ, List.getElem?_cons_zero]; try rfl)
      case s4x8 =>
        intro Kk hK
        refine step_append_run rfl (.const (.slice none 0 0)) (.tmp 28) 27 rfl _ _ rfl rfl _ _ hrun1 ?_
        refine hK.out _ _ trivial (fun hHeld => ?_)
        clear hK Kk
        simp only [Act.put, List.setIfInBounds_toArray, List.set_cons_zero, List.set_cons_succ]
        refine wpAnyH_ready (rs := [6]) (by kernel_rfl) (by simp) ?_
        refine (AllReadyH.cons (o := ?p6x9) ?o6x9 ?s6x9 AllReadyH.nil)
        case o6x9 => (simp only [List.getElem?_toArray, List.getElem?_cons_succ, List.getElem?_cons_zero]; try rfl)
        intro Kk hK
        go_simp
        refine hK.out _ _ trivial (fun hHeld => ?_)
        clear hK Kk
        refine wpAnyH_take (i := 9) (oi := ?p9x10) (v := ?v9x10) ?o9x10 (by kernel_rfl) (by kernel_rfl) (by kernel_rfl) ?q9x10 ?y9x10 hHeld ?r9x10
        case o9x10 => (simp only [List.getElem?_toArray, List.getElem?_cons_succ, List.getElem?_cons_zero]; try rfl)
        case q9x10 => exact fun _ _ _ h => h
        case y9x10 => (refine Or.inl ⟨rfl, ?_⟩; intro wq hq; go_simp; try with_reducible rfl)
        simp only [Act.put, List.setIfInBounds_toArray, List.set_cons_zero, List.set_cons_succ]
        refine wpAnyH_ready (rs := [10]) (by kernel_rfl) (by simp) ?_
        refine (AllReadyH.cons (o := ?p10x11) ?o10x11 ?s10x11 AllReadyH.nil)
        case o10x11 => (simp only [List.getElem?_toArray, List.getElem?_cons_succ, List.getElem?_cons_zero]; try rfl)
        intro Kk hK
        refine step_append_run rfl (.tmp 29) (.tmp 34) 27 rfl _ _ rfl rfl _ _ hrun2 ?_
        refine hK.out _ _ trivial (fun hHeld => ?_)
        clear hK Kk
        simp only [Act.put, List.setIfInBounds_toArray, List.set_cons_zero, List.set_cons_succ]
        refine wpAnyH_take (i := 11) (oi := ?p11x12) (v := ?v11x12) ?o11x12 (by kernel_rfl) (by kernel_rfl) (by kernel_rfl) ?q11x12 ?y11x12 hHeld ?r11x12
        case o11x12 => (simp only [List.getElem?_toArray, List.getElem?_cons_succ, List.getElem?_cons_zero]; try rfl)
        case q11x12 => exact fun _ _ _ h => h
        case y11x12 => (refine Or.inl ⟨rfl, ?_⟩; intro wq hq; go_simp; try with_reducible rfl)
        simp only [Act.put, List.setIfInBounds_toArray, List.set_cons_zero, List.set_cons_succ]
        refine wpAnyH_ready (rs := [12]) (by kernel_rfl) (by simp) ?_
        refine (AllReadyH.cons (o := ?p12x13) ?o12x13 ?s12x13 AllReadyH.nil)
        case o12x13 => (simp only [List.getElem?_toArray, List.getElem?_cons_succ, List.getElem?_cons_zero]; try rfl)
        intro Kk hK
        go_simp
        refine hK.out _ _ trivial (fun hHeld => ?_)
        clear hK Kk
        refine wpAnyH_done (by kernel_rfl) ?_ _
        rw [HW6.out]
        clear hrun1 hrun2 n0 n1 n2 s0 s1 s2 t0 t1 t2 u1 uf1
        go_wp2_with fail
        rw [HS1.out] at x0 x1 x2 ⊢
        go_region
        obtain ⟨k1, k2, k3⟩ := HFIN.out _ (Or.inl rfl)
        obtain ⟨l1, l2, l3⟩ := HFIN.out _ (Or.inr rfl)
        have HK1 := Hid_of k1
        have HK2 := Hid_of k2
        have HK3 := Hid_of k3
        have HL1 := Hid_of l1
        have HL2 := Hid_of l2
        have HL3 := Hid_of l3
        clear HFIN k1 k2 k3 l1 l2 l3
        all_goals
          go_wp2
          first
            | (refine bodyPost_ret (v := .tuple #[.agg #[.int .i64 N, .slice a2 nl cp2, .slice ka K.length kc], .agg #[.int .i64 pa, .int .i64 pb, .string ps], .bool true]) ?_ rfl HK3.out
               exact res33 f15_res _ _ (w.heap.size + 1) (w.heap.size + 2) _ _ _ _ _ _ rfl rfl HK1.out HK2.out)
            | (refine bodyPost_ret (v := .tuple #[.agg #[.int .i64 N, .slice a2 nl cp2, .slice ka K.length kc], .agg #[.int .i64 pa, .int .i64 pb, .string ps], .bool true]) ?_ rfl HL3.out
               exact res33 f15_res _ _ (w.heap.size + 1) (w.heap.size + 2) _ _ _ _ _ _ rfl rfl HL1.out HL2.out)
      case s6x8 =>
        intro Kk hK
        go_simp
        refine hK.out _ _ trivial (fun hHeld => ?_)
        clear hK Kk
        refine wpAnyH_take (i := 9) (oi := ?p9x14) (v := ?v9x14) ?o9x14 (by kernel_rfl) (by kernel_rfl) (by kernel_rfl) ?q9x14 ?y9x14 hHeld ?r9x14
        case o9x14 => (simp only [List.getElem?_toArray, List.getElem?_cons_succ, List.getElem?_cons_zero]; try rfl)
        case q9x14 => exact fun _ _ _ h => h
        case y9x14 => (refine Or.inl ⟨rfl, ?_⟩; intro wq hq; go_simp; try with_reducible rfl)
        simp only [Act.put, List.setIfInBounds_toArray, List.set_cons_zero, List.set_cons_succ]
        refine wpAnyH_ready (rs := [4]) (by kernel_rfl) (by simp) ?_
        refine (AllReadyH.cons (o := ?p4x15) ?o4x15 ?s4x15 AllReadyH.nil)
        case o4x15 => (simp only [List.getElem?_toArray, List.getElem?_cons_succ, List.getElem?_cons_zero]; try rfl)
        intro Kk hK
        refine step_append_run rfl (.const (.slice none 0 0)) (.tmp 28) 27 rfl _ _ rfl rfl _ _ hrun1 ?_
        refine hK.out _ _ trivial (fun hHeld => ?_)
        clear hK Kk
        simp only [Act.put, List.setIfInBounds_toArray, List.set_cons_zero, List.set_cons_succ]
        refine wpAnyH_ready (rs := [10]) (by kernel_rfl) (by simp) ?_
        refine (AllReadyH.cons (o := ?p10x16) ?o10x16 ?s10x16 AllReadyH.nil)
        case o10x16 => (simp only [List.getElem?_toArray, List.getElem?_cons_succ, List.getElem?_cons_zero]; try rfl)
        intro Kk hK
        refine step_append_run rfl (.tmp 29) (.tmp 34) 27 rfl _ _ rfl rfl _ _ hrun2 ?_
        refine hK.out _ _ trivial (fun hHeld => ?_)
        clear hK Kk
        simp only [Act.put, List.setIfInBounds_toArray, List.set_cons_zero, List.set_cons_succ]
        refine wpAnyH_take (i := 11) (oi := ?p11x17) (v := ?v11x17) ?o11x17 (by kernel_rfl) (by kernel_rfl) (by kernel_rfl) ?q11x17 ?y11x17 hHeld ?r11x17
        case o11x17 => (simp only [List.getElem?_toArray, List.getElem?_cons_succ, List.getElem?_cons_zero]; try rfl)
        case q11x17 => exact fun _ _ _ h => h
        case y11x17 => (refine Or.inl ⟨rfl, ?_⟩; intro wq hq; go_simp; try with_reducible rfl)
        simp only [Act.put, List.setIfInBounds_toArray, List.set_cons_zero, List.set_cons_succ]
        refine wpAnyH_ready (rs := [12]) (by kernel_rfl) (by simp) ?_
        refine (AllReadyH.cons (o := ?p12x18) ?o12x18 ?s12x18 AllReadyH.nil)
        case o12x18 => (simp only [List.getElem?_toArray, List.getElem?_cons_succ, List.getElem?_cons_zero]; try rfl)
        intro Kk hK
        go_simp
        refine hK.out _ _ trivial (fun hHeld => ?_)
        clear hK Kk
        refine wpAnyH_done (by kernel_rfl) ?_ _
        rw [HW6.out]
        clear hrun1 hrun2 n0 n1 n2 s0 s1 s2 t0 t1 t2 u1 uf1
        go_wp2_with fail
        rw [HS1.out] at x0 x1 x2 ⊢
        go_region
        obtain ⟨k1, k2, k3⟩ := HFIN.out _ (Or.inl rfl)
        obtain ⟨l1, l2, l3⟩ := HFIN.out _ (Or.inr rfl)
        have HK1 := Hid_of k1
        have HK2 := Hid_of k2
        have HK3 := Hid_of k3
        have HL1 := Hid_of l1
        have HL2 := Hid_of l2
        have HL3 := Hid_of l3
        clear HFIN k1 k2 k3 l1 l2 l3
        all_goals
          go_wp2
          first
            | (refine bodyPost_ret (v := .tuple #[.agg #[.int .i64 N, .slice a2 nl cp2, .slice ka K.length kc], .agg #[.int .i64 pa, .int .i64 pb, .string ps], .bool true]) ?_ rfl HK3.out
               exact res33 f15_res _ _ (w.heap.size + 1) (w.heap.size + 2) _ _ _ _ _ _ rfl rfl HK1.out HK2.out)
            | (refine bodyPost_ret (v := .tuple #[.agg #[.int .i64 N, .slice a2 nl cp2, .slice ka K.length kc], .agg #[.int .i64 pa, .int .i64 pb, .string ps], .bool true]) ?_ rfl HL3.out
               exact res33 f15_res _ _ (w.heap.size + 1) (w.heap.size + 2) _ _ _ _ _ _ rfl rfl HL1.out HL2.out)
    case s6x6 =>
      intro Kk hK
      go_simp
      refine hK.out _ _ trivial (fun hHeld => ?_)
      clear hK Kk
      refine wpAnyH_take (i := 9) (oi := ?p9x19) (v := ?v9x19) ?o9x19 (by kernel_rfl) (by kernel_rfl) (by kernel_rfl) ?q9x19 ?y9x19 hHeld ?r9x19
      case o9x19 => (simp only [List.getElem?_toArray, List.getElem?_cons_succ, List.getElem?_cons_zero]; try rfl)
      case q9x19 => exact fun _ _ _ h => h
      case y9x19 => (refine Or.inl ⟨rfl, ?_⟩; intro wq hq; go_simp; try with_reducible rfl)
      simp only [Act.put, List.setIfInBounds_toArray, List.set_cons_zero, List.set_cons_succ]
      refine wpAnyH_ready (rs := [1]) (by kernel_rfl) (by simp) ?_
      refine (AllReadyH.cons (o := ?p1x20) ?o1x20 ?s1x20 AllReadyH.nil)
      case o1x20 => (simp only [List.getElem?_toArray, List.getElem?_cons_succ, List.getElem?_cons_zero]; try rfl)
      intro Kk hK
      go_simp
      refine hK.out _ _ trivial (fun hHeld => ?_)
      clear hK Kk
      refine wpAnyH_take (i := 3) (oi := ?p3x21) (v := ?v3x21) ?o3x21 (by kernel_rfl) (by kernel_rfl) (by kernel_rfl) ?q3x21 ?y3x21 hHeld ?r3x21
      case o3x21 => (simp only [List.getElem?_toArray, List.getElem?_cons_succ, List.getElem?_cons_zero]; try rfl)
      case q3x21 => exact fun _ _ _ h => h
      case y3x21 => (refine Or.inl ⟨rfl, ?_⟩; intro wq hq; go_simp; try with_reducible rfl)
      simp only [Act.put, List.setIfInBounds_toArray, List.set_cons_zero, List.set_cons_succ]
      refine wpAnyH_ready (rs := [4]) (by kernel_rfl) (by simp) ?_
      refine (AllReadyH.cons (o := ?p4x22) ?o4x22 ?s4x22 AllReadyH.nil)
      case o4x22 => (simp only [List.getElem?_toArray, List.getElem?_cons_succ, List.getElem?_cons_zero]; try rfl)
      intro Kk hK
      refine step_append_run rfl (.const (.slice none 0 0)) (.tmp 28) 27 rfl _ _ rfl rfl _ _ hrun1 ?_
      refine hK.out _ _ trivial (fun hHeld => ?_)
      clear hK Kk
      simp only [Act.put, List.setIfInBounds_toArray, List.set_cons_zero, List.set_cons_succ]
      refine wpAnyH_ready (rs := [10]) (by kernel_rfl) (by simp) ?_
      refine (AllReadyH.cons (o := ?p10x23) ?o10x23 ?s10x23 AllReadyH.nil)
      case o10x23 => (simp only [List.getElem?_toArray, List.getElem?_cons_succ, List.getElem?_cons_zero]; try rfl)
      intro Kk hK
      refine step_append_run rfl (.tmp 29) (.tmp 34) 27 rfl _ _ rfl rfl _ _ hrun2 ?_
      refine hK.out _ _ trivial (fun hHeld => ?_)
      clear hK Kk
      simp only [Act.put, List.setIfInBounds_toArray, List.set_cons_zero, List.set_cons_succ]
      refine wpAnyH_take (i := 11) (oi := ?p11x24) (v := ?v11x24) ?o11x24 (by kernel_rfl) (by kernel_rfl) (by kernel_rfl) ?q11x24 ?y11x24 hHeld ?r11x24
      case o11x24 => (simp only [List.getElem?_toArray, List.getElem?_cons_succ, List.getElem?_cons_zero]; try rfl)
      case q11x24 => exact fun _ _ _ h => h
      case y11x24 => (refine Or.inl ⟨rfl, ?_⟩; intro wq hq; go_simp; try with_reducible rfl)
      simp only [Act.put, List.setIfInBounds_toArray, List.set_cons_zero, List.set_cons_succ]
      refine wpAnyH_ready (rs := [12]) (by kernel_rfl) (by simp) ?_
      refine (AllReadyH.cons (o := ?p12x25) ?o12x25 ?s12x25 AllReadyH.nil)
      case o12x25 => (simp only [List.getElem?_toArray, List.getElem?_cons_succ, List.getElem?_cons_zero]; try rfl)
      intro Kk hK
      go_simp
      refine hK.out _ _ trivial (fun hHeld => ?_)
      clear hK Kk
      refine wpAnyH_done (by kernel_rfl) ?_ _
      rw [HW6.out]
      clear hrun1 hrun2 n0 n1 n2 s0 s1 s2 t0 t1 t2 u1 uf1
      go_wp2_with fail
      rw [HS1.out] at x0 x1 x2 ⊢
      go_region
      obtain ⟨k1, k2, k3⟩ := HFIN.out _ (Or.inl rfl)
      obtain ⟨l1, l2, l3⟩ := HFIN.out _ (Or.inr rfl)
      have HK1 := Hid_of k1
      have HK2 := Hid_of k2
      have HK3 := Hid_of k3
      have HL1 := Hid_of l1
      have HL2 := Hid_of l2
      have HL3 := Hid_of l3
      clear HFIN k1 k2 k3 l1 l2 l3
      all_goals
        go_wp2
        first
          | (refine bodyPost_ret (v := .tuple #[.agg #[.int .i64 N, .slice a2 nl cp2, .slice ka K.length kc], .agg #[.int .i64 pa, .int .i64 pb, .string ps], .bool true]) ?_ rfl HK3.out
             exact res33 f15_res _ _ (w.heap.size + 1) (w.heap.size + 2) _ _ _ _ _ _ rfl rfl HK1.out HK2.out)
          | (refine bodyPost_ret (v := .tuple #[.agg #[.int .i64 N, .slice a2 nl cp2, .slice ka K.length kc], .agg #[.int .i64 pa, .int .i64 pb, .string ps], .bool true]) ?_ rfl HL3.out
             exact res33 f15_res _ _ (w.heap.size + 1) (w.heap.size + 2) _ _ _ _ _ _ rfl rfl HL1.out HL2.out)
  · have hrun2 := hr.2 hct
    clear hr
    go_enter Try.func15, Try.ntmps15
    go_upto_region 1 with fail
    rw [HW1.out]
    clear HW1
    go_wp2_with fail
    refine (hAt _).mono ?_
    rintro e wx ⟨rfl, rfl⟩
    clear hAt
    go_upto_region 5 with fail
    rw [HW4.out]
    clear HW4 q0 q1 q2
    refine wp_region_held_drew (S := fun _ => True) (by kernel_rfl) trivial (fun hHeld => ?_)
    refine wpAnyH_take (i := 0) (oi := ?p0x201) (v := ?v0x201) ?o0x201 (by kernel_rfl) (by kernel_rfl) (by kernel_rfl) ?q0x201 ?y0x201 hHeld ?r0x201
    case o0x201 => (simp only [List.getElem?_toArray, List.getElem?_cons_zero]; try rfl)
    case q0x201 => exact fun _ _ _ h => h
    case y0x201 => (refine Or.inl ⟨rfl, ?_⟩; intro wq hq; go_simp; try with_reducible rfl)
    simp only [Act.put, List.setIfInBounds_toArray, List.set_cons_zero, List.set_cons_succ]
    refine wpAnyH_take (i := 2) (oi := ?p2x202) (v := ?v2x202) ?o2x202 (by kernel_rfl) (by kernel_rfl) (by kernel_rfl) ?q2x202 ?y2x202 hHeld ?r2x202
    case o2x202 => (simp only [List.getElem?_toArray, List.getElem?_cons_succ, List.getElem?_cons_zero]; try rfl)
    case q2x202 => exact fun _ _ _ h => h
    case y2x202 => (refine Or.inl ⟨rfl, ?_⟩; intro wq hq; go_simp; try with_reducible rfl)
    simp only [Act.put, List.setIfInBounds_toArray, List.set_cons_zero, List.set_cons_succ]
    refine wpAnyH_take (i := 5) (oi := ?p5x203) (v := ?v5x203) ?o5x203 (by kernel_rfl) (by kernel_rfl) (by kernel_rfl) ?q5x203 ?y5x203 hHeld ?r5x203
    case o5x203 => (simp only [List.getElem?_toArray, List.getElem?_cons_succ, List.getElem?_cons_zero]; try rfl)
    case q5x203 => exact fun _ _ _ h => h
    case y5x203 => (refine Or.inl ⟨rfl, ?_⟩; intro wq hq; go_simp; try with_reducible rfl)
    simp only [Act.put, List.setIfInBounds_toArray, List.set_cons_zero, List.set_cons_succ]
    refine wpAnyH_take (i := 7) (oi := ?p7x204) (v := ?v7x204) ?o7x204 (by kernel_rfl) (by kernel_rfl) (by kernel_rfl) ?q7x204 ?y7x204 hHeld ?r7x204
    case o7x204 => (simp only [List.getElem?_toArray, List.getElem?_cons_succ, List.getElem?_cons_zero]; try rfl)
    case q7x204 => exact fun _ _ _ h => h
    case y7x204 => (refine Or.inl ⟨rfl, ?_⟩; intro wq hq; go_simp; try with_reducible rfl)
    simp only [Act.put, List.setIfInBounds_toArray, List.set_cons_zero, List.set_cons_succ]
    refine wpAnyH_take (i := 8) (oi := ?p8x205) (v := ?v8x205) ?o8x205 (by kernel_rfl) (by kernel_rfl) (by kernel_rfl) ?q8x205 ?y8x205 hHeld ?r8x205
    case o8x205 => (simp only [List.getElem?_toArray, List.getElem?_cons_succ, List.getElem?_cons_zero]; try rfl)
    case q8x205 => exact fun _ _ _ h => h
    case y8x205 => (refine Or.inl ⟨rfl, ?_⟩; intro wq hq; go_simp; try with_reducible rfl)
    simp only [Act.put, List.setIfInBounds_toArray, List.set_cons_zero, List.set_cons_succ]
    refine wpAnyH_ready (rs := [1, 6]) (by kernel_rfl) (by simp) ?_
    refine (AllReadyH.cons (o := ?p1x206) ?o1x206 ?s1x206 (AllReadyH.cons (o := ?p6x206) ?o6x206 ?s6x206 AllReadyH.nil))
    case o1x206 => (simp only [List.getElem?_toArray, List.getElem?_cons_succ, List.getElem?_cons_zero]; try rfl)
    case o6x206 => (simp only [List.getElem?_toArray, List.getElem?_cons_succ, List.getElem?_cons_zero]; try rfl)
    case s1x206 =>
      intro Kk hK
      go_simp
      refine hK.out _ _ trivial (fun hHeld => ?_)
      clear hK Kk
      refine wpAnyH_take (i := 3) (oi := ?p3x207) (v := ?v3x207) ?o3x207 (by kernel_rfl) (by kernel_rfl) (by kernel_rfl) ?q3x207 ?y3x207 hHeld ?r3x207
      case o3x207 => (simp only [List.getElem?_toArray, List.getElem?_cons_succ, List.getElem?_cons_zero]; try rfl)
      case q3x207 => exact fun _ _ _ h => h
      case y3x207 => (refine Or.inl ⟨rfl, ?_⟩; intro wq hq; go_simp; try with_reducible rfl)
      simp only [Act.put, List.setIfInBounds_toArray, List.set_cons_zero, List.set_cons_succ]
      refine wpAnyH_ready (rs := [4, 6]) (by kernel_rfl) (by simp) ?_
      refine (AllReadyH.cons (o := ?p4x208) ?o4x208 ?s4x208 (AllReadyH.cons (o := ?p6x208) ?o6x208 ?s6x208 AllReadyH.nil))
      case o4x208 => (simp only [List.getElem?_toArray, List.getElem?_cons_succ, List.getElem?_cons_zero]; try rfl)
      case o6x208 => (simp only [List.getElem?_toArray, List.getElem?_cons_succ, List.getElem?_cons_zero]; try rfl)
      case s4x208 =>
        intro Kk hK
        refine step_append_run rfl (.const (.slice none 0 0)) (.tmp 28) 27 rfl _ _ rfl rfl _ _ hrun1 ?_
        refine hK.out _ _ trivial (fun hHeld => ?_)
        clear hK Kk
        simp only [Act.put, List.setIfInBounds_toArray, List.set_cons_zero, List.set_cons_succ]
        refine wpAnyH_ready (rs := [6]) (by kernel_rfl) (by simp) ?_
        refine (AllReadyH.cons (o := ?p6x209) ?o6x209 ?s6x209 AllReadyH.nil)
        case o6x209 => (simp only [List.getElem?_toArray, List.getElem?_cons_succ, List.getElem?_cons_zero]; try rfl)
        intro Kk hK
        go_simp
        refine hK.out _ _ trivial (fun hHeld => ?_)
        clear hK Kk
        refine wpAnyH_take (i := 9) (oi := ?p9x210) (v := ?v9x210) ?o9x210 (by kernel_rfl) (by kernel_rfl) (by kernel_rfl) ?q9x210 ?y9x210 hHeld ?r9x210
        case o9x210 => (simp only [List.getElem?_toArray, List.getElem?_cons_succ, List.getElem?_cons_zero]; try rfl)
        case q9x210 => exact fun _ _ _ h => h
        case y9x210 => (refine Or.inl ⟨rfl, ?_⟩; intro wq hq; go_simp; try with_reducible rfl)
        simp only [Act.put, List.setIfInBounds_toArray, List.set_cons_zero, List.set_cons_succ]
        refine wpAnyH_ready (rs := [10]) (by kernel_rfl) (by simp) ?_
        refine (AllReadyH.cons (o := ?p10x211) ?o10x211 ?s10x211 AllReadyH.nil)
        case o10x211 => (simp only [List.getElem?_toArray, List.getElem?_cons_succ, List.getElem?_cons_zero]; try rfl)
        intro Kk hK
        refine step_append_run rfl (.tmp 29) (.tmp 34) 27 rfl _ _ rfl rfl _ _ hrun2 ?_
        refine hK.out _ _ trivial (fun hHeld => ?_)
        clear hK Kk
        simp only [Act.put, List.setIfInBounds_toArray, List.set_cons_zero, List.set_cons_succ]
        refine wpAnyH_take (i := 11) (oi := ?p11x212) (v := ?v11x212) ?o11x212 (by kernel_rfl) (by kernel_rfl) (by kernel_rfl) ?q11x212 ?y11x212 hHeld ?r11x212
        case o11x212 => (simp only [List.getElem?_toArray, List.getElem?_cons_succ, List.getElem?_cons_zero]; try rfl)
        case q11x212 => exact fun _ _ _ h => h
        case y11x212 => (refine Or.inl ⟨rfl, ?_⟩; intro wq hq; go_simp; try with_reducible rfl)
        simp only [Act.put, List.setIfInBounds_toArray, List.set_cons_zero, List.set_cons_succ]
        refine wpAnyH_ready (rs := [12]) (by kernel_rfl) (by simp) ?_
        refine (AllReadyH.cons (o := ?p12x213) ?o12x213 ?s12x213 AllReadyH.nil)
        case o12x213 => (simp only [List.getElem?_toArray, List.getElem?_cons_succ, List.getElem?_cons_zero]; try rfl)
        intro Kk hK
        go_simp
        refine hK.out _ _ trivial (fun hHeld => ?_)
        clear hK Kk
        refine wpAnyH_done (by kernel_rfl) ?_ _
        rw [HW6.out]
        clear hrun1 hrun2 n0 n1 n2 s0 s1 s2 t0 t1 t2 u1 uf1
        go_wp2_with fail
        rw [HS1.out] at x0 x1 x2 ⊢
        go_region
        obtain ⟨k1, k2, k3⟩ := HFIN.out _ (Or.inl rfl)
        obtain ⟨l1, l2, l3⟩ := HFIN.out _ (Or.inr rfl)
        have HK1 := Hid_of k1
        have HK2 := Hid_of k2
        have HK3 := Hid_of k3
        have HL1 := Hid_of l1
        have HL2 := Hid_of l2
        have HL3 := Hid_of l3
        clear HFIN k1 k2 k3 l1 l2 l3
        all_goals
          go_wp2
          first
            | (refine bodyPost_ret (v := .tuple #[.agg #[.int .i64 N, .slice a2 nl cp2, .slice ka K.length kc], .agg #[.int .i64 pa, .int .i64 pb, .string ps], .bool true]) ?_ rfl HK3.out
               exact res33 f15_res _ _ (w.heap.size + 1) (w.heap.size + 2) _ _ _ _ _ _ rfl rfl HK1.out HK2.out)
            | (refine bodyPost_ret (v := .tuple #[.agg #[.int .i64 N, .slice a2 nl cp2, .slice ka K.length kc], .agg #[.int .i64 pa, .int .i64 pb, .string ps], .bool true]) ?_ rfl HL3.out
               exact res33 f15_res _ _ (w.heap.size + 1) (w.heap.size + 2) _ _ _ _ _ _ rfl rfl HL1.out HL2.out)
      case s6x208 =>
        intro Kk hK
        go_simp
        refine hK.out _ _ trivial (fun hHeld => ?_)
        clear hK Kk
        refine wpAnyH_take (i := 9) (oi := ?p9x214) (v := ?v9x214) ?o9x214 (by kernel_rfl) (by kernel_rfl) (by kernel_rfl) ?q9x214 ?y9x214 hHeld ?r9x214
        case o9x214 => (simp only [List.getElem?_toArray, List.getElem?_cons_succ, List.getElem?_cons_zero]; try rfl)
        case q9x214 => exact fun _ _ _ h => h
        case y9x214 => (refine Or.inl ⟨rfl, ?_⟩; intro wq hq; go_simp; try with_reducible rfl)
        simp only [Act.put, List.setIfInBounds_toArray, List.set_cons_zero, List.set_cons_succ]
        refine wpAnyH_ready (rs := [4]) (by kernel_rfl) (by simp) ?_
        refine (AllReadyH.cons (o := ?p4x215) ?o4x215 ?s4x215 AllReadyH.nil)
        case o4x215 => (simp only [List.getElem?_toArray, List.getElem?_cons_succ, List.getElem?_cons_zero]; try rfl)
        intro Kk hK
        refine step_append_run rfl (.const (.slice none 0 0)) (.tmp 28) 27 rfl _ _ rfl rfl _ _ hrun1 ?_
        refine hK.out _ _ trivial (fun hHeld => ?_)
        clear hK Kk
        simp only [Act.put, List.setIfInBounds_toArray, List.set_cons_zero, List.set_cons_succ]
        refine wpAnyH_ready (rs := [10]) (by kernel_rfl) (by simp) ?_
        refine (AllReadyH.cons (o := ?p10x216) ?o10x216 ?s10x216 AllReadyH.nil)
        case o10x216 => (simp only [List.getElem?_toArray, List.getElem?_cons_succ, List.getElem?_cons_zero]; try rfl)
        intro Kk hK
        refine step_append_run rfl (.tmp 29) (.tmp 34) 27 rfl _ _ rfl rfl _ _ hrun2 ?_
        refine hK.out _ _ trivial (fun hHeld => ?_)
        clear hK Kk
        simp only [Act.put, List.setIfInBounds_toArray, List.set_cons_zero, List.set_cons_succ]
        refine wpAnyH_take (i := 11) (oi := ?p11x217) (v := ?v11x217) ?o11x217 (by kernel_rfl) (by kernel_rfl) (by kernel_rfl) ?q11x217 ?y11x217 hHeld ?r11x217
        case o11x217 => (simp only [List.getElem?_toArray, List.getElem?_cons_succ, List.getElem?_cons_zero]; try rfl)
        case q11x217 => exact fun _ _ _ h => h
        case y11x217 => (refine Or.inl ⟨rfl, ?_⟩; intro wq hq; go_simp; try with_reducible rfl)
        simp only [Act.put, List.setIfInBounds_toArray, List.set_cons_zero, List.set_cons_succ]
        refine wpAnyH_ready (rs := [12]) (by kernel_rfl) (by simp) ?_
        refine (AllReadyH.cons (o := ?p12x218) ?o12x218 ?s12x218 AllReadyH.nil)
        case o12x218 => (simp only [List.getElem?_toArray, List.getElem?_cons_succ, List.getElem?_cons_zero]; try rfl)
        intro Kk hK
        go_simp
        refine hK.out _ _ trivial (fun hHeld => ?_)
        clear hK Kk
        refine wpAnyH_done (by kernel_rfl) ?_ _
        rw [HW6.out]
        clear hrun1 hrun2 n0 n1 n2 s0 s1 s2 t0 t1 t2 u1 uf1
        go_wp2_with fail
        rw [HS1.out] at x0 x1 x2 ⊢
        go_region
        obtain ⟨k1, k2, k3⟩ := HFIN.out _ (Or.inl rfl)
        obtain ⟨l1, l2, l3⟩ := HFIN.out _ (Or.inr rfl)
        have HK1 := Hid_of k1
        have HK2 := Hid_of k2
        have HK3 := Hid_of k3
        have HL1 := Hid_of l1
        have HL2 := Hid_of l2
        have HL3 := Hid_of l3
        clear HFIN k1 k2 k3 l1 l2 l3
        all_goals
          go_wp2
          first
            | (refine bodyPost_ret (v := .tuple #[.agg #[.int .i64 N, .slice a2 nl cp2, .slice ka K.length kc], .agg #[.int .i64 pa, .int .i64 pb, .string ps], .bool true]) ?_ rfl HK3.out
               exact res33 f15_res _ _ (w.heap.size + 1) (w.heap.size + 2) _ _ _ _ _ _ rfl rfl HK1.out HK2.out)
            | (refine bodyPost_ret (v := .tuple #[.agg #[.int .i64 N, .slice a2 nl cp2, .slice ka K.length kc], .agg #[.int .i64 pa, .int .i64 pb, .string ps], .bool true]) ?_ rfl HL3.out
               exact res33 f15_res _ _ (w.heap.size + 1) (w.heap.size + 2) _ _ _ _ _ _ rfl rfl HL1.out HL2.out)
    case s6x206 =>
      intro Kk hK
      go_simp
      refine hK.out _ _ trivial (fun hHeld => ?_)
      clear hK Kk
      refine wpAnyH_take (i := 9) (oi := ?p9x219) (v := ?v9x219) ?o9x219 (by kernel_rfl) (by kernel_rfl) (by kernel_rfl) ?q9x219 ?y9x219 hHeld ?r9x219
      case o9x219 => (simp only [List.getElem?_toArray, List.getElem?_cons_succ, List.getElem?_cons_zero]; try rfl)
      case q9x219 => exact fun _ _ _ h => h
      case y9x219 => (refine Or.inl ⟨rfl, ?_⟩; intro wq hq; go_simp; try with_reducible rfl)
      simp only [Act.put, List.setIfInBounds_toArray, List.set_cons_zero, List.set_cons_succ]
      refine wpAnyH_ready (rs := [1]) (by kernel_rfl) (by simp) ?_
      refine (AllReadyH.cons (o := ?p1x220) ?o1x220 ?s1x220 AllReadyH.nil)
      case o1x220 => (simp only [List.getElem?_toArray, List.getElem?_cons_succ, List.getElem?_cons_zero]; try rfl)
      intro Kk hK
      go_simp
      refine hK.out _ _ trivial (fun hHeld => ?_)
      clear hK Kk
      refine wpAnyH_take (i := 3) (oi := ?p3x221) (v := ?v3x221) ?o3x221 (by kernel_rfl) (by kernel_rfl) (by kernel_rfl) ?q3x221 ?y3x221 hHeld ?r3x221
      case o3x221 => (simp only [List.getElem?_toArray, List.getElem?_cons_succ, List.getElem?_cons_zero]; try rfl)
      case q3x221 => exact fun _ _ _ h => h
      case y3x221 => (refine Or.inl ⟨rfl, ?_⟩; intro wq hq; go_simp; try with_reducible rfl)
      simp only [Act.put, List.setIfInBounds_toArray, List.set_cons_zero, List.set_cons_succ]
      refine wpAnyH_ready (rs := [4]) (by kernel_rfl) (by simp) ?_
      refine (AllReadyH.cons (o := ?p4x222) ?o4x222 ?s4x222 AllReadyH.nil)
      case o4x222 => (simp only [List.getElem?_toArray, List.getElem?_cons_succ, List.getElem?_cons_zero]; try rfl)
      intro Kk hK
      refine step_append_run rfl (.const (.slice none 0 0)) (.tmp 28) 27 rfl _ _ rfl rfl _ _ hrun1 ?_
      refine hK.out _ _ trivial (fun hHeld => ?_)
      clear hK Kk
      simp only [Act.put, List.setIfInBounds_toArray, List.set_cons_zero, List.set_cons_succ]
      refine wpAnyH_ready (rs := [10]) (by kernel_rfl) (by simp) ?_
      refine (AllReadyH.cons (o := ?p10x223) ?o10x223 ?s10x223 AllReadyH.nil)
      case o10x223 => (simp only [List.getElem?_toArray, List.getElem?_cons_succ, List.getElem?_cons_zero]; try rfl)
      intro Kk hK
      refine step_append_run rfl (.tmp 29) (.tmp 34) 27 rfl _ _ rfl rfl _ _ hrun2 ?_
      refine hK.out _ _ trivial (fun hHeld => ?_)
      clear hK Kk
      simp only [Act.put, List.setIfInBounds_toArray, List.set_cons_zero, List.set_cons_succ]
      refine wpAnyH_take (i := 11) (oi := ?p11x224) (v := ?v11x224) ?o11x224 (by kernel_rfl) (by kernel_rfl) (by kernel_rfl) ?q11x224 ?y11x224 hHeld ?r11x224
      case o11x224 => (simp only [List.getElem?_toArray, List.getElem?_cons_succ, List.getElem?_cons_zero]; try rfl)
      case q11x224 => exact fun _ _ _ h => h
      case y11x224 => (refine Or.inl ⟨rfl, ?_⟩; intro wq hq; go_simp; try with_reducible rfl)
      simp only [Act.put, List.setIfInBounds_toArray, List.set_cons_zero, List.set_cons_succ]
      refine wpAnyH_ready (rs := [12]) (by kernel_rfl) (by simp) ?_
      refine (AllReadyH.cons (o := ?p12x225) ?o12x225 ?s12x225 AllReadyH.nil)
      case o12x225 => (simp only [List.getElem?_toArray, List.getElem?_cons_succ, List.getElem?_cons_zero]; try rfl)
      intro Kk hK
      go_simp
      refine hK.out _ _ trivial (fun hHeld => ?_)
      clear hK Kk
      refine wpAnyH_done (by kernel_rfl) ?_ _
      rw [HW6.out]
      clear hrun1 hrun2 n0 n1 n2 s0 s1 s2 t0 t1 t2 u1 uf1
      go_wp2_with fail
      rw [HS1.out] at x0 x1 x2 ⊢
      go_region
      obtain ⟨k1, k2, k3⟩ := HFIN.out _ (Or.inl rfl)
      obtain ⟨l1, l2, l3⟩ := HFIN.out _ (Or.inr rfl)
      have HK1 := Hid_of k1
      have HK2 := Hid_of k2
      have HK3 := Hid_of k3
      have HL1 := Hid_of l1
      have HL2 := Hid_of l2
      have HL3 := Hid_of l3
      clear HFIN k1 k2 k3 l1 l2 l3
      all_goals
        go_wp2
        first
          | (refine bodyPost_ret (v := .tuple #[.agg #[.int .i64 N, .slice a2 nl cp2, .slice ka K.length kc], .agg #[.int .i64 pa, .int .i64 pb, .string ps], .bool true]) ?_ rfl HK3.out
             exact res33 f15_res _ _ (w.heap.size + 1) (w.heap.size + 2) _ _ _ _ _ _ rfl rfl HK1.out HK2.out)
          | (refine bodyPost_ret (v := .tuple #[.agg #[.int .i64 N, .slice a2 nl cp2, .slice ka K.length kc], .agg #[.int .i64 pa, .int .i64 pb, .string ps], .bool true]) ?_ rfl HL3.out
             exact res33 f15_res _ _ (w.heap.size + 1) (w.heap.size + 2) _ _ _ _ _ _ rfl rfl HL1.out HL2.out)
end Go.Proofs.Ytjbodjjeenjbeaa
