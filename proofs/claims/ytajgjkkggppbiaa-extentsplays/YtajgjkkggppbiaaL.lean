/-
  slices.Replace at pieces: up to the row's end; all ways.
-/
import Derived.Test.YtajgjkkggppbiaaK
namespace Go.Proofs.Ytajgjkkggppbiaa
open Go.RowKit
set_option linter.unusedVariables false
open M (E)

/-- append of pieces where there is room, or of nothing. -/
theorem run_append4 (w : World) (ty : TypeId) (g i cap : Nat) (cur : List Value) (hg : w.heap[g]? = some (.cells cur.toArray 32 (0, 0))) (sp : Option Addr) (m c : Nat) (cs : List Value) (hn : cs.length = m * 4)
    (hsrc : 0 < m → ∃ ad, sp = some ad ∧ ∀ j v, cs[j]? = some v → w.cell? (ad.add j) = some v) (hnil : m = 0 → sp = none) (hroom : i + m ≤ cap) (hfit : i * 4 + cs.length ≤ cur.length) (h1 : ∀ v ∈ cs, v.oneCell' = true) :
    (Builtin.append_ #[40, 40] ty #[.slice (some ⟨g, 0, none⟩) i cap, .slice sp m c]).run Try.prog w = .ok (.slice (some ⟨g, 0, none⟩) (i + m) cap) (w.setRow g (splice cur (i * 4) cs).toArray) := by
  rcases Nat.eq_zero_or_pos m with h0 | hp
  · subst h0
    obtain rfl := hnil rfl
    obtain rfl : cs = [] := List.eq_nil_of_length_eq_zero (by simpa using hn)
    rw [show splice cur (i * 4) [] = cur by simp [splice], setRow_self w g _ _ _ hg]
    have h : i ≤ cap := by omega
    simp [Builtin.append_, run_underlying Try.underlying40, sizeOf, typeInfo, hi32, Builtin.lenOf, Builtin.firstCells, h, storeCells]
  · obtain ⟨ad, rfl, hc⟩ := hsrc hp
    have := run_append_room (P := Try.prog) w 40 ty 32 Try.t32 Try.underlying40 hi32 g i cap cur.toArray hg ad m c cs (by rw [hs32]; exact hn) hc h1 hroom (by rw [hs32]; simpa using hfit)
    rw [this, hs32]
    simp [splice]

set_option maxHeartbeats 4000000 in
set_option maxRecDepth 100000 in
theorem replace_tail {w : World} {g cap base capq : Nat} {cur : List Value} {P Q : List E} (i : Nat) (sp : Option Addr) (hbg : base ≤ g) (hr : Row w g cap cur P)
    (hq : 0 < Q.length → ∃ ad, sp = some ad ∧ ∀ k v, (EC Q)[k]? = some v → w.cell? (ad.add k) = some v) (hnil : Q.length = 0 → sp = none)
    (hij : i < P.length) (hx : i + Q.length < P.length) (hP : P.length ≤ 1000000) :
    Calls Try.prog 37 #[.slice (some ⟨g, 0, none⟩) P.length cap, .int .i64 i, .int .i64 P.length, .slice sp Q.length capq] w (InsOut w base (.slice (some ⟨g, 0, none⟩) P.length cap) (P.take i ++ Q ++ P.drop P.length)) := by
  have hmx : cap ≤ 9223372036854775807 := by have := hr.mx; unfold maxLen at this; omega
  have hsz := hr.sz
  have hle := hr.le
  have hap : ∀ ty, _ := fun ty => run_append4 w ty g i cap cur hr.h sp Q.length capq (EC Q) (EC_len Q) hq hnil (by omega) (by rw [EC_len, hsz]; omega) (EC_one _)
  have hl1 : (splice cur (i * 4) (EC Q)).length = cap * 4 := by rw [length_splice _ _ _ (by rw [EC_len, hsz]; omega), hsz]
  have ht := bc_take (Q := Q) i P.length hr (by omega) (by omega)
  rw [show splice (splice cur (i * 4) (EC Q)) ((i + Q.length) * 4) (EC (P.drop P.length)) = splice cur (i * 4) (EC Q) by rw [List.drop_length]; simp [EC, splice]] at ht
  obtain ⟨c1, hc1⟩ : ∃ c1, splice cur (i * 4) (EC Q) = c1 := ⟨_, rfl⟩
  rw [hc1] at hap hl1 ht
  obtain ⟨W1, hW1⟩ : ∃ W1, w.setRow g c1.toArray = W1 := ⟨_, rfl⟩
  rw [hW1] at hap
  have hh1 : W1.heap[g]? = some (.cells c1.toArray 32 (0, 0)) := by rw [← hW1]; exact setRow_heap w g _ _ _ _ hr.h
  have hG : InG w W1 g := by rw [← hW1]; exact (InG.refl w g).set _
  obtain ⟨W3, hW3⟩ : ∃ W3, W1.setRow g (splice c1 ((i + Q.length) * 4) (Builtin.zeroCells (Value.agg #[.int .i64 0, .int .i64 0, .int .i64 0, .int .i64 0]).cells (P.length - (i + Q.length))).toList).toArray = W3 := ⟨_, rfl⟩
  have hzl : (Builtin.zeroCells (Value.agg #[.int .i64 0, .int .i64 0, .int .i64 0, .int .i64 0]).cells (P.length - (i + Q.length))).toList.length = (P.length - (i + Q.length)) * 4 := by simp [size_zeroCells, Value.cells]
  have hcl : ∀ ty c, (Builtin.clear_ #[40] ty #[.slice (some ⟨g, (i + Q.length) * 4, none⟩) (P.length - (i + Q.length)) c]).run Try.prog W1 = .ok (.tuple #[]) W3 := by
    intro ty c
    rw [← hW3]
    exact run_clear4 (P := Try.prog) W1 40 32 ty _ Try.underlying40 zv32 rfl (by simp [Value.cells]; rfl) g ((i + Q.length) * 4) (P.length - (i + Q.length)) c _ c1 32 hh1 (fun _ => rfl) (by rw [hl1]; omega)
  have HK : Hid (InsOut w base (.slice (some ⟨g, 0, none⟩) P.length cap) (P.take i ++ Q ++ P.drop P.length) (.returned (.slice (some ⟨g, 0, none⟩) (i + Q.length) cap)) W3) := by
    rw [← hW3]
    refine ⟨_, rfl, ?_, (hG.set _).rw⟩
    have := own_bc (Q := Q) (W := W1.setRow g (splice c1 ((i + Q.length) * 4) (Builtin.zeroCells (Value.agg #[.int .i64 0, .int .i64 0, .int .i64 0, .int .i64 0]).cells (P.length - (i + Q.length))).toList).toArray) i P.length hr hbg (by omega) (by omega) (by omega) (setRow_heap W1 g _ _ _ _ hh1) (by rw [length_splice _ _ _ (by rw [hzl, hl1]; omega), hl1]) (by
      rw [splice_take _ _ _ _ (by omega) (by rw [hl1]; omega)]
      exact ht)
    rwa [Nat.sub_self, Nat.add_zero] at this
  generalize (P.take i ++ Q ++ P.drop P.length) = RR at *
  clear hq hnil hr hh1 hl1 hc1 hW1 hsz ht hG hW3 hzl
  generalize hn' : P.length = n at *
  generalize hm' : Q.length = m at *
  have hz1 : ((i : Int) == (n : Int)) = false := by simp; omega
  have hz2 : (i : Int) + (m : Int) < (n : Int) := by omega
  have hin : i ≤ n := by omega
  have hb2 : ¬ (cap = i + m) := by omega
  have hb4 : ¬ (cap = i) := by omega
  have hic : i ≤ cap := by omega
  have himn : i + m ≤ n := by omega
  clear hn' hm'
  go_enter Try.func37, Try.ntmps37
  go_wp2_with (first
    | (at_builtin; refine Lib.wpList_append_run _ rfl _ _ _ _ rfl _ _ rfl rfl _ _ (hap _) ?_)
    | (at_builtin; refine wpList_clear_runI _ rfl _ 40 rfl _ rfl (hcl _ _) ?_))
  go_ret
  exact HK.out

set_option maxHeartbeats 4000000 in
set_option maxRecDepth 100000 in
theorem replace_more {w : World} {g cap base gq capq : Nat} {cur curq : List Value} {P Q : List E} (i : Nat) (hb : base ≤ w.heap.size) (hbg : base ≤ g) (hr : Row w g cap cur P) (hq : Row w gq capq curq Q)
    (hij : i < P.length) (hx : P.length ≤ i + Q.length) (hm : 0 < Q.length) (hP : P.length ≤ 1000000) (hQ : Q.length ≤ 1000000) :
    Calls Try.prog 37 #[.slice (some ⟨g, 0, none⟩) P.length cap, .int .i64 i, .int .i64 P.length, .slice (some ⟨gq, 0, none⟩) Q.length capq] w (InsOut w base (.slice (some ⟨g, 0, none⟩) P.length cap) (P.take i ++ Q ++ P.drop P.length)) := by
  rw [List.drop_length, List.append_nil]
  have hmx : cap ≤ 9223372036854775807 := by have := hr.mx; unfold maxLen at this; omega
  have hle := hr.le
  have htl : (P.take i).length = i := by simp; omega
  have HO : Hid (w.ownsRow base 32 4 (.slice (some ⟨g, 0, none⟩) i cap) i (EC (P.take i))) :=
    ⟨EC_tl P i (by omega), .inr ⟨g, cap, cur.toArray, rfl, hbg, hr.h, by omega, hr.mx, by simp [hr.sz], by simpa using hr.pre i (by omega)⟩⟩
  have HL : Hid (EC (P.take i ++ Q) = EC (P.take i) ++ EC Q ∧ (P.take i ++ Q).length = i + Q.length) := ⟨EC_app _ _, by rw [List.length_append, htl]⟩
  have HN : Hid (∀ j u, (EC Q)[j]? = some u → w.cell? ((⟨gq, 0, none⟩ : Addr).add j) = some u) := hq.at0
  have HQ : Hid ((EC Q).length = Q.length * 4) := EC_len Q
  have H1 : Hid (∀ u ∈ EC Q, u.oneCell' = true) := EC_one Q
  clear hq hr htl
  generalize P.take i = A at *
  generalize hn' : P.length = n at *
  have hz1 : ((i : Int) == (n : Int)) = false := by simp; omega
  have hz2 : (n : Int) ≤ (i : Int) + (Q.length : Int) := by omega
  have hin : i ≤ n := by omega
  have hb4 : ¬ (cap = i) := by omega
  have hic : i ≤ cap := by omega
  clear hn'
  go_enter Try.func37, Try.ntmps37
  go_wp2_with (at_builtin; refine wpList_append_lies _ rfl _ _ 40 rfl base 32 Try.t32 _ 4 32 Try.underlying40 hi32 hz32 hs32 hb32 rfl (by decide) _ _ _ rfl HO.out ⟨gq, 0, none⟩ Q.length capq (EC Q) rfl HQ.out HN.out H1.out hm (by unfold maxLen; omega) (by omega) hb _ rfl ?_; intro g3 cp w3 hown3 hgrow hat hlt)
  go_ret
  refine ⟨_, rfl, ?_, rw_lies (v := .slice (some ⟨g, 0, none⟩) n cap) hgrow hat rfl⟩
  unfold Own
  rw [HL.out.1, HL.out.2]
  exact hown3

/-- slices.Replace. -/
theorem replace_any {w : World} {base : Nat} {v u : Value} {P Q : List E} (i j : Nat) (hb : base ≤ w.heap.size) (ho : Own w base v P) (ha : Arg w v u Q) (hij : i ≤ j) (hj : j ≤ P.length) (hP : P.length ≤ 1000000) (hQ : Q.length ≤ 1000000) :
    Calls Try.prog 37 #[v, .int .i64 i, .int .i64 j, u] w (InsOut w base v (P.take i ++ Q ++ P.drop j)) := by
  rcases Nat.eq_or_lt_of_le hij with rfl | hlt
  · exact replace_ins i hb ho ha hj hP hQ
  · rcases ho.row with ⟨rfl, rfl⟩ | ⟨g, cap, cur, rfl, hbg, hr⟩
    · simp at hj
      omega
    · have hsrc : ∃ sp capq, u = .slice sp Q.length capq ∧ (Q.length = 0 → sp = none) ∧ ∀ w' : World, (∀ k, k ≠ g → w'.heap[k]? = w.heap[k]?) → 0 < Q.length → ∃ ad, sp = some ad ∧ ∀ k v, (EC Q)[k]? = some v → w'.cell? (ad.add k) = some v := by
        rcases ha with ⟨rfl, rfl⟩ | ⟨gq, capq, curq, rfl, hq, hne, hm⟩
        · exact ⟨none, 0, rfl, fun _ => rfl, fun _ _ h => by simp at h⟩
        · exact ⟨some ⟨gq, 0, none⟩, capq, rfl, fun h => by omega, fun w' hw' _ => ⟨_, rfl, (hq.of (hw' gq (fun e => hne (by rw [e]; rfl)))).at0⟩⟩
      rcases Nat.eq_or_lt_of_le hj with rfl | hjl
      · rcases Nat.lt_or_ge (i + Q.length) P.length with hx | hx
        · obtain ⟨sp, capq, rfl, hnil, hs⟩ := hsrc
          exact replace_tail i sp hbg hr (hs w (fun _ _ => rfl)) hnil hlt hx hP
        · rcases ha with ⟨rfl, rfl⟩ | ⟨gq, capq, curq, rfl, hq, hne, hm⟩
          · simp at hx
            omega
          · exact replace_more i hb hbg hr hq hlt hx hm hP hQ
      · rcases Nat.lt_or_ge j (i + Q.length) with hx | hx
        · rcases ha with ⟨rfl, rfl⟩ | ⟨gq, capq, curq, rfl, hq, hne, hm⟩
          · simp at hx
            omega
          · have hne' : gq ≠ g := fun e => hne (by rw [e]; rfl)
            rcases Nat.lt_or_ge cap (i + Q.length + (P.length - j)) with hc | hc
            · exact replace_grow i j hb hr hq hlt hjl hm hc hP hQ
            · exact replace_expand i j hbg hr hq hne' hlt hjl hx hc hP hQ
        · obtain ⟨sp, capq, rfl, hnil, hs⟩ := hsrc
          exact replace_fit i j sp hbg hr hs hlt hjl hx hP
end Go.Proofs.Ytajgjkkggppbiaa
