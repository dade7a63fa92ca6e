/-
  slices.Replace at pieces: the other ways.
-/
import Derived.Test.YtajgjkkggppbiaaJ
namespace Go.Proofs.Ytajgjkkggppbiaa
open Go.RowKit
set_option linter.unusedVariables false
open M (E)

set_option maxHeartbeats 4000000 in
set_option maxRecDepth 100000 in
theorem replace_grow {w : World} {g cap base gq capq : Nat} {cur curq : List Value} {P Q : List E} (i j : Nat) (hbw : base ≤ w.heap.size) (hr : Row w g cap cur P) (hq : Row w gq capq curq Q) (hij : i < j) (hj : j < P.length) (hm : 0 < Q.length) (hroom : cap < i + Q.length + (P.length - j)) (hP : P.length ≤ 1000000) (hQ : Q.length ≤ 1000000) :
    Calls Try.prog 37 #[.slice (some ⟨g, 0, none⟩) P.length cap, .int .i64 i, .int .i64 j, .slice (some ⟨gq, 0, none⟩) Q.length capq] w (InsOut w base (.slice (some ⟨g, 0, none⟩) P.length cap) (P.take i ++ Q ++ P.drop j)) := by
  have hsz := hr.sz
  have hgw : g < w.heap.size := (Array.getElem?_eq_some_iff.1 hr.h).1
  have hqw : gq < w.heap.size := (Array.getElem?_eq_some_iff.1 hq.h).1
  have hdl : (EC (P.drop j)).length = (P.length - j) * 4 := by rw [EC_len, List.length_drop]
  have hpl := EC_tl P i (by omega)
  have hle := hr.le
  obtain ⟨G, hG⟩ : ∃ G, G = grownCap w.drew ((i + Q.length + (P.length - j))) cap 32 := ⟨_, rfl⟩
  have hGn : (i + Q.length + (P.length - j)) ≤ G := by rw [hG]; exact grownCap_ge w.drew _ _ _
  have hGm : G ≤ maxLen := by rw [hG]; exact grownCap_le_maxLen w.drew _ _ _ (by unfold maxLen; omega)
  obtain ⟨Z, hZ⟩ : ∃ Z : List Value, ((EC (P.take i)).toArray ++ Builtin.zeroCells (Value.agg #[.int .i64 0, .int .i64 0, .int .i64 0, .int .i64 0]).cells ((i + Q.length + (P.length - j)) - i) ++ Builtin.zeroCells (Value.agg #[.int .i64 0, .int .i64 0, .int .i64 0, .int .i64 0]).cells (G - ((i + Q.length + (P.length - j))))) = Z.toArray := ⟨_, (Array.toArray_toList).symm⟩
  have hZl : Z.length = G * 4 := by
    have := congrArg Array.size hZ
    simp [size_zeroCells, hpl, Value.cells] at this
    omega
  have hZt : Z.take (i * 4) = EC (P.take i) := by
    have := congrArg Array.toList hZ
    simp only [Array.toList_append, List.append_assoc] at this
    rw [← this, List.take_append_of_le_length (by simp [hpl]), List.take_of_length_le (by simp [hpl])]
  have hold : (Builtin.firstCells Try.t32.size i (.slice (some ⟨g, 0, none⟩) i cap)).run Try.prog w.drew.drew = .ok (EC (P.take i)).toArray w.drew.drew := by
    rw [hs32]
    refine run_firstCells_some w.drew.drew 4 i ⟨g, 0, none⟩ i cap _ hpl (fun j v hj => ?_)
    rw [← EC_take, List.getElem?_take] at hj
    split at hj
    · exact hr.at0 j v hj
    · cases hj
  have hik : i + ((i + Q.length + (P.length - j)) - i) = (i + Q.length + (P.length - j)) := by omega
  have hrz : ∀ ty, (Builtin.append_ #[40, 3] ty #[.slice (some ⟨g, 0, none⟩) i cap, .int .i64 (((i + Q.length + (P.length - j) : Nat) : Int) - (i : Int))]).run Try.prog w.drew =
      .ok (.slice (some ⟨w.heap.size, 0, none⟩) ((i + Q.length + (P.length - j))) G) (w.drew.drew.alloc (.cells Z.toArray 32)) := fun ty => by
    have h := Lib.run_append_grow_zeros (P := Try.prog) w.drew 40 3 ty 32 Try.t32 _ .i64 .i64 Try.underlying40 Try.underlying3 hi32 hz32 (some ⟨g, 0, none⟩) i cap (EC (P.take i)) hold ((i + Q.length + (P.length - j)) - i) (by omega) (by decide) (by omega) (by omega) (by rw [hb32]; omega) (by rw [hb32, hik]; exact growslice_fits (by omega) (by omega))
    rw [hik, ← hG, hZ] at h
    rw [show ((i + Q.length + (P.length - j) : Nat) : Int) - (i : Int) = (((i + Q.length + (P.length - j)) - i : Nat) : Int) by omega]
    exact h
  obtain ⟨W1, hW1⟩ : ∃ W1, w.drew.drew.alloc (.cells Z.toArray 32) = W1 := ⟨_, rfl⟩
  rw [hW1] at hrz
  have hh1 : W1.heap[w.heap.size]? = some (.cells Z.toArray 32 (0, 0)) := by rw [← hW1]; exact heap_alloc_last w.drew.drew _
  have hold1 : ∀ k, k < w.heap.size → W1.heap[k]? = w.heap[k]? := fun k hk => by rw [← hW1]; exact Below.heap_alloc w.drew.drew _ _ hk
  have hq1 : Row W1 gq capq curq Q := hq.of (hold1 _ hqw)
  have hcpA : ∀ ty dc, (Builtin.copy_ #[40, 40] ty #[.slice (some ⟨w.heap.size, i * 4, none⟩) ((i + Q.length + (P.length - j)) - i) dc, .slice (some ⟨gq, 0, none⟩) Q.length capq]).run Try.prog W1 = .ok (goInt Q.length) (W1.setRow w.heap.size (splice Z (i * 4) (EC Q)).toArray) := fun ty dc =>
    run_copy4 W1 40 40 ty 32 w.heap.size (i * 4) _ dc _ _ capq Z 32 (EC Q) Q.length Try.underlying40 Try.sz40 hh1 (by simp only [Nat.min_def]; split <;> omega) (EC_len Q) (fun _ => ⟨_, rfl, hq1.at0⟩) (by rw [EC_len, hZl]; omega) (EC_one _)
  have hl2 : (splice Z (i * 4) (EC Q)).length = G * 4 := by rw [length_splice _ _ _ (by rw [EC_len, hZl]; omega), hZl]
  obtain ⟨W2, hW2⟩ : ∃ W2, (W1.setRow w.heap.size (splice Z (i * 4) (EC Q)).toArray) = W2 := ⟨_, rfl⟩
  rw [hW2] at hcpA
  have hh2 : W2.heap[w.heap.size]? = some (.cells (splice Z (i * 4) (EC Q)).toArray 32 (0, 0)) := by rw [← hW2]; exact setRow_heap W1 _ _ _ _ _ hh1
  have hr2 : Row W2 g cap cur P := (hr.of (hold1 _ hgw)).of (by rw [← hW2]; exact setRow_other W1 _ g _ (by omega))
  have hcpB : ∀ ty dc sc, (Builtin.copy_ #[40, 40] ty #[.slice (some ⟨w.heap.size, (i + Q.length) * 4, none⟩) ((i + Q.length + (P.length - j)) - (i + Q.length)) dc, .slice (some ⟨g, j * 4, none⟩) (P.length - j) sc]).run Try.prog W2.drew = .ok (goInt (P.length - j : Nat)) (W2.drew.setRow w.heap.size (splice (splice Z (i * 4) (EC Q)) ((i + Q.length) * 4) (EC (P.drop j))).toArray) := fun ty dc sc =>
    run_copy4 W2.drew 40 40 ty 32 w.heap.size ((i + Q.length) * 4) _ dc _ _ sc _ 32 (EC (P.drop j)) (P.length - j) Try.underlying40 Try.sz40 hh2 (by simp only [Nat.min_def]; split <;> omega) hdl (fun _ => ⟨_, rfl, hr2.at j⟩) (by rw [hdl, hl2]; omega) (EC_one _)
  have HK : Hid (InsOut w base (.slice (some ⟨g, 0, none⟩) P.length cap) (P.take i ++ Q ++ P.drop j) (.returned (.slice (some ⟨w.heap.size, 0, none⟩) ((i + Q.length + (P.length - j))) G)) (W2.drew.setRow w.heap.size (splice (splice Z (i * 4) (EC Q)) ((i + Q.length) * 4) (EC (P.drop j))).toArray)) := by
    have hl3 : (P.take i ++ Q ++ P.drop j).length = (i + Q.length + (P.length - j)) := by simp; omega
    refine ⟨_, rfl, ?_, ⟨⟨?_, ?_, ?_, ?_, fun k hk _ => ?_⟩, fun k hk => ?_⟩⟩
    · rw [← hl3]
      refine Row.own (cur := splice (splice Z (i * 4) (EC Q)) ((i + Q.length) * 4) (EC (P.drop j))) ⟨setRow_heap W2.drew _ _ _ _ _ hh2, by rw [hl3]; exact hGn, hGm, by rw [length_splice _ _ _ (by rw [hdl, hl2]; omega), hl2], ?_⟩ hbw
      have := splice_bc Z (EC (P.take i)) (EC Q) (EC (P.drop j)) (by rw [hpl]; exact hZt)
      rw [hpl, EC_len Q, hdl, show i * 4 + Q.length * 4 = (i + Q.length) * 4 by omega, show (i + Q.length) * 4 + (P.length - j) * 4 = ((i + Q.length + (P.length - j))) * 4 by omega] at this
      rw [hl3, EC_app, EC_app]
      exact this
    · rw [← hW2, ← hW1]; rfl
    · rw [← hW2, ← hW1]; rfl
    · rw [← hW2, ← hW1]; rfl
    · rw [← hW2, ← hW1]; simp [World.setRow]
    · have e1 : (W2.drew.setRow w.heap.size (splice (splice Z (i * 4) (EC Q)) ((i + Q.length) * 4) (EC (P.drop j))).toArray).heap[k]? = W2.heap[k]? := setRow_other W2.drew _ k _ (by omega)
      have e2 : W2.heap[k]? = W1.heap[k]? := by rw [← hW2]; exact setRow_other W1 _ k _ (by omega)
      rw [e1, e2, hold1 k hk]
    · simp only [Value.ownBlock, Option.some.injEq] at hk
      exact .inr (by omega)
  generalize (splice (splice Z (i * 4) (EC Q)) ((i + Q.length) * 4) (EC (P.drop j))).toArray = c2 at *
  generalize (P.take i ++ Q ++ P.drop j) = RR at *
  clear hq hr hq1 hh1 hW1 hW2 hdl hsz hh2 hr2 hl2 hold1 hold hZ hZl hZt hpl hG hik
  generalize hn' : P.length = n at *
  generalize hm' : Q.length = m at *
  obtain ⟨t, ht'⟩ : ∃ t, i + m + (n - j) = t := ⟨_, rfl⟩
  rw [ht'] at hcpA hcpB HK hrz hroom hGn
  have htt : (i : Int) + (m : Int) + ((n : Int) - (j : Int)) = (t : Int) := by omega
  have htt2 : (i : Int) + (m : Int) + ((n - j : Nat) : Int) = (t : Int) := by omega
  have hz1 : ((i : Int) == (j : Int)) = false := by simp; omega
  have hz2 : ((j : Int) == (n : Int)) = false := by simp; omega
  have hz3 : ((cap : Int) < (t : Int)) := by omega
  have hw1 : IntKind.i64.wrap ((i : Int) + (m : Int)) = (i : Int) + (m : Int) := by rw [IntKind.wrap_i64]; omega
  have hb1 : (0 : Int) ≤ (i : Int) + (m : Int) := by omega
  have hin : i ≤ n := by omega
  have hjn : j ≤ n := by omega
  have hit : i ≤ t := by omega
  have himt : i + m ≤ t := by omega
  have htn : ((i : Int) + (m : Int)).toNat = i + m := by omega
  have hG63 : G ≤ 9223372036854775807 := by unfold maxLen at hGm; omega
  have hGi : ¬ (G = i) := by omega
  have hGim : ¬ (G = i + m) := by omega
  have hci : ¬ (cap = i) := by omega
  have hcj : ¬ (cap = j) := by omega
  have hb3 : (i : Int) ≤ (t : Int) := by omega
  have hb6 : (i : Int) + (m : Int) ≤ (t : Int) := by omega
  have htm : t ≤ 2000000 := by omega
  have hgx : ∀ x, (w.drew.grownBy x none) → True := fun _ _ => trivial
  clear hgx hn' hm' ht' hGm
  go_enter Try.func37, Try.ntmps37
  go_wp2_with fail
  go_region
  go_wp2_with (first
    | (at_builtin; refine Lib.wpList_append_run _ rfl _ _ _ _ rfl _ _ rfl rfl _ _ (hrz _) ?_)
    | (at_builtin; refine wpList_copy_runI _ rfl _ _ 40 40 rfl _ _ rfl rfl (hcpA _ _) ?_))
  go_region_law (refine step_copy_runI rfl _ _ 40 40 rfl _ _ (by simp [Act.eval, Act.put]) (by simp [Act.eval, Act.put]) (hcpB _ _ _) ?_)
  all_goals
    go_wp2
    go_ret
    exact HK.out
end Go.Proofs.Ytajgjkkggppbiaa
