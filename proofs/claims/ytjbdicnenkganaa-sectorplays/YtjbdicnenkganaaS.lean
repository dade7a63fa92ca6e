/-
  The document's device: sectors are read.
-/
import Derived.Test.YtjbdicnenkganaaR
namespace Go.Proofs.Ytjbdicnenkganaa
open Go.RowKit
open M (ofL ofL_size ofL_of DD)
set_option linter.unusedVariables false

/-- The ways in which it is refused, as the document asks. -/
theorem ref_cases (n : Nat) (lost : Bool) (at' m : Int) :
    (at' < 0 ∧ M.refused n lost at' m = 1) ∨ (0 ≤ at' ∧ m < 1 ∧ M.refused n lost at' m = 1) ∨ (0 ≤ at' ∧ 1 ≤ m ∧ (n : Int) < at' ∧ M.refused n lost at' m = 5) ∨ (0 ≤ at' ∧ 1 ≤ m ∧ at' ≤ n ∧ (n : Int) - at' < m ∧ M.refused n lost at' m = 5) ∨
    (0 ≤ at' ∧ 1 ≤ m ∧ at' ≤ n ∧ m ≤ (n : Int) - at' ∧ lost = true ∧ M.refused n lost at' m = 8) ∨ (lost = false ∧ (∃ a k : Nat, at' = a ∧ m = k ∧ 1 ≤ k ∧ a + k ≤ n) ∧ M.refused n lost at' m = 0) := by
  by_cases h1 : at' < 0
  · exact .inl ⟨h1, by unfold M.refused; rw [decide_eq_true h1]; rfl⟩
  by_cases h2 : m < 1
  · exact .inr (.inl ⟨by omega, h2, by unfold M.refused; rw [decide_eq_true h2, Bool.or_true]; rfl⟩)
  by_cases h3 : (n : Int) < at'
  · exact .inr (.inr (.inl ⟨by omega, by omega, h3, by unfold M.refused; rw [decide_eq_false h1, decide_eq_false h2, decide_eq_true (show at' > (n : Int) - m by omega)]; rfl⟩))
  by_cases h4 : (n : Int) - at' < m
  · exact .inr (.inr (.inr (.inl ⟨by omega, by omega, by omega, h4, by unfold M.refused; rw [decide_eq_false h1, decide_eq_false h2, decide_eq_true (show at' > (n : Int) - m by omega)]; rfl⟩)))
  cases lost with
  | true => exact .inr (.inr (.inr (.inr (.inl ⟨by omega, by omega, by omega, by omega, rfl, by unfold M.refused; rw [decide_eq_false h1, decide_eq_false h2, decide_eq_false (show ¬ at' > (n : Int) - m by omega)]; rfl⟩))))
  | false => exact .inr (.inr (.inr (.inr (.inr ⟨rfl, ⟨at'.toNat, m.toNat, by omega, by omega, by omega, by omega⟩, by unfold M.refused; rw [decide_eq_false h1, decide_eq_false h2, decide_eq_false (show ¬ at' > (n : Int) - m by omega)]; rfl⟩))))
set_option maxRecDepth 100000 in
set_option maxHeartbeats 2000000 in
theorem rread_any (h : Hd) (D : DD) (at' m : Int) (w : World) (hn : D.now.length ≤ 4096) (hsz : ∀ s ∈ D.now, s.size = 64) (hx : XD w h D) :
    Calls Try.prog 18 #[.agg (h.vals D), .int .i64 at', .int .i64 m] w (RdD w D at' m) := by
  obtain ⟨aN, cN, aS, cS, aL, cL⟩ := h
  have HX : Hid (∀ W, Below w.heap.size w W → AtV W aN (SC D.now)) := fun W hW => (hx.keep hW).n
  unfold Hd.vals
  dsimp only
  obtain ⟨⟨c0, c1, c2, c3⟩, _⟩ := row4 (heap_alloc_last w (.cells #[.slice aN D.now.length cN, .slice aS D.sure.length cS, .slice aL D.loo.length cL, .bool D.lost] 30))
  have HB : Hid (Below w.heap.size w (w.alloc (.cells #[.slice aN D.now.length cN, .slice aS D.sure.length cS, .slice aL D.loo.length cL, .bool D.lost] 30))) := bel1 w _
  have HSZ := Hid_of hsz
  clear hx hsz
  have HK : ∀ r, M.refused D.now.length D.lost at' m = r → r ≠ 0 → Hid (RdD w D at' m (.returned (.tuple #[.string M.E, .int .i64 r])) (w.alloc (.cells #[.slice aN D.now.length cN, .slice aS D.sure.length cS, .slice aL D.loo.length cL, .bool D.lost] 30))) := fun r hr h0 => by
    subst hr
    unfold RdD M.dread
    rw [decide_eq_false h0]
    exact ⟨rfl, HB.out⟩
  rcases ref_cases D.now.length D.lost at' m with ⟨h1, hr⟩ | ⟨h1, h2, hr⟩ | ⟨h1, h2, h3, hr⟩ | ⟨h1, h2, h3, h4, hr⟩ | ⟨h1, h2, h3, h4, h5, hr⟩ | ⟨h5, ⟨a, k, rfl, rfl, h6, h7⟩, hr⟩
  · have hd : decide (at' < 0) = true := by simpa using h1
    have HQ := HK 1 hr (by decide)
    clear hr HX HK HB
    go_enter Try.func18, Try.ntmps18
    go_wp2
    go_ret2
    exact HQ.out
  · have hd : decide (at' < 0) = false := by simpa using h1
    have hd2 : decide (m < 1) = true := by simpa using h2
    have HQ := HK 1 hr (by decide)
    clear hr HX HK HB
    go_enter Try.func18, Try.ntmps18
    go_wp2
    go_ret2
    exact HQ.out
  · have hd : decide (at' < 0) = false := by simpa using h1
    have hd2 : decide (m < 1) = false := by simpa using h2
    have hd3 : decide ((D.now.length : Int) < at') = true := by simpa using h3
    have HQ := HK 5 hr (by decide)
    clear hr HX HK HB
    go_enter Try.func18, Try.ntmps18
    go_wp2
    go_ret2
    exact HQ.out
  · have hd : decide (at' < 0) = false := by simpa using h1
    have hd2 : decide (m < 1) = false := by simpa using h2
    have hd3 : decide ((D.now.length : Int) < at') = false := by simpa using h3
    have hd4 : decide ((D.now.length : Int) - at' < m) = true := by simpa using h4
    have HQ := HK 5 hr (by decide)
    clear hr HX HK HB
    go_enter Try.func18, Try.ntmps18
    go_wp2
    go_ret2
    exact HQ.out
  · have hd : decide (at' < 0) = false := by simpa using h1
    have hd2 : decide (m < 1) = false := by simpa using h2
    have hd3 : decide ((D.now.length : Int) < at') = false := by simpa using h3
    have hd4 : decide ((D.now.length : Int) - at' < m) = false := by simpa using h4
    have HQ := HK 8 hr (by decide)
    clear hr HX HK HB
    rw [h5] at c0 c1 c2 c3 HQ ⊢
    go_enter Try.func18, Try.ntmps18
    go_wp2
    go_ret2
    exact HQ.out
  · have hd3 : decide ((D.now.length : Int) < (a : Int)) = false := by simp; omega
    have hd4 : decide ((D.now.length : Int) - (a : Int) < (k : Int)) = false := by simp; omega
    have hd2 : decide ((k : Int) < 1) = false := by simp; omega
    have hd1 : decide ((a : Int) < 0) = false := by simp
    have hd5 : decide (D.now.length < a) = false := by simp; omega
    have HQ : Hid (∀ W, Below w.heap.size w W → RdD w D (a : Int) (k : Int) (.returned (.tuple #[.string (M.cat ((D.now.drop a).take k)), .int .i64 0])) W) := fun W hW => by
      unfold RdD M.dread
      rw [hr]
      exact ⟨rfl, hW⟩
    clear hr HK
    rw [h5] at c0 c1 c2 c3 HB ⊢
    obtain ⟨W1, HW1⟩ : ∃ W1, Hid (w.alloc (.cells #[.slice aN D.now.length cN, .slice aS D.sure.length cS, .slice aL D.loo.length cL, .bool false] 30) = W1) := ⟨_, Hid_of rfl⟩
    rw [HW1.out] at c0 c1 c2 c3 HB
    go_enter Try.func18, Try.ntmps18
    go_upto_region 1 with fail
    rw [HW1.out]
    clear HW1
    go_wp2
    go_loopw [8, 9] (fun s i wr => ∃ j : Nat, j ≤ k ∧ s = .string (M.cat ((D.now.drop a).take j)) ∧ i = .int .i64 j ∧ wr = W1) (fun _ i _ => k - (intOf i).toNat)
    case atStart => exact ⟨0, Nat.zero_le _, rfl, rfl, rfl⟩
    case round =>
      obtain ⟨j, hj, rfl, rfl, rfl⟩ := hrel
      by_cases hlt : j < k
      · obtain ⟨b, off, rfl, d0⟩ := (HX.out _ HB.out).str (a + j) (by omega)
        have hst := cat_step D.now a j (by omega)
        have HST := Hid_of hst
        have hx64 : (D.now[a + j]'(by omega)).size = 64 := HSZ.out _ (List.getElem_mem _)
        have hcj : (M.cat ((D.now.drop a).take j)).size ≤ 300000 := by
          rw [M.cat_size _ (fun s hs => HSZ.out s (List.mem_of_mem_drop (List.mem_of_mem_take hs))), List.length_take]
          have : min j (D.now.drop a).length ≤ j := Nat.min_le_left _ _
          omega
        clear HX hst
        generalize D.now[a + j]'(by omega) = x at *
        generalize M.cat ((D.now.drop a).take j) = cj at *
        go_wp2
        go_roundw
        case rel => exact ⟨j + 1, by omega, by rw [HST.out], by go_num, by first | rfl | trivial⟩
        case measure => simp [intOf]; omega
      · obtain rfl : j = k := by omega
        have HQ2 := Hid_of (HQ.out _ HB.out)
        clear HX HQ
        go_wp2
        go_ret2
        exact HQ2.out
end Go.Proofs.Ytjbdicnenkganaa
