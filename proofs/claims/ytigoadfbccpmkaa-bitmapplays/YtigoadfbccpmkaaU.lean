/-
  The document's answer: the rows.
-/
import Derived.Test.YtigoadfbccpmkaaS
namespace Go.Proofs.Ytigoadfbccpmkaa
open Go.RowKit
set_option linter.unusedVariables false

theorem RC_set (d : List (Nat × Nat)) (p : Nat × Nat) (q : Nat) : (RC (d ++ [p])).set (d.length * 2 + 1) (.int .i64 (q : Nat)) = RC (d ++ [(p.1, q)]) := by
  rw [RC_app, RC_app, List.set_append_right _ _ (by rw [RC_len]; omega), RC_len, show d.length * 2 + 1 - d.length * 2 = 1 by omega]
  rfl
theorem owns_last {w : World} {base : Nat} {v : Value} {d : List (Nat × Nat)} {p : Nat × Nat} (h : w.ownsRow base 41 2 v (d ++ [p]).length (RC (d ++ [p]))) :
    ∃ g cap, v = .slice (some ⟨g, 0, none⟩) (d.length + 1) cap ∧ base ≤ g ∧ w.cell? ⟨g, d.length * 2, none⟩ = some (.int .i64 (p.1 : Nat)) ∧ w.cell? ⟨g, d.length * 2 + 1, none⟩ = some (.int .i64 (p.2 : Nat)) ∧ w.frozen? ⟨g, d.length * 2 + 1, none⟩ = false ∧
      ∀ q : Nat, (w.setCell ⟨g, d.length * 2 + 1, none⟩ (.int .i64 q)).ownsRow base 41 2 v (d ++ [(p.1, q)]).length (RC (d ++ [(p.1, q)])) := by
  have hlen : (d ++ [p]).length = d.length + 1 := by simp
  rcases h.2 with ⟨rfl, h0⟩ | ⟨g, cap, cur, hv, hb', hh, hc, hm, hs, ht⟩
  · omega
  · rw [hlen] at hv hc ht
    have key : ∀ (i : Nat) (u : Value), (RC (d ++ [p]))[i]? = some u → w.cell? ⟨g, i, none⟩ = some u := fun i u hu => by
      have := h.cells (g := g) (by rw [hv]; rfl) i u hu
      rwa [show ((⟨g, 0, none⟩ : Addr).add i) = ⟨g, i, none⟩ by unfold Addr.add; split <;> simp_all] at this
    have hr := RC_get (d ++ [p]) d.length (by simp)
    simp only [List.getElem_append_right (Nat.le_refl _), Nat.sub_self, List.getElem_cons_zero] at hr
    refine ⟨g, cap, hv, hb', key _ _ hr.1, key _ _ hr.2, frozen_of_row w g _ _ _ hh, fun q => ⟨by rw [RC_len], .inr ⟨g, cap, _, by rw [hv]; simp, hb', heap_setCell_same w g _ _ _ _ hh, by simp; omega, hm, by simp; omega, ?_⟩⟩⟩
    rw [Array.toList_setIfInBounds, List.take_set, show (d ++ [(p.1, q)]).length * 2 = (d.length + 1) * 2 by simp, ht, RC_set]

set_option maxRecDepth 100000 in
set_option maxHeartbeats 2000000 in
theorem refRuns_any (n : Nat) (f : Nat → Bool) (on : Bool) (a : Option Addr) (cap : Nat) (w : World) (hn : n ≤ 4096) (ha : At w a Value.bool (bl n f)) :
    Calls Try.prog 27 #[.slice a n cap, .bool on] w (RunsOut w (M.rr f on n)) := by
  go_enter Try.func27, Try.ntmps27
  go_wp2
  go_loopw [5, 6] (fun v i wr => ∃ (k : Nat) (l : List (Nat × Nat)), k ≤ n ∧ i = .int .i64 k ∧ wr.ownsRow w.heap.size 41 2 v l.length (RC l) ∧ Below w.heap.size w wr ∧ l.length ≤ k ∧ Hid (l = M.rr f on k)) (fun _ i _ => n - (intOf i).toNat)
  case atStart => exact ⟨0, [], by omega, rfl, World.ownsRow_nil _ _ _ _, Below.refl _ _, by simp, rfl⟩
  case round =>
    obtain ⟨k, l, hk, rfl, hown, hbel, hll, HL⟩ := hrel
    by_cases hlt : k < n
    · obtain ⟨b, off, rfl, hc⟩ := (ha.keep hbel) k (by rw [bl_len]; exact hlt)
      rw [bl_get] at hc
      have HRR : Hid (M.rr f on (k + 1) = if f k = on then M.rstep l k else l) := by show _ = _; rw [M.rr, ← HL.out]
      have HBD : Hid (∀ p ∈ l, p.1 + p.2 ≤ k) := fun p hp => M.rr_bd f on k p (by rw [← HL.out]; exact hp)
      have hlen2 : l.length ≤ 4096 := by omega
      have hz := hbel.size
      clear HL ha
      generalize f k = vk at *
      by_cases hon : vk = on
      · rw [if_pos hon] at HRR
        have hne : (vk == on) = true := by simp [hon]
        clear hon
        cases hg : l.getLast? with
        | none =>
          have hl0 : l = [] := List.getLast?_eq_none_iff.1 hg
          subst hl0
          have HR2 : Hid (M.rr f on (k + 1) = [] ++ [(k, 1)]) := HRR
          clear HRR hg HBD
          obtain ⟨a2, cp, rfl, _, _⟩ := owns_atR hown
          have HO2 : Hid (∀ m, (wr.drewN m).ownsRow w.heap.size 41 2 (.slice a2 ([] : List (Nat × Nat)).length cp) ([] : List (Nat × Nat)).length (RC [])) := fun m => hown
          clear hown
          simp only [List.length_nil] at HO2 ⊢
          go_wp2
          go_quiet (fail)
          go_wp2_with (at_builtin; refine wpList_append_own _ rfl _ _ 52 rfl w.heap.size 41 Try.t41 _ 2 16 Try.underlying52 hi41 hz41 hs41 hb41 rfl (by decide) _ _ _ rfl ((HO2.out nq).alloc _) ⟨(wr.drewN nq).heap.size, 0, none⟩ 1 1 [.int .i64 k, .int .i64 1] rfl rfl (cell_two_new _ _ _ _) (by simp; exact ⟨rfl, rfl⟩) (by unfold maxLen; omega) (by omega) (by simp; omega) ?_; intro v' w3 hown3 hgrow hnil)
          have hb3 := below_append (below_drewN hbel nq) (Nat.le_refl _) (HO2.out nq) hgrow
          go_roundw
          case rel => exact ⟨k + 1, [(k, 1)], by omega, by go_num, hown3, hb3, by simp, HR2.out.symm⟩
          case measure => simp [intOf]; omega
        | some p =>
          obtain ⟨d, rfl⟩ := List.getLast?_eq_some_iff.1 hg
          obtain ⟨p1, p2⟩ := p
          have hbd := HBD.out (p1, p2) (by simp)
          simp only at hbd
          obtain ⟨g, cp, rfl, hbg, c1, c2, fr, hset⟩ := owns_last hown
          have hdl : (d ++ [(p1, p2)]).length = d.length + 1 := by simp
          have HST : Hid (M.rstep (d ++ [(p1, p2)]) k = if p1 + p2 = k then d ++ [(p1, p2 + 1)] else d ++ [(p1, p2)] ++ [(k, 1)]) := by
            show _ = _
            unfold M.rstep
            rw [List.getLast?_concat]
            simp only [List.dropLast_concat]
          have HO : Hid (wr.ownsRow w.heap.size 41 2 (.slice (some ⟨g, 0, none⟩) (d.length + 1) cp) (d ++ [(p1, p2)]).length (RC (d ++ [(p1, p2)]))) := hown
          have HSET : Hid (∀ q : Nat, (wr.setCell ⟨g, d.length * 2 + 1, none⟩ (.int .i64 q)).ownsRow w.heap.size 41 2 (.slice (some ⟨g, 0, none⟩) (d.length + 1) cp) (d ++ [(p1, q)]).length (RC (d ++ [(p1, q)]))) := hset
          have HDL : Hid (d.length + 1 ≤ k) := by show _ ≤ _; omega
          simp only at c1 c2
          clear hown hset hg HBD hdl hll hlen2
          generalize hj : d.length = j at *
          have hjk : j < 4096 := by have := HDL.out; omega
          by_cases hsum : p1 + p2 = k
          · have hs' : ((p1 : Int) + (p2 : Int) == (k : Int)) = true := by simp; omega
            have HR2 : Hid (M.rr f on (k + 1) = d ++ [(p1, p2 + 1)]) := by show _ = _; rw [HRR.out, HST.out, if_pos hsum]
            clear HRR HST hsum
            have HOS := HSET.out (p2 + 1)
            have HOQ : Hid (∀ m, ((wr.drewN m).setCell ⟨g, j * 2 + 1, none⟩ (.int .i64 ((p2 + 1 : Nat) : Int))).ownsRow w.heap.size 41 2 (.slice (some ⟨g, 0, none⟩) (j + 1) cp) (d ++ [(p1, p2 + 1)]).length (RC (d ++ [(p1, p2 + 1)]))) := fun m => HOS
            have HBQ : Hid (∀ m, Below w.heap.size w ((wr.drewN m).setCell ⟨g, j * 2 + 1, none⟩ (.int .i64 ((p2 + 1 : Nat) : Int)))) := fun m => (below_drewN hbel m).setCell hbg _
            clear HOS HSET HO
            go_wp2
            go_quiet (fail)
            go_wp2
            go_roundw
            case rel => exact ⟨k + 1, _, by omega, by go_num, HOQ.out _, HBQ.out _, by simp; have := HDL.out; omega, HR2.out.symm⟩
            case measure => simp [intOf]; omega
          · have hs' : ((p1 : Int) + (p2 : Int) == (k : Int)) = false := by simp; omega
            have HR2 : Hid (M.rr f on (k + 1) = d ++ [(p1, p2)] ++ [(k, 1)]) := by show _ = _; rw [HRR.out, HST.out, if_neg hsum]
            clear HRR HST hsum
            have HO2 : Hid (∀ m, (wr.drewN m).ownsRow w.heap.size 41 2 (.slice (some ⟨g, 0, none⟩) (j + 1) cp) (d ++ [(p1, p2)]).length (RC (d ++ [(p1, p2)]))) := fun m => HO.out
            clear HSET
            go_wp2
            go_quiet (fail)
            go_wp2_with (at_builtin; refine wpList_append_own _ rfl _ _ 52 rfl w.heap.size 41 Try.t41 _ 2 16 Try.underlying52 hi41 hz41 hs41 hb41 rfl (by decide) _ _ _ rfl ((HO2.out nq).alloc _) ⟨(wr.drewN nq).heap.size, 0, none⟩ 1 1 [.int .i64 k, .int .i64 1] rfl rfl (cell_two_new _ _ _ _) (by simp; exact ⟨rfl, rfl⟩) (by unfold maxLen; simp; omega) (by simp; omega) (by simp; omega) ?_; intro v' w3 hown3 hgrow hnil)
            have hb3 := below_append (below_drewN hbel nq) (Nat.le_refl _) (HO2.out nq) hgrow
            go_roundw
            case rel => exact ⟨k + 1, _, by omega, by go_num, by rw [List.length_append, RC_app]; exact hown3, hb3, by simp; have := HDL.out; omega, HR2.out.symm⟩
            case measure => simp [intOf]; omega
      · rw [if_neg hon] at HRR
        have hne : (vk == on) = false := by simp [hon]
        clear hon
        go_wp2
        go_roundw
        case rel => exact ⟨k + 1, l, by omega, by go_num, hown, hbel, by omega, HRR.out.symm⟩
        case measure => simp [intOf]; omega
    · have hkn : k = n := by omega
      subst hkn
      go_wp2
      go_ret
      rw [← HL.out]
      exact ⟨_, rfl, hown, hbel⟩
end Go.Proofs.Ytigoadfbccpmkaa
