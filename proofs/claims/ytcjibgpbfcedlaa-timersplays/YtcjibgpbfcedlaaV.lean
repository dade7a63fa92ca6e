/-
  The document's Set.
-/
import Derived.Test.YtcjibgpbfcedlaaU
import Derived.Test.YtcjibgpbfcedlaaI
import Derived.Laws.AppendOwnNone
namespace Go.Proofs.Ytcjibgpbfcedlaa
open Go.RowKit
set_option linter.unusedVariables false
open M (E)

/-- What a call leaves of a row: the row itself, or a new one. -/
def ERes (w w' : World) (a : Option Addr) (cap : Nat) (v' : Value) (l l' : List E) : Prop := (v' = .slice a l.length cap ∧ l' = l) ∨ Own w' w.heap.size v' l'
def RtOut (w : World) (a : Option Addr) (cap : Nat) (l l' : List E) (r : Int) (e : Ending) (w' : World) : Prop := ∃ v', e = .returned (.tuple #[v', .int .i64 r]) ∧ ERes w w' a cap v' l l' ∧ Below w.heap.size w w'
set_option maxHeartbeats 1000000 in
theorem rset_bad (a : Option Addr) (cap : Nat) (l : List E) (k t : Int) (w : World) (hbad : M.bad k t = true) :
    Calls Try.prog 9 #[.slice a l.length cap, .int .i64 k, .int .i64 t] w (RtOut w a cap l l 1) := by
  have HK : Hid (RtOut w a cap l l 1 (.returned (.tuple #[.slice a l.length cap, .int .i64 1])) w) := ⟨_, rfl, .inl ⟨rfl, rfl⟩, Below.refl _ _⟩
  unfold M.bad at hbad
  by_cases h1 : k < 0
  · clear hbad
    go_enter Try.func9, Try.ntmps9
    go_wp2
    go_ret2
    exact HK.out
  · by_cases h2 : t < 0
    · clear hbad
      go_enter Try.func9, Try.ntmps9
      go_wp2
      go_ret2
      exact HK.out
    · have h3 : 1099511627776 < t := by simpa [h1, h2] using hbad
      clear hbad
      go_enter Try.func9, Try.ntmps9
      go_wp2
      go_ret2
      exact HK.out
/-- What the three appends leave. -/
theorem three {wr w6 w7 : World} {g cap q : Nat} {cur : List Value} {R : List E} {x : E} {v1 v2 : Value} (hr : Row wr g cap cur R) (hq : q ≤ R.length)
    (o6 : w6.ownsRow wr.heap.size 42 2 v1 (0 + q) ([] ++ EC (R.take q))) (g6 : wr.grownBy w6 none)
    (o7 : w7.ownsRow wr.heap.size 42 2 v2 (0 + q + 1) ([] ++ EC (R.take q) ++ [.int .i64 x.i, .int .i64 x.t])) (g7 : (w6.alloc (.cells #[.int .i64 x.i, .int .i64 x.t] 42)).grownBy w7 v1.ownBlock) :
    wr.heap.size ≤ w7.heap.size ∧ (∀ j u, (EC (R.drop q))[j]? = some u → w7.cell? ((⟨g, q * 2, none⟩ : Addr).add j) = some u) ∧ Below wr.heap.size wr w7 := by
  have hs6 := g6.size
  have hs7 := g7.size
  simp at hs7
  have hb : Below wr.heap.size wr w7 := ⟨by rw [g7.os]; exact g6.os, by rw [g7.tape]; exact g6.tape, by rw [g7.output]; exact g6.output, by omega, fun k hk => by
    rw [g7.block k (by simp; omega) (fun e => by have := (World.ownsRow.lt o6 k e.symm).1; omega)]
    rw [Below.heap_alloc w6 _ _ (by omega)]
    exact g6.block k hk (by simp)⟩
  have hgl : g < wr.heap.size := (Array.getElem?_eq_some_iff.1 hr.h).1
  exact ⟨by omega, (hr.of (hb.block g hgl)).at q, hb⟩
theorem cmp_cases (e : E) (k t : Int) : (M.cmpE e ⟨k, t⟩ < 0 ∧ decide (e.t < t) = true) ∨ (M.cmpE e ⟨k, t⟩ < 0 ∧ decide (e.t < t) = false ∧ (e.t == t) = true ∧ decide (e.i < k) = true) ∨ (¬ M.cmpE e ⟨k, t⟩ < 0 ∧ decide (e.t < t) = false ∧ (e.t == t) = true ∧ decide (e.i < k) = false) ∨ (¬ M.cmpE e ⟨k, t⟩ < 0 ∧ decide (e.t < t) = false ∧ (e.t == t) = false) := by
  simp only [M.cmpE_neg]
  unfold M.lt
  dsimp only
  by_cases h1 : e.t < t
  · exact .inl ⟨.inl h1, by simpa using h1⟩
  · by_cases h2 : e.t = t
    · by_cases h3 : e.i < k
      · exact .inr (.inl ⟨.inr ⟨h2, h3⟩, by simpa using h1, by simpa using h2, by simpa using h3⟩)
      · exact .inr (.inr (.inl ⟨by omega, by simpa using h1, by simpa using h2, by simpa using h3⟩))
    · exact .inr (.inr (.inr ⟨by omega, by simpa using h1, by simpa using h2⟩))
set_option maxRecDepth 100000 in
set_option maxHeartbeats 8000000 in
theorem rset_good (a : Option Addr) (cap : Nat) (l : List E) (k t : Int) (w : World) (hl : l.length ≤ 64) (ha : AtE w a l) (hbad : M.bad k t = false) :
    Calls Try.prog 9 #[.slice a l.length cap, .int .i64 k, .int .i64 t] w (RtOut w a cap l (M.setL l k t) (M.setE l k t)) := by
  obtain ⟨hk0, ht0, ht1⟩ := M.bad_no hbad
  have h1 : ¬ k < 0 := by omega
  have h2 : ¬ t < 0 := by omega
  have h3 : ¬ 1099511627776 < t := by omega
  have hst := rstop_any a cap l k w (by omega) ha
  have hle := M.stop_le l k
  have HB := Hid_of hbad
  generalize hR : M.stop l k = R at *
  have HRS := Hid_of hR
  clear hk0 ht0 ht1 ha hbad hR
  go_enter Try.func9, Try.ntmps9
  go_wp2_with fail
  refine hst.mono ?_
  rintro e w2 ⟨v2, rfl, o2, b2⟩
  rw [HRS.out] at o2
  generalize decide ((M.stop l k).length < l.length) = bst
  obtain ⟨ar, cr, rfl, hat, _⟩ := o2.at
  by_cases hfull : 64 ≤ R.length
  · have hd : decide ((64 : Int) ≤ (R.length : Int)) = true := by simp; omega
    have HK : Hid (RtOut w a cap l (M.setL l k t) (M.setE l k t) (.returned (.tuple #[.slice a l.length cap, .int .i64 5])) w2) := by
      have h := M.set_full HB.out (by rw [HRS.out]; exact hfull)
      rw [h.1, h.2]
      exact ⟨_, rfl, .inl ⟨rfl, rfl⟩, b2⟩
    clear o2 hat b2 hst HB HRS hfull
    go_wp2
    go_ret2
    exact HK.out
  · have hd : decide ((64 : Int) ≤ (R.length : Int)) = false := by simp; omega
    have hfull : R.length < 64 := by omega
    have HA := Hid_of hat
    clear hst hat
    go_wp2
    go_loopw [10] (fun i wr => ∃ q : Nat, q ≤ R.length ∧ i = .int .i64 q ∧ Below w2.heap.size w2 wr ∧ Hid (∀ j (h : j < R.length), j < q → M.cmpE R[j] ⟨k, t⟩ < 0)) (fun i _ => R.length - (intOf i).toNat)
    case atStart => exact ⟨0, by omega, rfl, Below.refl _ _, fun j h hj => by omega⟩
    case round =>
      obtain ⟨q, hq, rfl, hbel, HI⟩ := hrel
      have hstop : (q < R.length ∧ M.cmpE (R[q]?.getD ⟨0, 0⟩) ⟨k, t⟩ < 0) ∨ (∀ h : q < R.length, ¬ M.cmpE R[q] ⟨k, t⟩ < 0) := by
        by_cases h : q < R.length
        · by_cases h' : M.cmpE R[q] ⟨k, t⟩ < 0
          · exact .inl ⟨h, by simpa [h] using h'⟩
          · exact .inr (fun _ => h')
        · exact .inr (fun h' => absurd h' h)
      rcases hstop with ⟨hlt, hc⟩ | hc
      · obtain ⟨bb, off, rfl, c0, c1⟩ := (HA.out.keep hbel) q hlt
        have hc' : M.cmpE R[q] ⟨k, t⟩ < 0 := by simpa [hlt] using hc
        have HN : Hid (∀ j (h : j < R.length), j < q + 1 → M.cmpE R[j] ⟨k, t⟩ < 0) := fun j hj hjq => by
          rcases Nat.lt_or_ge j q with h' | h'
          · exact HI.out j hj h'
          · obtain rfl : j = q := by omega
            exact hc'
        have HBB := Hid_of hbel
        have hcc := cmp_cases R[q] k t
        clear HI hc HA o2 hbel
        generalize R[q].i = ei at *
        generalize R[q].t = et at *
        rcases hcc with ⟨_, e1⟩ | ⟨_, e1, e2, e3⟩ | ⟨h, _⟩ | ⟨h, _⟩
        · clear hc'
          go_wp2
          go_roundw
          case rel => exact ⟨q + 1, by omega, by go_num, HBB.out, HN⟩
          case measure => simp [intOf]; omega
        · clear hc'
          go_wp2
          go_roundw
          case rel => exact ⟨q + 1, by omega, by go_num, HBB.out, HN⟩
          case measure => simp [intOf]; omega
        · exact absurd hc' h
        · exact absurd hc' h
      · have HINS : Hid (M.ins R ⟨k, t⟩ = R.take q ++ [⟨k, t⟩] ++ R.drop q) := M.ins_at hq HI.out hc
        rcases (o2.keep hbel).row with ⟨hv, h0⟩ | ⟨g, cap', cur, hv, hbg, hr⟩
        · subst h0
          obtain ⟨rfl, hcr⟩ : ar = none ∧ cr = 0 := by simpa using hv
          subst hcr
          obtain rfl : q = 0 := by simpa using hq
          have HO0 : Hid (wr.ownsRow wr.heap.size 42 2 (.slice none 0 0) 0 []) := World.ownsRow_nil _ _ _ _
          have HFIN : Hid (∀ v2 w7, w7.ownsRow wr.heap.size 42 2 v2 (0 + 1) ([] ++ [.int .i64 k, .int .i64 t]) → (wr.alloc (.cells #[.int .i64 k, .int .i64 t] 42)).grownBy w7 none → RtOut w a cap l (M.setL l k t) (M.setE l k t) (.returned (.tuple #[v2, .int .i64 0])) w7) := by
            intro v2 w7 o7 g7
            rw [(M.set_ok HB.out (by rw [HRS.out]; exact hfull)).1, (M.set_ok HB.out (by rw [HRS.out]; exact hfull)).2, HRS.out, HINS.out]
            have hs7 := g7.size
            simp at hs7
            have hB7 : Below wr.heap.size wr w7 := ⟨g7.os, g7.tape, g7.output, by omega, fun j hj => by rw [g7.block j (by simp; omega) (by simp)]; exact Below.heap_alloc wr _ _ hj⟩
            refine ⟨v2, rfl, .inr (Own.low ?_ (Nat.le_trans b2.size hbel.size)), bel_up (bel_up b2 hbel (Nat.le_refl _)) hB7 (Nat.le_refl _)⟩
            exact o7
          clear o2 HI HINS hbel b2 HB HRS hfull hc HA hv hq
          simp only [List.length_nil] at *
          go_wp2_with (first
            | (at_builtin; refine wpList_append_own_none rfl (.const (.slice none 0 0)) (.tmp 68) 26 rfl wr.heap.size 42 Try.t42 2 Try.underlying26 hi42 _ _ _ rfl HO0.out rfl ?_)
            | (at_builtin; refine wpList_append_own _ rfl (.tmp 69) (.tmp 73) 26 rfl wr.heap.size 42 Try.t42 _ 2 16 Try.underlying26 hi42 hz42 hs42 hb42 rfl (by decide) _ _ _ rfl (HO0.out.alloc _) ⟨wr.heap.size, 0, none⟩ 1 1 [.int .i64 k, .int .i64 t] rfl rfl (cell_two _ _ _ _ _ (heap_alloc_last _ _)) (by simp; exact ⟨rfl, rfl⟩) (by decide) (by decide) (by simp) ?_; intro v2 w7 o7 g7 _; have HQ := Hid_of (HFIN.out v2 w7 o7 g7); have HO7 := Hid_of o7; clear o7 g7)
            | (at_builtin; refine wpList_append_own_none rfl (.tmp 75) (.tmp 78) 26 rfl wr.heap.size 42 Try.t42 2 Try.underlying26 hi42 _ _ _ rfl HO7.out rfl ?_))
          go_ret2
          exact HQ.out
        · obtain ⟨rfl, hcr⟩ : ar = some ⟨g, 0, none⟩ ∧ cr = cap' := by simpa using hv
          subst hcr
          have HR := Hid_of hr
          have hqc : q ≤ cr := by have := hr.le; omega
          have hqc2 : (q : Int) ≤ (cr : Int) := by omega
          have hqn : q ≤ R.length := hq
          have hqn2 : (q : Int) ≤ (R.length : Int) := by omega
          have hcm : cr ≤ 9223372036854775807 := by have := hr.mx; unfold maxLen at this; omega
          have HN1 : Hid (∀ j u, (EC (R.take q))[j]? = some u → wr.cell? ((⟨g, 0, none⟩ : Addr).add j) = some u) := by
            intro j u hj
            rw [← EC_take, List.getElem?_take] at hj
            split at hj
            · exact hr.at0 j u hj
            · cases hj
          have HE1 : Hid ((EC (R.take q)).length = q * 2) := EC_tl R q hq
          have HE3 : Hid ((EC (R.drop q)).length = (R.length - q) * 2) := Hid_of (by rw [EC_len, List.length_drop])
          have H11 : Hid (∀ u ∈ EC (R.take q), u.oneCell' = true) := EC_one _
          have H13 : Hid (∀ u ∈ EC (R.drop q), u.oneCell' = true) := EC_one _
          have HO0 : Hid (wr.ownsRow wr.heap.size 42 2 (.slice none 0 0) 0 []) := World.ownsRow_nil _ _ _ _
          have H3 : Hid (∀ v1 w6 v2 w7, w6.ownsRow wr.heap.size 42 2 v1 (0 + q) ([] ++ EC (R.take q)) → wr.grownBy w6 none → w7.ownsRow wr.heap.size 42 2 v2 (0 + q + 1) ([] ++ EC (R.take q) ++ [.int .i64 k, .int .i64 t]) → (w6.alloc (.cells #[.int .i64 k, .int .i64 t] 42)).grownBy w7 v1.ownBlock → wr.heap.size ≤ w7.heap.size ∧ (∀ j u, (EC (R.drop q))[j]? = some u → w7.cell? ((⟨g, q * 2, none⟩ : Addr).add j) = some u) ∧ Below wr.heap.size wr w7) := fun v1 w6 v2 w7 a1 a2 a3 a4 => three (x := ⟨k, t⟩) hr hq a1 a2 a3 a4
          have HFIN : Hid (∀ v2 w7 v3 w8, Below wr.heap.size wr w7 → w7.ownsRow wr.heap.size 42 2 v2 (0 + q + 1) ([] ++ EC (R.take q) ++ [.int .i64 k, .int .i64 t]) → w8.ownsRow wr.heap.size 42 2 v3 (0 + q + 1 + (R.length - q)) ([] ++ EC (R.take q) ++ [.int .i64 k, .int .i64 t] ++ EC (R.drop q)) → w7.grownBy w8 v2.ownBlock → RtOut w a cap l (M.setL l k t) (M.setE l k t) (.returned (.tuple #[v3, .int .i64 0])) w8) := by
            intro v2 w7 v3 w8 hb7 o7 o8 g8
            rw [(M.set_ok HB.out (by rw [HRS.out]; exact hfull)).1, (M.set_ok HB.out (by rw [HRS.out]; exact hfull)).2, HRS.out, HINS.out]
            have hB8 : Below wr.heap.size wr w8 := ⟨by rw [g8.os]; exact hb7.os, by rw [g8.tape]; exact hb7.tape, by rw [g8.output]; exact hb7.output, Nat.le_trans hb7.size g8.size, fun j hj => by rw [g8.block j (Nat.lt_of_lt_of_le hj hb7.size) (fun e => by have := (World.ownsRow.lt o7 j e.symm).1; omega)]; exact hb7.block j hj⟩
            refine ⟨v3, rfl, .inr (Own.low ?_ (Nat.le_trans b2.size hbel.size)), bel_up (bel_up b2 hbel (Nat.le_refl _)) hB8 (Nat.le_refl _)⟩
            unfold Own
            rw [EC_app, EC_app, show (R.take q ++ [(⟨k, t⟩ : E)] ++ R.drop q).length = 0 + q + 1 + (R.length - q) by simp; omega]
            exact o8
          have hcond : (q < R.length ∧ ∃ ei et : Int, wr.cell? ⟨g, q * 2, none⟩ = some (.int .i64 ei) ∧ wr.cell? ⟨g, q * 2 + 1, none⟩ = some (.int .i64 et) ∧ decide (et < t) = false ∧ ((et == t) = false ∨ ((et == t) = true ∧ decide (ei < k) = false))) ∨ q = R.length := by
            by_cases h : q < R.length
            · left
              obtain ⟨bb, off, e', c0, c1⟩ := (HA.out.keep hbel) q h
              cases e'
              rw [Nat.zero_add] at c0 c1
              refine ⟨h, R[q].i, R[q].t, c0, c1, ?_⟩
              rcases cmp_cases R[q] k t with ⟨h', _⟩ | ⟨h', _⟩ | ⟨_, e1, e2, e3⟩ | ⟨_, e1, e2⟩
              · exact absurd h' (hc h)
              · exact absurd h' (hc h)
              · exact ⟨e1, .inr ⟨e2, e3⟩⟩
              · exact ⟨e1, .inl e2⟩
            · right; omega
          clear hr HR o2 HI HINS hbel b2 HB HRS hfull hc HA hv
          generalize EC (R.take q) = e1 at *
          generalize EC (R.drop q) = e3 at *
          clear hq
          rcases hcond with ⟨hlt, ei, et, c0, c1, e1', e2'⟩ | hqe
          · have hni : (q : Int) < (R.length : Int) := by omega
            have hcq : ¬ (cr = q) := by omega
            rcases e2' with e2' | ⟨e2', e3'⟩
            all_goals
              go_wp2_with (first
                | (at_builtin; refine wpList_append_own _ rfl (.const (.slice none 0 0)) (.tmp 68) 26 rfl wr.heap.size 42 Try.t42 _ 2 16 Try.underlying26 hi42 hz42 hs42 hb42 rfl (by decide) _ _ _ rfl HO0.out ⟨g, 0, none⟩ q cr e1 rfl HE1.out HN1.out H11.out (by unfold maxLen; omega) (by omega) (Nat.le_refl _) ?_; intro v1 w6 o6 g6 _; have HO6 := Hid_of o6; have HG6 := Hid_of g6; have hs6 := g6.size; clear o6 g6)
                | (at_builtin; refine wpList_append_own _ rfl (.tmp 69) (.tmp 73) 26 rfl wr.heap.size 42 Try.t42 _ 2 16 Try.underlying26 hi42 hz42 hs42 hb42 rfl (by decide) _ _ _ rfl (HO6.out.alloc _) ⟨w6.heap.size, 0, none⟩ 1 1 [.int .i64 k, .int .i64 t] rfl rfl (cell_two _ _ _ _ _ (heap_alloc_last _ _)) (by simp; exact ⟨rfl, rfl⟩) (by unfold maxLen; omega) (by omega) (by simp; omega) ?_; intro v2 w7 o7 g7 _; have HH := Hid_of (H3.out v1 w6 v2 w7 HO6.out HG6.out o7 g7); have HO7 := Hid_of o7; clear o7 g7 HO6 HG6 H3)
                | (at_builtin; refine wpList_append_own _ rfl (.tmp 75) (.tmp 78) 26 rfl wr.heap.size 42 Try.t42 _ 2 16 Try.underlying26 hi42 hz42 hs42 hb42 rfl (by decide) _ _ _ rfl HO7.out ⟨g, q * 2, none⟩ (R.length - q) (cr - q) e3 rfl HE3.out HH.out.2.1 H13.out (by unfold maxLen; omega) (by omega) HH.out.1 ?_; intro v3 w8 o8 g8 _; have HQ := Hid_of (HFIN.out v2 w7 v3 w8 HH.out.2.2 HO7.out o8 g8); clear o8 g8 HO7 HH HFIN))
              go_ret2
              exact HQ.out
          · subst hqe
            rw [Nat.sub_self] at HE3 HFIN
            by_cases hcq : cr = R.length
            · subst hcq
              go_wp2_with (first
                | (at_builtin; refine wpList_append_own _ rfl (.const (.slice none 0 0)) (.tmp 68) 26 rfl wr.heap.size 42 Try.t42 _ 2 16 Try.underlying26 hi42 hz42 hs42 hb42 rfl (by decide) _ _ _ rfl HO0.out ⟨g, 0, none⟩ R.length R.length e1 rfl HE1.out HN1.out H11.out (by unfold maxLen; omega) (by omega) (Nat.le_refl _) ?_; intro v1 w6 o6 g6 _; have HO6 := Hid_of o6; have HG6 := Hid_of g6; have hs6 := g6.size; clear o6 g6)
                | (at_builtin; refine wpList_append_own _ rfl (.tmp 69) (.tmp 73) 26 rfl wr.heap.size 42 Try.t42 _ 2 16 Try.underlying26 hi42 hz42 hs42 hb42 rfl (by decide) _ _ _ rfl (HO6.out.alloc _) ⟨w6.heap.size, 0, none⟩ 1 1 [.int .i64 k, .int .i64 t] rfl rfl (cell_two _ _ _ _ _ (heap_alloc_last _ _)) (by simp; exact ⟨rfl, rfl⟩) (by unfold maxLen; omega) (by omega) (by simp; omega) ?_; intro v2 w7 o7 g7 _; have HH := Hid_of (H3.out v1 w6 v2 w7 HO6.out HG6.out o7 g7); have HO7 := Hid_of o7; clear o7 g7 HO6 HG6 H3)
                | (at_builtin; refine wpList_append_own _ rfl (.tmp 75) (.tmp 78) 26 rfl wr.heap.size 42 Try.t42 _ 2 16 Try.underlying26 hi42 hz42 hs42 hb42 rfl (by decide) _ _ _ rfl HO7.out ⟨g, 0, none⟩ 0 0 e3 rfl HE3.out (fun j u hj => by have := HE3.out; rw [Nat.zero_mul, List.length_eq_zero_iff] at this; rw [this] at hj; simp at hj) H13.out (by unfold maxLen; omega) (by omega) HH.out.1 ?_; intro v3 w8 o8 g8 _; have HQ := Hid_of (HFIN.out v2 w7 v3 w8 HH.out.2.2 HO7.out o8 g8); clear o8 g8 HO7 HH HFIN))
              go_ret2
              exact HQ.out
            · go_wp2_with (first
                | (at_builtin; refine wpList_append_own _ rfl (.const (.slice none 0 0)) (.tmp 68) 26 rfl wr.heap.size 42 Try.t42 _ 2 16 Try.underlying26 hi42 hz42 hs42 hb42 rfl (by decide) _ _ _ rfl HO0.out ⟨g, 0, none⟩ R.length cr e1 rfl HE1.out HN1.out H11.out (by unfold maxLen; omega) (by omega) (Nat.le_refl _) ?_; intro v1 w6 o6 g6 _; have HO6 := Hid_of o6; have HG6 := Hid_of g6; have hs6 := g6.size; clear o6 g6)
                | (at_builtin; refine wpList_append_own _ rfl (.tmp 69) (.tmp 73) 26 rfl wr.heap.size 42 Try.t42 _ 2 16 Try.underlying26 hi42 hz42 hs42 hb42 rfl (by decide) _ _ _ rfl (HO6.out.alloc _) ⟨w6.heap.size, 0, none⟩ 1 1 [.int .i64 k, .int .i64 t] rfl rfl (cell_two _ _ _ _ _ (heap_alloc_last _ _)) (by simp; exact ⟨rfl, rfl⟩) (by unfold maxLen; omega) (by omega) (by simp; omega) ?_; intro v2 w7 o7 g7 _; have HH := Hid_of (H3.out v1 w6 v2 w7 HO6.out HG6.out o7 g7); have HO7 := Hid_of o7; clear o7 g7 HO6 HG6 H3)
                | (at_builtin; refine wpList_append_own _ rfl (.tmp 75) (.tmp 78) 26 rfl wr.heap.size 42 Try.t42 _ 2 16 Try.underlying26 hi42 hz42 hs42 hb42 rfl (by decide) _ _ _ rfl HO7.out ⟨g, R.length * 2, none⟩ 0 (cr - R.length) e3 rfl HE3.out HH.out.2.1 H13.out (by unfold maxLen; omega) (by omega) HH.out.1 ?_; intro v3 w8 o8 g8 _; have HQ := Hid_of (HFIN.out v2 w7 v3 w8 HH.out.2.2 HO7.out o8 g8); clear o8 g8 HO7 HH HFIN))
              go_ret2
              exact HQ.out
theorem rset_any (a : Option Addr) (cap : Nat) (l : List E) (k t : Int) (w : World) (hl : l.length ≤ 64) (ha : AtE w a l) :
    Calls Try.prog 9 #[.slice a l.length cap, .int .i64 k, .int .i64 t] w (RtOut w a cap l (M.setL l k t) (M.setE l k t)) := by
  cases hbad : M.bad k t
  · exact rset_good a cap l k t w hl ha hbad
  · rw [(M.set_bad hbad).1, (M.set_bad hbad).2]
    exact rset_bad a cap l k t w hbad
end Go.Proofs.Ytcjibgpbfcedlaa
