/-
  A promise of an acceptor.
-/
import Derived.Test.YtfjlanhekheecaaAP
namespace Go.Proofs.Ytfjlanhekheecaa.Na
open Go.RowKit
set_option linter.unusedVariables false
open Go.Proofs.Ytfjlanhekheecaa.M (E V)

/-- Two cells of a block set. -/
def put2 (w : World) (g : Nat) (a b : Value) : World := (w.setCell ⟨g, 0, none⟩ a).setCell ⟨g, 1, none⟩ b
theorem fr_set {w w1 : World} {F G : Nat → Prop} {b : Nat} (h : Fr w F w1 G) (hb : F b) (o : Nat) (x : Value) : Fr w F (w1.setCell ⟨b, o, none⟩ x) G :=
  ⟨h.os, h.tape, h.output, by simpa using h.size, fun k hk hF => by rw [heap_setCell_other w1 ⟨b, o, none⟩ k _ (fun e => hF (by subst e; exact hb))]; exact h.block k hk hF, h.n⟩
theorem AI.setP {w : World} {base b : Nat} {v : Value} {a : M.S} (h : AI w base b v a) (x : E) : AI (put2 w b (.int .i64 x.i) (.int .i64 x.t)) base b v ⟨x, a.base, a.l⟩ := by
  refine ⟨?_, ?_, h.ap, h.lo⟩
  · exact heap_setCell_same _ b 1 _ _ _ (heap_setCell_same w b 0 _ _ _ h.row)
  · refine h.own.keepBut fun k hk e => ?_
    have hne : k ≠ b := fun e' => h.ap (by rw [← e']; exact e)
    unfold put2
    rw [heap_setCell_other _ ⟨b, 1, none⟩ k _ hne, heap_setCell_other _ ⟨b, 0, none⟩ k _ hne]
/-- What a promise tells. -/
def PrOut (w : World) (base b : Nat) (v : Value) (a : M.S) (x : E) (k : Int) (e : Ending) (w' : World) : Prop :=
  ∃ u, e = .returned (.tuple #[u, .bool (M.prb a x k)]) ∧ OwnL vl 42 w' w.heap.size u (M.prl a x k) ∧ AI w' base b v (M.prs a x k) ∧ Fr w (fpa b v) w' (fpa b v)
set_option maxRecDepth 100000 in
set_option maxHeartbeats 1000000 in
theorem promise_any {w : World} {base b : Nat} {v : Value} {a : M.S} (h : AI w base b v a) (ok : M.Ok a) (x : E) (k : Int) : Calls Try.prog 30 #[.pointer (some ⟨b, 0, none⟩), bV x, .int .i64 k] w (PrOut w base b v a x k) := by
  obtain ⟨W1, HW1⟩ : ∃ W1, Hid (w.alloc (.cells #[.int .i64 x.i, .int .i64 x.t] 30) = W1) := ⟨_, rfl⟩
  have hb1 : Below w.heap.size w W1 := by rw [← HW1.out]; exact bel1 w _
  have hr1 : W1.heap[w.heap.size]? = some (.cells #[.int .i64 x.i, .int .i64 x.t] 30 (0, 0)) := by rw [← HW1.out]; exact heap_alloc_last w _
  have h1 := h.keep hb1
  have hm := may_any h1 x
  obtain ⟨⟨z0, z1⟩, _⟩ := row2 hr1
  have HR1 := Hid_of hr1
  have HH1 := Hid_of h1
  have HB1 := Hid_of hb1
  have HP : Hid (M.prb a x k = (M.may a x && decide (a.base ≤ k))) := rfl
  have HNO : Hid (M.prb a x k = false → ∀ w', Below w.heap.size w w' → PrOut w base b v a x k (.returned (.tuple #[.slice none 0 0, .bool false])) w') := by
    intro hp w' hb
    refine ⟨.slice none 0 0, by rw [hp], ?_, ?_, Fr.ofBelow hb⟩
    · have e : M.prl a x k = [] := by unfold M.prl; rw [hp]; rfl
      rw [e]; exact OwnL.nil _ _ _
    · rw [M.prs_no hp]; exact h.keep hb
  have HYES : Hid (M.prb a x k = true → ∀ w2 w3 u, Below w.heap.size w w2 → OwnL vl 42 w3 (put2 w2 b (.int .i64 x.i) (.int .i64 x.t)).heap.size u (M.vts a.l k) → Below (put2 w2 b (.int .i64 x.i) (.int .i64 x.t)).heap.size (put2 w2 b (.int .i64 x.i) (.int .i64 x.t)) w3 → PrOut w base b v a x k (.returned (.tuple #[u, .bool true])) w3) := by
    intro hp w2 w3 u hb ho hb3
    refine ⟨u, by rw [hp], ?_, ?_, ?_⟩
    · have e : M.prl a x k = M.vts a.l k := by unfold M.prl; rw [hp]; rfl
      rw [e]; exact ho.low (by have := hb.size; simp [put2]; omega)
    · rw [M.prs_yes hp]; exact ((h.keep hb).setP x).keep hb3
    · exact (fr_set (fr_set (Fr.ofBelow hb) (.inl rfl) 0 _) (.inl rfl) 1 _).up hb3
  clear h h1 hb1 hr1
  cases hmx : M.may a x with
  | false =>
    rw [hmx] at hm
    have HQ := Hid_of (HNO.out (by rw [HP.out, hmx]; rfl))
    clear HNO HYES HP hmx
    go_enter Try.func30, Try.ntmps30
    go_upto_region 1 with fail
    rw [HW1.out]
    go_wp2_with fail
    refine hm.mono ?_
    rintro e w2 ⟨rfl, hb2⟩
    have HB2 := Hid_of (bel_up HB1.out hb2 (Nat.le_refl _))
    clear hb2 hm
    go_wp2
    go_ret2
    exact HQ.out _ HB2.out
  | true =>
    rw [hmx] at hm
    by_cases hk : a.base ≤ k
    · have hp : M.prb a x k = true := by rw [HP.out, hmx, decide_eq_true hk]; rfl
      have HQ := Hid_of (HYES.out hp)
      have HOK : Hid (M.Ok ⟨x, a.base, a.l⟩) := by have := M.prs_ok ok x k; rw [M.prs_yes hp] at this; exact this
      have d0 : decide (k < a.base) = false := decide_eq_false (by omega)
      clear HNO HYES HP hmx hp ok hk
      go_enter Try.func30, Try.ntmps30
      go_upto_region 1 with fail
      rw [HW1.out]
      go_wp2_with fail
      refine hm.mono ?_
      rintro e w2 ⟨rfl, hb2⟩
      have HB2 := Hid_of (bel_up HB1.out hb2 (Nat.le_refl _))
      have h2 := HH1.out.keep hb2
      obtain ⟨⟨y0, y1⟩, _⟩ := row2 (bel_row HR1.out hb2)
      obtain ⟨⟨c0, c1, c2, c3⟩, cf⟩ := row4 h2.row
      have f0 := cf 0
      have f1 := cf 1
      have hv := votes_any (h2.setP x) HOK.out k
      clear hb2 hm h2 cf z0 z1 HR1 HH1 HB1
      obtain ⟨W3, HW3⟩ : ∃ W3, Hid (put2 w2 b (.int .i64 x.i) (.int .i64 x.t) = W3) := ⟨_, rfl⟩
      have HW3' : Hid ((w2.setCell ⟨b, 0, none⟩ (.int .i64 x.i)).setCell ⟨b, 1, none⟩ (.int .i64 x.t) = W3) := HW3.out
      have HQ' := Hid_of (HQ.out w2)
      rw [HW3.out] at hv HQ'
      clear HQ HW3
      go_wp2_with fail
      rw [HW3'.out]
      refine hv.mono ?_
      rintro e w4 ⟨u, rfl, ho, hb4⟩
      have HF := Hid_of (HQ'.out w4 u HB2.out ho hb4)
      clear hv ho hb4
      go_wp2
      go_ret2
      exact HF.out
    · have HQ := Hid_of (HNO.out (by rw [HP.out, hmx, decide_eq_false hk]; rfl))
      have d0 : decide (k < a.base) = true := decide_eq_true (by omega)
      clear HNO HYES HP hmx ok hk
      go_enter Try.func30, Try.ntmps30
      go_upto_region 1 with fail
      rw [HW1.out]
      go_wp2_with fail
      refine hm.mono ?_
      rintro e w2 ⟨rfl, hb2⟩
      have HB2 := Hid_of (bel_up HB1.out hb2 (Nat.le_refl _))
      obtain ⟨⟨c0, c1, c2, c3⟩, _⟩ := row4 (HH1.out.keep hb2).row
      clear hb2 hm
      go_wp2
      go_ret2
      exact HQ.out _ HB2.out
end Go.Proofs.Ytfjlanhekheecaa.Na
