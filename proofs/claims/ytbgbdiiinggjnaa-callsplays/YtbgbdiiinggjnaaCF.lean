/-
  A message is held against the open calls.
-/
import Derived.Test.YtbgbdiiinggjnaaCB
import Derived.Test.YtbgbdiiinggjnaaCC
namespace Go.Proofs.Ytbgbdiiinggjnaa
open Go.RowKit
set_option linter.unusedVariables false
open M (E)
open Cl (K W Ms fup)

theorem equal71 (a b c x y z : Int) (w : World) : (Op.equalIn 10000 71 (.agg #[.int .i64 a, .int .i64 b, .int .i64 c]) (.agg #[.int .i64 x, .int .i64 y, .int .i64 z])).run Try.prog w = .ok ((a == x) && ((b == y) && (c == z))) w := by
  have u3 := Try.underlying3
  have a3 := Try.isAgg3
  have z3 := Try.sizeOf3
  have hS : Try.prog.underlying 71 = some (.struct (Try.prog.fieldsOf 71)) := by kernel_rfl
  have hp : Try.prog.stoodInHeld 71 = false := by kernel_rfl
  rw [show (10000 : Nat) = 9999 + 1 from rfl, run_equalIn_agg w 9999 71 _ _ hS hp]
  simp only [Program.fieldsOf, Try.underlying71]
  cases h1 : a == x with
  | false => go_simp
  | true =>
  cases h2 : b == y with
  | false => go_simp
  | true =>
    go_simp
    by_cases h : c = z
    · simp [h]
    · simp [h]
theorem ne71 (a b c x y z : Int) (w : World) : (binOp .neq 71 (.agg #[.int .i64 a, .int .i64 b, .int .i64 c]) (.agg #[.int .i64 x, .int .i64 y, .int .i64 z])).run Try.prog w = .ok (.bool (!((a == x) && ((b == y) && (c == z))))) w := by
  rw [run_neq_struct, equal71]
  rfl
theorem answer_nil (m : Ms) (w : World) : Calls Try.prog 17 #[.pointer none, .agg #[.int .i64 m.k, .int .i64 m.f, .int .i64 m.t, .int .i64 m.i, .string m.b]] w fun e w' => e = .returned (.bool false) ∧ Below w.heap.size w w' := by
  have HB := Hid_of (bel1 w (.cells #[.int .i64 m.k, .int .i64 m.f, .int .i64 m.t, .int .i64 m.i, .string m.b] 32))
  go_enter Try.func17, Try.ntmps17
  go_wp2
  go_ret
  exact ⟨rfl, HB.out⟩
theorem answer_kind (b : Nat) (m : Ms) (hk : m.k ≠ 2) (w : World) : Calls Try.prog 17 #[.pointer (some ⟨b, 0, none⟩), .agg #[.int .i64 m.k, .int .i64 m.f, .int .i64 m.t, .int .i64 m.i, .string m.b]] w fun e w' => e = .returned (.bool false) ∧ Below w.heap.size w w' := by
  have HB := Hid_of (bel1 w (.cells #[.int .i64 m.k, .int .i64 m.f, .int .i64 m.t, .int .i64 m.i, .string m.b] 32))
  have d1 : (m.k != 2) = true := by simpa using hk
  have d2 : (m.k == 2) = false := by simpa using hk
  go_enter Try.func17, Try.ntmps17
  go_wp2
  go_ret
  exact ⟨rfl, HB.out⟩
/-- What Answer leaves. -/
def AnsOut (w : World) (base b bt m : Nat) (vt vo : Value) (n : Nat) (me next : Int) (O : List W) (P : List E) (f : Int → Option (Int × ByteArray)) (x : Ms) (e : Ending) (w' : World) : Prop :=
  (∃ r, ∃ hr : r < O.length, O[r].id = x.i ∧ x.k = 2 ∧ O[r].fr = x.t ∧ O[r].whom = x.f ∧ COut w base b bt m vt vo (n + 1) me next (O.take r ++ O.drop (r + 1)) (M.stop P x.i) (fup f x.i (some (2, x.b))) (.bool true) e w') ∨
  ((∀ r (hr : r < O.length), ¬ (O[r].id = x.i ∧ x.k = 2 ∧ O[r].fr = x.t ∧ O[r].whom = x.f)) ∧ e = .returned (.bool false) ∧ Below w.heap.size w w')
set_option maxRecDepth 100000 in
set_option maxHeartbeats 1000000 in
theorem answer_any {w : World} {base b bt m : Nat} {vt vo : Value} {n : Nat} {me next : Int} {O : List W} {P : List E} {f : Int → Option (Int × ByteArray)} (h : CI w base b bt m vt vo n me next O P f) (hb : base ≤ w.heap.size) (hl : O.length ≤ 64) (hu : O.Pairwise (fun a b => a.id < b.id)) (hO : ∀ x ∈ O, 0 ≤ x.id ∧ x.id ≤ 9223372036854775807) (hn : n < maxLen) (x : Ms) (hx : x.b.size ≤ 140737488351232) :
    Calls Try.prog 17 #[.pointer (some ⟨b, 0, none⟩), .agg #[.int .i64 x.k, .int .i64 x.f, .int .i64 x.t, .int .i64 x.i, .string x.b]] w (AnsOut w base b bt m vt vo n me next O P f x) := by
  by_cases hk : x.k = 2
  case neg => exact (answer_kind b x hk w).mono fun e w' ⟨h1, h2⟩ => .inr ⟨fun r hr ⟨_, h3, _⟩ => hk h3, h1, h2⟩
  obtain ⟨xk, xf, xt, xi, xb⟩ := x
  simp only at hk hx ⊢
  subst hk
  obtain ⟨W1, HW1⟩ : ∃ W1, Hid (w.alloc (.cells #[.int .i64 2, .int .i64 xf, .int .i64 xt, .int .i64 xi, .string xb] 32) = W1) := ⟨_, rfl⟩
  have HB1 : Hid (Below w.heap.size w W1) := by rw [← HW1.out]; exact bel1 w _
  have hr1 : W1.heap[w.heap.size]? = some (.cells #[.int .i64 2, .int .i64 xf, .int .i64 xt, .int .i64 xi, .string xb] 32 (0, 0)) := by rw [← HW1.out]; exact heap_alloc_last w _
  have hX1 := h.keep HB1.out
  have hp := placeC_any hX1 hl hu xi
  have HBOX : Hid (∀ W, Below W1.heap.size W1 W → W.heap[w.heap.size]? = some (.cells #[.int .i64 2, .int .i64 xf, .int .i64 xt, .int .i64 xi, .string xb] 32 (0, 0))) := fun W hW => (hW.block _ (Array.getElem?_eq_some_iff.1 hr1).1).trans hr1
  have HX1 := Hid_of hX1
  have HH := Hid_of h
  obtain ⟨⟨e0, e1, e2, e3, e4⟩, _⟩ := rw5 hr1
  clear h hX1 hr1
  go_enter Try.func17, Try.ntmps17
  go_upto_region 1 with fail
  rw [HW1.out]
  go_wp2_with fail
  refine hp.mono ?_
  rintro e w2 ⟨r, bb, rfl, hs, hb2⟩
  have HB2 : Hid (Below w.heap.size w w2) := bel_up HB1.out hb2 (Nat.le_refl _)
  have hX2 := HX1.out.keep hb2
  have hbox2 := HBOX.out w2 hb2
  have HNB : Hid (∀ N, Below w.heap.size w (w2.drewN N)) := fun N => below_drewN HB2.out N
  clear e0 e1 e2 e3 e4 hp
  cases bb with
  | false =>
    have HNO : Hid (∀ r (hr : r < O.length), ¬ (O[r].id = xi ∧ O[r].fr = xt ∧ O[r].whom = xf)) := fun r hr ⟨h1, _⟩ => hs.no rfl _ (List.getElem_mem hr) h1
    clear hX2 hbox2 hb2 hs HX1
    go_wp2_with fail
    go_quiet (fail)
    go_wp2
    go_ret
    exact .inr ⟨fun q hq ⟨h1, _, h2, h3⟩ => HNO.out q hq ⟨h1, h2, h3⟩, rfl, HNB.out _⟩
  | true =>
    obtain ⟨hr, hid⟩ := hs.yes rfl
    obtain ⟨⟨c0, c1, c2, c3, c4⟩, _⟩ := hX2.cells
    obtain ⟨a, cap, hv, hxl, _⟩ := hX2.own.at
    obtain ⟨g, off, rfl, d0, d1, d2, d3, d4⟩ := hxl.at'.getW r hr
    obtain ⟨⟨e0, e1, e2, e3, e4⟩, _⟩ := rw5 hbox2
    obtain ⟨i0, i1⟩ := hO _ (List.getElem_mem hr)
    rw [hid] at d2 i0 i1
    have hne := ne71 O[r].fr O[r].whom xi xt xf xi
    have hri : (r : Int) < (O.length : Int) := by omega
    have HID := Hid_of hid
    subst hv
    by_cases hm : O[r].fr = xt ∧ O[r].whom = xf
    · have hbb : (!((O[r].fr == xt) && ((O[r].whom == xf) && (xi == xi)))) = false := by simp [hm.1, hm.2]
      rw [hbb] at hne
      have hcl := fun W => sclone_any xb W hx
      have HX2 := Hid_of hX2
      have HFIN : Hid (∀ e w4, COut w base b bt m vt (.slice (some ⟨g, off, none⟩) O.length cap) (n + 1) me next (O.take r ++ O.drop (r + 1)) (M.stop P xi) (fup f xi (some (2, xb))) (.bool true) e w4 → AnsOut w base b bt m vt (.slice (some ⟨g, off, none⟩) O.length cap) n me next O P f ⟨2, xf, xt, xi, xb⟩ e w4) := fun e w4 h => .inl ⟨r, hr, HID.out, rfl, hm.1, hm.2, h⟩
      have hen : ∀ W, Below w2.heap.size w2 W → Calls Try.prog 34 #[.pointer (some ⟨b, 0, none⟩), .int .i64 r, .agg #[.int .i64 2, .string xb]] W (COut W base b bt m vt (.slice (some ⟨g, off, none⟩) O.length cap) (n + 1) me next (O.take r ++ O.drop (r + 1)) (M.stop P xi) (fup f xi (some (2, xb))) (.tuple #[])) := fun W hW => endC_any (HX2.out.keep hW) (by have := HB2.out.size; have := hW.size; omega) hl r hr xi HID.out i0 i1 2 xb hn
      have HEN := Hid_of hen
      clear hen hX2 hxl hbox2 hb2 hs HX1 hbb hid hm
      generalize O[r].fr = y0 at *
      generalize O[r].whom = y1 at *
      generalize O[r].sent = y2 at *
      generalize O[r].body = y3 at *
      go_wp2_with fail
      go_quiet (fail)
      go_wp2_with fail
      refine (hcl _).mono ?_
      rintro e w3 ⟨rfl, hb3⟩
      have hb3' : Below w2.heap.size w2 w3 := Below.trans (below_drewN (Below.refl _ _) nq) hb3
      have hen := HEN.out w3 hb3'
      have HB3 := Hid_of (bel_up HB2.out hb3' (Nat.le_refl _))
      clear hb3 hb3' c0 c1 c2 c3 c4 d0 d1 d2 d3 d4 e0 e1 e2 e3 e4 HEN hcl hne
      go_wp2_with fail
      refine hen.mono ?_
      rintro e w4 ⟨vt4, vo4, rfl, hX4, hF4⟩
      have HQ : Hid (COut w base b bt m vt (.slice (some ⟨g, off, none⟩) O.length cap) (n + 1) me next (O.take r ++ O.drop (r + 1)) (M.stop P xi) (fup f xi (some (2, xb))) (.bool true) (.returned (.bool true)) w4) := ⟨vt4, vo4, rfl, hX4, (Fr.ofBelow HB3.out).trans hF4⟩
      clear hX4 hF4 hen
      go_wp2
      go_ret
      exact HFIN.out _ _ HQ.out
    · have hbb : (!((O[r].fr == xt) && ((O[r].whom == xf) && (xi == xi)))) = true := by
        cases h1 : (O[r].fr == xt) && ((O[r].whom == xf) && (xi == xi))
        · rfl
        · simp only [Bool.and_eq_true, beq_iff_eq] at h1
          exact absurd ⟨h1.1, h1.2.1⟩ hm
      rw [hbb] at hne
      have HNO : Hid (∀ r (hr : r < O.length), ¬ (O[r].id = xi ∧ O[r].fr = xt ∧ O[r].whom = xf)) := by
        intro q hq ⟨h1, h2, h3⟩
        have : q = r := by
          rcases Nat.lt_trichotomy q r with h' | h' | h'
          · have := List.pairwise_iff_getElem.1 hu q r hq hr h'; omega
          · exact h'
          · have := List.pairwise_iff_getElem.1 hu r q hr hq h'; omega
        subst this
        exact hm ⟨h2, h3⟩
      clear hX2 hxl hbox2 hb2 hs HX1 hbb hm hid
      generalize O[r].fr = y0 at *
      generalize O[r].whom = y1 at *
      generalize O[r].sent = y2 at *
      generalize O[r].body = y3 at *
      go_wp2_with fail
      go_quiet (fail)
      go_wp2
      go_ret
      exact .inr ⟨fun q hq ⟨h1, _, h2, h3⟩ => HNO.out q hq ⟨h1, h2, h3⟩, rfl, HNB.out _⟩
end Go.Proofs.Ytbgbdiiinggjnaa
