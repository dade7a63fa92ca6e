/-
  A call that is never answered.
-/
import Derived.Test.YtbgbdiiinggjnaaPD
namespace Go.Proofs.Ytbgbdiiinggjnaa
open Go.RowKit
set_option linter.unusedVariables false
open M (E)
open Cl (K W Ms fup Rel)

/-- The call, sent so often, due then. -/
def kT (s : ByteArray) (i nw : Int) : K := ⟨0, 1, 1, i, nw, s, s0⟩
def kG (s : ByteArray) (i nw : Int) : K := ⟨0, 1, 3, i, nw, s, s0⟩
theorem tr_run (s : ByteArray) (i nw : Int) (h : i < 8) : Cl.run 0 nw [0] [kT s i nw] [] = ([kT s (i + 1) (nw + Cl.wait i)], [⟨1, 0, 1, 0, s⟩]) := by
  have h8 : ¬ (8 ≤ i) := by omega
  simp [Cl.run, Cl.upd, Cl.one, kT, Cl.stepK, h8, Cl.sendK, Cl.outK, Cl.get, Cl.msg]
theorem tr_gone (s : ByteArray) (i nw : Int) (h : 8 ≤ i) : Cl.run 0 nw [0] [kT s i nw] [] = ([kG s i nw], []) := by
  simp [Cl.run, Cl.upd, Cl.one, kT, kG, Cl.stepK, h, Cl.goneK, Cl.outK, Cl.get]
theorem KS.dueEarly {w0 w : World} {b : Nat} {F : Nat → Prop} {s : ByteArray} {i nw x : Int} (h : KS w0 w b F 0 1 [kT s i nw]) (hx : x = nw - 1) :
    Calls Try.prog 15 #[.pointer (some ⟨b, 0, none⟩), .int .i64 x] w fun e w' => ∃ a cap G, e = .returned (.slice a 0 cap) ∧ KS w0 w' b G 0 1 [kT s i nw] := by
  cases hm : Cl.moment x with
  | false => exact (h.dueNo x hm).mono fun e w' ⟨h1, h2⟩ => ⟨none, 0, F, h1, by rw [h2]; exact h⟩
  | true => exact (h.due1 rfl x hm (ids := []) (if_neg (by show ¬ nw ≤ x; omega)) (L' := [kT s i nw]) (out := []) rfl).mono fun e w' ⟨a, cap, G, h1, _, h2, _⟩ => ⟨a, cap, G, h1, h2⟩
theorem KS.dueSent {w0 w : World} {b : Nat} {F : Nat → Prop} {s : ByteArray} {i nw : Int} (h : KS w0 w b F 0 1 [kT s i nw]) (hi : i < 8) (hm : 0 ≤ nw ∧ nw ≤ 1099511626776) :
    Calls Try.prog 15 #[.pointer (some ⟨b, 0, none⟩), .int .i64 nw] w fun e w' => ∃ a cap G, e = .returned (.slice a 1 cap) ∧ KS w0 w' b G 0 1 [kT s (i + 1) (nw + Cl.wait i)] :=
  (h.due1 rfl nw (Cl.moment_iff.2 hm) (ids := [0]) (if_pos (Int.le_refl _)) (tr_run s i nw hi)).mono fun e w' ⟨a, cap, G, h1, _, h2, _⟩ => ⟨a, cap, G, h1, h2⟩
theorem KS.dueGone {w0 w : World} {b : Nat} {F : Nat → Prop} {s : ByteArray} {i nw : Int} (h : KS w0 w b F 0 1 [kT s i nw]) (hi : 8 ≤ i) (hm : 0 ≤ nw ∧ nw ≤ 1099511626776) :
    Calls Try.prog 15 #[.pointer (some ⟨b, 0, none⟩), .int .i64 nw] w fun e w' => ∃ a cap G, e = .returned (.slice a 0 cap) ∧ KS w0 w' b G 0 1 [kG s i nw] :=
  (h.due1 rfl nw (Cl.moment_iff.2 hm) (ids := [0]) (if_pos (Int.le_refl _)) (tr_gone s i nw hi)).mono fun e w' ⟨a, cap, G, h1, _, h2, _⟩ => ⟨a, cap, G, h1, h2⟩
theorem tr_call (s : ByteArray) (hs : s.size ≤ 4096) (nw : Int) (hn : Cl.moment nw = true) : Cl.ccode (Cl.opn []).length 0 1 s.size nw = 0 ∧ Cl.callN (Cl.opn []).length 0 1 s.size nw = 0 ∧ Cl.callX (Cl.opn []).length 0 1 s.size nw = 1 ∧ Cl.callL [] 0 1 nw s = [kT s 0 nw] := by
  have h0 : Cl.ccode (Cl.opn []).length 0 1 s.size nw = 0 := by
    unfold Cl.ccode
    rw [if_neg (by rw [hn]; simp), if_neg (by omega), if_neg (by simp [Cl.opn])]
  refine ⟨h0, ?_, ?_, ?_⟩
  · unfold Cl.callN; rw [if_pos h0]
  · unfold Cl.callX; rw [if_pos h0]; rfl
  · unfold Cl.callL; rw [if_pos h0]; rfl
theorem tr_st (s : ByteArray) (i nw : Int) : Cl.stS [kT s i nw] 0 = 1 ∧ Cl.stR [kT s i nw] 0 = s0 := ⟨rfl, rfl⟩
theorem tr_sg (s : ByteArray) (i nw : Int) : Cl.stS [kG s i nw] 0 = 3 ∧ Cl.stR [kG s i nw] 0 = s0 := ⟨rfl, rfl⟩
theorem tr_op (s : ByteArray) (i nw : Int) : Cl.nums [kG s i nw] = [] := rfl
theorem tr_an (s : ByteArray) (i nw : Int) : Cl.isA 0 [kG s i nw] ⟨2, 1, 0, 0, s0⟩ = false := rfl
theorem wf0 : (Lit.int .i64 0).wf = true := rfl
theorem tr_wait (i : Nat) : min (2 * Cl.wait i) 64 = Cl.wait ((i + 1 : Nat) : Int) := by
  rw [Cl.wait_next _ (by omega)]
  congr 1
/-- In the loop. -/
structure TL (w : World) (s : ByteArray) (b : Nat) (i : Nat) (nw : Int) (wr : World) (F : Nat → Prop) : Prop where
  ks : KS w wr b F 0 1 [kT s i nw]
  n : 0 ≤ nw ∧ nw ≤ 549755813888 + 64 * i
set_option maxRecDepth 100000 in
set_option maxHeartbeats 2000000 in
theorem tries_walk (nw : Int) (s : ByteArray) (w : World) (hnw : (Lit.int .i64 nw).wf = true) (hs : s.size ≤ 140737488351232) : Calls Try.prog 4 #[.int .i64 nw, .string s] w fun e w' => e = .returned (.bool true) ∧ Below w.heap.size w w' := by
  by_cases hgo : 0 ≤ nw ∧ nw ≤ 549755813888 ∧ s.size ≤ 4096
  case neg =>
    have hw := awake_any w
    by_cases h1 : nw < 0
    · go_enter Try.func4, Try.ntmps4
      go_wp2_with fail
      refine hw.mono ?_
      rintro e w1 ⟨rfl, b1⟩
      have HB := Hid_of b1
      clear b1 hw
      go_wp2
      go_ret
      exact ⟨rfl, HB.out⟩
    by_cases h2 : 549755813888 < nw
    · go_enter Try.func4, Try.ntmps4
      go_wp2_with fail
      refine hw.mono ?_
      rintro e w1 ⟨rfl, b1⟩
      have HB := Hid_of b1
      clear b1 hw
      go_wp2
      go_ret
      exact ⟨rfl, HB.out⟩
    · have d3 : decide ((4096 : Int) < (s.size : Int)) = true := decide_eq_true (by omega)
      go_enter Try.func4, Try.ntmps4
      go_wp2_with fail
      refine hw.mono ?_
      rintro e w1 ⟨rfl, b1⟩
      have HB := Hid_of b1
      clear b1 hw
      go_wp2
      go_ret
      exact ⟨rfl, HB.out⟩
  obtain ⟨g1, g2, g3⟩ := hgo
  have d1 : ¬ nw < 0 := by omega
  have d2 : ¬ 549755813888 < nw := by omega
  have d3 : decide ((4096 : Int) < (s.size : Int)) = false := decide_eq_false (by omega)
  have hmo : Cl.moment nw = true := Cl.moment_iff.2 ⟨g1, by omega⟩
  obtain ⟨t1, t2, t3, t4⟩ := tr_call s g3 nw hmo
  have HN : Hid (0 ≤ nw ∧ nw ≤ 549755813888) := ⟨g1, g2⟩
  have hsm : s.size ≤ maxLen := by unfold maxLen; omega
  go_enter Try.func4, Try.ntmps4
  go_wp2_with fail
  refine (newK_any 0 0 w).mono ?_
  rintro e w1 ⟨b, F1, rfl, S1⟩
  have hc1 := KS.call (me := 0) (next := 0) S1 1 s hsm nw
  rw [t1, t2, t3, t4] at hc1
  clear S1 t1 t2 t3 t4 hmo
  go_wp2_with fail
  refine hc1.mono ?_
  rintro e w2 ⟨F2, rfl, S2, _⟩
  have HT : Hid (TL w s b 0 nw w2 F2) := ⟨S2, ⟨HN.out.1, by have := HN.out.2; omega⟩⟩
  have HW4 : Hid (Cl.wait 0 = 4) := rfl
  clear S2 hc1 hs g1 g2 g3 d1 d2 d3 hnw
  go_wp2_with fail
  go_loopw [0, 8, 9] (fun u0 u8 u9 wr => ∃ (i : Nat) (x : Int) (F : Nat → Prop), i ≤ 8 ∧ u9 = .int .i64 i ∧ u8 = .int .i64 (Cl.wait i) ∧ u0 = .int .i64 x ∧ Hid (TL w s b i x wr F)) (fun _ _ u9 _ => 8 - (intOf u9).toNat)
  case atStart => exact ⟨0, nw, F2, by omega, rfl, rfl, rfl, HT⟩
  case round =>
    clear HT HN
    obtain ⟨i, x, F, hi, rfl, rfl, rfl, HT⟩ := hrel
    have hx := HT.out.n
    by_cases hlt : i < 8
    · have hc1 := HT.out.ks.dueEarly (x := x - 1) rfl
      have hsub : IntKind.i64.wrap (x - 1) = x - 1 := by rw [IntKind.wrap_i64]; omega
      have hwr := Cl.wait_rng i
      have HWT := Hid_of (tr_wait i)
      obtain ⟨wi, hwi⟩ : ∃ wi, Cl.wait (i : Int) = wi := ⟨_, rfl⟩
      have HWI := Hid_of hwi
      rw [hwi] at hwr HWT ⊢
      clear hwi
      have hadd : IntKind.i64.wrap (x + wi) = x + wi := by rw [IntKind.wrap_i64]; omega
      have hmul : IntKind.i64.wrap (2 * wi) = 2 * wi := by rw [IntKind.wrap_i64]; omega
      go_wp2_with fail
      refine hc1.mono ?_
      rintro e w3 ⟨a3, cap3, F3, rfl, S3⟩
      have hc3 := S3.dueSent (by omega) ⟨hx.1, by omega⟩
      clear S3 hc1
      go_wp2_with fail
      refine hc3.mono ?_
      rintro e w4 ⟨a4, cap4, F4, rfl, S4⟩
      have HT4 : Hid (TL w s b (i + 1) (x + wi) w4 F4) := by
        rw [HWI.out] at S4
        refine ⟨?_, ⟨by omega, by have := hx.2; omega⟩⟩
        have e : ((i + 1 : Nat) : Int) = (i : Int) + 1 := by omega
        rw [e]
        exact S4
      clear S4 hc3 HT HWI
      go_wp2
      go_roundw
      case rel => exact ⟨i + 1, x + wi, F4, by omega, by go_num, by rw [← HWT.out], rfl, HT4⟩
      case measure => simp [intOf]; omega
    · have hi8 : i = 8 := by omega
      subst hi8
      have hst := HT.out.ks.state 0 wf0
      rw [(tr_st s _ x).1, (tr_st s _ x).2] at hst
      have hsub : IntKind.i64.wrap (x - 1) = x - 1 := by rw [IntKind.wrap_i64]; omega
      generalize Cl.wait ((8 : Nat) : Int) = w8 at *
      go_wp2_with fail
      refine hst.mono ?_
      rintro e w3 ⟨rfl, b3⟩
      have hc3 := (HT.out.ks.keep b3).dueEarly (x := x - 1) rfl
      clear hst b3 HT
      go_wp2_with fail
      refine hc3.mono ?_
      rintro e w4 ⟨a4, cap4, F4, rfl, S4⟩
      have hc4 := S4.dueGone (by decide) ⟨hx.1, by omega⟩
      clear S4 hc3
      go_wp2_with fail
      refine hc4.mono ?_
      rintro e w5 ⟨a5, cap5, F5, rfl, S5⟩
      have hst5 := S5.state 0 wf0
      rw [(tr_sg s _ x).1, (tr_sg s _ x).2] at hst5
      have HS5 := Hid_of S5
      clear S5 hc4
      go_wp2_with fail
      refine hst5.mono ?_
      rintro e w6 ⟨rfl, b6⟩
      have S6 := HS5.out.keep b6
      have ho6 := S6.opens
      rw [tr_op] at ho6
      have HS6 := Hid_of S6
      clear S6 HS5 b6 hst5
      go_wp2_with fail
      refine ho6.mono ?_
      rintro e w7 ⟨a7, cap7, rfl, _, _, b7⟩
      have S7 := HS6.out.keep b7
      have ha7 := S7.answer ⟨2, 1, 0, 0, s0⟩ (by decide)
      rw [tr_an] at ha7
      replace ha7 : Calls Try.prog 17 #[.pointer (some ⟨b, 0, none⟩), .agg #[.int .i64 2, .int .i64 1, .int .i64 0, .int .i64 0, .string ⟨#[]⟩]] w7 _ := ha7
      clear S7 HS6 b7 ho6
      simp only [List.length_nil]
      go_wp2_with fail
      refine ha7.mono ?_
      rintro e w8' ⟨F8, rfl, S8, _⟩
      have HB8 := Hid_of S8.bel
      clear S8 ha7
      go_wp2_with fail
      refine (awake_any _).mono ?_
      rintro e w9 ⟨rfl, b9⟩
      have HB9 : Hid (Below w.heap.size w w9) := bel_up HB8.out b9 (by have := HB8.out.size; omega)
      clear b9 HB8
      go_wp2
      go_ret
      exact ⟨rfl, HB9.out⟩
end Go.Proofs.Ytbgbdiiinggjnaa
