/-
  The chapter's example, walked; two rows of messages held against each other.
-/
import Derived.Test.YtbgbdiiinggjnaaCW
namespace Go.Proofs.Ytbgbdiiinggjnaa
open Go.RowKit
set_option linter.unusedVariables false
open M (E)
open Cl (K W Ms fup Rel)

/-- A slice of messages that is not the calls' own. -/
structure Bs (w : World) (F : Nat → Prop) (a : Option Addr) (l : List Ms) : Prop where
  at' : AtL ml w a l
  lt : ∀ k, blk a k → k < w.heap.size ∧ ¬ F k
theorem Bs.step {w w' : World} {F G : Nat → Prop} {a : Option Addr} {l : List Ms} (h : Bs w F a l) (hF : Fr w F w' G) : Bs w' G a l := by
  refine ⟨h.at'.keepBut fun k hk hb => hF.block k hk (h.lt k hb).2, fun k hb => ⟨Nat.lt_of_lt_of_le (h.lt k hb).1 hF.size, fun hg => ?_⟩⟩
  rcases hF.n k hg with h' | h'
  · exact (h.lt k hb).2 h'
  · have := (h.lt k hb).1; omega
theorem Bs.keep {w w' : World} {F : Nat → Prop} {a : Option Addr} {l : List Ms} (h : Bs w F a l) (hb : Below w.heap.size w w') : Bs w' F a l := h.step (Fr.ofBelow hb)
section
variable {w0 w : World} {b : Nat} {F : Nat → Prop} {me next : Int}
/-- Due, of one open call. -/
theorem KS.due1 {k : K} (h : KS w0 w b F me next [k]) (hk : k.st = 1) (now : Int) (hn : Cl.moment now = true) {ids : List Int} (hi : (if k.due ≤ now then [k.id] else []) = ids) {L' : List K} {out : List Ms} (hr : Cl.run me now ids [k] [] = (L', out)) :
    Calls Try.prog 15 #[.pointer (some ⟨b, 0, none⟩), .int .i64 now] w fun e w' => ∃ a cap G, e = .returned (.slice a out.length cap) ∧ Bs w' G a out ∧ KS w0 w' b G me next L' ∧ Fr w F w' G :=
  (h.due now hn).mono fun e w' ⟨ids', a, cap, G, h1, h2, h3, h4, h5, h6⟩ => by
    have he := Cl.dues_one hk h1
    rw [hi] at he
    subst he
    rw [hr] at h2 h3 h5
    exact ⟨a, cap, G, h2, ⟨h3, fun q hq => ⟨(h4 q hq).2.1, (h4 q hq).2.2⟩⟩, h5, h6⟩
end
theorem wf7 : (Lit.int .i64 7).wf = true := rfl
set_option maxRecDepth 100000 in
set_option maxHeartbeats 2000000 in
theorem awake_any (w : World) : Calls Try.prog 8 #[] w fun e w' => e = .returned (.bool true) ∧ Below w.heap.size w w' := by
  go_enter Try.func8, Try.ntmps8
  go_wp2_with fail
  refine (newK_any 2 7 w).mono ?_
  rintro x w1 ⟨b, F1, rfl, S1⟩
  have hc1 := KS.call (me := 2) (next := 7) S1 3 sa (by decide) 0
  rw [aw1.1, aw1.2.1, aw1.2.2.1, aw1.2.2.2] at hc1
  replace hc1 : Calls Try.prog 12 #[.pointer (some ⟨b, 0, none⟩), .int .i64 3, .string ⟨#[97]⟩, .int .i64 0] w1 _ := hc1
  clear S1
  go_wp2_with fail
  refine hc1.mono ?_
  rintro x w2 ⟨F2, rfl, S2, _⟩
  have hc2 := S2.call 64 sa (by decide) 0
  rw [aw2.1, aw2.2.1, aw2.2.2.1, aw2.2.2.2] at hc2
  replace hc2 : Calls Try.prog 12 #[.pointer (some ⟨b, 0, none⟩), .int .i64 64, .string ⟨#[97]⟩, .int .i64 0] w2 _ := hc2
  clear S2 hc1
  go_wp2_with fail
  refine hc2.mono ?_
  rintro x w3 ⟨F3, rfl, S3, _⟩
  have hc3 := S3.due1 rfl 0 rfl rfl aw3
  clear S3 hc2
  go_wp2_with fail
  refine hc3.mono ?_
  rintro x w4 ⟨a4, cap4, F4, rfl, B4, S4, _⟩
  have hc4 := S4.due1 rfl 3 rfl rfl aw4
  clear S4 hc3
  go_wp2_with fail
  refine hc4.mono ?_
  rintro x w5 ⟨a5, cap5, F5, rfl, _, S5, R5⟩
  have B5 := B4.step R5
  have hc5 := S5.due1 rfl 4 rfl rfl aw5
  clear S5 hc4 B4 R5
  go_wp2_with fail
  refine hc5.mono ?_
  rintro x w6 ⟨a6, cap6, F6, rfl, _, S6, R6⟩
  have B6 := B5.step R6
  have hc6 := S6.due1 rfl 12 rfl rfl aw6
  clear S6 hc5 B5 R6
  go_wp2_with fail
  refine hc6.mono ?_
  rintro x w7 ⟨a7, cap7, F7, rfl, _, S7, R7⟩
  have B7 := B6.step R7
  have hc7 := S7.answer ⟨2, 4, 2, 7, s0⟩ (by decide)
  rw [aw7.1, aw7.2] at hc7
  replace hc7 : Calls Try.prog 17 #[.pointer (some ⟨b, 0, none⟩), .agg #[.int .i64 2, .int .i64 4, .int .i64 2, .int .i64 7, .string ⟨#[]⟩]] w7 _ := hc7
  clear S7 hc6 B6 R7
  go_wp2_with fail
  refine hc7.mono ?_
  rintro x w8 ⟨F8, rfl, S8, R8⟩
  have B8 := B7.step R8
  have hc8 := S8.answer ⟨2, 3, 2, 7, sb⟩ (by decide)
  rw [aw8.1, aw8.2] at hc8
  replace hc8 : Calls Try.prog 17 #[.pointer (some ⟨b, 0, none⟩), .agg #[.int .i64 2, .int .i64 3, .int .i64 2, .int .i64 7, .string ⟨#[98]⟩]] w8 _ := hc8
  clear S8 hc7 B7 R8
  go_wp2_with fail
  refine hc8.mono ?_
  rintro x w9 ⟨F9, rfl, S9, R9⟩
  have B9 := B8.step R9
  have hc9 := S9.state 7 wf7
  rw [aw9.1, aw9.2] at hc9
  have HS9 := Hid_of S9
  clear S9 hc8 B8 R9
  go_wp2_with fail
  refine hc9.mono ?_
  rintro x w10 ⟨rfl, b10⟩
  have S10 := HS9.out.keep b10
  have B10 := B9.keep b10
  obtain ⟨bb, off, rfl, c0, c1, c2, c3, c4⟩ := B10.at'.getM 0 (by simp)
  simp only [List.getElem_cons_zero, mA, Nat.zero_mul, Nat.add_zero] at c0 c1 c2 c3 c4 ⊢
  unfold sa at c4
  have hc10 := S10.forget 7 wf7
  rw [aw10.1, aw10.2] at hc10
  have he := eq32 1 2 3 7 ⟨#[97]⟩
  clear S10 hc9 B9 B10 HS9 b10
  unfold sb
  go_wp2_with fail
  refine hc10.mono ?_
  rintro x w11 ⟨F11, rfl, S11, _⟩
  have hc11 := S11.forget 7 wf7
  rw [aw11.1, aw11.2] at hc11
  clear S11 hc10 c0 c1 c2 c3 c4 he
  go_wp2_with fail
  refine hc11.mono ?_
  rintro x w12 ⟨F12, rfl, S12, _⟩
  have HB := Hid_of S12.bel
  clear S12 hc11
  go_wp2
  go_ret
  exact ⟨rfl, HB.out⟩
set_option maxRecDepth 100000 in
set_option maxHeartbeats 1000000 in
theorem sameM_any (a : Option Addr) (ca : Nat) (b : Option Addr) (cb : Nat) (l : List Ms) (w : World) (hl : l.length ≤ 1000000) (ha : AtL ml w a l) (hb : AtL ml w b l) :
    Calls Try.prog 14 #[.slice a l.length ca, .slice b l.length cb] w fun e w' => e = .returned (.bool true) ∧ Below w.heap.size w w' := by
  go_enter Try.func14, Try.ntmps14
  go_wp2
  go_loopw [5] (fun i wr => ∃ k : Nat, k ≤ l.length ∧ i = .int .i64 k ∧ Below w.heap.size w wr) (fun i _ => l.length - (intOf i).toNat)
  case atStart => exact ⟨0, by omega, rfl, Below.refl _ _⟩
  case round =>
    obtain ⟨k, hk, rfl, hbel⟩ := hrel
    by_cases hlt : k < l.length
    · obtain ⟨b1, o1, rfl, c1, c2, c3, c4, c5⟩ := (ha.keep hbel).getM k hlt
      obtain ⟨b2, o2, rfl, d1, d2, d3, d4, d5⟩ := (hb.keep hbel).getM k hlt
      have he := ne32 l[k].k l[k].f l[k].t l[k].i l[k].b
      have hki : (k : Int) < (l.length : Int) := by omega
      generalize l[k].k = x1 at *
      generalize l[k].f = x2 at *
      generalize l[k].t = x3 at *
      generalize l[k].i = x4 at *
      generalize l[k].b = x5 at *
      have HB : Hid (∀ n, Below w.heap.size w (wr.drewN n)) := fun n => below_drewN hbel n
      clear ha hb hbel
      go_wp2_with fail
      go_quiet (fail)
      go_wp2
      go_roundw
      case rel => exact ⟨k + 1, by omega, by go_num, HB.out _⟩
      case measure => simp [intOf]; omega
    · have hkn : k = l.length := by omega
      subst hkn
      go_wp2
      go_ret
      exact ⟨rfl, hbel⟩
end Go.Proofs.Ytbgbdiiinggjnaa
