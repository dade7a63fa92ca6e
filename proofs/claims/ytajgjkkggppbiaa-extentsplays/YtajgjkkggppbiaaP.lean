/-
  A file's calls: New, Put, Hole, Cut, End.
-/
import Derived.Test.YtajgjkkggppbiaaO
import Derived.Test.YtajgjkkggppbiaaC
import Derived.Deep.RegionHeld3
namespace Go.Proofs.Ytajgjkkggppbiaa
open Go.RowKit
set_option linter.unusedVariables false
open M (E)

set_option maxHeartbeats 400000 in
theorem new_any (w : World) : Calls Try.prog 8 #[] w fun x w' => ∃ b, x = .returned (.pointer (some ⟨b, 0, none⟩)) ∧ b = w.heap.size ∧ (∀ base, XI w' base b (.slice none 0 0) []) ∧ Below w.heap.size w w' := by
  have HK : Hid (∀ base, XI (w.alloc (.cells #[.slice none 0 0] 54)) base w.heap.size (.slice none 0 0) []) := fun base => ⟨heap_alloc_last w _, World.ownsRow_nil _ _ _ _, by simp [Value.ownBlock], M.G_nil⟩
  have HB : Hid (Below w.heap.size w (w.alloc (.cells #[.slice none 0 0] 54))) := bel1 w _
  go_enter Try.func8, Try.ntmps8
  go_wp2
  go_ret
  exact ⟨_, rfl, rfl, HK.out, HB.out⟩

theorem w_le (a n e : Int) (he : 0 ≤ e) : 0 ≤ wlo a e ∧ wlo a e ≤ whi a n e ∧ whi a n e ≤ e := by
  unfold wlo whi
  split <;> omega
/-- A file that was changed: what its bytes are now. -/
def XOut (w : World) (base b : Nat) (v : Value) (F : Int → Option (Int × Int)) (w' : World) : Prop := ∃ v' P', XI w' base b v' P' ∧ (∀ i, M.rep P' i = F i) ∧ Ch w b v w' v'
theorem XOut.same {w w' : World} {base b : Nat} {v : Value} {P : List E} (h : XI w base b v P) (hb : Below w.heap.size w w') : XOut w base b v (fun i => M.rep P i) w' := ⟨v, P, h.keep hb, fun _ => rfl, Ch.ofBelow hb⟩

set_option maxRecDepth 100000 in
set_option maxHeartbeats 1000000 in
theorem hole_any (base b : Nat) (v : Value) (P : List E) (a n : Int) (w : World) (h : XI w base b v P) (hbw : base ≤ w.heap.size) (ha : -9223372036854775808 ≤ a) (hn : n ≤ 9223372036854775807) :
    Calls Try.prog 24 #[.pointer (some ⟨b, 0, none⟩), .int .i64 a, .int .i64 n] w fun x w' => x = .returned (.tuple #[]) ∧ XOut w base b v (fun i => if wlo a 16384 ≤ i ∧ i < whi a n 16384 then none else M.rep P i) w' := by
  have hw := within_any a n 16384 w (by decide) ⟨by decide, by decide⟩ ha hn
  obtain ⟨h0, h1, h2⟩ := w_le a n 16384 (by decide)
  have hlay := lay_any base b v P (wlo a 16384) (whi a n 16384) ⟨0, 0, 0, 0⟩ w h hbw h0 h1 h2 (.inl (by decide)) ⟨⟨by decide, by decide⟩, ⟨by decide, by decide⟩, ⟨by decide, by decide⟩⟩
  have HF : Hid (∀ w', XOut w base b v (fun i => if wlo a 16384 ≤ i ∧ i < whi a n 16384 then M.rep [⟨0, 0, 0, 0⟩] i else M.rep P i) w' → XOut w base b v (fun i => if wlo a 16384 ≤ i ∧ i < whi a n 16384 then none else M.rep P i) w') := by
    rintro w' ⟨v', P', h1, h2, h3⟩
    refine ⟨v', P', h1, fun i => ?_, h3⟩
    rw [h2]
    simp only [M.rep_one_none _ (show (E.mk 0 0 0 0).n < 1 by decide)]
  have hEV : EV ⟨0, 0, 0, 0⟩ = .agg #[.int .i64 0, .int .i64 0, .int .i64 0, .int .i64 0] := rfl
  rw [hEV] at hlay
  generalize wlo a 16384 = lo at *
  generalize whi a n 16384 = hi at *
  clear ha hn hEV
  go_enter Try.func24, Try.ntmps24
  go_wp2_with fail
  refine hw.mono ?_
  rintro x w1 ⟨rfl, rfl⟩
  go_wp2_with fail
  refine hlay.mono ?_
  rintro x w2 ⟨rfl, hx⟩
  have HK := Hid_of (HF.out w2 hx)
  clear hx hlay hw HF
  go_wp2
  go_end0
  exact ⟨rfl, HK.out⟩

set_option maxRecDepth 100000 in
set_option maxHeartbeats 1000000 in
theorem cut_any (base b : Nat) (v : Value) (P : List E) (a : Int) (w : World) (h : XI w base b v P) (hbw : base ≤ w.heap.size) :
    Calls Try.prog 22 #[.pointer (some ⟨b, 0, none⟩), .int .i64 a] w fun x w' => x = .returned (.tuple #[]) ∧ XOut w base b v (fun i => if wlo (max a 0) 16384 ≤ i ∧ i < whi (max a 0) 16384 16384 then none else M.rep P i) w' := by
  obtain ⟨m, hm⟩ : ∃ m, max a 0 = m := ⟨_, rfl⟩
  have hh := hole_any base b v P m 16384 w h hbw (by omega) (by decide)
  rw [hm]
  go_enter Try.func22, Try.ntmps22
  go_wp2_with fail
  refine hh.mono ?_
  rintro x w2 ⟨rfl, hx⟩
  have HK := Hid_of hx
  clear hx hh
  go_wp2
  go_end0
  exact ⟨rfl, HK.out⟩

/-- One beyond the last byte. -/
def endP (P : List E) : Int := match P.getLast? with | none => 0 | some p => p.a + p.n
set_option maxRecDepth 100000 in
set_option maxHeartbeats 1000000 in
theorem end_any (base b : Nat) (v : Value) (P : List E) (w : World) (h : XI w base b v P) :
    Calls Try.prog 10 #[.pointer (some ⟨b, 0, none⟩)] w fun x w' => x = .returned (.int .i64 (endP P)) ∧ Below w.heap.size w w' := by
  obtain ⟨a, cap, hv, hat, hbk, hcap⟩ := owns_atE h.own
  have c0 := h.c0
  rw [hv] at c0
  rcases List.eq_nil_or_concat P with rfl | ⟨d, p, rfl⟩
  · have he : endP [] = 0 := rfl
    rw [he]
    simp only [List.length_nil] at c0
    go_enter Try.func10, Try.ntmps10
    go_wp2
    go_ret
    exact ⟨rfl, Below.refl _ _⟩
  · rw [List.concat_eq_append] at *
    have he : endP (d ++ [p]) = p.a + p.n := by unfold endP; rw [List.getLast?_concat]
    rw [he]
    have hl : (d ++ [p]).length = d.length + 1 := by simp
    have hlen := h.len
    rw [hl] at c0 hlen
    have hsm := sm_of_G h.g p (by simp)
    have HS : Hid (∀ w', Below w.heap.size w w' → ∃ g off, a = some ⟨g, off, none⟩ ∧ w'.cell? ⟨g, off + d.length * 4, none⟩ = some (.int .i64 p.a) ∧ w'.cell? ⟨g, off + d.length * 4 + 1, none⟩ = some (.int .i64 p.n) ∧ w'.cell? ⟨g, off + d.length * 4 + 2, none⟩ = some (.int .i64 p.d) ∧ w'.cell? ⟨g, off + d.length * 4 + 3, none⟩ = some (.int .i64 p.f)) := by
      intro w' hb'
      have := (hat.keep hb') d.length (by simp)
      simpa using this
    obtain ⟨g, off, rfl, _⟩ := HS.out w (Below.refl _ _)
    have HS2 : Hid (∀ w', Below w.heap.size w w' → w'.cell? ⟨b, 0, none⟩ = some (.slice (some ⟨g, off, none⟩) (d.length + 1) cap) ∧ w'.cell? ⟨g, off + d.length * 4, none⟩ = some (.int .i64 p.a) ∧ w'.cell? ⟨g, off + d.length * 4 + 1, none⟩ = some (.int .i64 p.n) ∧ w'.cell? ⟨g, off + d.length * 4 + 2, none⟩ = some (.int .i64 p.d) ∧ w'.cell? ⟨g, off + d.length * 4 + 3, none⟩ = some (.int .i64 p.f)) := by
      intro w' hb'
      obtain ⟨g', off', e, hh⟩ := HS.out w' hb'
      cases e
      refine ⟨?_, hh⟩
      have := (h.keep hb').c0
      rw [hv, hl] at this
      exact this
    have hend := fun w' => ending_any p.a p.n p.d p.f w' hsm.1 hsm.2.1
    obtain ⟨q0, q1, q2, q3, q4⟩ := HS2.out w (Below.refl _ _)
    have hz1 : ¬ ((d.length : Int) + 1 = 0) := by omega
    have hii : (d.length : Int) < (d.length : Int) + 1 := by omega
    have hne : ((d.length : Int) + 1 == 0) = false := by simp; omega
    clear HS h hv hat hbk hcap hsm c0 hl he
    generalize p.a = pa at *
    generalize p.n = pn at *
    generalize p.d = pd at *
    generalize p.f = pf at *
    generalize d.length = k at *
    have hw1 : IntKind.i64.wrap ((k : Int) + 1 - 1) = (k : Int) := by rw [IntKind.wrap_i64]; omega
    have hw2 : IntKind.i64.wrap (k : Int) = (k : Int) := by rw [IntKind.wrap_i64]; omega
    have hk0 : (0 : Int) ≤ (k : Int) := by omega
    have hkn : k < k + 1 := by omega
    go_enter Try.func10, Try.ntmps10
    go_wp2_with fail
    go_region_held3 (fun wq => wq.cell? ⟨b, 0, none⟩ = some (.slice (some ⟨g, off, none⟩) (k + 1) cap) ∧ wq.cell? ⟨g, off + k * 4, none⟩ = some (.int .i64 pa) ∧ wq.cell? ⟨g, off + k * 4 + 1, none⟩ = some (.int .i64 pn) ∧ wq.cell? ⟨g, off + k * 4 + 2, none⟩ = some (.int .i64 pd) ∧ wq.cell? ⟨g, off + k * 4 + 3, none⟩ = some (.int .i64 pf)) (first | exact HS2.out _ (Below.refl _ _) | exact HS2.out _ (Below.drew (Below.refl _ _)) | exact HS2.out _ (by assumption)) (first
      | (go_at_call 27; refine (hend _).mono ?_; rintro x w2 ⟨rfl, hb2⟩; have B2 : Below w.heap.size w w2 := Below.trans (Below.drew (Below.refl _ _)) hb2; clear hb2))
    all_goals
      have HB := Hid_of B2
      clear HS2 B2 q0 q1 q2 q3 q4
      go_wp2
      go_ret
      exact ⟨rfl, HB.out⟩
end Go.Proofs.Ytajgjkkggppbiaa
