/-
  Proved: for every text the law CodecOnly of the program returns true, and the argument reads as it did.
-/
import Derived.Test.YtanpplndoemgoaaH
import Derived.ShutString
namespace Go.Proofs.Ytanpplndoemgoaa
open Go.ChangeShapes Go.WideShapes Go.ChangeAt Go.RowKit
open Go.ChangeMaps (open_string shut_string)
set_option linter.unusedVariables false

theorem own : ownKnob Try.prog.godebug = none := by kernel_rfl
theorem wf_i64 {a : Int} (h : (Lit.int .i64 a).wf = true) : -9223372036854775808 ≤ a ∧ a ≤ 9223372036854775807 := by
  have := bounds_i64 h
  omega

/-- What is read whole, as ints, a text and an int, was laid so. -/
theorem only_parts (l : List UInt8) (h : nx (M.int (lft (nx (M.text (lft (nx (M.ints l))))))) = some []) :
    ∃ xs r1 t r2 n, M.ints l = some (xs, r1) ∧ M.text r1 = some (t, r2) ∧ M.int r2 = some (n, []) ∧ l = M.encIs xs ++ M.encT t ++ M.enc n := by
  cases h1 : M.ints l with
  | none => rw [h1] at h; simp [nx, lft, M.text, M.count, M.int_nil] at h
  | some p =>
    obtain ⟨xs, r1⟩ := p
    rw [h1] at h
    simp only [nx, lft, Option.map_some, Option.getD_some] at h
    cases h2 : M.text r1 with
    | none => rw [h2] at h; simp [M.int_nil] at h
    | some p =>
      obtain ⟨t, r2⟩ := p
      rw [h2] at h
      simp only [Option.map_some, Option.getD_some] at h
      cases h3 : M.int r2 with
      | none => rw [h3] at h; simp at h
      | some p =>
        obtain ⟨n, r3⟩ := p
        rw [h3] at h
        simp only [Option.map_some, Option.some.injEq] at h
        subst h
        refine ⟨xs, r1, t, r2, n, rfl, h2, h3, ?_⟩
        have e1 := M.ints_only l xs r1 h1
        have e2 := M.text_only r1 t r2 h2
        have e3 := (M.int_only r2 n [] h3).1
        rw [e1, e2, e3]
        simp

set_option maxRecDepth 100000 in
set_option maxHeartbeats 4000000 in
theorem only_walk (s : ByteArray) (w : World) (hs : s.size ≤ maxLen) :
    Calls Try.prog 6 #[.string s] w fun e w' => e = .returned (.bool true) ∧ Below w.heap.size w w' := by
  by_cases h : s.size > 5000
  · go_enter Try.func6, Try.ntmps6
    go_wp2_with fail
    refine (awake_any _).mono ?_
    rintro e w1 ⟨rfl, hb1⟩
    go_wp2
    go_ret
    exact ⟨rfl, hb1⟩
  · obtain ⟨l, rfl⟩ : ∃ l, s = ofL l := ⟨_, (ofL_of s).symm⟩
    have hsz := ofL_size l
    have hl : l.length ≤ 5000 := by omega
    have hl1 := ints_left l
    have hl2 := text_left (lft (nx (M.ints l)))
    have hl3 := int_left (lft (nx (M.text (lft (nx (M.ints l))))))
    clear hs
    go_enter Try.func6, Try.ntmps6
    go_wp2_with fail
    refine (newReader_any l w (by omega)).mono ?_
    rintro x w1 h1
    obtain ⟨r, rfl, hr, hr1, hb1⟩ := h1
    go_wp2_with fail
    refine (ints_any r (some l) w1 hr1 (by simp only [lft, Option.getD_some]; omega)).mono ?_
    rintro x w2 h2
    obtain ⟨v, rfl, hown, hr2, hg2⟩ := h2
    have hrlt := hr1.lt
    have B2 := hb1.trans (below_grown hg2 hb1.size (by simp [hr]))
    obtain ⟨av, capv, rfl, hat2, hbv⟩ := owns_at hown
    have hat2 : At w2 av (Value.int .i64) (vl [] (M.ints l)) := hat2
    have hr2 : RS w2 r (nx (M.ints l)) := hr2
    have hbr : ∀ k, blk av k → k ≠ r := fun k hk => by have := hbv k hk; omega
    clear hown hg2 hr1 hb1
    go_wp2_with fail
    refine (text_any r _ w2 hr2 (by omega)).mono ?_
    rintro x w3 ⟨rfl, hr3, hg3⟩
    have B3 := B2.trans (below_grown hg3 B2.size (by simp [hr]))
    have hat3 := hat2.grown hg3 hbr
    clear hat2 hr2 hg3 B2
    go_wp2_with fail
    refine (int_rs r _ w3 hr3 (by omega)).mono ?_
    rintro x w4 ⟨rfl, hr4, hg4⟩
    have B4 := B3.trans (below_grown hg4 B3.size (by simp [hr]))
    have hat4 := hat3.grown hg4 hbr
    clear hat3 hr3 hg4 B3
    have HP : Hid (nx (M.int (lft (nx (M.text (lft (nx (M.ints l))))))) = some [] → _) := only_parts l
    go_wp2_with fail
    refine (rdone_any r _ w4 hr4 (by omega)).mono ?_
    rintro x w5 ⟨rfl, rfl⟩
    rcases rdone_eq (nx (M.int (lft (nx (M.text (lft (nx (M.ints l)))))))) with ⟨hd, he⟩ | ⟨hd, he⟩
    · obtain ⟨xs, r1, t, r2, n, e1, e2, e3, e4⟩ := HP.out he
      have hxs := M.ints_all l xs r1 e1
      have htl := M.text_size r1 t r2 e2
      have hn := M.int_bd r2 n [] e3
      have HLAY : Hid (M.lay 65536 (M.lay 65536 (M.lay 65536 (0, []) (M.encIs xs)) (M.encT t)) (M.enc n) = (0, l)) := by
        show _ = _
        rw [M.lay_lay, M.lay_lay, ← List.append_assoc, ← e4, M.lay_fits _ _ _ (by simp; omega)]
        rfl
      rw [hd]
      simp only [e1, lft, nx, Option.map_some, Option.getD_some, e2, e3, vl] at hat4 ⊢
      clear hd he e1 e2 e3 e4 HP hr4 hl1 hl2 hl3
      go_wp2_with fail
      refine (newWriter_any 65536 w5).mono ?_
      rintro x w6 h6
      obtain ⟨b, rfl, hb, hw6, hb6⟩ := h6
      have hw6 : WS w6 b none 0 65536 (0, []) := hw6
      have B6 := B4.trans (hb6.mono B4.size)
      have hat6 := hat4.keep hb6
      have hwb : w.heap.size ≤ b := Nat.le_trans B4.size hb
      have hdis : 0 < xs.length → ∀ k, blk av k → k ≠ b ∧ ¬ blk none k := by
        intro h0 k ⟨off, sp, hk⟩
        obtain ⟨b', off', e, hc⟩ := hat4 0 h0
        rw [hk] at e
        simp only [Option.some.injEq, Addr.mk.injEq] at e
        obtain ⟨rfl, _, _⟩ := e
        have := World.block_lt_of_cell? w5 _ hc
        simp only at this
        exact ⟨by omega, fun ⟨_, _, h⟩ => by cases h⟩
      clear hat4 B4 hb6
      go_wp2_with fail
      refine (wints_any b none 0 65536 _ av capv xs w6 hw6 hat6 hdis (by omega) hxs.1).mono ?_
      rintro x w7 ⟨rfl, hq⟩
      obtain ⟨a7, cap7, hw7, hs7⟩ := hq
      clear hat6 hw6
      go_wp2_with fail
      refine (wtext_any b a7 cap7 65536 _ t w7 hw7 (by omega)).mono ?_
      rintro x w8 ⟨rfl, hq⟩
      obtain ⟨a8, cap8, hw8, hs8⟩ := hq
      have S8 := hs7.trans hs8
      clear hw7 hs7 hs8
      go_wp2_with fail
      refine (wint_any b a8 cap8 65536 _ n w8 hw8 hn).mono ?_
      rintro x w9 ⟨rfl, hq⟩
      obtain ⟨a9, cap9, hw9, hs9⟩ := hq
      have S9 := S8.trans hs9
      have B9 := B6.trans (S9.below hwb (fun k ⟨_, _, h⟩ => by cases h) B6.size)
      rw [HLAY.out] at hw9
      clear hw8 hs9 S8 S9 B6
      go_wp2_with fail
      refine (wdone_any b a9 cap9 65536 _ w9 hw9).mono ?_
      rintro x w10 ⟨rfl, hb10⟩
      have B10 := B9.trans (hb10.mono B9.size)
      simp only
      clear hw9 B9 hb10
      go_wp2_with fail
      refine (awake_any _).mono ?_
      rintro x w11 ⟨rfl, hb11⟩
      go_wp2
      go_ret
      exact ⟨rfl, B10.trans (hb11.mono B10.size)⟩
    · rw [hd]
      clear hd he hat4 hr4 HP
      go_wp2_with fail
      refine (awake_any _).mono ?_
      rintro x w6 ⟨rfl, hb6⟩
      go_wp2
      go_ret
      exact ⟨rfl, B4.trans (hb6.mono B4.size)⟩

set_option maxRecDepth 100000 in
theorem only_lifted (os : Os) (started : os.Started) (H : Type) (enc : TypeId × Value → H) :
    ReturnsInHanded {} Try.checked os 6 .any (Rows.codecOnlySpec.pre6 enc Try.prog Try.f6 Rows.codecOnlyRow.domain false) (Rows.codecOnlySpec.post enc Try.prog Try.f6 false true false false) := by
  refine returnsInHanded_of_change (C := Try.checked) own started (by kernel_rfl) Try.func6
    (ChangeSpec.witness6 (enc := enc) (C := Try.checked) false ⟨#[], #[.string ByteArray.empty], []⟩ 8 (by kernel_rfl) (by kernel_rfl) (by kernel_rfl) (by kernel_rfl)) ?_
  intro W base args ds gs before hval0 hW hcnd _
  have hval : ∀ (j : Nat) t v, Try.f6.params[j]? = some t → args[j]? = some v → Value.okWide Try.prog W .any base t v := hval0
  have hW' := hW
  obtain ⟨p, q, hA0, hV, rfl, hfz, hnd⟩ := hW
  have hA : DataW.TrodAll enc Try.prog W 0 (fun _ => true) true Try.f6.params.toList args.toList ds p := hA0
  rw [Try.params6] at hA hval
  obtain ⟨v0, vs0, d0, ds0, p0, q0, hargs, rfl, rfl, h0, r0⟩ := trodAll_cons hA
  obtain ⟨rfl, rfl, rfl⟩ := trodAll_nil r0
  obtain rfl : args = #[v0] := by cases args; simp_all
  obtain ⟨rfl, rfl⟩ := trodVars_none hV
  obtain ⟨a0, rfl, rfl, rfl, w0⟩ := open_string Try.underlying9 (hval 0 9 v0 rfl rfl) h0
  clear hA0 hval0
  refine (only_walk a0 W w0).mono fun e W' ⟨he, bel⟩ => ?_
  subst he
  exact ⟨_, rfl, _, _, _, [], [], [], hW', trodAll_mk1 (shut_bool Try.underlying4 _), (trodAll_cons_mk (shut_string Try.underlying9 w0) trodAll_mk0), rfl, bel.frame _, fun h => by cases h⟩

theorem only_holds : Rows.CodecOnlySaid :=
  OpenClaim.holds_of_wide 6 Try.f6 rfl rfl rfl rfl rfl rfl rfl ⟨rfl, rfl, rfl, rfl, rfl⟩ rfl rfl rfl rfl rfl (by kernel_rfl) Try.func6 (by kernel_rfl)
    (of_decide_eq_true (by kernel_rfl)) (by unfold Func.isWrapper; first | (rw [if_pos (by decide +kernel)]; kernel_rfl) | (rw [if_neg (by decide +kernel)]; exact ⟨rfl, rfl⟩))
    (fun os started H enc _ => only_lifted os started H enc)
#print axioms only_holds

end Go.Proofs.Ytanpplndoemgoaa
