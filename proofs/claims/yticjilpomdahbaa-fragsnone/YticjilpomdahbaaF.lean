/-
  A crash.
-/
import Derived.Test.YticjilpomdahbaaE
import Derived.Test.YticjilpomdahbaaB
import Derived.WalkSmall
namespace Go.Proofs.Yticjilpomdahbaa
open Go.RowKit
open M (ofL ofL_size ofL_of)
set_option linter.unusedVariables false

set_option maxRecDepth 100000 in
set_option maxHeartbeats 1000000 in
/-- A text laid over another one's beginning. -/
theorem put_any (s t : ByteArray) (w : World) (hs : s.size = 64) (ht : t.size ≤ 64) :
    Calls Try.prog 52 #[.string s, .int .i64 0, .string t] w fun e w' => e = .returned (.tuple #[.string (ofL (M.over s.data.toList 0 t.data.toList)), .int .i64 0]) ∧ Below w.heap.size w w' := by
  obtain ⟨i0, hi, hz0, hz1, hz2⟩ := info_parts Try.info5
  have hmx : max (64 : Int) (t.size : Int) = 64 := by omega
  have hd : decide (65536 - (t.size : Int) < 0) = false := by simp; omega
  go_enter Try.func52, Try.ntmps52
  go_wp2_with (at_make; refine wpList_make_full _ rfl (.tmp 27) (.tmp 27) 67 rfl w.heap.size 5 i0 (.int .u8 0) 1 Try.underlying67 hi hz0 hz1 .i64 .i64 _ _ 64 rfl rfl (by omega) (by omega) (by rw [hz2]; omega) (by unfold maxLen; omega) (Nat.le_refl _) ?_; intro w1 ho hg; rw [made_cells] at ho; have hrow := row_of_owns (by simp) ho; clear ho)
  refine (lay_any w.heap.size 0 64 64 _ s _ hrow (by omega) (by rw [List.length_replicate]; omega) (by omega)).mono ?_
  rintro e w2 ⟨rfl, hrow2, hg2⟩
  rw [over_pad _ _ (by rw [len_data]; omega), show pad s.data.toList 64 = s.data.toList by simp [pad, hs]] at hrow2
  have hb2 := ((Below.refl _ _).grown hg (Nat.le_refl _) (by simp)).grown hg2 (by have := hg.size; omega) (by simp)
  have hz2' : w.heap.size ≤ w2.heap.size := hb2.size
  clear hrow hg hg2
  go_wp2_with fail
  refine (lay_any w.heap.size 0 64 64 _ t _ hrow2 (by omega) (by rw [len_data]; omega) (by omega)).mono ?_
  rintro e w3 ⟨rfl, hrow3, hg3⟩
  have hcv := hrow3.convert 64 64 (by rw [M.over_length _ _ _ (by rw [len_data, len_data]; omega), len_data, hs])
  have hb3 := hb2.grown hg3 hz2' (by simp)
  clear hrow2 hrow3 hg3
  go_wp2
  go_ret2
  exact ⟨rfl, hb3⟩
theorem torn_eq (p : M.Pl) (tear : Nat) (h1 : p.1.size = 64) (h2 : p.2.size = 64) (h3 : tear ≤ 64) : ofL (M.over p.1.data.toList 0 (p.2.extract 0 tear).data.toList) = M.torn p tear := by
  have hl : (p.2.extract 0 tear).data.toList.length = tear := by rw [len_data, ByteArray.size_extract]; omega
  apply ByteArray.ext
  apply Array.ext'
  unfold M.torn M.over
  rw [ByteArray.data_append, Array.toList_append, ofL_data, List.take_zero, List.nil_append, hl, Nat.zero_add, extract_list p.1 tear 64 (by omega)]
  congr 1
  rw [List.take_of_length_le (by rw [List.length_drop, len_data]; omega)]
/-- The k-th bit of keep. -/
theorem bit_kept (keep k : Nat) (hk : keep < 18446744073709551616) : bits .and .u64 ((keep : Int) / 2 ^ min k 64) 1 = bif M.kept keep k then 1 else 0 := by
  have e : (keep : Int) / 2 ^ min k 64 = ((keep / 2 ^ min k 64 : Nat) : Int) := by simp
  have hle : keep / 2 ^ min k 64 ≤ keep := Nat.div_le_self _ _
  have hd : keep / 2 ^ min k 64 = keep / 2 ^ k := by
    rcases Nat.lt_or_ge k 64 with h | h
    · rw [Nat.min_eq_left (by omega)]
    · rw [Nat.min_eq_right h, Nat.div_eq_of_lt (by omega), Nat.div_eq_of_lt]
      have : 2 ^ 64 ≤ 2 ^ k := Nat.pow_le_pow_right (by decide) h
      omega
  rw [hd] at e hle
  rw [e]
  unfold M.kept
  generalize keep / 2 ^ k = q at *
  rw [and_one_u64 _ (by omega) (by omega)]
  rcases Nat.mod_two_eq_zero_or_one q with h | h
  · have h' : (q : Int) % 2 = 0 := by omega
    simp [h, h']
  · have h' : (q : Int) % 2 = 1 := by omega
    simp [h, h']
theorem ci_step {P : List M.Pl} {keep : Nat} {tear : Int} {k : Nat} {t : Bool} {Q : List M.Pl} (h : M.CI P keep tear k t Q) (hk : k < (M.lo P).length) :
    ∃ i p, (M.lo P)[k] = i ∧ Q[i]? = some p ∧ i < P.length ∧ p.1.size = 64 ∧ p.2.size = 64 ∧ M.CI P keep tear (k + 1) (t && M.kept keep k) (Q.set i (M.nv keep tear.toNat k t p, M.E)) := by
  obtain ⟨hi, h1, h2, h3⟩ := h.step hk
  exact ⟨_, _, rfl, List.getElem?_eq_getElem hi, by rw [← h.len]; exact hi, h1, h2, h3⟩
section
variable {w : World} {g i : Nat} {Q : List M.Pl} {p : M.Pl}
theorem PR.c' (h : PR w g Q) (hi : Q[i]? = some p) : w.cell? ⟨g, i * 2, none⟩ = some (.string p.1) ∧ w.cell? ⟨g, i * 2 + 1, none⟩ = some (.string p.2) := by
  obtain ⟨h1, rfl⟩ := List.getElem?_eq_some_iff.1 hi
  exact h.c i h1
theorem PR.s0 (h : PR w g Q) (hi : Q[i]? = some p) (s : ByteArray) : PR (w.setCell ⟨g, i * 2, none⟩ (.string s)) g (Q.set i (s, p.2)) ∧ (Q.set i (s, p.2))[i]? = some (s, p.2) := by
  obtain ⟨h1, rfl⟩ := List.getElem?_eq_some_iff.1 hi
  exact ⟨h.set0 i h1 s, by simp [h1]⟩
theorem PR.s1 (h : PR w g Q) (hi : Q[i]? = some p) (s : ByteArray) : PR (w.setCell ⟨g, i * 2 + 1, none⟩ (.string s)) g (Q.set i (p.1, s)) ∧ (Q.set i (p.1, s))[i]? = some (p.1, s) := by
  obtain ⟨h1, rfl⟩ := List.getElem?_eq_some_iff.1 hi
  exact ⟨h.set1 i h1 s, by simp [h1]⟩
end
set_option maxRecDepth 100000 in
set_option maxHeartbeats 2000000 in
theorem crash_any (base b g : Nat) (vl : Value) (n : Nat) (P : List M.Pl) (ls : List Nat) (keep : Nat) (tear : Int) (w : World) (h : DI w base b g vl n P ls) (hk : keep < 18446744073709551616) :
    Calls Try.prog 29 #[.pointer (some ⟨b, 0, none⟩), .int .u64 keep, .int .i64 tear] w (ChOut w base b g vl n (M.crash P keep tear) (.tuple #[])) := by
  have hloo := loose_any base b g vl n P ls w h
  have HX := Hid_of h
  have hn := h.n1
  have hlol : (M.lo P).length ≤ 4096 := by have := M.lo_len P; have := h.len; omega
  obtain ⟨T0, hT0⟩ : ∃ T0, M.tears tear = T0 := ⟨_, rfl⟩
  have HC0 : Hid (M.CI P keep tear 0 T0 P) := by rw [← hT0]; exact M.CI.start h.ok keep tear
  have hTc : (¬ 1 ≤ tear ∧ T0 = false) ∨ (1 ≤ tear ∧ T0 = decide (tear < 64)) := by
    by_cases h1 : 1 ≤ tear
    · exact .inr ⟨h1, by rw [← hT0]; unfold M.tears; rw [decide_eq_true h1, Bool.true_and]⟩
    · exact .inl ⟨h1, by rw [← hT0]; unfold M.tears; rw [decide_eq_false h1, Bool.false_and]⟩
  clear h hT0
  rcases hTc with ⟨h1, rfl⟩ | ⟨h1, rfl⟩
  all_goals
    go_enter Try.func29, Try.ntmps29
    go_wp2_with fail
    refine hloo.mono ?_
    rintro e w2 ⟨v, rfl, ho, hb2⟩
    obtain ⟨a, cap, rfl, hat, hbl, _⟩ := owns_at ho
    have HX2 := Hid_of (HX.out.keep hb2)
    have HAT : Hid (AtV w2 a (IC (M.zs (M.lo P))) ∧ ∀ k, blk a k → k ≠ g) := ⟨hat, fun k hk e => by have := (hbl k hk).1; have := HX.out.pl.lt; omega⟩
    have HB2 := Hid_of hb2
    have hzl := M.zs_len (M.lo P)
    clear hloo ho hb2 hat hbl HX
    generalize hLL : (M.lo P).length = ll at *
    go_wp2
    go_loopw [6, 22] (fun t i wr => ∃ (k : Nat) (T : Bool) (Q : List M.Pl), k ≤ ll ∧ t = .bool T ∧ i = .int .i64 k ∧ M.CI P keep tear k T Q ∧ PR wr g Q ∧ w2.grownBy wr (some g)) (fun _ i _ => ll - (intOf i).toNat)
    case atStart => exact ⟨0, _, P, Nat.zero_le _, rfl, rfl, HC0.out, HX2.out.pl, World.grownBy.refl _ _⟩
    case round =>
      obtain ⟨k, T, Q, hkl, rfl, rfl, hCI, hp, hg⟩ := hrel
      have hrow : wr.heap[b]? = _ := (hg.block b HX2.out.lt (fun e => HX2.out.ne.1 (by cases e; rfl))).trans HX2.out.row
      obtain ⟨⟨s0, s1, s2, s3⟩, sf⟩ := row4 hrow
      by_cases hlt : k < ll
      · obtain ⟨bb, off, rfl, c0⟩ := (HAT.out.1.keepBut (w' := wr) fun j hj hbl => hg.block j hj (fun e => HAT.out.2 j hbl (by cases e; rfl))).int k (by omega)
        rw [M.zs_get _ k (by omega)] at c0
        obtain ⟨i, p, hi, hpi, hiP, h64, h642, hCI2⟩ := ci_step hCI (by omega)
        rw [hi] at c0
        have hin : i < n := by rw [← HX2.out.len]; exact hiP
        have HCI2 := Hid_of hCI2
        obtain ⟨p0, p1⟩ := hp.c' hpi
        have HP := Hid_of (And.intro hp hpi)
        have HG := Hid_of hg
        have HT := Hid_of hCI.t
        have pf0 := hp.free (i * 2)
        have pf1 := hp.free (i * 2 + 1)
        clear hCI hp hg hCI2 hrow sf hpi hi
        have hbit := bit_kept keep k hk
        cases hkp : M.kept keep k with
        | true =>
          rw [hkp] at hbit
          have HN : Hid (M.CI P keep tear (k + 1) T (Q.set i (p.2, M.E)) ∧ PR ((wr.setCell ⟨g, i * 2, none⟩ (.string p.2)).setCell ⟨g, i * 2 + 1, none⟩ (.string M.E)) g (Q.set i (p.2, M.E)) ∧ w2.grownBy ((wr.setCell ⟨g, i * 2, none⟩ (.string p.2)).setCell ⟨g, i * 2 + 1, none⟩ (.string M.E)) (some g)) := by
            refine ⟨?_, ?_, grown_trans (grown_trans HG.out (grown_set _ _ _ _)) (grown_set _ _ _ _)⟩
            · have := HCI2.out
              unfold M.nv at this
              rw [hkp, Bool.and_true] at this
              exact this
            · obtain ⟨q1, q2⟩ := HP.out.1.s0 HP.out.2 p.2
              have := (q1.s1 q2 M.E).1
              simpa using this
          clear HCI2 HP HG HT hkp HX2 HAT HC0 HB2
          generalize p.1 = pa at *
          generalize p.2 = pb at *
          simp only [cond_true] at hbit
          go_wp2
          go_roundw
          case rel => exact ⟨k + 1, T, _, by omega, rfl, by go_num, HN.out⟩
          case measure => simp [intOf]; omega
        | false =>
          rw [hkp] at hbit
          cases T with
          | false =>
            have HN : Hid (M.CI P keep tear (k + 1) false (Q.set i (p.1, M.E)) ∧ PR (wr.setCell ⟨g, i * 2 + 1, none⟩ (.string M.E)) g (Q.set i (p.1, M.E)) ∧ w2.grownBy (wr.setCell ⟨g, i * 2 + 1, none⟩ (.string M.E)) (some g)) := by
              refine ⟨?_, (HP.out.1.s1 HP.out.2 M.E).1, grown_trans HG.out (grown_set _ _ _ _)⟩
              have := HCI2.out
              unfold M.nv at this
              rw [hkp, Bool.false_and] at this
              exact this
            clear HCI2 HP HG HT hkp HX2 HAT HC0 HB2
            generalize p.1 = pa at *
            generalize p.2 = pb at *
            simp only [cond_false] at hbit
            go_wp2
            go_roundw
            case rel => exact ⟨k + 1, false, _, by omega, rfl, by go_num, HN.out⟩
            case measure => simp [intOf]; omega
          | true =>
            have htt := HT.out rfl
            unfold M.tears at htt
            simp only [Bool.and_eq_true, decide_eq_true_eq] at htt
            first
              | (exfalso; omega)
              | (obtain ⟨tt, rfl⟩ := Int.eq_ofNat_of_zero_le (show 0 ≤ tear by omega)
                 have ht1 : 1 ≤ tt := by omega
                 have ht2 : tt < 64 := by omega
                 have htz : (tt : Int) ≤ 64 := by omega
                 have hext : (p.2.extract 0 tt).size = tt := by rw [ByteArray.size_extract]; omega
                 have hput := fun W => put_any p.1 (p.2.extract 0 tt) W h64 (by omega)
                 rw [torn_eq p tt h64 h642 (by omega)] at hput
                 have HW : Hid (∀ w4, Below wr.heap.size wr w4 → (w4.cell? ⟨g, i * 2, none⟩ = some (.string p.1) ∧ w4.cell? ⟨g, i * 2 + 1, none⟩ = some (.string p.2) ∧ w4.frozen? ⟨g, i * 2, none⟩ = false ∧ w4.frozen? ⟨g, i * 2 + 1, none⟩ = false) ∧
                     ∀ W, W = ((w4.setCell ⟨g, i * 2 + 1, none⟩ (.string (M.torn p tt))).setCell ⟨g, i * 2, none⟩ (.string (M.torn p tt))).setCell ⟨g, i * 2 + 1, none⟩ (.string M.E) → M.CI P keep (tt : Int) (k + 1) false (Q.set i (M.torn p tt, M.E)) ∧ PR W g (Q.set i (M.torn p tt, M.E)) ∧ w2.grownBy W (some g)) := by
                   intro w4 hb4
                   have hp4 : PR w4 g Q := (hb4.block g HP.out.1.lt).trans HP.out.1
                   obtain ⟨q0, q1⟩ := hp4.c' HP.out.2
                   refine ⟨⟨q0, q1, hp4.free _, hp4.free _⟩, ?_⟩
                   rintro W rfl
                   refine ⟨?_, ?_, ?_⟩
                   · have := HCI2.out
                     unfold M.nv at this
                     rw [hkp, Bool.true_and, Int.toNat_natCast] at this
                     exact this
                   · obtain ⟨r1, r2⟩ := hp4.s1 HP.out.2 (M.torn p tt)
                     obtain ⟨r3, r4⟩ := r1.s0 r2 (M.torn p tt)
                     have := (r3.s1 r4 M.E).1
                     simpa using this
                   · have hg4 : w2.grownBy w4 (some g) := ⟨hb4.os.trans HG.out.os, hb4.tape.trans HG.out.tape, hb4.output.trans HG.out.output, Nat.le_trans HG.out.size hb4.size, fun j hj hn => (hb4.block j (Nat.lt_of_lt_of_le hj HG.out.size)).trans (HG.out.block j hj hn)⟩
                     exact grown_trans (grown_trans (grown_trans hg4 (grown_set _ _ _ _)) (grown_set _ _ _ _)) (grown_set _ _ _ _)
                 clear HCI2 HP HG HT hkp HX2 HAT HC0 HB2 htt
                 generalize M.torn p tt = tn at *
                 generalize hpa : p.1 = pa at *
                 generalize hpb : p.2 = pb at *
                 clear hpa hpb
                 simp only [cond_false] at hbit
                 go_wp2_with fail
                 go_region_law (first
                   | (go_simp; go_at_call 52; refine (hput _).mono ?_; rintro e w4 ⟨rfl, hb4⟩; obtain ⟨⟨k0, k1, k2, k3⟩, hfin⟩ := HW.out w4 (Below.trans (Below.drew (Below.refl _ _)) hb4); have HF := Hid_of hfin; clear hfin hb4; go_simp))
                 all_goals
                   go_wp2
                   go_roundw
                   case rel => exact ⟨k + 1, false, _, by omega, rfl, by go_num, HF.out _ rfl⟩
                   case measure => simp [intOf]; omega)
      · obtain rfl : k = ll := by omega
        subst hLL
        obtain ⟨e1, e2, e3, e4⟩ := hCI.done
        subst e1
        obtain ⟨q1, q2⟩ := HX2.out.none hg hp e2 e3 e4
        have HK : Hid (ChOut w base b g vl n (M.crash P keep tear) (.tuple #[]) (.returned (.tuple #[])) (wr.setCell ⟨b, 2, none⟩ (.slice none 0 0))) := ⟨_, [], rfl, q1, (Ch.ofBelow HB2.out).trans q2⟩
        have sf2 := sf 2
        clear q1 q2 hp hg HX2 HAT hrow sf hCI e2 e3 e4 HC0 HB2
        go_wp2
        go_end0
        exact HK.out
end Go.Proofs.Yticjilpomdahbaa
