/-
  A crash.
  Sectors are read.
  A device that is lost; one that is none; a sector of one byte; ints held against each other.
-/
import Derived.Test.YtlnedgjikkhplaaGreatGN16
import Derived.Test.YtlnedgjikkhplaaGreatGN17
import Derived.WalkSmall
section
namespace Go.Proofs.YtlnedgjikkhplaaGreat.Ns
open Go.RowKit
open M (ofL ofL_size ofL_of)
set_option linter.unusedVariables false

set_option maxRecDepth 100000 in
set_option maxHeartbeats 1000000 in
/-- A text laid over another one's beginning. -/
theorem put_any (s t : ByteArray) (w : World) (hs : s.size = 64) (ht : t.size ≤ 64) :
    Calls Tryz.prog 49 #[.string s, .int .i64 0, .string t] w fun e w' => e = .returned (.tuple #[.string (ofL (M.over s.data.toList 0 t.data.toList)), .int .i64 0]) ∧ Below w.heap.size w w' := by
  obtain ⟨i0, hi, hz0, hz1, hz2⟩ := info_parts Tryz.info5
  have hmx : max (64 : Int) (t.size : Int) = 64 := by omega
  have hd : decide (65536 - (t.size : Int) < 0) = false := by simp; omega
  go_enter Tryz.func49, Tryz.ntmps49
  go_wp2_with (at_make; refine wpList_make_full _ rfl (.tmp 27) (.tmp 27) 138 rfl w.heap.size 5 i0 (.int .u8 0) 1 Tryz.underlying138 hi hz0 hz1 .i64 .i64 _ _ 64 rfl rfl (by omega) (by omega) (by rw [hz2]; omega) (by unfold maxLen; omega) (Nat.le_refl _) ?_; intro w1 ho hg; rw [made_cells] at ho; have hrow := row_of_owns (by simp) ho; clear ho)
  refine (lay_any w.heap.size 0 64 64 _ s _ hrow (by omega) (by rw [List.length_replicate]; omega) (by omega)).mono ?_
  rintro e w2 ⟨rfl, hrow2, hg2⟩
  rw [over_pad _ _ (by rw [len_data]; omega), show pad s.data.toList 64 = s.data.toList by simp [pad, hs]] at hrow2
  have hb2 := ((Below.refl _ _).grown hg (Nat.le_refl _) (by simp)).grown hg2 (by have := hg.size; omega) (by simp)
  have hz2' : w.heap.size ≤ w2.heap.size := hb2.size
  clear hrow hg hg2
  go_wp2_with fail
  refine (lay_any w.heap.size 0 64 64 _ t _ hrow2 (by omega) (by rw [len_data]; omega) (by omega)).mono ?_
  rintro e w3 ⟨rfl, hrow3, hg3⟩
  have hcv := hrow3.convert 64 64 (by rw [M.over_length _ _ _ (by rw [len_data, len_data]; omega), len_data, hs])
  have hb3 := hb2.grown hg3 hz2' (by simp)
  clear hrow2 hrow3 hg3
  go_wp2
  go_ret2
  exact ⟨rfl, hb3⟩
theorem torn_eq (p : M.Pl) (tear : Nat) (h1 : p.1.size = 64) (h2 : p.2.size = 64) (h3 : tear ≤ 64) : ofL (M.over p.1.data.toList 0 (p.2.extract 0 tear).data.toList) = M.torn p tear := by
  have hl : (p.2.extract 0 tear).data.toList.length = tear := by rw [len_data, ByteArray.size_extract]; omega
  apply ByteArray.ext
  apply Array.ext'
  unfold M.torn M.over
  rw [ByteArray.data_append, Array.toList_append, ofL_data, List.take_zero, List.nil_append, hl, Nat.zero_add, extract_list p.1 tear 64 (by omega)]
  congr 1
  rw [List.take_of_length_le (by rw [List.length_drop, len_data]; omega)]
/-- The k-th bit of keep. -/
theorem bit_kept (keep k : Nat) (hk : keep < 18446744073709551616) : bits .and .u64 ((keep : Int) / 2 ^ min k 64) 1 = bif M.kept keep k then 1 else 0 := by
  have e : (keep : Int) / 2 ^ min k 64 = ((keep / 2 ^ min k 64 : Nat) : Int) := by simp
  have hle : keep / 2 ^ min k 64 ≤ keep := Nat.div_le_self _ _
  have hd : keep / 2 ^ min k 64 = keep / 2 ^ k := by
    rcases Nat.lt_or_ge k 64 with h | h
    · rw [Nat.min_eq_left (by omega)]
    · rw [Nat.min_eq_right h, Nat.div_eq_of_lt (by omega), Nat.div_eq_of_lt]
      have : 2 ^ 64 ≤ 2 ^ k := Nat.pow_le_pow_right (by decide) h
      omega
  rw [hd] at e hle
  rw [e]
  unfold M.kept
  generalize keep / 2 ^ k = q at *
  rw [and_one_u64 _ (by omega) (by omega)]
  rcases Nat.mod_two_eq_zero_or_one q with h | h
  · have h' : (q : Int) % 2 = 0 := by omega
    simp [h, h']
  · have h' : (q : Int) % 2 = 1 := by omega
    simp [h, h']
theorem ci_step {P : List M.Pl} {keep : Nat} {tear : Int} {k : Nat} {t : Bool} {Q : List M.Pl} (h : M.CI P keep tear k t Q) (hk : k < (M.lo P).length) :
    ∃ i p, (M.lo P)[k] = i ∧ Q[i]? = some p ∧ i < P.length ∧ p.1.size = 64 ∧ p.2.size = 64 ∧ M.CI P keep tear (k + 1) (t && M.kept keep k) (Q.set i (M.nv keep tear.toNat k t p, M.E)) := by
  obtain ⟨hi, h1, h2, h3⟩ := h.step hk
  exact ⟨_, _, rfl, List.getElem?_eq_getElem hi, by rw [← h.len]; exact hi, h1, h2, h3⟩
section
variable {w : World} {g i : Nat} {Q : List M.Pl} {p : M.Pl}
theorem PR.c' (h : PR w g Q) (hi : Q[i]? = some p) : w.cell? ⟨g, i * 2, none⟩ = some (.string p.1) ∧ w.cell? ⟨g, i * 2 + 1, none⟩ = some (.string p.2) := by
  obtain ⟨h1, rfl⟩ := List.getElem?_eq_some_iff.1 hi
  exact h.c i h1
theorem PR.s0 (h : PR w g Q) (hi : Q[i]? = some p) (s : ByteArray) : PR (w.setCell ⟨g, i * 2, none⟩ (.string s)) g (Q.set i (s, p.2)) ∧ (Q.set i (s, p.2))[i]? = some (s, p.2) := by
  obtain ⟨h1, rfl⟩ := List.getElem?_eq_some_iff.1 hi
  exact ⟨h.set0 i h1 s, by simp [h1]⟩
theorem PR.s1 (h : PR w g Q) (hi : Q[i]? = some p) (s : ByteArray) : PR (w.setCell ⟨g, i * 2 + 1, none⟩ (.string s)) g (Q.set i (p.1, s)) ∧ (Q.set i (p.1, s))[i]? = some (p.1, s) := by
  obtain ⟨h1, rfl⟩ := List.getElem?_eq_some_iff.1 hi
  exact ⟨h.set1 i h1 s, by simp [h1]⟩
end
set_option maxRecDepth 100000 in
set_option maxHeartbeats 2000000 in
theorem crash_any (base b g : Nat) (vl : Value) (n : Nat) (P : List M.Pl) (ls : List Nat) (keep : Nat) (tear : Int) (w : World) (h : DI w base b g vl n P ls) (hk : keep < 18446744073709551616) :
    Calls Tryz.prog 14 #[.pointer (some ⟨b, 0, none⟩), .int .u64 keep, .int .i64 tear] w (ChOut w base b g vl n (M.crash P keep tear) (.tuple #[])) := by
  have hloo := loose_any base b g vl n P ls w h
  have HX := Hid_of h
  have hn := h.n1
  have hlol : (M.lo P).length ≤ 4096 := by have := M.lo_len P; have := h.len; omega
  obtain ⟨T0, hT0⟩ : ∃ T0, M.tears tear = T0 := ⟨_, rfl⟩
  have HC0 : Hid (M.CI P keep tear 0 T0 P) := by rw [← hT0]; exact M.CI.start h.ok keep tear
  have hTc : (¬ 1 ≤ tear ∧ T0 = false) ∨ (1 ≤ tear ∧ T0 = decide (tear < 64)) := by
    by_cases h1 : 1 ≤ tear
    · exact .inr ⟨h1, by rw [← hT0]; unfold M.tears; rw [decide_eq_true h1, Bool.true_and]⟩
    · exact .inl ⟨h1, by rw [← hT0]; unfold M.tears; rw [decide_eq_false h1, Bool.false_and]⟩
  clear h hT0
  rcases hTc with ⟨h1, rfl⟩ | ⟨h1, rfl⟩
  all_goals
    go_enter Tryz.func14, Tryz.ntmps14
    go_wp2_with fail
    refine hloo.mono ?_
    rintro e w2 ⟨v, rfl, ho, hb2⟩
    obtain ⟨a, cap, rfl, hat, hbl, _⟩ := owns_at ho
    have HX2 := Hid_of (HX.out.keep hb2)
    have HAT : Hid (AtV w2 a (IC (M.zs (M.lo P))) ∧ ∀ k, blk a k → k ≠ g) := ⟨hat, fun k hk e => by have := (hbl k hk).1; have := HX.out.pl.lt; omega⟩
    have HB2 := Hid_of hb2
    have hzl := M.zs_len (M.lo P)
    clear hloo ho hb2 hat hbl HX
    generalize hLL : (M.lo P).length = ll at *
    go_wp2
    go_loopw [6, 22] (fun t i wr => ∃ (k : Nat) (T : Bool) (Q : List M.Pl), k ≤ ll ∧ t = .bool T ∧ i = .int .i64 k ∧ M.CI P keep tear k T Q ∧ PR wr g Q ∧ w2.grownBy wr (some g)) (fun _ i _ => ll - (intOf i).toNat)
    case atStart => exact ⟨0, _, P, Nat.zero_le _, rfl, rfl, HC0.out, HX2.out.pl, World.grownBy.refl _ _⟩
    case round =>
      obtain ⟨k, T, Q, hkl, rfl, rfl, hCI, hp, hg⟩ := hrel
      have hrow : wr.heap[b]? = _ := (hg.block b HX2.out.lt (fun e => HX2.out.ne.1 (by cases e; rfl))).trans HX2.out.row
      obtain ⟨⟨s0, s1, s2, s3⟩, sf⟩ := row4 hrow
      by_cases hlt : k < ll
      · obtain ⟨bb, off, rfl, c0⟩ := (HAT.out.1.keepBut (w' := wr) fun j hj hbl => hg.block j hj (fun e => HAT.out.2 j hbl (by cases e; rfl))).int k (by omega)
        rw [M.zs_get _ k (by omega)] at c0
        obtain ⟨i, p, hi, hpi, hiP, h64, h642, hCI2⟩ := ci_step hCI (by omega)
        rw [hi] at c0
        have hin : i < n := by rw [← HX2.out.len]; exact hiP
        have HCI2 := Hid_of hCI2
        obtain ⟨p0, p1⟩ := hp.c' hpi
        have HP := Hid_of (And.intro hp hpi)
        have HG := Hid_of hg
        have HT := Hid_of hCI.t
        have pf0 := hp.free (i * 2)
        have pf1 := hp.free (i * 2 + 1)
        clear hCI hp hg hCI2 hrow sf hpi hi
        have hbit := bit_kept keep k hk
        cases hkp : M.kept keep k with
        | true =>
          rw [hkp] at hbit
          have HN : Hid (M.CI P keep tear (k + 1) T (Q.set i (p.2, M.E)) ∧ PR ((wr.setCell ⟨g, i * 2, none⟩ (.string p.2)).setCell ⟨g, i * 2 + 1, none⟩ (.string M.E)) g (Q.set i (p.2, M.E)) ∧ w2.grownBy ((wr.setCell ⟨g, i * 2, none⟩ (.string p.2)).setCell ⟨g, i * 2 + 1, none⟩ (.string M.E)) (some g)) := by
            refine ⟨?_, ?_, grown_trans (grown_trans HG.out (grown_set _ _ _ _)) (grown_set _ _ _ _)⟩
            · have := HCI2.out
              unfold M.nv at this
              rw [hkp, Bool.and_true] at this
              exact this
            · obtain ⟨q1, q2⟩ := HP.out.1.s0 HP.out.2 p.2
              have := (q1.s1 q2 M.E).1
              simpa using this
          clear HCI2 HP HG HT hkp HX2 HAT HC0 HB2
          generalize p.1 = pa at *
          generalize p.2 = pb at *
          simp only [cond_true] at hbit
          go_wp2
          go_roundw
          case rel => exact ⟨k + 1, T, _, by omega, rfl, by go_num, HN.out⟩
          case measure => simp [intOf]; omega
        | false =>
          rw [hkp] at hbit
          cases T with
          | false =>
            have HN : Hid (M.CI P keep tear (k + 1) false (Q.set i (p.1, M.E)) ∧ PR (wr.setCell ⟨g, i * 2 + 1, none⟩ (.string M.E)) g (Q.set i (p.1, M.E)) ∧ w2.grownBy (wr.setCell ⟨g, i * 2 + 1, none⟩ (.string M.E)) (some g)) := by
              refine ⟨?_, (HP.out.1.s1 HP.out.2 M.E).1, grown_trans HG.out (grown_set _ _ _ _)⟩
              have := HCI2.out
              unfold M.nv at this
              rw [hkp, Bool.false_and] at this
              exact this
            clear HCI2 HP HG HT hkp HX2 HAT HC0 HB2
            generalize p.1 = pa at *
            generalize p.2 = pb at *
            simp only [cond_false] at hbit
            go_wp2
            go_roundw
            case rel => exact ⟨k + 1, false, _, by omega, rfl, by go_num, HN.out⟩
            case measure => simp [intOf]; omega
          | true =>
            have htt := HT.out rfl
            unfold M.tears at htt
            simp only [Bool.and_eq_true, decide_eq_true_eq] at htt
            first
              | (exfalso; omega)
              | (obtain ⟨tt, rfl⟩ := Int.eq_ofNat_of_zero_le (show 0 ≤ tear by omega)
                 have ht1 : 1 ≤ tt := by omega
                 have ht2 : tt < 64 := by omega
                 have htz : (tt : Int) ≤ 64 := by omega
                 have hext : (p.2.extract 0 tt).size = tt := by rw [ByteArray.size_extract]; omega
                 have hput := fun W => put_any p.1 (p.2.extract 0 tt) W h64 (by omega)
                 rw [torn_eq p tt h64 h642 (by omega)] at hput
                 have HW : Hid (∀ w4, Below wr.heap.size wr w4 → (w4.cell? ⟨g, i * 2, none⟩ = some (.string p.1) ∧ w4.cell? ⟨g, i * 2 + 1, none⟩ = some (.string p.2) ∧ w4.frozen? ⟨g, i * 2, none⟩ = false ∧ w4.frozen? ⟨g, i * 2 + 1, none⟩ = false) ∧
                     ∀ W, W = ((w4.setCell ⟨g, i * 2 + 1, none⟩ (.string (M.torn p tt))).setCell ⟨g, i * 2, none⟩ (.string (M.torn p tt))).setCell ⟨g, i * 2 + 1, none⟩ (.string M.E) → M.CI P keep (tt : Int) (k + 1) false (Q.set i (M.torn p tt, M.E)) ∧ PR W g (Q.set i (M.torn p tt, M.E)) ∧ w2.grownBy W (some g)) := by
                   intro w4 hb4
                   have hp4 : PR w4 g Q := (hb4.block g HP.out.1.lt).trans HP.out.1
                   obtain ⟨q0, q1⟩ := hp4.c' HP.out.2
                   refine ⟨⟨q0, q1, hp4.free _, hp4.free _⟩, ?_⟩
                   rintro W rfl
                   refine ⟨?_, ?_, ?_⟩
                   · have := HCI2.out
                     unfold M.nv at this
                     rw [hkp, Bool.true_and, Int.toNat_natCast] at this
                     exact this
                   · obtain ⟨r1, r2⟩ := hp4.s1 HP.out.2 (M.torn p tt)
                     obtain ⟨r3, r4⟩ := r1.s0 r2 (M.torn p tt)
                     have := (r3.s1 r4 M.E).1
                     simpa using this
                   · have hg4 : w2.grownBy w4 (some g) := ⟨hb4.os.trans HG.out.os, hb4.tape.trans HG.out.tape, hb4.output.trans HG.out.output, Nat.le_trans HG.out.size hb4.size, fun j hj hn => (hb4.block j (Nat.lt_of_lt_of_le hj HG.out.size)).trans (HG.out.block j hj hn)⟩
                     exact grown_trans (grown_trans (grown_trans hg4 (grown_set _ _ _ _)) (grown_set _ _ _ _)) (grown_set _ _ _ _)
                 clear HCI2 HP HG HT hkp HX2 HAT HC0 HB2 htt
                 generalize M.torn p tt = tn at *
                 generalize hpa : p.1 = pa at *
                 generalize hpb : p.2 = pb at *
                 clear hpa hpb
                 simp only [cond_false] at hbit
                 go_wp2_with fail
                 go_region_law (first
                   | (go_simp; go_at_call 49; refine (hput _).mono ?_; rintro e w4 ⟨rfl, hb4⟩; obtain ⟨⟨k0, k1, k2, k3⟩, hfin⟩ := HW.out w4 (Below.trans (Below.drew (Below.refl _ _)) hb4); have HF := Hid_of hfin; clear hfin hb4; go_simp))
                 all_goals
                   go_wp2
                   go_roundw
                   case rel => exact ⟨k + 1, false, _, by omega, rfl, by go_num, HF.out _ rfl⟩
                   case measure => simp [intOf]; omega)
      · obtain rfl : k = ll := by omega
        subst hLL
        obtain ⟨e1, e2, e3, e4⟩ := hCI.done
        subst e1
        obtain ⟨q1, q2⟩ := HX2.out.none hg hp e2 e3 e4
        have HK : Hid (ChOut w base b g vl n (M.crash P keep tear) (.tuple #[]) (.returned (.tuple #[])) (wr.setCell ⟨b, 2, none⟩ (.slice none 0 0))) := ⟨_, [], rfl, q1, (Ch.ofBelow HB2.out).trans q2⟩
        have sf2 := sf 2
        clear q1 q2 hp hg HX2 HAT hrow sf hCI e2 e3 e4 HC0 HB2
        go_wp2
        go_end0
        exact HK.out
end Go.Proofs.YtlnedgjikkhplaaGreat.Ns
end
section
namespace Go.Proofs.YtlnedgjikkhplaaGreat.Ns
open Go.RowKit
set_option linter.unusedVariables false

theorem Tryz.size148 : (Tryz.prog.info? 148).map (·.size) = some 2 := by kernel_rfl
set_option maxRecDepth 100000 in
set_option maxHeartbeats 1000000 in
theorem bwrite_any (B b : Nat) (bs : List Value) (s : ByteArray) (w : World) (h : Lib.BuilderAt 148 5 B b (.pointer (some ⟨b, 0, none⟩)) bs w) (hlen : bs.length + s.size ≤ 100000000) (hBw : B ≤ w.heap.size) :
    Calls Tryz.prog 86 #[.pointer (some ⟨b, 0, none⟩), .string s] w fun e w' => e = .returned (.tuple #[.int .i64 s.size, .nilIface]) ∧ Lib.BuilderAt 148 5 B b (.pointer (some ⟨b, 0, none⟩)) (bs ++ Lib.strCells s) w' ∧ Below B w w' := by
  obtain ⟨i0, hi, hz0, hz1, hz2⟩ := info_parts Tryz.info5
  obtain ⟨hB, v, hbk, hown, hne⟩ := h
  have c0 : w.cell? ⟨b, 0, none⟩ = some (.pointer (some ⟨b, 0, none⟩)) := by rw [Lib.cell_of_heap hbk]; rfl
  have c1 : w.cell? ⟨b, 1, none⟩ = some v := by rw [Lib.cell_of_heap hbk]; rfl
  have hcc : Calls Tryz.prog 132 #[.pointer (some ⟨b, 0, none⟩)] w fun e w' => e = .returned (.tuple #[]) ∧ w' = w := by
    clear hown hbk hi hz0 hz1 hz2 c1
    obtain ⟨j, hj, hjs⟩ := Option.map_eq_some_iff.1 Tryz.size148
    go_enter Tryz.func132, Tryz.ntmps132
    go_wp2
    rw [Lib.run_neq_ptr_same w _ Tryz.underlying146 hj]
    go_wp2
    go_end0
    exact ⟨rfl, rfl⟩
  go_enter Tryz.func86, Tryz.ntmps86
  go_wp2_with fail
  refine hcc.mono ?_
  rintro e w1 ⟨rfl, rfl⟩
  clear hcc
  go_wp2_with (at_builtin; refine Lib.wpList_append_own_string _ rfl _ _ 138 9 rfl B 5 i0 Tryz.underlying138 Tryz.underlying9 hi hz0 hz1 hz2 _ _ _ rfl hown s rfl ?c3 ?c4 ?c5 ?_)
  case c3 => unfold maxLen; omega
  case c4 => omega
  case c5 => omega
  intro v' w2 hown' hgrow _
  have hlt : b < w1.heap.size := (Array.getElem?_eq_some_iff.1 hbk).1
  have hb2 : w2.heap[b]? = some (.cells #[.pointer (some ⟨b, 0, none⟩), v] 148 (0, 0)) := by
    rw [hgrow.block b hlt (fun e => hne e.symm)]
    exact hbk
  obtain ⟨⟨d0, d1⟩, df⟩ := row2 hb2
  have f1 := df 1
  obtain ⟨ao, n', cap, rfl⟩ : ∃ ao n' cap, v' = .slice ao n' cap := by
    rcases hown'.2 with ⟨hv, _⟩ | ⟨g, cap, cur, hv, _⟩
    · exact ⟨_, _, _, hv⟩
    · exact ⟨_, _, _, hv⟩
  have HK := Hid_of (And.intro (Lib.BuilderAt.put (T := 148) (e := 5) hB hb2 (bs' := bs ++ Lib.strCells s) (by simpa [Lib.strCells_length] using hown') (by decide)) (((Below.refl B w1).grown hgrow hBw (fun k hk => (hown.lt k hk).1)).setCell (p := ⟨b, 1, none⟩) hB (.slice ao n' cap)))
  clear hown hown' hgrow hbk df hb2
  go_wp2
  go_ret2
  exact ⟨rfl, HK.out⟩
set_option maxHeartbeats 1000000 in
theorem last_any (p : M.Pl) (hp : p.2.size = 64 ∨ p.2.size = 0) (w : World) : Calls Tryz.prog 87 #[.agg #[.string p.1, .string p.2]] w fun e w' => e = .returned (.string (M.last p)) ∧ Below w.heap.size w w' := by
  have HB : Hid (Below w.heap.size w (w.alloc (.cells #[.string p.1, .string p.2] 81))) := bel1 w _
  cases hl : M.lse p with
  | true =>
    rw [M.lse_yes hl]
    have h64 : p.2.size = 64 := by
      rcases hp with h' | h'
      · exact h'
      · unfold M.lse at hl; rw [h'] at hl; cases hl
    have he := ne_nil h64
    clear hl hp
    generalize p.1 = f at *
    generalize p.2 = s at *
    go_enter Tryz.func87, Tryz.ntmps87
    go_wp2
    go_ret
    exact ⟨rfl, HB.out⟩
  | false =>
    obtain ⟨e1, e2⟩ := M.lse_no hl
    rw [e1]
    rw [e2] at HB ⊢
    have he := is_nil
    clear hl hp e1 e2
    generalize p.1 = f at *
    go_enter Tryz.func87, Tryz.ntmps87
    go_wp2
    go_ret
    exact ⟨rfl, HB.out⟩
/-- A read's answer. -/
def RdOut (w : World) (n : Nat) (lost : Bool) (P : List M.Pl) (at' m : Int) (e : Ending) (w' : World) : Prop := e = .returned (.tuple #[.string (M.rtext n lost P at' m), .int .i64 (M.refused n lost at' m)]) ∧ Below w.heap.size w w'
set_option maxHeartbeats 1000000 in
/-- It is refused. -/
theorem read_no (b n : Nat) (v1 v2 : Value) (lost : Bool) (P : List M.Pl) (at' m : Int) (w : World) (h : w.heap[b]? = some (.cells #[.int .i64 n, v1, v2, .bool lost] 84 (0, 0))) (hn : n ≤ 4096) (hm : m ≤ 9223372036854775807) (hz : M.refused n lost at' m ≠ 0) :
    Calls Tryz.prog 35 #[.pointer (some ⟨b, 0, none⟩), .int .i64 at', .int .i64 m] w (RdOut w n lost P at' m) := by
  have href := refused_any b n v1 v2 lost at' m w h hn hm
  have HK : Hid (RdOut w n lost P at' m (.returned (.tuple #[.string M.E, .int .i64 (M.refused n lost at' m)])) w) := by
    unfold RdOut M.rtext
    rw [decide_eq_false hz]
    exact ⟨rfl, Below.refl _ _⟩
  have hz' : (M.refused n lost at' m == 0) = false := by simpa using hz
  generalize M.refused n lost at' m = r at *
  clear h
  go_enter Tryz.func35, Tryz.ntmps35
  go_wp2_with fail
  refine href.mono ?_
  rintro e w1 ⟨rfl, rfl⟩
  clear href
  go_wp2
  go_ret2
  exact HK.out
/-- What has been read so far. -/
def rd (P : List M.Pl) (a k : Nat) : List UInt8 := (((P.map M.last).drop a).take k).flatMap fun s => s.data.toList
theorem rd_step (P : List M.Pl) (a k : Nat) (h : a + k < P.length) : rd P a (k + 1) = rd P a k ++ (M.last P[a + k]).data.toList := by
  unfold rd
  have hl : k < ((P.map M.last).drop a).length := by simp; omega
  rw [List.take_succ_eq_append_getElem hl, List.flatMap_append]
  simp
theorem rd_len (P : List M.Pl) (a k : Nat) (h : M.Ok P) : (rd P a k).length ≤ k * 64 := by
  unfold rd
  rw [M.flat_len _ (fun s hs => by
    have := List.mem_of_mem_drop (List.mem_of_mem_take hs)
    obtain ⟨p, hp, rfl⟩ := List.mem_map.1 this
    exact h.last p hp), List.length_take]
  have : min k ((P.map M.last).drop a).length ≤ k := Nat.min_le_left _ _
  omega
set_option maxRecDepth 100000 in
set_option maxHeartbeats 2000000 in
theorem read_any (base b g : Nat) (vl : Value) (n : Nat) (P : List M.Pl) (ls : List Nat) (at' m : Int) (w : World) (h : DI w base b g vl n P ls) (hm : m ≤ 9223372036854775807) :
    Calls Tryz.prog 35 #[.pointer (some ⟨b, 0, none⟩), .int .i64 at', .int .i64 m] w (RdOut w n false P at' m) := by
  by_cases hz : M.refused n false at' m = 0
  · have href := refused_any b n _ _ false at' m w h.row h.n1.2 hm
    obtain ⟨_, a, k, rfl, rfl, hk1, hak⟩ := M.refused_ok hz
    have HW : Hid (∀ w', Below w.heap.size w w' → RdOut w n false P (a : Int) (k : Int) (.returned (.tuple #[.string ⟨(rd P a k).toArray⟩, .int .i64 0])) w') := fun w' hb => by
      unfold RdOut M.rtext
      rw [hz]
      exact ⟨rfl, hb⟩
    rw [hz] at href
    have hn := h.n1.2
    have HX := Hid_of h
    have hPl := h.len
    have HOK := Hid_of h.ok
    have hw1 : (w.alloc (.cells #[.pointer none, .slice none 0 0] 148)).heap.size = w.heap.size + 1 := by simp
    obtain ⟨W1, HW1⟩ : ∃ W1, Hid (w.alloc (.cells #[.pointer none, .slice none 0 0] 148) = W1) := ⟨_, rfl⟩
    have hgrow := Tryz.Builder_Grow_fresh w.heap.size w.heap.size (k * 64) W1 (Nat.le_refl _) (by rw [← HW1.out]; exact heap_alloc_last w _) (by rw [← HW1.out]; simp) (by omega)
    have HB1 : Hid (Below w.heap.size w W1) := by rw [← HW1.out]; exact bel1 w _
    clear h hz hw1
    go_enter Tryz.func35, Tryz.ntmps35
    go_wp2_with fail
    refine href.mono ?_
    rintro e w1 ⟨rfl, rfl⟩
    clear href
    go_wp2_with fail
    rw [HW1.out, show (k : Int) * 64 = ((k * 64 : Nat) : Int) by omega]
    refine hgrow.mono ?_
    rintro e w2 ⟨rfl, hB2, hb2⟩
    have HBB := Hid_of (And.intro hB2 (HB1.out.trans hb2))
    have hX2 := HX.out.keep (HB1.out.trans hb2)
    obtain ⟨⟨_, r1, _, _⟩, _⟩ := row4 hX2.row
    clear hgrow hB2 hb2 HB1 HW1 hX2
    go_wp2
    rw [show a + k - a = k by omega]
    go_loopw [32] (fun i wr => ∃ j : Nat, j ≤ k ∧ i = .int .i64 j ∧ Lib.BuilderAt 148 5 w1.heap.size w1.heap.size (.pointer (some ⟨w1.heap.size, 0, none⟩)) (Lib.byteCells (rd P a j)) wr ∧ Below w1.heap.size w1 wr) (fun i _ => k - (intOf i).toNat)
    case atStart => exact ⟨0, Nat.zero_le _, rfl, HBB.out⟩
    case round =>
      obtain ⟨j, hj, rfl, hBd, hbl⟩ := hrel
      by_cases hlt : j < k
      · have hiP : a + j < P.length := by omega
        obtain ⟨c0, c1⟩ := (HX.out.keep hbl).pl.c (a + j) hiP
        have hok := HOK.out.get (a + j) hiP
        have hsz : (M.last P[a + j]).size = 64 := HOK.out.last _ (List.getElem_mem hiP)
        have hrl := rd_len P a j HOK.out
        have HST := Hid_of (rd_step P a j hiP)
        have HBd := Hid_of hBd
        have HBl := Hid_of hbl
        obtain ⟨p, hp⟩ : ∃ p, P[a + j] = p := ⟨_, rfl⟩
        rw [hp] at c0 c1 hok hsz HST
        rw [show (a + j) * 2 = a * 2 + j * 2 by omega] at c0 c1
        obtain ⟨W3, HW3⟩ : ∃ W3, Hid (wr.alloc (.cells #[.string p.1, .string p.2] 81) = W3) := ⟨_, Hid_of rfl⟩
        have HB3 : Hid (Below wr.heap.size wr W3) := by rw [← HW3.out]; exact bel1 wr _
        have hla := last_any p hok.2 W3
        clear hBd hbl HX HOK HBB r1 hp hok
        go_wp2_with fail
        rw [HW3.out]
        refine hla.mono ?_
        rintro e w4 ⟨rfl, hb4⟩
        have hb5 := bel_up HB3.out hb4 (Nat.le_refl _)
        have hBd5 : Lib.BuilderAt 148 5 w1.heap.size w1.heap.size (.pointer (some ⟨w1.heap.size, 0, none⟩)) (Lib.byteCells (rd P a j)) w4 := by
          obtain ⟨q1, v, q2, q3, q4⟩ := HBd.out
          exact ⟨q1, v, (hb5.block _ (Array.getElem?_eq_some_iff.1 q2).1).trans q2, owns_keep q3 hb5, q4⟩
        have hwr := bwrite_any w1.heap.size w1.heap.size _ (M.last p) w4 hBd5 (by rw [Lib.byteCells_length, hsz]; omega) (by have := HBl.out.size; have := hb5.size; omega)
        rw [Lib.strCells_eq, ← Lib.byteCells_append, ← HST.out] at hwr
        have HB5 : Hid (Below w1.heap.size w1 w4) := bel_up HBl.out hb5 (Nat.le_refl _)
        clear hla hb4 hBd5 hb5 HBd HBl HB3 HW3 HST c0 c1
        generalize M.last p = lp at *
        go_wp2_with fail
        refine hwr.mono ?_
        rintro e w6 ⟨rfl, hB6, hb6⟩
        have HR := Hid_of (And.intro hB6 (HB5.out.trans hb6))
        clear hwr hB6 hb6 HB5
        go_wp2
        go_roundw
        case rel => exact ⟨j + 1, by omega, by go_num, HR.out⟩
        case measure => simp [intOf]; omega
      · obtain rfl : j = k := by omega
        have hstr := Tryz.Builder_String_any w1.heap.size w1.heap.size (rd P a j) wr (.inr hBd) hbl.size
        have HBl := Hid_of hbl
        clear hBd hbl HX HOK HBB r1
        go_wp2_with fail
        refine hstr.mono ?_
        rintro e w6 ⟨rfl, hb6⟩
        have HQ := Hid_of (HW.out w6 (HBl.out.trans hb6))
        clear hstr hb6 HBl HW
        go_wp2
        go_ret2
        exact HQ.out
  · exact read_no b n _ _ false P at' m w h.row h.n1.2 hm hz
end Go.Proofs.YtlnedgjikkhplaaGreat.Ns
end
section
namespace Go.Proofs.YtlnedgjikkhplaaGreat.Ns
open Go.RowKit
open M (ofL ofL_size ofL_of)
set_option linter.unusedVariables false

set_option maxRecDepth 100000 in
set_option maxHeartbeats 1000000 in
/-- A write that is refused. -/
theorem write_no (b n : Nat) (v1 v2 : Value) (lost : Bool) (at' : Int) (s : ByteArray) (w : World) (h : w.heap[b]? = some (.cells #[.int .i64 n, v1, v2, .bool lost] 84 (0, 0))) (hn : n ≤ 4096) (hs : s.size ≤ maxLen) (hz : M.wcode n lost at' s ≠ 0) :
    Calls Tryz.prog 71 #[.pointer (some ⟨b, 0, none⟩), .int .i64 at', .string s] w fun e w' => e = .returned (.int .i64 (M.wcode n lost at' s)) ∧ w' = w := by
  unfold maxLen at hs
  by_cases hm : s.size % 64 = 0
  · have hmi : (s.size : Int) % 64 = 0 := by omega
    have hmt : (s.size : Int).tmod 64 = 0 := by rw [Int.tmod_eq_emod_of_nonneg (by omega)]; exact hmi
    have hdv : (s.size : Int).tdiv 64 = ((s.size / 64 : Nat) : Int) := by rw [Int.tdiv_eq_ediv_of_nonneg (by omega)]; omega
    have hdm : (s.size : Int) / 64 = ((s.size / 64 : Nat) : Int) := by omega
    have hwc : M.wcode n lost at' s = M.refused n lost at' ((s.size / 64 : Nat) : Int) := by unfold M.wcode; simp [hm]
    obtain ⟨m, hmm⟩ : ∃ m, s.size / 64 = m := ⟨_, rfl⟩
    rw [hmm] at hdv hdm hwc
    rw [hwc] at hz ⊢
    have href := refused_any b n v1 v2 lost at' (m : Int) w h hn (by omega)
    have hz' : (M.refused n lost at' (m : Int) == 0) = false := by simpa using hz
    generalize M.refused n lost at' (m : Int) = r at *
    clear h hwc
    go_enter Tryz.func71, Tryz.ntmps71
    go_wp2_with fail
    refine href.mono ?_
    rintro e w1 ⟨rfl, rfl⟩
    clear href
    go_wp2
    go_ret
    exact ⟨rfl, rfl⟩
  · have hmt : (s.size : Int).tmod 64 ≠ 0 := by rw [Int.tmod_eq_emod_of_nonneg (by omega)]; omega
    have hmt' : ((s.size : Int).tmod 64 == 0) = false := by simpa using hmt
    have hme : ((s.size : Int) % 64 == 0) = false := by simp; omega
    have hw : M.wcode n lost at' s = 1 := by unfold M.wcode; simp [hm]
    rw [hw]
    clear h
    go_enter Tryz.func71, Tryz.ntmps71
    go_wp2
    go_ret
    exact ⟨rfl, rfl⟩
theorem ref_lost (n : Nat) (at' m : Int) : M.refused n true at' m ≠ 0 := fun h => by
  obtain ⟨h', _⟩ := M.refused_ok h
  cases h'
theorem wcode_lost (n : Nat) (at' : Int) (s : ByteArray) : M.wcode n true at' s ≠ 0 := fun h => ref_lost _ _ _ (M.wcode_ok h).2
set_option maxRecDepth 100000 in
set_option maxHeartbeats 1000000 in
theorem loose_lost (base b n : Nat) (w : World) (h : LI w base b n) : Calls Tryz.prog 48 #[.pointer (some ⟨b, 0, none⟩)] w fun e w' => ∃ v : Value, e = .returned v ∧ w'.ownsRow w.heap.size 3 1 v 0 (IC []) ∧ Below w.heap.size w w' := by
  obtain ⟨⟨_, _, c2, _⟩, _⟩ := row4 h.row
  have hs := sorted_any w.heap.size none 0 [] (by simp) (w.alloc (.cells #[.slice none 0 0] 82)) (AtV.nil _ _) (by
    rw [cell_of_row _ _ 0 _ _ _ (heap_alloc_last w _)]; rfl)
  clear h
  go_enter Tryz.func48, Tryz.ntmps48
  go_wp2_with fail
  refine (values_any _ none 0 0 rfl w).mono ?_
  rintro e w1 ⟨rfl, rfl⟩
  go_wp2_with fail
  refine hs.mono ?_
  rintro e w' ⟨v, rfl, h1, h2⟩
  have HQ : Hid (w'.ownsRow w.heap.size 3 1 v 0 (IC []) ∧ Below w.heap.size w w') := ⟨owns_low (by simpa [IC] using h1) (by simp), bel_up (bel1 w _) h2 (Nat.le_refl _)⟩
  clear h1 h2 hs
  go_wp2
  go_ret
  exact ⟨v, rfl, HQ.out⟩
set_option maxRecDepth 100000 in
set_option maxHeartbeats 1000000 in
theorem crash_lost (base b n : Nat) (keep tear : Int) (w : World) (h : LI w base b n) : Calls Tryz.prog 14 #[.pointer (some ⟨b, 0, none⟩), .int .u64 keep, .int .i64 tear] w fun e w' => e = .returned (.tuple #[]) ∧ LI w' base b n ∧ Ch w (· = b) w' (· = b) := by
  have hloo := loose_lost base b n w h
  have HX := Hid_of h
  clear h
  by_cases h1 : 1 ≤ tear
  all_goals
    go_enter Tryz.func14, Tryz.ntmps14
    go_wp2_with fail
    refine hloo.mono ?_
    rintro e w2 ⟨v, rfl, ho, hb2⟩
    obtain ⟨a, cap, rfl, _⟩ := owns_at ho
    have hrow : w2.heap[b]? = _ := (hb2.block b HX.out.lt).trans HX.out.row
    obtain ⟨⟨_, _, r2, _⟩, rf⟩ := row4 hrow
    have HK : Hid (LI (w2.setCell ⟨b, 2, none⟩ (.slice none 0 0)) base b n ∧ Ch w (· = b) (w2.setCell ⟨b, 2, none⟩ (.slice none 0 0)) (· = b)) := ⟨⟨heap_setCell_same w2 b 2 _ _ _ hrow, HX.out.n1, HX.out.low⟩, (Ch.ofBelow hb2).trans (Ch.cell b 2 _ rfl)⟩
    have rf2 := rf 2
    clear hloo ho hb2 hrow rf HX
    go_wp2
    go_loopw [6, 22] (fun t i wr => (∃ T : Bool, t = .bool T) ∧ i = .int .i64 0 ∧ wr = w2) (fun _ _ _ => 0)
    case atStart => exact ⟨⟨_, rfl⟩, rfl, rfl⟩
    case round =>
      obtain ⟨⟨T, rfl⟩, rfl, rfl⟩ := hrel
      go_wp2
      go_end0
      exact ⟨rfl, HK.out⟩
end Go.Proofs.YtlnedgjikkhplaaGreat.Ns
end
