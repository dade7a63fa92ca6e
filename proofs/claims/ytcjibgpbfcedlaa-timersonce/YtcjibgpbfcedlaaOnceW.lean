/-
  The law TimersOnce, walked.
-/
import Derived.Test.YtcjibgpbfcedlaaS
import Derived.Test.YtcjibgpbfcedlaaT
namespace Go.Proofs.Ytcjibgpbfcedlaa
open Go.RowKit
set_option linter.unusedVariables false
open M (E)

theorem once_spec {P : List E} (hs : P.Pairwise M.lt) (k : Nat) (hk : k < P.length) :
    1 ≤ (M.dueI (P.drop k) P[k].t).length ∧ k + (M.dueI (P.drop k) P[k].t).length ≤ P.length ∧ M.dueL (P.drop k) P[k].t = P.drop (k + (M.dueI (P.drop k) P[k].t).length) ∧
    (∀ j (h : j < (M.dueI (P.drop k) P[k].t).length) (h' : k + j < P.length), P[k + j].i = (M.dueI (P.drop k) P[k].t)[j] ∧ P[k + j].t = P[k].t) ∧ M.dueI (P.drop k) (P[k].t - 1) = [] ∧ M.dueL (P.drop k) (P[k].t - 1) = P.drop k := by
  have hD : (P.drop k).Pairwise M.lt := hs.sublist (List.drop_sublist _ _)
  have hcons : P.drop k = P[k] :: P.drop (k + 1) := List.drop_eq_getElem_cons hk
  obtain ⟨h1, h2, h3⟩ := M.due_split (P.drop k) P[k].t hD
  have hlen := M.dueI_len (P.drop k) P[k].t
  rw [List.length_drop] at hlen
  have hpos : 1 ≤ (M.dueI (P.drop k) P[k].t).length := by
    rw [hcons, (M.due_head (Int.le_refl _)).1]
    simp
  refine ⟨hpos, by omega, by rw [h2, List.drop_drop], fun j h h' => ?_, ?_⟩
  · have e : (M.dueI (P.drop k) P[k].t)[j]? = some P[k + j].i := by
      rw [h1, List.getElem?_map, List.getElem?_take, if_pos h, List.getElem?_drop, List.getElem?_eq_getElem h']
      rfl
    refine ⟨by rw [List.getElem?_eq_getElem h] at e; exact (Option.some.inj e).symm, ?_⟩
    have hmem : P[k + j] ∈ (P.drop k).take (M.dueI (P.drop k) P[k].t).length := by
      rw [List.mem_iff_getElem]
      exact ⟨j, by simp; omega, by simp⟩
    have hle := h3 _ hmem
    rcases Nat.eq_zero_or_pos j with rfl | hj
    · rfl
    · have hlt := (List.pairwise_iff_getElem.1 hs) k (k + j) hk h' (by omega)
      unfold M.lt at hlt
      omega
  · refine M.due_later ?_
    rw [hcons]
    exact M.later_of_head (by rw [← hcons]; exact hD) (by omega)
/-- What is left to be due, and all as they were told. -/
structure OL (w wr : World) (b : Nat) (v : Value) (P : List E) (k : Nat) (a : Option Addr) : Prop where
  ts : TS w wr b v (P.drop k)
  at' : AtE wr a P
  ap : ∀ j, blk a j → j ≠ b ∧ v.ownBlock ≠ some j ∧ j < wr.heap.size
theorem OL.step {w wr w' : World} {b : Nat} {v v' : Value} {P : List E} {k k' : Nat} {a : Option Addr} (h : OL w wr b v P k a) (ht : TS w w' b v' (P.drop k')) (hc : Ch wr b v w' v') : OL w w' b v' P k' a := by
  refine ⟨ht, h.at'.keepBut fun j hj hb => hc.block j hj (h.ap j hb).1 (h.ap j hb).2.1, fun j hb => ⟨(h.ap j hb).1, fun e => ?_, by have := (h.ap j hb).2.2; have := hc.size; omega⟩⟩
  rcases hc.n j e with h' | h'
  · exact (h.ap j hb).2.1 h'
  · have := (h.ap j hb).2.2; omega
theorem OL.keep {w wr w' : World} {b : Nat} {v : Value} {P : List E} {k : Nat} {a : Option Addr} (h : OL w wr b v P k a) (hb : Below wr.heap.size wr w') : OL w w' b v P k a :=
  h.step (h.ts.keep hb) (Ch.ofBelow hb)
set_option maxRecDepth 100000 in
set_option maxHeartbeats 8000000 in
theorem once_walk (a : Option Addr) (cap : Nat) (l : List Dd) (w : World) (hl : l.length ≤ maxLen) (hd : Dds w a l) :
    Calls Try.prog 4 #[.slice a l.length cap] w fun e w' => e = .returned (.bool true) ∧ Below w.heap.size w w' := by
  unfold maxLen at hl
  by_cases h64 : 64 < l.length
  · have hdec : decide ((64 : Int) < (l.length : Int)) = true := by simp; omega
    clear hd
    go_enter Try.func4, Try.ntmps4
    go_wp2_with fail
    refine (awake_any _).mono ?_
    rintro x w1 ⟨rfl, B1⟩
    go_wp2
    go_ret
    exact ⟨rfl, B1⟩
  · have hdec : decide ((64 : Int) < (l.length : Int)) = false := by simp; omega
    have HD := Hid_of hd
    clear hd
    go_enter Try.func4, Try.ntmps4
    go_wp2_with fail
    refine (newT w).mono ?_
    rintro x w1 ⟨b, rfl, S1⟩
    have HS1 := Hid_of S1
    clear S1
    go_wp2_with fail
    go_loopw [4] (fun i wr => ∃ (k : Nat) (v : Value) (P : List E), k ≤ l.length ∧ i = .int .i64 k ∧ Hid (TS w wr b v P)) (fun i _ => l.length - (intOf i).toNat)
    case atStart => exact ⟨0, _, [], by omega, rfl, HS1⟩
    case round =>
      obtain ⟨k, v, P, hk, rfl, HT⟩ := hrel
      clear HS1
      by_cases hlt : k < l.length
      · obtain ⟨bb, off, rfl, c0, c1, c2⟩ := (HD.out.keep HT.out.bel) k hlt
        have HS : Hid (∀ w', Below w.heap.size w w' → w'.cell? ⟨bb, off + k * 3 + 1, none⟩ = some (.int .i64 l[k].a) ∧ w'.cell? ⟨bb, off + k * 3 + 2, none⟩ = some (.int .i64 l[k].n)) := by
          intro w' hb'
          obtain ⟨b', off', e', _, h1, h2⟩ := (HD.out.keep hb') k hlt
          cases e'
          exact ⟨h1, h2⟩
        have hc := (HT.out.keep (Below.drew (Below.refl _ _))).set l[k].a l[k].n
        have HB := Hid_of HT.out.bel
        clear HT
        generalize l[k].a = da at *
        generalize l[k].n = dn at *
        generalize l[k].k = dk at *
        go_wp2_with fail
        go_region_held3 (fun wq => wq.cell? ⟨bb, off + k * 3 + 1, none⟩ = some (.int .i64 da) ∧ wq.cell? ⟨bb, off + k * 3 + 2, none⟩ = some (.int .i64 dn)) (first | exact HS.out _ HB.out | exact HS.out _ (Below.drew HB.out) | exact HS.out _ (by assumption)) (first
          | (go_at_call 10; refine hc.mono ?_; rintro e w2 ⟨v2, rfl, S2⟩; have B2 := S2.bel; have HS2 := Hid_of S2; clear S2))
        all_goals
          clear hc c0 c1 c2 HS HB
          go_wp2
          go_roundw
          case rel => exact ⟨k + 1, v2, _, by omega, by go_num, HS2⟩
          case measure => simp [intOf]; omega
      · have hkn : k = l.length := by omega
        subst hkn
        have hc := HT.out.all
        have hG := Hid_of HT.out.x.g
        have HX := Hid_of HT.out.x
        clear HT HD
        go_wp2_with fail
        refine hc.mono ?_
        rintro e w3 ⟨a3, cap3, rfl, at3, bl3, B3, S3⟩
        have HO : Hid (OL w w3 b v P 0 a3) := ⟨by rw [List.drop_zero]; exact S3, at3, fun j hj => ⟨fun e => by have := (bl3 j hj).1; have := HX.out.lt; omega, fun e => by have := (bl3 j hj).1; have := (HX.out.low j e).2; omega, (bl3 j hj).2⟩⟩
        have hn : P.length ≤ 64 := hG.out.n
        clear hc at3 bl3 B3 S3 HX
        go_wp2_with fail
        go_loopw [6] (fun i wr => ∃ m : Nat, m ≤ P.length ∧ i = .int .i64 m ∧ Hid (OL w wr b v P 0 a3)) (fun i _ => P.length - (intOf i).toNat)
        case atStart => exact ⟨0, by omega, rfl, HO⟩
        case round =>
          obtain ⟨m, hm, rfl, HM⟩ := hrel
          clear HO
          by_cases hltm : m < P.length
          · obtain ⟨bb, off, rfl, c0, c1⟩ := HM.out.at' m hltm
            have HQ : Hid (∀ n, OL w (wr.drewN n) b v P 0 (some ⟨bb, off, none⟩)) := fun n => HM.out.keep (below_drewN (Below.refl _ _) n)
            cases m with
            | zero =>
              simp only [Nat.zero_mul, Nat.add_zero] at c0 c1
              clear HM
              generalize P[0].i = pi at *
              generalize P[0].t = pt at *
              go_wp2_with fail
              go_quiet (fail)
              go_wp2
              go_roundw
              case rel => exact ⟨1, by omega, by go_num, HQ.out _⟩
              case measure => simp [intOf]; omega
            | succ m =>
              obtain ⟨bb2, off2, heq, d0, d1⟩ := HM.out.at' m (by omega)
              cases heq
              have hlt := (List.pairwise_iff_getElem.1 hG.out.s) m (m + 1) (by omega) hltm (by omega)
              have hsplit : (decide (P[m + 1].t < P[m].t) = false ∧ (P[m + 1].t == P[m].t) = false) ∨ (decide (P[m + 1].t < P[m].t) = false ∧ (P[m + 1].t == P[m].t) = true ∧ decide (P[m + 1].i ≤ P[m].i) = false) := by
                unfold M.lt at hlt
                by_cases h1 : P[m].t < P[m + 1].t
                · exact .inl ⟨by simp; omega, by simp; omega⟩
                · exact .inr ⟨by simp; omega, by simp; omega, by simp; omega⟩
              have hm1 : m + 1 ≤ 64 := by omega
              have hmi : (m : Int) < (P.length : Int) := by omega
              have hmi2 : (m : Int) + 1 < (P.length : Int) := by omega
              have hw3 : IntKind.i64.wrap ((m : Int) + 1 - 1) = (m : Int) := by rw [IntKind.wrap_i64]; omega
              clear HM hlt
              generalize P[m + 1].i = pi at *
              generalize P[m + 1].t = pt at *
              generalize P[m].i = qi at *
              generalize P[m].t = qt at *
              rcases hsplit with ⟨e1, e2⟩ | ⟨e1, e2, e3⟩
              all_goals
                go_wp2_with fail
                go_quiet (fail)
                go_wp2
                go_roundw
                case rel => exact ⟨m + 1 + 1, by omega, by go_num, HQ.out _⟩
                case measure => simp [intOf]; omega
          · have hmn : m = P.length := by omega
            subst hmn
            clear hltm hm
            go_wp2_with fail
            go_loopw [7] (fun i wr => ∃ (m : Nat) (v : Value), m ≤ P.length ∧ i = .int .i64 m ∧ Hid (OL w wr b v P m a3)) (fun i _ => P.length - (intOf i).toNat)
            case atStart => exact ⟨0, v, by omega, rfl, HM⟩
            case round =>
              obtain ⟨m, v4, hm, rfl, H4⟩ := hrel
              clear HM
              by_cases hltm : m < P.length
              · obtain ⟨bb, off, rfl, c0, c1⟩ := H4.out.at' m hltm
                obtain ⟨s1, s2, s3, s4, s5, s6⟩ := once_spec hG.out.s m hltm
                have hrng := hG.out.r P[m] (List.getElem_mem hltm)
                have hw : IntKind.i64.wrap (P[m].t - 1) = P[m].t - 1 := by rw [IntKind.wrap_i64]; omega
                have hd1 := H4.out.ts.due (P[m].t - 1)
                rw [s5, s6] at hd1
                have HS4 := Hid_of s4
                have HDU : Hid (∀ w5 v5, TS w w5 b v5 (P.drop m) → Calls Try.prog 15 #[.pointer (some ⟨b, 0, none⟩), .int .i64 P[m].t] w5 fun e w' => ∃ a cap v', e = .returned (.slice a (M.dueI (P.drop m) P[m].t).length cap) ∧ AtI w' a (M.dueI (P.drop m) P[m].t) ∧ TS w w' b v' (P.drop (m + (M.dueI (P.drop m) P[m].t).length)) ∧ Ch w5 b v5 w' v') := fun w5 v5 h5 => by
                  have := h5.due P[m].t
                  rw [s3] at this
                  exact this
                clear s3 s4 s5 s6 hrng
                generalize hou : M.dueI (P.drop m) P[m].t = ou at *
                clear hou
                generalize hpt : P[m].t = pt at *
                generalize P[m].i = pi at *
                clear hpt
                go_wp2_with fail
                refine hd1.mono ?_
                rintro e w5 ⟨a5, cap5, v5, rfl, _, S5, ch5⟩
                have H5 := Hid_of (H4.out.step S5 ch5)
                have hd2 := HDU.out w5 v5 S5
                clear hd1 H4 HDU S5 ch5 c0 c1
                simp only [List.length_nil]
                go_wp2_with fail
                refine hd2.mono ?_
                rintro e w6 ⟨a6, cap6, v6, rfl, at6, S6, ch6⟩
                have H6 := Hid_of (H5.out.step S6 ch6)
                have HA6 := Hid_of at6
                clear hd2 H5 at6 S6 ch6
                go_wp2_with fail
                go_loopw [7, 10] (fun i q wr => ∃ j : Nat, j ≤ ou.length ∧ i = .int .i64 ((m + j : Nat) : Int) ∧ q = .int .i64 j ∧ Hid (OL w wr b v6 P (m + ou.length) (some ⟨bb, off, none⟩) ∧ AtI wr a6 ou)) (fun _ q _ => ou.length - (intOf q).toNat)
                case atStart => exact ⟨0, by omega, rfl, rfl, H6.out, HA6.out⟩
                case round =>
                  obtain ⟨j, hj, rfl, rfl, H7⟩ := hrel
                  clear H6 HA6
                  by_cases hlj : j < ou.length
                  · have hmj : m + j < P.length := by omega
                    obtain ⟨bb2, off2, heq, e0, e1⟩ := H7.out.1.at' (m + j) hmj
                    cases heq
                    obtain ⟨b6, o6, rfl, f0⟩ := H7.out.2 j hlj
                    obtain ⟨q1, q2⟩ := HS4.out j hlj hmj
                    rw [q1] at e0
                    rw [q2] at e1
                    have HQ : Hid (∀ n, OL w (wr.drewN n) b v6 P (m + ou.length) (some ⟨bb, off, none⟩) ∧ AtI (wr.drewN n) (some ⟨b6, o6, none⟩) ou) := fun n => ⟨H7.out.1.keep (below_drewN (Below.refl _ _) n), H7.out.2.keep (below_drewN (Below.refl _ _) n)⟩
                    have hmi : (m : Int) + (j : Int) < (P.length : Int) := by omega
                    have hmi2 : decide ((P.length : Int) ≤ (m : Int) + (j : Int)) = false := by simp; omega
                    have hji : (j : Int) < (ou.length : Int) := by omega
                    have hm0 : (0 : Int) ≤ (m : Int) + (j : Int) := by omega
                    have htn : ((m : Int) + (j : Int)).toNat = m + j := by omega
                    clear q1 q2 H7
                    generalize ou[j] = oj at *
                    go_wp2_with fail
                    go_quiet (fail)
                    go_wp2
                    go_roundw
                    case rel => exact ⟨j + 1, by omega, by go_num, by go_num, HQ.out _⟩
                    case measure => simp [intOf]; omega
                  · have hjn : j = ou.length := by omega
                    subst hjn
                    have hz : ((ou.length : Int) == 0) = false := beq_eq_false_iff_ne.mpr (by omega)
                    have H8 := Hid_of H7.out.1
                    clear H7 HS4 hlj hj
                    go_wp2
                    go_roundw
                    case rel => exact ⟨m + ou.length, v6, by omega, rfl, H8⟩
                    case measure => simp [intOf]; omega
              · have hmn : m = P.length := by omega
                subst hmn
                have S9 := H4.out.ts
                rw [List.drop_length] at S9
                have hl9 := S9.len
                have HB9 := Hid_of S9.bel
                clear S9 H4 hltm hm
                simp only [List.length_nil] at hl9
                go_wp2_with fail
                refine hl9.mono ?_
                rintro e w9 ⟨rfl, rfl⟩
                clear hl9
                go_wp2_with fail
                refine (awake_any _).mono ?_
                rintro e w10 ⟨rfl, B10⟩
                have HB := Hid_of (bel_up HB9.out B10 (Nat.le_refl _))
                clear B10
                go_wp2
                go_ret
                exact ⟨rfl, HB.out⟩
end Go.Proofs.Ytcjibgpbfcedlaa
