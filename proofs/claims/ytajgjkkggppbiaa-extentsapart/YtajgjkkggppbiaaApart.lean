/-
  Proved: for every deeds the law ExtentsApart of the program returns true, and the argument reads as it did.
-/
import Derived.Test.YtajgjkkggppbiaaFA
import Derived.Test.YtajgjkkggppbiaaEA
import Derived.OpenShut
namespace Go.Proofs.Ytajgjkkggppbiaa
open Go.ChangeShapes Go.WideShapes Go.ChangeAt Go.RowKit
set_option linter.unusedVariables false
open M (E RX)

/-- Where the first pieces end. -/
def edP (P : List E) : Nat → Int
  | 0 => 0
  | k + 1 => kE (P.getD k ⟨0, 0, 0, 0⟩)
theorem edP_succ (P : List E) (k : Nat) (h : k < P.length) : edP P (k + 1) = P[k].a + P[k].n := by
  rw [edP, List.getD_eq_getElem?_getD, List.getElem?_eq_getElem h]
  rfl
theorem edP_end (P : List E) : edP P P.length = endP P := by
  rcases List.eq_nil_or_concat P with rfl | ⟨d, p, rfl⟩
  · rfl
  · rw [List.concat_eq_append]
    have hl : (d ++ [p]).length = d.length + 1 := by simp
    rw [hl, edP_succ _ _ (by simp)]
    unfold endP
    rw [List.getLast?_concat]
    simp
theorem edP_le {P : List E} (hg : M.G P) (k : Nat) (h : k < P.length) : edP P k ≤ P[k].a := by
  cases k with
  | zero => exact (hg.1 _ (List.getElem_mem h)).1
  | succ k =>
    rw [edP_succ P k (by omega)]
    exact ((List.pairwise_iff_getElem.1 hg.2) k (k + 1) (by omega) h (by omega)).1
theorem edP_max {P : List E} (hg : M.G P) : edP P P.length ≤ 16384 := by
  cases hl : P.length with
  | zero => simp [edP]
  | succ k =>
    rw [edP_succ P k (by omega)]
    exact (hg.1 _ (List.getElem_mem _)).2.2.1
set_option maxRecDepth 100000 in
set_option maxHeartbeats 8000000 in
theorem apart_walk (a : Option Addr) (cap : Nat) (l : List Dd) (w : World) (hl : l.length ≤ maxLen) (hd : Dds w a l) (hok : ∀ d ∈ l, d.ok) :
    Calls Try.prog 6 #[.slice a l.length cap] w fun e w' => e = .returned (.bool true) ∧ Below w.heap.size w w' := by
  by_cases h30 : 30 < l.length
  · go_enter Try.func6, Try.ntmps6
    go_wp2_with fail
    refine (awake_any _).mono ?_
    rintro x w1 ⟨rfl, hb⟩
    go_wp2
    go_ret
    exact ⟨rfl, hb⟩
  · have h30' : l.length ≤ 30 := by omega
    have HOKD := Hid_of hok
    clear hok
    go_enter Try.func6, Try.ntmps6
    go_wp2_with fail
    refine (new_any w).mono ?_
    rintro x w1 h
    obtain ⟨b, rfl, hb, hx, B1⟩ := h
    have T1 : Two w w1 b (.slice none 0 0) [] none 0 [] := ⟨hx _, ⟨(fun j h => by simp at h), by simp, by decide, fun _ => rfl⟩, by simp, (fun k hk => by obtain ⟨_, _, h⟩ := hk; cases h), B1, by omega⟩
    have HT1 := Hid_of T1
    clear hx B1 hb T1
    go_wp2
    go_loopw [4] (fun i wr => ∃ (k : Nat) (v : Value) (P : List E), k ≤ l.length ∧ i = .int .i64 k ∧ Two w wr b v P none 0 []) (fun i _ => l.length - (intOf i).toNat)
    case atStart => exact ⟨0, _, _, by omega, rfl, HT1.out⟩
    case round =>
      obtain ⟨k, v, P, hk, rfl, T⟩ := hrel
      clear HT1
      by_cases hlt : k < l.length
      · obtain ⟨bb, off, rfl, c0, c1, c2, c3, c4⟩ := (hd.keep T.bel) k hlt
        have hdo := do_any w wr b v P none 0 [] l[k] T (fun j hj => by simp at hj) (HOKD.out _ (List.getElem_mem hlt))
        simp only [List.length_nil] at hdo
        clear hd T
        generalize l[k].k = dk at *
        generalize l[k].e.a = da at *
        generalize l[k].e.n = dn at *
        generalize l[k].e.d = dd at *
        generalize l[k].e.f = df at *
        go_wp2_with fail
        refine hdo.mono ?_
        rintro x w2 hx2
        obtain ⟨v2, P2, a2, cap2, L2, bq, rfl, T2, _⟩ := hx2
        have HT2 : Hid (Two w w2 b v2 P2 none 0 []) := ⟨T2.x, ⟨(fun j h => by simp at h), by simp, by decide, fun _ => rfl⟩, by simp, (fun k hk => by obtain ⟨_, _, h⟩ := hk; cases h), T2.bel, T2.low⟩
        clear hdo T2
        go_wp2
        go_roundw
        case rel => exact ⟨k + 1, v2, P2, by omega, by go_num, HT2.out⟩
        case measure => simp [intOf]; omega
      · clear hd
        have hall := all_any w.heap.size b v P wr T.x
        have HG := Hid_of T.x.g
        have hPl := M.G_len T.x.g
        have HT := Hid_of T
        clear T
        go_wp2_with fail
        refine hall.mono ?_
        rintro x w2 hx
        obtain ⟨v2, rfl, o2, B2⟩ := hx
        have HT2 := Hid_of (HT.out.step B2)
        obtain ⟨al, cl, rfl, hat, _, _⟩ := owns_atE o2
        have HAT := Hid_of hat
        have HE := Hid_of (edP_end P)
        have HM := Hid_of (edP_max HG.out)
        clear hall HT o2 B2 hat
        go_wp2
        go_loopw [6, 7] (fun e i wr => ∃ m : Nat, m ≤ P.length ∧ i = .int .i64 m ∧ e = .int .i64 (edP P m) ∧ Below w2.heap.size w2 wr) (fun _ i _ => P.length - (intOf i).toNat)
        case atStart => exact ⟨0, by omega, rfl, rfl, Below.refl _ _⟩
        case round =>
          obtain ⟨m, hm, rfl, rfl, hbel⟩ := hrel
          by_cases hltm : m < P.length
          · obtain ⟨bb, off, rfl, c0, c1, c2, c3⟩ := (HAT.out.keep hbel) m hltm
            obtain ⟨o1, o2, o3, o4, o5, o6⟩ := HG.out.1 P[m] (List.getElem_mem hltm)
            have hed := edP_le HG.out m hltm
            have k1 : decide (P[m].n < 1) = false := by simp; omega
            have k2 : decide (P[m].a < edP P m) = false := by simp; omega
            have k3 : decide (P[m].d < 0) = false := by simp; omega
            have k4 : decide (P[m].f < 0) = false := by simp; omega
            have HNX : Hid (edP P (m + 1) = P[m].a + P[m].n) := edP_succ P m hltm
            have hw1 : IntKind.i64.wrap (P[m].a + P[m].n) = P[m].a + P[m].n := by rw [IntKind.wrap_i64]; omega
            have HB := Hid_of hbel
            cases m with
            | zero =>
              simp only [Nat.zero_mul, Nat.add_zero] at c0 c1 c2 c3
              clear HAT o1 o2 o3 o4 o5 o6 hed hbel HE HM
              generalize P[0].a = pa at *
              generalize P[0].n = pn at *
              generalize P[0].d = pd at *
              generalize P[0].f = pf at *
              generalize edP P 0 = ed at *
              go_wp2_with fail
              go_quiet (fail)
              go_wp2_with fail
              go_quiet (fail)
              go_wp2
              go_roundw
              case rel => exact ⟨1, by omega, by go_num, by rw [HNX.out], below_drewN HB.out _⟩
              case measure => simp [intOf]; omega
            | succ m =>
              obtain ⟨bb2, off2, heq, d0, d1, d2, d3⟩ := (HAT.out.keep hbel) m (by omega)
              cases heq
              obtain ⟨x1, x2, x3, x4, x5, x6⟩ := HG.out.1 (P[m]'(by omega)) (List.getElem_mem _)
              have hnf := ((List.pairwise_iff_getElem.1 HG.out.2) m (m + 1) (by omega) hltm (by omega)).2
              have hes : edP P (m + 1) = P[m].a + P[m].n := edP_succ P m (by omega)
              have hw2 : IntKind.i64.wrap (P[m].f + P[m].n) = P[m].f + P[m].n := by rw [IntKind.wrap_i64]; omega
              have hnf' : ¬ (P[m].d = P[m + 1].d ∧ P[m].a + P[m].n = P[m + 1].a ∧ P[m].f + P[m].n = P[m + 1].f) := hnf
              rw [hes] at k2 ⊢
              have hsplit : (P[m + 1].a == P[m].a + P[m].n) = false ∨ ((P[m + 1].a == P[m].a + P[m].n) = true ∧ (P[m].d == P[m + 1].d) = false) ∨ ((P[m + 1].a == P[m].a + P[m].n) = true ∧ (P[m].d == P[m + 1].d) = true ∧ (P[m].f + P[m].n == P[m + 1].f) = false) := by
                by_cases h1 : P[m + 1].a = P[m].a + P[m].n
                · by_cases h2 : P[m].d = P[m + 1].d
                  · have h3 : ¬ P[m].f + P[m].n = P[m + 1].f := fun h => hnf' ⟨h2, h1.symm, h⟩
                    exact .inr (.inr ⟨by simpa using h1, by simpa using h2, by simpa using h3⟩)
                  · exact .inr (.inl ⟨by simpa using h1, by simpa using h2⟩)
                · exact .inl (by simpa using h1)
              have hm1 : m + 1 ≤ 16384 := by omega
              have hmi : (m : Int) < (P.length : Int) := by omega
              have hmi2 : (m : Int) + 1 < (P.length : Int) := by omega
              have hw3 : IntKind.i64.wrap ((m : Int) + 1 - 1) = (m : Int) := by rw [IntKind.wrap_i64]; omega
              clear HAT o1 o2 o3 o4 o5 o6 x1 x2 x3 x4 x5 x6 hed hbel HE HM hnf hnf' hes
              generalize P[m + 1].a = pa at *
              generalize P[m + 1].n = pn at *
              generalize P[m + 1].d = pd at *
              generalize P[m + 1].f = pf at *
              generalize P[m].a = qa at *
              generalize P[m].n = qn at *
              generalize P[m].d = qd at *
              generalize P[m].f = qf at *
              generalize qa + qn = ed at *
              rcases hsplit with e1 | ⟨e1, e2⟩ | ⟨e1, e2, e3⟩
              all_goals
                go_wp2_with fail
                go_quiet (fail)
                go_wp2_with fail
                go_quiet (fail)
                go_wp2
                go_roundw
                case rel => exact ⟨m + 1 + 1, by omega, by go_num, by rw [HNX.out], below_drewN HB.out _⟩
                case measure => simp [intOf]; omega
          · have hmn : m = P.length := by omega
            subst hmn
            rw [HE.out]
            have hmx : endP P ≤ 16384 := by rw [← HE.out]; exact HM.out
            have T3 := HT2.out.step hbel
            have hend := end_any w.heap.size b v P wr T3.x
            have HB3 := Hid_of T3.bel
            have hdx : decide (endP P ≤ 16384) = true := by simpa using hmx
            clear HAT HE HM hmx T3 hbel
            generalize endP P = ed at *
            go_wp2_with fail
            refine hend.mono ?_
            rintro x w4 ⟨rfl, B4⟩
            have HB4 := Hid_of (bel_up HB3.out B4 (Nat.le_refl _))
            clear hend B4
            go_wp2_with fail
            refine (awake_any _).mono ?_
            rintro x w5 ⟨rfl, B5⟩
            have HB5 := Hid_of (bel_up HB4.out B5 (Nat.le_refl _))
            clear B5
            go_wp2
            go_ret
            exact ⟨rfl, HB5.out⟩

set_option maxRecDepth 100000 in
theorem apart_lifted (os : Os) (started : os.Started) (H : Type) (enc : TypeId × Value → H) :
    ReturnsInHanded {} Try.checked os 6 .any (Rows.extentsApartSpec.pre6 enc Try.prog Try.f6 Rows.extentsApartRow.domain false) (Rows.extentsApartSpec.post enc Try.prog Try.f6 false true false false) := by
  refine returnsInHanded_of_change (C := Try.checked) own started (by kernel_rfl) Try.func6
    (ChangeSpec.witness6 (enc := enc) (C := Try.checked) false ⟨#[], #[.slice none 0 0], []⟩ 8 (by kernel_rfl) (by kernel_rfl) (by kernel_rfl) (by kernel_rfl)) ?_
  intro W base args ds gs before hval0 hW hcnd _
  have hval : ∀ (j : Nat) t v, Try.f6.params[j]? = some t → args[j]? = some v → Value.okWide Try.prog W .any base t v := hval0
  have hW' := hW
  obtain ⟨p, q, hA0, hV, rfl, hfz, hnd⟩ := hW
  have hA : DataW.TrodAll enc Try.prog W 0 (fun _ => true) true Try.f6.params.toList args.toList ds p := hA0
  rw [Try.params6] at hA hval
  obtain ⟨v1, vs1, d1, ds1, p1, q1, hargs, rfl, rfl, h1, r1⟩ := trodAll_cons hA
  obtain ⟨rfl, rfl, rfl⟩ := trodAll_nil r1
  obtain rfl : args = #[v1] := by cases args; simp_all
  obtain ⟨rfl, rfl⟩ := trodVars_none hV
  obtain ⟨a1, len1, cap1, rfl⟩ := okWide_slice Try.underlying22 (hval 0 22 v1 rfl rfl)
  have k1 := h1
  have lt1 : ∀ x ∈ p1, x.block < W.heap.size := by obtain ⟨m, hm⟩ := k1; exact DataW.trod_lt m _ _ _ hm
  obtain ⟨l, hlen, hit, hm, hok⟩ : ∃ l : List Dd, len1 = l.length ∧ Dds W a1 l ∧ l.length ≤ maxLen ∧ ∀ d ∈ l, d.ok := by
    obtain ⟨fuel, hf⟩ := h1
    obtain ⟨a', len', cap', l, hcs, hl, hi, hm, hok⟩ := open_deeds hf
    simp [Value.cells] at hcs
    obtain ⟨rfl, rfl, rfl⟩ := hcs
    exact ⟨l, hl, hi, hm, hok⟩
  clear hA0 hval0
  subst hlen
  refine (apart_walk a1 cap1 l W hm hit hok).mono fun e W' ⟨he, bel⟩ => ?_
  subst he
  exact ⟨_, rfl, _, _, _, [], _, [], hW', trodAll_mk1 (shut_bool Try.underlying4 _), (trodAll_cons_mk (Below.trod laidOut (by kernel_rfl) (of_decide_eq_true (by kernel_rfl)) k1 bel lt1) trodAll_mk0), rfl, bel.frame _, fun h => by cases h⟩

theorem apart_holds : Rows.ExtentsApartSaid :=
  OpenClaim.holds_of_wide 6 Try.f6 rfl rfl rfl rfl rfl rfl rfl ⟨rfl, rfl, rfl, rfl, rfl⟩ rfl rfl rfl rfl rfl (by kernel_rfl) Try.func6 (by kernel_rfl)
    (of_decide_eq_true (by kernel_rfl)) (by unfold Func.isWrapper; first | (rw [if_pos (by decide +kernel)]; kernel_rfl) | (rw [if_neg (by decide +kernel)]; exact ⟨rfl, rfl⟩))
    (fun os started H enc _ => apart_lifted os started H enc)
#print axioms apart_holds
end Go.Proofs.Ytajgjkkggppbiaa
