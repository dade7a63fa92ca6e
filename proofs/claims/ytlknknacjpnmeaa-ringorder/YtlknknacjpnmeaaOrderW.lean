/-
  The law RingOrder, walked.
-/
import Derived.Test.YtlknknacjpnmeaaH
namespace Go.Proofs.Ytlknknacjpnmeaa
open Go.RowKit
set_option linter.unusedVariables false

set_option maxRecDepth 100000 in
set_option maxHeartbeats 8000000 in
theorem order_walk (n : Int) (a : Option Addr) (cap : Nat) (l : List Dd) (w : World) (hl : l.length ≤ maxLen) (hd : Dds w a l) (hok : ∀ d ∈ l, d.ok) :
    Calls Try.prog 4 #[.int .i64 n, .slice a l.length cap] w fun e w' => e = .returned (.bool true) ∧ Below w.heap.size w w' := by
  have hfew := few_any a cap l w hl hd hok
  have HD := Hid_of hd
  clear hd hok
  obtain ⟨mx, hmx⟩ : ∃ x, max n 1 = x := ⟨_, rfl⟩
  obtain ⟨mo, hmo⟩ : ∃ x, min mx 64 = x := ⟨_, rfl⟩
  have hlim : M.lim n = mo := by unfold M.lim; rw [hmx, hmo]
  have hN := newT n w
  rw [hlim] at hN
  clear hlim
  go_enter Try.func4, Try.ntmps4
  go_wp2_with fail
  refine hfew.mono ?_
  rintro x w0 ⟨bf, rfl, hF, rfl⟩
  clear hfew
  cases bf with
  | false =>
    clear hF hN
    go_wp2_with fail
    refine (awake_any _).mono ?_
    rintro x w1 ⟨rfl, B1⟩
    have HB := Hid_of B1
    clear B1
    go_wp2
    go_ret
    exact ⟨rfl, HB.out⟩
  | true =>
    obtain ⟨h150, hsz⟩ := hF rfl
    have HSZ := Hid_of hsz
    clear hF hsz
    go_wp2_with fail
    refine hN.mono ?_
    rintro x w1 ⟨b, rfl, S1⟩
    have HS1 : Hid (OL w0 w1 b (.slice none 0 0) mo [] (.slice none 0 0) [] (.slice none 0 0) []) := ⟨S1, OwnT.nil _ _, OwnT.nil _ _, by simp [Value.ownBlock], by simp [Value.ownBlock], (fun k e => by simp [Value.ownBlock] at e), (fun k e => by simp [Value.ownBlock] at e), (fun k e => by simp [Value.ownBlock] at e)⟩
    clear S1 hN
    go_wp2_with fail
    go_loopw [6, 7, 8] (fun x y i wr => ∃ (k : Nat) (v : Value) (P In Out : List ByteArray), k ≤ l.length ∧ i = .int .i64 k ∧ Hid (OL w0 wr b v mo P x In y Out) ∧ Hid (In = Out ++ P ∧ In.length ≤ k)) (fun _ _ i _ => l.length - (intOf i).toNat)
    case atStart => exact ⟨0, _, [], [], [], by omega, rfl, HS1, rfl, by simp⟩
    case round =>
      obtain ⟨k, v, P, In, Out, hk, rfl, HO, HE⟩ := hrel
      clear HS1
      obtain ⟨ax, cx, rfl, _⟩ := HO.out.oi.at
      obtain ⟨ay, cy, rfl, _⟩ := HO.out.oo.at
      by_cases hlt : k < l.length
      · obtain ⟨bb, off, rfl, c0, c1, c2⟩ := (HD.out.keep HO.out.t.bel) k hlt
        have HS : Hid (∀ w', Below w0.heap.size w0 w' → w'.cell? ⟨bb, off + k * 3 + 2, none⟩ = some (.string l[k].val)) := by
          intro w' hb'
          obtain ⟨b', off', e', _, _, h2⟩ := (HD.out.keep hb') k hlt
          cases e'
          exact h2
        have hs7 := HSZ.out l[k] (List.getElem_mem hlt)
        generalize l[k].val = s at *
        generalize l[k].k = dk at *
        generalize l[k].key = dn at *
        by_cases hdk : dk = 1
        · subst hdk
          cases P with
          | nil =>
            have ht := HO.out.t.take
            rw [take_none.1, take_none.2.1, take_none.2.2] at ht
            clear hs7 HS
            go_wp2_with fail
            refine ht.mono ?_
            rintro e w2 ⟨v2, rfl, S2, ch2⟩
            have H2 := Hid_of (HO.out.ring S2 ch2)
            have HEN : Hid (In = Out ++ [] ∧ In.length ≤ k + 1) := ⟨HE.out.1, by have := HE.out.2; omega⟩
            clear ht S2 ch2 HO HE c0 c1 c2
            have hpn := H2.out.t.n
            have hl1 := H2.out.t.len
            have hin : (In).length ≤ 150 := by have := HEN.out.2; omega
            have HX : Hid ((In).length = (Out).length + (([] : List ByteArray)).length) := by show _ = _; rw [HEN.out.1, List.length_append]
            have HFIN : Hid (∃ (kk : Nat) (vv : Value) (PP II OO : List ByteArray), kk ≤ l.length ∧ Value.int .i64 ((k : Int) + 1) = .int .i64 kk ∧ Hid (OL w0 w2 b vv mo PP (.slice ax In.length cx) II (.slice ay Out.length cy) OO) ∧ Hid (II = OO ++ PP ∧ II.length ≤ kk)) := ⟨k + 1, v2, ([] : List ByteArray), In, Out, by omega, by go_num, H2, HEN⟩
            obtain ⟨_, hp2, _, _⟩ := hpn
            simp only [List.length_nil] at hp2 hl1 HX
            generalize hni : In.length = ni at *
            generalize hno : Out.length = no at *
            clear hni hno
            have hsub : (ni : Int) - (no : Int) = 0 := by have := HX.out; omega
            clear H2 HEN HX
            go_wp2_with fail
            refine hl1.mono ?_
            rintro e w8 ⟨rfl, rfl⟩
            go_wp2_with fail
            refine hl1.mono ?_
            rintro e w9 ⟨rfl, rfl⟩
            clear hl1
            go_wp2
            go_roundw
            case rel => exact HFIN.out
            case measure => simp [intOf]; omega
          | cons s0 P =>
            have ht := HO.out.t.take
            rw [(take_one s0 P).1, (take_one s0 P).2.1, (take_one s0 P).2.2] at ht
            clear hs7 HS
            go_wp2_with fail
            refine ht.mono ?_
            rintro e w2 ⟨v2, rfl, S2, ch2⟩
            have H2 := Hid_of (HO.out.ring S2 ch2)
            have HEN : Hid (In = (Out ++ [s0]) ++ P ∧ In.length ≤ k + 1) := ⟨by rw [HE.out.1]; simp, by have := HE.out.2; omega⟩
            have hon : Out.length ≤ 150 := by have h1 := HE.out.1; have h2 := HE.out.2; rw [h1, List.length_append] at h2; omega
            have HOO : Hid (w2.ownsRow w0.heap.size 9 1 (.slice ay Out.length cy) Out.length (SC Out)) := H2.out.oo
            have hszw : w0.heap.size ≤ w2.heap.size := H2.out.t.bel.size
            clear ht S2 ch2 HO HE c0 c1 c2
            go_wp2_with (at_builtin; refine wpList_append_lies _ rfl (.tmp 35) (.tmp 37) 27 rfl w0.heap.size 9 Try.t9 _ 1 16 Try.underlying27 hi9 hz9 hs9 hb9 rfl (by decide) _ _ _ rfl (HOO.out.alloc _) ⟨w2.heap.size, 0, none⟩ 1 1 [.string s0] rfl rfl (cell_one _ _ _ _ (heap_alloc_last _ _)) (by simp; rfl) (by decide) (by unfold maxLen; omega) (by omega) (by simp; omega) _ rfl ?_; intro g3 cp w3 hown3 hgrow hat hlt3; have H3 := Hid_of (H2.out.swap.app1 rfl hown3 hgrow hat).swap; clear hgrow hat hown3 HOO H2)
            have hpn := H3.out.t.n
            have hl1 := H3.out.t.len
            have hin : (In).length ≤ 150 := by have := HEN.out.2; omega
            have HX : Hid ((In).length = ((Out ++ [s0])).length + (P).length) := by show _ = _; rw [HEN.out.1, List.length_append]
            have HFIN : Hid (∃ (kk : Nat) (vv : Value) (PP II OO : List ByteArray), kk ≤ l.length ∧ Value.int .i64 ((k : Int) + 1) = .int .i64 kk ∧ Hid (OL w0 w3 b vv mo PP (.slice ax In.length cx) II (.slice (some ⟨g3, 0, none⟩) (Out.length + 1) cp) OO) ∧ Hid (II = OO ++ PP ∧ II.length ≤ kk)) := ⟨k + 1, v2, P, In, (Out ++ [s0]), by omega, by go_num, H3, HEN⟩
            obtain ⟨_, hp2, _, _⟩ := hpn
            have hol : (Out ++ [s0]).length = Out.length + 1 := by simp
            rw [hol] at HX
            generalize hnp : P.length = np at *
            generalize hni : In.length = ni at *
            generalize hoo : Out.length = oo at *
            obtain ⟨no, hno⟩ : ∃ no, no = oo + 1 := ⟨_, rfl⟩
            rw [← hno] at HX
            have hno' : (no : Int) = (oo : Int) + 1 := by omega
            clear hnp hni hoo hol
            have hsub : (ni : Int) - (no : Int) = (np : Int) := by have := HX.out; omega
            clear H3 HEN HX
            go_wp2_with fail
            refine hl1.mono ?_
            rintro e w8 ⟨rfl, rfl⟩
            go_wp2_with fail
            refine hl1.mono ?_
            rintro e w9 ⟨rfl, rfl⟩
            clear hl1
            go_wp2
            go_roundw
            case rel => exact HFIN.out
            case measure => simp [intOf]; omega
        · have hdb : (dk == 1) = false := by simpa using hdk
          clear hdk
          have hp := HO.out.t.put s (by unfold maxLen; omega)
          have c2' := HS.out _ HO.out.t.bel
          cases hq : M.ok mo P s with
          | false =>
            rw [hq, (M.ok_no hq).2] at hp
            clear hq
            go_wp2_with fail
            refine hp.mono ?_
            rintro e w2 ⟨v2, rfl, S2, ch2⟩
            have H2 := Hid_of (HO.out.ring S2 ch2)
            have HEN : Hid (In = Out ++ P ∧ In.length ≤ k + 1) := ⟨HE.out.1, by have := HE.out.2; omega⟩
            clear hp S2 ch2 HO HE c0 c1 c2 c2' HS
            have hpn := H2.out.t.n
            have hl1 := H2.out.t.len
            have hin : (In).length ≤ 150 := by have := HEN.out.2; omega
            have HX : Hid ((In).length = (Out).length + (P).length) := by show _ = _; rw [HEN.out.1, List.length_append]
            have HFIN : Hid (∃ (kk : Nat) (vv : Value) (PP II OO : List ByteArray), kk ≤ l.length ∧ Value.int .i64 ((k : Int) + 1) = .int .i64 kk ∧ Hid (OL w0 w2 b vv mo PP (.slice ax In.length cx) II (.slice ay Out.length cy) OO) ∧ Hid (II = OO ++ PP ∧ II.length ≤ kk)) := ⟨k + 1, v2, P, In, Out, by omega, by go_num, H2, HEN⟩
            obtain ⟨_, hp2, _, _⟩ := hpn
            generalize hnp : P.length = np at *
            generalize hni : In.length = ni at *
            generalize hno : Out.length = no at *
            clear hnp hni hno
            have hsub : (ni : Int) - (no : Int) = (np : Int) := by have := HX.out; omega
            clear H2 HEN HX
            go_wp2_with fail
            refine hl1.mono ?_
            rintro e w8 ⟨rfl, rfl⟩
            go_wp2_with fail
            refine hl1.mono ?_
            rintro e w9 ⟨rfl, rfl⟩
            clear hl1
            go_wp2
            go_roundw
            case rel => exact HFIN.out
            case measure => simp [intOf]; omega
          | true =>
            rw [hq, (M.ok_yes hq).2.2] at hp
            clear hq
            go_wp2_with fail
            refine hp.mono ?_
            rintro e w2 ⟨v2, rfl, S2, ch2⟩
            have H2 := Hid_of (HO.out.ring S2 ch2)
            have HEN : Hid (In ++ [s] = Out ++ (P ++ [s]) ∧ (In ++ [s]).length ≤ k + 1) := ⟨by rw [HE.out.1]; simp, by have := HE.out.2; simp; omega⟩
            have hon : In.length ≤ 150 := by have := HE.out.2; omega
            have HOO : Hid (w2.ownsRow w0.heap.size 9 1 (.slice ax In.length cx) In.length (SC In)) := H2.out.oi
            have hszw : w0.heap.size ≤ w2.heap.size := H2.out.t.bel.size
            have c3 := HS.out _ H2.out.t.bel
            clear hp S2 ch2 HO HE c0 c1 c2 c2' HS
            go_wp2_with (at_builtin; refine wpList_append_lies _ rfl (.tmp 46) (.tmp 52) 27 rfl w0.heap.size 9 Try.t9 _ 1 16 Try.underlying27 hi9 hz9 hs9 hb9 rfl (by decide) _ _ _ rfl (HOO.out.alloc _) ⟨w2.heap.size, 0, none⟩ 1 1 [.string s] rfl rfl (cell_one _ _ _ _ (heap_alloc_last _ _)) (by simp; rfl) (by decide) (by unfold maxLen; omega) (by omega) (by simp; omega) _ rfl ?_; intro g3 cp w3 hown3 hgrow hat hlt3; have H3 := Hid_of (H2.out.app1 rfl hown3 hgrow hat); clear hgrow hat hown3 HOO H2)
            have hpn := H3.out.t.n
            have hl1 := H3.out.t.len
            have hin : ((In ++ [s])).length ≤ 150 := by have := HEN.out.2; omega
            have HX : Hid (((In ++ [s])).length = (Out).length + ((P ++ [s])).length) := by show _ = _; rw [HEN.out.1, List.length_append]
            have HFIN : Hid (∃ (kk : Nat) (vv : Value) (PP II OO : List ByteArray), kk ≤ l.length ∧ Value.int .i64 ((k : Int) + 1) = .int .i64 kk ∧ Hid (OL w0 w3 b vv mo PP (.slice (some ⟨g3, 0, none⟩) (In.length + 1) cp) II (.slice ay Out.length cy) OO) ∧ Hid (II = OO ++ PP ∧ II.length ≤ kk)) := ⟨k + 1, v2, (P ++ [s]), (In ++ [s]), Out, by omega, by go_num, H3, HEN⟩
            obtain ⟨_, hp2, _, _⟩ := hpn
            have hpl : (P ++ [s]).length = P.length + 1 := by simp
            have hil : (In ++ [s]).length = In.length + 1 := by simp
            rw [hpl] at HX hl1 hp2
            rw [hil] at HX hin
            generalize hnp : P.length = pp at *
            generalize hni : In.length = ii at *
            generalize hno : Out.length = no at *
            obtain ⟨np, hnp'⟩ : ∃ np, np = pp + 1 := ⟨_, rfl⟩
            obtain ⟨ni, hni'⟩ : ∃ ni, ni = ii + 1 := ⟨_, rfl⟩
            rw [← hnp'] at HX hl1 hp2
            rw [← hni'] at HX hin
            clear hnp hni hno hpl hil
            have hsub : (ni : Int) - (no : Int) = (np : Int) := by have := HX.out; omega
            clear H3 HEN HX
            go_wp2_with fail
            refine hl1.mono ?_
            rintro e w8 ⟨rfl, rfl⟩
            go_wp2_with fail
            refine hl1.mono ?_
            rintro e w9 ⟨rfl, rfl⟩
            clear hl1
            go_wp2
            go_roundw
            case rel => exact HFIN.out
            case measure => simp [intOf]; omega
      · have hkn : k = l.length := by omega
        subst hkn
        obtain ⟨hE, hEn⟩ := HE.out
        subst hE
        have hall := HO.out.t.all
        have hn1 : Out.length + P.length ≤ 150 := by rw [List.length_append] at hEn; omega
        clear HE hEn HD HSZ
        go_wp2_with fail
        refine hall.mono ?_
        rintro e w2 ⟨a2, cp2, rfl, at2, hz2, B2, S2⟩
        have H2 := Hid_of (HO.out.keep B2)
        clear hall HO B2 S2
        have HOO : Hid (w2.ownsRow w0.heap.size 9 1 (.slice ay Out.length cy) Out.length (SC Out)) := H2.out.oo
        have hszw : w0.heap.size ≤ w2.heap.size := H2.out.t.bel.size
        -- both rows, whatever append leaves
        have HFIN : Hid (∀ v3 w3, w3.ownsRow w0.heap.size 9 1 v3 (Out.length + P.length) (SC Out ++ SC P) → w2.grownBy w3 (Value.slice ay Out.length cy).ownBlock → ∃ a3 c3, v3 = .slice a3 (Out ++ P).length c3 ∧ (Calls Try.prog 20 #[.slice a3 (Out ++ P).length c3, .slice ax (Out ++ P).length cx] w3 fun e w' => e = .returned (.bool true) ∧ Below w3.heap.size w3 w') ∧ Below w0.heap.size w0 w3) := by
          intro v3 w3 ho hg
          have ho' : OwnT w3 w0.heap.size v3 (Out ++ P) := by unfold OwnT; rw [SC_app, List.length_append]; exact ho
          obtain ⟨a3, c3, rfl, hat3, _⟩ := ho'.at
          have hB : Below w0.heap.size w2 w3 := ⟨hg.os, hg.tape, hg.output, hg.size, fun q hq => hg.block q (by omega) (fun e => by have := (H2.out.oo.lt e.symm).1; omega)⟩
          have hin := H2.out.oi.keepBut (w1 := w3) fun q hq e => hg.block q hq (fun e' => H2.out.xy q e e'.symm)
          obtain ⟨a4, c4, e4, hat4, _⟩ := hin.at
          simp only [Value.slice.injEq] at e4
          obtain ⟨rfl, _, rfl⟩ := e4
          exact ⟨a3, c3, rfl, texts_any a3 c3 _ _ (Out ++ P) w3 (by rw [List.length_append]; omega) hat3 hat4, H2.out.t.bel.trans hB⟩
        obtain ⟨nn, hnn⟩ : ∃ nn, (Out ++ P).length = nn := ⟨_, rfl⟩
        have HNN := Hid_of hnn
        rw [hnn] at HFIN ⊢
        clear hnn
        cases a2 with
        | none =>
          have hP := atT_none at2
          subst hP
          obtain rfl : cp2 = 0 := hz2 rfl
          obtain ⟨a3, c3, e3, ht, B3⟩ := HFIN.out (.slice ay Out.length cy) w2 (by simpa [SC] using HOO.out) ⟨rfl, rfl, rfl, Nat.le_refl _, fun _ _ _ => rfl⟩
          simp only [Value.slice.injEq] at e3
          obtain ⟨rfl, _, rfl⟩ := e3
          have HB3 := Hid_of B3
          simp only [List.length_nil]
          have hno : Out.length = nn := by have := HNN.out; rw [List.append_nil] at this; exact this
          rw [hno] at HOO ⊢
          clear at2 hz2 HFIN B3 hno HNN hn1
          go_wp2_with (at_builtin; refine wpList_append_own_none rfl (.tmp 70) (.tmp 72) 27 rfl w0.heap.size 9 Try.t9 1 Try.underlying27 hi9 _ _ _ rfl HOO.out rfl ?_; clear HOO H2)
          go_wp2_with fail
          refine ht.mono ?_
          rintro e w4 ⟨rfl, b4⟩
          have HB4 := Hid_of (bel_up HB3.out b4 (Nat.le_refl _))
          clear ht b4 HB3
          go_wp2_with fail
          refine (awake_any _).mono ?_
          rintro e w5 ⟨rfl, b5⟩
          have HB5 := Hid_of (bel_up HB4.out b5 (Nat.le_refl _))
          clear b5 HB4
          go_wp2
          go_ret
          exact ⟨rfl, HB5.out⟩
        | some ad2 =>
          have hnews := atT_any at2
          have HNE := Hid_of hnews
          clear at2 hz2 hnews
          go_wp2_with (at_builtin; refine wpList_append_own _ rfl (.tmp 70) (.tmp 72) 27 rfl w0.heap.size 9 Try.t9 _ 1 16 Try.underlying27 hi9 hz9 hs9 hb9 rfl (by decide) _ _ _ rfl HOO.out ad2 P.length cp2 (SC P) rfl (by rw [SC_len, Nat.mul_one]) HNE.out (SC_one P) (by unfold maxLen; omega) (by omega) hszw ?_; intro v3 w3 hown3 hgrow _; obtain ⟨a3, c3, rfl, ht, B3⟩ := HFIN.out v3 w3 hown3 hgrow; have HB3 := Hid_of B3; clear hgrow hown3 HOO H2 HFIN B3 HNE)
          go_wp2_with fail
          refine ht.mono ?_
          rintro e w4 ⟨rfl, b4⟩
          have HB4 := Hid_of (bel_up HB3.out b4 (Nat.le_refl _))
          clear ht b4 HB3
          go_wp2_with fail
          refine (awake_any _).mono ?_
          rintro e w5 ⟨rfl, b5⟩
          have HB5 := Hid_of (bel_up HB4.out b5 (Nat.le_refl _))
          clear b5 HB4
          go_wp2
          go_ret
          exact ⟨rfl, HB5.out⟩
end Go.Proofs.Ytlknknacjpnmeaa
