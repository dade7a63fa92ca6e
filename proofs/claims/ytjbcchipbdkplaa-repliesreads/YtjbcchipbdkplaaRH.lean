/-
  What is kept is read.
-/
import Derived.Test.YtjbcchipbdkplaaRG
import Derived.Deep.CutRange
namespace Go.Proofs.Ytjbcchipbdkplaa
open Go.RowKit Go.Maps
set_option linter.unusedVariables false
open Rp (C fup)

namespace Rp
theorem rdA_no (s : List UInt8) (h : vl 0 (M.byte s) < 1 ∨ 16 < vl 0 (M.byte s) ∨ vl 0 (M.int (lft (nx (M.byte s)))) < 0 ∨ 64 < vl 0 (M.int (lft (nx (M.byte s))))) : rdA s = none := by
  unfold rdA
  obtain ⟨o, ho⟩ : ∃ o, M.byte s = o := ⟨_, rfl⟩
  simp only [ho] at h ⊢
  cases o with
  | none => rfl
  | some p =>
    obtain ⟨rm, r⟩ := p
    simp only [nx, Option.map_some, lft, Option.getD_some] at h ⊢
    obtain ⟨z, hz⟩ : ∃ z, M.int r = z := ⟨_, rfl⟩
    simp only [hz] at h ⊢
    cases z with
    | none => rfl
    | some q =>
      obtain ⟨n, r1⟩ := q
      simp only [vl] at h ⊢
      rw [if_pos h]
/-- All of it, when so many clients are read, and so many are left. -/
def TotM (room : Nat) (tot : Option ((Nat × List (Int × List C)) × List UInt8)) (st : Option (List UInt8)) (m : Nat) (last : Int) (ps : List (Int × List C)) : Prop := tot = (st.bind (rdM room m last)).map fun p => ((room, ps ++ p.1), p.2)
theorem rdA_yes (s : List UInt8) (room n : Nat) (h : vl 0 (M.byte s) = (room : Int)) (hn : vl 0 (M.int (lft (nx (M.byte s)))) = (n : Int)) (h1 : 1 ≤ room) (h16 : room ≤ 16) (h64 : n ≤ 64) : TotM room (rdA s) (nx (M.int (lft (nx (M.byte s))))) n (-1) [] := by
  unfold TotM rdA
  obtain ⟨o, ho⟩ : ∃ o, M.byte s = o := ⟨_, rfl⟩
  simp only [ho] at h hn ⊢
  cases o with
  | none => simp only [vl] at h; omega
  | some p =>
    obtain ⟨rm, r⟩ := p
    simp only [vl] at h
    subst h
    simp only [nx, Option.map_some, lft, Option.getD_some] at hn ⊢
    obtain ⟨z, hz⟩ : ∃ z, M.int r = z := ⟨_, rfl⟩
    simp only [hz] at hn ⊢
    cases z with
    | none => rfl
    | some q =>
      obtain ⟨k, r1⟩ := q
      simp only [vl] at hn
      subst hn
      simp only [Option.map_some, Option.bind_some]
      rw [if_neg (by omega), Int.toNat_natCast, Int.toNat_natCast]
      cases rdM room n (-1) r1 with
      | none => rfl
      | some q => rfl
theorem bind_M (room : Nat) (st : Option (List UInt8)) (m : Nat) (last : Int) : st.bind (rdM room (m + 1) last) = (M.byte (lft st)).bind fun p => (rdL room p.2).bind fun q => if p.1 ≤ last ∨ mayC p.1 = false then none else (rdM room m p.1 q.2).map fun z => ((p.1, q.1) :: z.1, z.2) := by
  cases st with
  | none => rfl
  | some s =>
    show rdM room (m + 1) last s = _
    rw [rdM]
    show _ = (M.byte s).bind _
    cases M.byte s with
    | none => rfl
    | some p =>
      simp only [Option.bind_some]
      cases rdL room p.2 with
      | none => rfl
      | some q => rfl
theorem rdL_nil (room : Nat) : rdL room [] = none := rfl
section
variable {room : Nat} {tot : Option ((Nat × List (Int × List C)) × List UInt8)} {st st' : Option (List UInt8)} {m : Nat} {last : Int} {ps : List (Int × List C)} {l : List C} {ok : Bool}
theorem TotM.no (h : TotM room tot st (m + 1) last ps) (hc : rdL room (lft (nx (M.byte (lft st)))) = res ok st' l) (hb : ok = false ∨ vl 0 (M.byte (lft st)) ≤ last ∨ mayC (vl 0 (M.byte (lft st))) = false) : tot = none := by
  unfold TotM at h
  rw [h, bind_M]
  cases ho : M.byte (lft st) with
  | none => rfl
  | some p =>
    obtain ⟨c, r⟩ := p
    rw [ho] at hc hb
    simp only [nx, Option.map_some, lft, Option.getD_some, vl] at hc hb
    simp only [Option.bind_some]
    rw [hc]
    unfold res
    cases ok with
    | false => rfl
    | true =>
      cases st' with
      | none => rfl
      | some r =>
        rcases hb with hb | hb
        · cases hb
        · simp only [if_true, Option.map_some, Option.bind_some]
          rw [if_pos hb]
          rfl
theorem TotM.go (h : TotM room tot st (m + 1) last ps) (hc : rdL room (lft (nx (M.byte (lft st)))) = res true st' l) (h1 : ¬ vl 0 (M.byte (lft st)) ≤ last) (h2 : mayC (vl 0 (M.byte (lft st))) = true) : TotM room tot st' m (vl 0 (M.byte (lft st))) (ps ++ [(vl 0 (M.byte (lft st)), l)]) := by
  unfold TotM at h ⊢
  rw [h, bind_M]
  cases ho : M.byte (lft st) with
  | none =>
    rw [ho] at hc
    have : st' = none := by
      have e : rdL room (lft (nx (none : Option (Int × List UInt8)))) = none := rdL_nil room
      rw [e] at hc
      unfold res at hc
      cases st' with
      | none => rfl
      | some r => simp at hc
    subst this
    rfl
  | some p =>
    obtain ⟨c, r⟩ := p
    rw [ho] at hc h1 h2
    simp only [nx, Option.map_some, lft, Option.getD_some, vl] at hc h1 h2
    simp only [Option.bind_some, vl]
    rw [hc]
    unfold res
    cases st' with
    | none => rfl
    | some r =>
      simp only [if_true, Option.map_some, Option.bind_some]
      rw [if_neg (by rw [h2]; simp; omega)]
      cases rdM room m c r with
      | none => rfl
      | some q => simp
theorem TotM.done (h : TotM room tot st 0 last ps) : tot = res true st (room, ps) := by
  unfold TotM at h
  rw [h]
  unfold res
  cases st with
  | none => rfl
  | some s => simp [rdM]
end
theorem tof_snoc {ps : List (Int × List C)} {c : Int} {l : List C} (h : ∀ p ∈ ps, p.1 ≠ c) : tof (ps ++ [(c, l)]) = fup (tof ps) c l := by
  funext d
  by_cases hd : d = c
  · subst hd
    have e : ps.find? (fun p => p.1 == d) = none := by
      rw [List.find?_eq_none]
      intro p hp
      simpa using h p hp
    rw [fup_same]
    unfold tof
    simp [List.find?_append, e]
  · have hd' : ¬ c = d := fun e => hd e.symm
    rw [fup_other _ _ hd]
    unfold tof
    obtain ⟨o, ho⟩ : ∃ o, ps.find? (fun p => p.1 == d) = o := ⟨_, rfl⟩
    simp only [List.find?_append, ho]
    cases o with
    | none => simp [hd']
    | some q => rfl
theorem tof_nil : tof [] = non := rfl
end Rp
section
variable {w w' w'' : World} {base b m n room : Nat} {f : Int → Option (Nat × Nat × Nat)} {T : Int → List C}
theorem RI.grown (h : RI w base b m n room f T) {q : Nat} (hg : w.grownBy w' (some q)) (hb : q < base) : RI w' base b m n room f T :=
  h.keepBut (fun k hk hF => hg.block k hk (fun e => by cases e; have := (h.mine _ hF).1; omega))
theorem RI.lower (h : RI w base b m n room f T) {base' : Nat} (hb : base' ≤ base) : RI w base' b m n room f T :=
  ⟨h.row, h.mi, fun c => (h.own c).low hb, h.got, h.ap, h.nb, ⟨Nat.le_trans hb h.low.1, Nat.le_trans hb h.low.2⟩⟩
/-- A row that lies apart is laid into the map. -/
theorem RI.laid (h : RI w base b m n room f T) {c : Int} {p : Nat × Nat × Nat} {l : List C} (hf : f c = none) (ho : OwnL cl 66 w base (svV (some p)) l) (hap : ∀ k, (svV (some p)).ownBlock = some k → ¬ fpr b m f k) (hl : l ≠ []) (hm : MI w'' m (n + 1) (fup f c (some p))) (ht : MT w m w'') :
    RI w'' base b m (n + 1) room (fup f c (some p)) (fup T c l) := by
  have hk2 : ∀ k, k ≠ m → w''.heap[k]? = w.heap[k]? := ht.block
  have hpm : (svV (some p)).ownBlock ≠ some m := fun e => hap m e (.inr (.inl rfl))
  refine ⟨?_, hm, fun d => ?_, fun d hd => ?_, fun d e g hd he => ?_, fun d => ?_, h.low⟩
  · rw [hk2 b h.bm]; exact h.row
  · by_cases hd : d = c
    · subst hd
      rw [Rp.fup_same, Rp.fup_same]
      exact ho.keepBut (fun k _ e => hk2 k (by rintro rfl; exact hpm e))
    · rw [Rp.fup_other _ _ hd, Rp.fup_other _ _ hd]
      exact (h.own d).keepBut (fun k hk e => hk2 k (by rintro rfl; exact (h.nb d).2 e))
  · by_cases hdc : d = c
    · subst hdc; rw [Rp.fup_same]; exact hl
    · rw [Rp.fup_other _ _ hdc] at hd ⊢; exact h.got d hd
  · by_cases hdc : d = c
    · by_cases hec : e = c
      · rw [hdc, hec]
      · subst hdc
        rw [Rp.fup_same] at hd
        rw [Rp.fup_other _ _ hec] at he
        exact absurd (.inr (.inr ⟨e, he⟩)) (hap g hd)
    · rw [Rp.fup_other _ _ hdc] at hd
      by_cases hec : e = c
      · subst hec
        rw [Rp.fup_same] at he
        exact absurd (.inr (.inr ⟨d, hd⟩)) (hap g he)
      · rw [Rp.fup_other _ _ hec] at he
        exact h.ap d e g hd he
  · by_cases hdc : d = c
    · subst hdc; rw [Rp.fup_same]; exact ⟨fun e => hap b e (.inl rfl), hpm⟩
    · rw [Rp.fup_other _ _ hdc]; exact h.nb d
end
theorem MT.grown {w w' : World} {m : Nat} (h : MT w m w') : w.grownBy w' (some m) := ⟨h.os, h.tape, h.output, by rw [h.size]; exact Nat.le_refl _, fun k _ hk => h.block k (fun e => hk (by rw [e]))⟩
/-- What readReplies gives. -/
def RRes (w : World) (b : Nat) (st : Option (List UInt8)) (e : Ending) (w' : World) : Prop :=
  ∃ (v : Value) (ok : Bool) (st' : Option (List UInt8)), e = .returned (.tuple #[v, .bool ok]) ∧ RS w' b st' ∧ w.grownBy w' (some b) ∧ (lft st').length ≤ (lft st).length ∧
    ((ok = false ∧ v = .pointer none ∧ Rp.rdA (lft st) = none) ∨ (ok = true ∧ ∃ (room : Nat) (ps : List (Int × List C)) (br m n : Nat) (f : Int → Option (Nat × Nat × Nat)), v = .pointer (some ⟨br, 0, none⟩) ∧ RI w' w.heap.size br m n room f (Rp.tof ps) ∧ n ≤ 64 ∧ Rp.rdA (lft st) = Rp.res true st' (room, ps)))
set_option maxRecDepth 100000 in
set_option maxHeartbeats 1000000 in
theorem readReplies_no (b : Nat) (st : Option (List UInt8)) (w : World) (hr : RS w b st) (hl : (lft st).length ≤ 100000000) (hbad : vl 0 (M.byte (lft st)) < 1 ∨ 16 < vl 0 (M.byte (lft st)) ∨ vl 0 (M.int (lft (nx (M.byte (lft st))))) < 0 ∨ 64 < vl 0 (M.int (lft (nx (M.byte (lft st)))))) :
    Calls Try.prog 39 #[.pointer (some ⟨b, 0, none⟩)] w (RRes w b st) := by
  have hby := byte_rs b st w hr (by omega)
  have hbl := byte_left (lft st)
  have hil := int_left (lft (nx (M.byte (lft st))))
  have hi := fun w1 (h : RS w1 b (nx (M.byte (lft st)))) => int_rs b _ w1 h (by omega)
  have HN := Hid_of (Rp.rdA_no _ hbad)
  generalize hrm : vl 0 (M.byte (lft st)) = rm at *
  generalize hnn : vl 0 (M.int (lft (nx (M.byte (lft st))))) = nn at *
  have hd : decide (rm < 1) = true ∨ decide (rm < 1) = false ∧ (decide (16 < rm) = true ∨ decide (16 < rm) = false ∧ (decide (nn < 0) = true ∨ decide (nn < 0) = false ∧ decide (64 < nn) = true)) := by simp; omega
  clear hr hbad hrm hnn
  rcases hd with d1 | ⟨d1, d2 | ⟨d2, d3 | ⟨d3, d4⟩⟩⟩
  all_goals
    go_enter Try.func39, Try.ntmps39
    go_wp2_with fail
    refine hby.mono ?_
    rintro e w2 ⟨rfl, hr2, hg2⟩
    have hi2 := hi w2 hr2
    have HG2 := Hid_of hg2
    clear hby hi hr2 hg2
    go_wp2_with fail
    refine hi2.mono ?_
    rintro e w3 ⟨rfl, hr3, hg3⟩
    have HK : Hid (RRes w b st (.returned (.tuple #[.pointer none, .bool false])) w3) := ⟨_, false, _, rfl, hr3, grown_trans HG2.out hg3, by omega, .inl ⟨rfl, rfl, HN.out⟩⟩
    clear hi2 hr3 hg3 HN hil hbl HG2
    go_wp2
    go_ret2
    exact HK.out
set_option maxRecDepth 100000 in
set_option maxHeartbeats 2000000 in
theorem readReplies_yes (b : Nat) (st : Option (List UInt8)) (w : World) (hr : RS w b st) (hl : (lft st).length ≤ 100000000) (room n : Nat) (hrm : vl 0 (M.byte (lft st)) = (room : Int)) (hnn : vl 0 (M.int (lft (nx (M.byte (lft st))))) = (n : Int)) (h1 : 1 ≤ room) (h16 : room ≤ 16) (h64 : n ≤ 64) :
    Calls Try.prog 39 #[.pointer (some ⟨b, 0, none⟩)] w (RRes w b st) := by
  have hby := byte_rs b st w hr (by omega)
  have hbl := byte_left (lft st)
  have hil := int_left (lft (nx (M.byte (lft st))))
  have hi := fun w1 (h : RS w1 b (nx (M.byte (lft st)))) => int_rs b _ w1 h (by omega)
  have HT := Hid_of (Rp.rdA_yes (lft st) room n hrm hnn h1 h16 h64)
  obtain ⟨tot, HTE⟩ : ∃ tot, Hid (Rp.rdA (lft st) = tot) := ⟨_, Hid_of rfl⟩
  rw [HTE.out] at HT
  have HBL : Hid (b < w.heap.size) := hr.lt
  rw [hrm] at hby
  rw [hnn] at hi
  have d1 : decide ((room : Int) < 1) = false := decide_eq_false (by omega)
  have d2 : decide ((16 : Int) < (room : Int)) = false := decide_eq_false (by omega)
  have d3 : decide ((n : Int) < 0) = false := decide_eq_false (by omega)
  have d4 : decide ((64 : Int) < (n : Int)) = false := decide_eq_false (by omega)
  clear hr hrm hnn
  go_enter Try.func39, Try.ntmps39
  go_wp2_with fail
  refine hby.mono ?_
  rintro e w2 ⟨rfl, hr2, hg2⟩
  have hi2 := hi w2 hr2
  have HG2 := Hid_of hg2
  clear hby hi hr2 hg2
  go_wp2_with fail
  refine hi2.mono ?_
  rintro e w3 ⟨rfl, hr3, hg3⟩
  have hnw := new_any (room : Int) w3
  rw [rm_nat ⟨h1, h16⟩] at hnw
  have HG3 := Hid_of (grown_trans HG2.out hg3)
  have HR3 := Hid_of hr3
  clear hi2 hr3 hg3 HG2
  go_wp2_with fail
  refine hnw.mono ?_
  rintro e w4 ⟨br, mr, rfl, hX4, hb4⟩
  have HST : Hid (RI w4 w.heap.size br mr 0 room (fun _ => none) (Rp.tof []) ∧ RS w4 b (nx (M.int (lft (nx (M.byte (lft st)))))) ∧ w.grownBy w4 (some b) ∧ (lft (nx (M.int (lft (nx (M.byte (lft st))))))).length ≤ (lft st).length) :=
    ⟨hX4.lower HG3.out.size, HR3.out.below hb4, HG3.out.andThen (grown_below (r := none) hb4) (fun j hj => by cases hj), by omega⟩
  clear hnw hX4 hb4 HG3 HR3 hil hbl
  generalize nx (M.int (lft (nx (M.byte (lft st))))) = st0 at *
  go_wp2
  go_loopw [32, 7] (fun i lv wr => ∃ (k : Nat) (ps : List (Int × List C)) (last : Int) (st' : Option (List UInt8)) (f : Int → Option (Nat × Nat × Nat)), k ≤ n ∧ i = .int .i64 k ∧ lv = .int .i64 last ∧ RI wr w.heap.size br mr k room f (Rp.tof ps) ∧ (∀ p ∈ ps, p.1 ≤ last) ∧ RS wr b st' ∧ w.grownBy wr (some b) ∧ (lft st').length ≤ (lft st).length ∧ Hid (Rp.TotM room tot st' (n - k) last ps)) (fun i lv _ => n - (intOf i).toNat)
  case atStart => exact ⟨0, [], -1, st0, _, Nat.zero_le _, rfl, rfl, HST.out.1, by simp, HST.out.2.1, HST.out.2.2.1, HST.out.2.2.2, HT⟩
  case round =>
    obtain ⟨k, ps, last, st', f, hk, rfl, rfl, hX, hps, hrs, hgr, hls, HT'⟩ := hrel
    have HX := Hid_of hX
    have HPS := Hid_of hps
    have HGR := Hid_of hgr
    have HLS := Hid_of hls
    by_cases hlt : k < n
    · obtain ⟨m, hm⟩ : ∃ m, n - k = m + 1 := ⟨n - k - 1, by omega⟩
      rw [hm] at HT'
      have HM : Hid (n - (k + 1) = m) := Hid_of (by omega)
      have hby := byte_rs b st' wr hrs (by omega)
      have hbl := byte_left (lft st')
      have hrk := fun w5 (h : RS w5 b (nx (M.byte (lft st')))) => readKept_any b room (nx (M.byte (lft st'))) w5 h (by omega) h16
      clear hX hps hrs hgr hls HT HST hm
      go_wp2_with fail
      refine hby.mono ?_
      rintro e w5 ⟨rfl, hr5, hg5⟩
      have hk5 := hrk w5 hr5
      have HX5 := Hid_of (HX.out.grown hg5 HBL.out)
      have HG5 := Hid_of (grown_trans HGR.out hg5)
      have HWS : Hid (w.heap.size ≤ w5.heap.size) := HG5.out.size
      clear hby hrk hr5 hg5 HX HGR
      generalize hcv : vl 0 (M.byte (lft st')) = c at *
      go_wp2_with fail
      refine hk5.mono ?_
      rintro e w6 ⟨v, l, ok, st2, rfl, ho6, hne, hr6, hg6, hl6, hcr⟩
      have hX6 := HX5.out.grown hg6 HBL.out
      have hG6 := grown_trans HG5.out hg6
      have hL6 : (lft st2).length ≤ (lft st).length := Nat.le_trans hl6 (Nat.le_trans hbl HLS.out)
      have hcc := isC_any c w6
      have HBAD : Hid ((ok = false ∨ c ≤ last ∨ Rp.mayC c = false) → RRes w b st (.returned (.tuple #[.pointer none, .bool false])) w6) := fun hb => ⟨_, false, st2, rfl, hr6, hG6, hL6, .inl ⟨rfl, rfl, by rw [HTE.out]; exact HT'.out.no hcr (by rw [hcv]; exact hb)⟩⟩
      have HGO : Hid (ok = true → ¬ c ≤ last → Rp.mayC c = true → Rp.TotM room tot st2 m c (ps ++ [(c, l)])) := fun g1 g2 g3 => by
        have := HT'.out.go (by rw [hcr, g1]) (by rw [hcv]; exact g2) (by rw [hcv]; exact g3)
        rw [hcv] at this
        exact this
      obtain ⟨a6, cap6, hv6, _⟩ := ho6.at
      have HV6 := Hid_of hv6
      subst hv6
      have HO6 := Hid_of ho6
      have HX6 := Hid_of hX6
      have HR6 := Hid_of hr6
      have HG6 := Hid_of hG6
      have HL6 := Hid_of hL6
      have HNE := Hid_of hne
      clear hk5 ho6 hne hr6 hg6 hl6 hcr hX6 hG6 hL6 hbl HT' HLS HG5
      cases ok with
      | false =>
        have HK := Hid_of (HBAD.out (.inl rfl))
        clear HBAD HGO HO6 HX6 HR6 HG6 HL6 HNE HV6 hcc
        go_wp2
        go_ret2
        exact HK.out
      | true =>
        by_cases hle : c ≤ last
        · have HK := Hid_of (HBAD.out (.inr (.inl hle)))
          have dle : decide (c ≤ last) = true := decide_eq_true hle
          clear HBAD HGO HO6 HX6 HR6 HG6 HL6 HNE HV6 hcc hle
          go_wp2
          go_ret2
          exact HK.out
        · have dle : decide (c ≤ last) = false := decide_eq_false hle
          cases hmc : Rp.mayC c with
          | false =>
            have HK := Hid_of (HBAD.out (.inr (.inr hmc)))
            rw [hmc] at hcc
            clear HBAD HGO HO6 HX6 HR6 HG6 HL6 HNE HV6 hle hmc
            go_wp2_with fail
            refine hcc.mono ?_
            rintro e w7 ⟨rfl, rfl⟩
            go_wp2
            go_ret2
            exact HK.out
          | true =>
            have hcb := Rp.mayC_yes hmc
            have HT2 := Hid_of (HGO.out rfl hle hmc)
            rw [hmc] at hcc
            have hps' : ∀ p ∈ ps, p.1 ≠ c := fun p hp e => by have := HPS.out p hp; omega
            have hfc : f c = none := by
              cases hf : f c with
              | none => rfl
              | some q => exact absurd (Rp.tof_no hps') (HX6.out.got c (by rw [hf]; rfl))
            rcases HO6.out.row with ⟨_, e0⟩ | ⟨g, cap, cur, hvg, hbg, hrw⟩
            · exact absurd e0 (HNE.out rfl)
            simp only [Value.slice.injEq, true_and] at hvg
            obtain ⟨rfl, rfl⟩ := hvg
            have hsv : svV (some (g, l.length, cap6)) = .slice (some ⟨g, 0, none⟩) l.length cap6 := rfl
            obtain ⟨w8, hput, hm8, ht8⟩ := HX6.out.mi.put c (lit_i (by omega) (by omega)) (g, l.length, cap6) (by unfold maxLen; omega)
            have hX8 := HX6.out.laid (p := (g, l.length, cap6)) (l := l) hfc (HO6.out.low HWS.out) (fun q e hF => by
              have h1 := (HX5.out.mine q hF).2
              have h2 := (HO6.out.lt e).1
              omega) (HNE.out rfl) hm8 ht8
            rw [← Rp.tof_snoc hps'] at hX8
            rw [hsv] at hput
            obtain ⟨⟨q0, q1⟩, _⟩ := HX6.out.cells
            have hg8 : w.grownBy w8 (some b) := HG6.out.andThen ht8.grown (fun j hj => by cases hj; exact .inl HX6.out.low.2)
            have hr8 : RS w8 b st2 := HR6.out.keep (ht8.block b (fun e => by have := HX6.out.low.2; have := HBL.out; omega))
            have HREL : Hid (RI w8 w.heap.size br mr (k + 1) room (fup f c (some (g, l.length, cap6))) (Rp.tof (ps ++ [(c, l)])) ∧ RS w8 b st2 ∧ w.grownBy w8 (some b)) := ⟨hX8, hr8, hg8⟩
            have HPS2 : Hid (∀ p ∈ ps ++ [(c, l)], p.1 ≤ c) := fun p hp => by
              rcases List.mem_append.1 hp with h' | h'
              · have := HPS.out p h'; omega
              · simp at h'; subst h'; exact Int.le_refl _
            clear HBAD HGO HO6 HX6 HR6 HG6 HNE HV6 hle hmc hX8 hr8 hg8 hm8 ht8 hrw hfc hps' HX5 hcv hsv
            go_wp2_with fail
            refine hcc.mono ?_
            rintro e w7 ⟨rfl, rfl⟩
            go_wp2
            go_roundw
            case rel => exact ⟨k + 1, ps ++ [(c, l)], c, st2, _, by omega, by go_num, rfl, HREL.out.1, HPS2.out, HREL.out.2.1, HREL.out.2.2, HL6.out, by rw [HM.out]; exact HT2⟩
            case measure => simp [intOf]; omega
    · obtain rfl : k = n := by omega
      have HK : Hid (RRes w b st (.returned (.tuple #[.pointer (some ⟨br, 0, none⟩), .bool true])) wr) := by
        rw [Nat.sub_self] at HT'
        exact ⟨_, true, st', rfl, hrs, hgr, hls, .inr ⟨rfl, room, ps, br, mr, k, f, rfl, hX, h64, by rw [HTE.out]; exact HT'.out.done⟩⟩
      clear hX hps hrs hgr hls HX HPS HGR HLS HT' HT HST
      go_wp2
      go_ret2
      exact HK.out
theorem readReplies_any (b : Nat) (st : Option (List UInt8)) (w : World) (hr : RS w b st) (hl : (lft st).length ≤ 100000000) : Calls Try.prog 39 #[.pointer (some ⟨b, 0, none⟩)] w (RRes w b st) := by
  by_cases hbad : vl 0 (M.byte (lft st)) < 1 ∨ 16 < vl 0 (M.byte (lft st)) ∨ vl 0 (M.int (lft (nx (M.byte (lft st))))) < 0 ∨ 64 < vl 0 (M.int (lft (nx (M.byte (lft st)))))
  · exact readReplies_no b st w hr hl hbad
  · obtain ⟨room, hrm⟩ := Int.eq_ofNat_of_zero_le (show 0 ≤ vl 0 (M.byte (lft st)) by omega)
    obtain ⟨n, hn⟩ := Int.eq_ofNat_of_zero_le (show 0 ≤ vl 0 (M.int (lft (nx (M.byte (lft st))))) by omega)
    exact readReplies_yes b st w hr hl room n hrm hn (by omega) (by omega) (by omega)
/-- What Read gives. -/
def RdOut (w : World) (s : List UInt8) (e : Ending) (w' : World) : Prop :=
  (Rp.rdR s = none ∧ e = .returned (.tuple #[.pointer none, .int .i64 3]) ∧ Below w.heap.size w w') ∨
  ∃ (room : Nat) (ps : List (Int × List C)) (br m n : Nat) (f : Int → Option (Nat × Nat × Nat)), Rp.rdR s = some (room, ps) ∧ e = .returned (.tuple #[.pointer (some ⟨br, 0, none⟩), .int .i64 0]) ∧ RI w' w.heap.size br m n room f (Rp.tof ps) ∧ n ≤ 64 ∧ Below w.heap.size w w'
set_option maxRecDepth 100000 in
set_option maxHeartbeats 1000000 in
theorem read_any (s : List UInt8) (w : World) (hl : s.length ≤ 100000000) : Calls Try.prog 21 #[.string (ofL s)] w (RdOut w s) := by
  have hnr := newReader_any s w (by omega)
  go_enter Try.func21, Try.ntmps21
  go_wp2_with fail
  refine hnr.mono ?_
  rintro e w1 ⟨b, rfl, hbw, hr1, hb1⟩
  have hrr := readReplies_any b (some s) w1 hr1 hl
  have HB1 := Hid_of hb1
  have HBW := Hid_of hbw
  clear hnr hr1 hb1 hbw
  go_wp2_with fail
  refine hrr.mono ?_
  rintro e w2 ⟨v, ok, st', rfl, hr2, hg2, hl2, hres⟩
  have HB2 : Hid (Below w.heap.size w w2) := HB1.out.grown hg2 HB1.out.size (fun j hj => by cases hj; exact HBW.out)
  rcases hres with ⟨rfl, rfl, hno⟩ | ⟨rfl, room, ps, br, m, n, f, rfl, hX, hn, hyes⟩
  · have HK : Hid (RdOut w s (.returned (.tuple #[.pointer none, .int .i64 3])) w2) := .inl ⟨by unfold Rp.rdR; rw [show Rp.rdA s = none from hno], rfl, HB2.out⟩
    clear hrr hr2 hg2 hno
    go_wp2
    go_ret2
    exact HK.out
  · have hd := rdone_any b st' w2 hr2 (by have : (lft (some s)).length = s.length := rfl; omega)
    have hyes : Rp.rdA s = Rp.res true st' (room, ps) := hyes
    rcases rdone_eq st' with ⟨h0, he⟩ | ⟨h3, he⟩
    · have HK : Hid (RdOut w s (.returned (.tuple #[.pointer (some ⟨br, 0, none⟩), .int .i64 0])) w2) := .inr ⟨room, ps, br, m, n, f, by unfold Rp.rdR; rw [hyes, he]; rfl, rfl, hX.lower HB1.out.size, hn, HB2.out⟩
      rw [h0] at hd
      clear hrr hr2 hg2 hX hyes he h0
      go_wp2_with fail
      refine hd.mono ?_
      rintro e w3 ⟨rfl, rfl⟩
      go_wp2
      go_ret2
      exact HK.out
    · have HK : Hid (RdOut w s (.returned (.tuple #[.pointer none, .int .i64 3])) w2) := .inl ⟨by
        unfold Rp.rdR; rw [hyes]
        cases st' with
        | none => rfl
        | some r =>
          cases r with
          | nil => exact absurd rfl he
          | cons x q => rfl, rfl, HB2.out⟩
      rw [h3] at hd
      clear hrr hr2 hg2 hX hyes he h3
      go_wp2_with fail
      refine hd.mono ?_
      rintro e w3 ⟨rfl, rfl⟩
      go_wp2
      go_ret2
      exact HK.out
end Go.Proofs.Ytjbcchipbdkplaa
