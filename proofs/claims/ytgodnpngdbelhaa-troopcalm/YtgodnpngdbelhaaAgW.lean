/-
  The law TroopAgrees, walked.
-/
import Derived.Test.YtgodnpngdbelhaaG32
namespace Go.Proofs.Ytgodnpngdbelhaa
open Go.RowKit Go.Maps
set_option linter.unusedVariables false
open M (E V)
open Rm (NT R)
open Tm (T)
set_option maxRecDepth 100000
set_option maxHeartbeats 2000000
theorem lgs_len' (s : Nl.M.S) (fr : Int) : (Nl.M.lgs s fr).length ≤ 1024 := by
  unfold Nl.M.lgs
  rw [Nl.M.lg_len]
  unfold Nl.M.lgn Nl.M.nx
  have := (Nl.M.run_spec s.td 1024 s.base).2.1
  omega
theorem logT_len (t : T) (i : Int) : (Tm.logT t i).length ≤ 1024 := by
  unfold Tm.logT
  split
  · exact lgs_len' _ _
  · simp
theorem quo_yes {n : Int} (h : 1 ≤ n ∧ n ≤ 7) : ¬ M.quo n = 0 := by
  unfold M.quo
  rw [if_neg (by omega)]
  omega
theorem quo_no {n : Int} (h : ¬ (1 ≤ n ∧ n ≤ 7)) : M.quo n = 0 := by
  unfold M.quo
  rw [if_pos (by omega)]
theorem LB.keep {w w' : World} {G : Nat → Prop} {ad : Option Addr} {c : Nat} {l : List ByteArray} (h : LB w G ad c l) (hb : Below w.heap.size w w') : LB w' G ad c l := h.fr (Fr.ofBelow hb)
theorem agrees_walk (n : Int) (a : Option Addr) (cap : Nat) (l : List D) (w : World) (hl : l.length ≤ maxLen) (hd : AtL dl w a l) (hok : ∀ d ∈ l, d.ok) :
    Calls Try.prog 3 #[.int .i64 n, .slice a l.length cap] w fun e w' => e = .returned (.bool true) ∧ Below w.heap.size w w' := by
  have cf := few_any a cap l w hl hd hok
  have HD := Hid_of hd
  have HB0 : Hid (Below w.heap.size w w) := Below.refl _ _
  clear hd hok hl
  go_enter Try.func3, Try.ntmps3
  go_wp2_with fail
  refine cf.mono ?_
  clear cf
  rintro e w0 ⟨fb, rfl, hfew, hw0⟩
  obtain rfl := hw0.symm
  clear hw0
  cases fb with
  | false =>
    clear hfew
    go_wp2_with fail
    refine (awake_any _).mono ?_
    rintro e w2 ⟨rfl, hb⟩
    have HB := Hid_of (bel_up HB0.out hb (Nat.le_refl _))
    clear hb
    go_wp2
    go_ret
    exact ⟨rfl, HB.out⟩
  | true =>
    obtain ⟨h200, -⟩ := hfew rfl
    clear hfew
    go_wp2_with fail
    refine (rquorum_any n _).mono ?_
    rintro e w1 ⟨rfl, hw1⟩
    obtain rfl := hw1.symm
    clear hw1
    by_cases hn : 1 ≤ n ∧ n ≤ 7
    · have hq := quo_yes hn
      generalize M.quo n = q at *
      go_wp2_with fail
      refine (newT_any n _).mono ?_
      rintro e w1 (⟨hx, -⟩ | ⟨-, b, G, rfl, hto, hb1⟩)
      · exact absurd hn hx
      obtain ⟨m, rfl⟩ : ∃ m : Nat, n = (m : Int) := ⟨n.toNat, by omega⟩
      have HL0 : Hid (TO w w1 G b (Tm.t0 m)) := hto
      have HM : Hid (1 ≤ m ∧ m ≤ 7) := ⟨by omega, by omega⟩
      clear hto hb1 hq hn
      go_wp2_with fail
      go_loopw [6, 7] (fun v i wr => ∃ (k : Nat) (t : T) (G : Nat → Prop) (lg : List ByteArray) (ad : Option Addr) (cc : Nat), k ≤ l.length ∧ i = .int .i64 k ∧ v = .slice ad lg.length cc ∧ t.n = m ∧ TO w wr G b t ∧ Tm.Wel t (fun _ => True) lg ∧ Tm.Bd t k ∧ LB wr G ad cc lg) (fun v i _ => l.length - (intOf i).toNat)
      case atStart => exact ⟨0, Tm.t0 m, G, [], none, 0, Nat.zero_le _, rfl, rfl, rfl, HL0.out, Tm.Wel.zero HM.out, Tm.Bd.zero m, XL.emp _, fun k hk => (by obtain ⟨o, z, e⟩ := hk; cases e)⟩
      case round =>
        clear HL0
        obtain ⟨k, t, G, lg, ad, cc, hk, rfl, rfl, htn, hto, hwl, hbd, hlb⟩ := hrel
        by_cases hlt : k < l.length
        · have hki : (k : Int) < (l.length : Int) := by omega
          obtain ⟨bd, od, rfl, z0, z1, z2, z3⟩ := AtL.getD (HD.out.keep hto.bel) k hlt
          have cd := hto.do_any l[k] (fun _ => rdy_of hwl hbd (by omega) _) hbd.len
          have HN : Hid (∀ e w2, MO w wr G b (.bool (Tm.ddb t l[k].k l[k].a l[k].b l[k].v)) (Tm.ddT t l[k].k l[k].a l[k].b l[k].v) e w2 → ∃ bo, e = .returned (.bool bo) ∧ ∃ (t2 : T) (G2 : Nat → Prop), t2.n = m ∧ TO w w2 G2 b t2 ∧ Tm.Wel t2 (fun _ => True) lg ∧ Tm.Bd t2 (k + 1) ∧ LB w2 G2 ad cc lg) := by
            rintro e w2 ⟨G2, rfl, k1, k2⟩
            exact ⟨_, rfl, _, G2, by rw [Tm.ddT_n]; exact htn, k1, hwl.deed trivial _ _ _ _ (fun _ _ => trivial), hbd.deed hwl _ _ _ _, hlb.fr k2⟩
          clear hto hwl hbd hlb htn
          obtain ⟨d, HDD⟩ : ∃ d, Hid (l[k] = d) := ⟨_, Hid_of rfl⟩
          rw [HDD.out] at z0 z1 z2 z3 cd HN
          clear HDD
          go_wp2_with fail
          refine cd.mono ?_
          clear cd
          rintro e w2 hmo
          obtain ⟨bo, rfl, t2, G2, k0, k1, k2, k3, k4⟩ := HN.out e w2 hmo
          have HL1 : Hid (TO w w2 G2 b t2 ∧ Tm.Wel t2 (fun _ => True) lg ∧ LB w2 G2 ad cc lg) := ⟨k1, k2, k4⟩
          have HTN := Hid_of k0
          have HBD := Hid_of k3
          clear hmo HN k0 k1 k2 k3 k4 z0 z1 z2 z3
          go_wp2_with fail
          go_loopw [6, 8] (fun v i wq => ∃ (j : Nat) (lg : List ByteArray) (ad : Option Addr) (cc : Nat), j ≤ m ∧ i = .int .i64 j ∧ v = .slice ad lg.length cc ∧ TO w wq G2 b t2 ∧ Tm.Wel t2 (fun _ => True) lg ∧ LB wq G2 ad cc lg) (fun v i _ => m - (intOf i).toNat)
          case atStart => exact ⟨0, lg, ad, cc, Nat.zero_le _, rfl, rfl, HL1.out⟩
          case round =>
            clear HL1
            obtain ⟨j, lg, ad, cc, hj, rfl, rfl, hto, hwl, hlb⟩ := hrel
            by_cases hjm : j < m
            · have hji : (j : Int) < (m : Int) := by omega
              have hwj : IntKind.i64.wrap ((j : Int) + 1) = (j : Int) + 1 := by have := HM.out; rw [IntKind.wrap_i64]; omega
              have HH := Hid_of (And.intro hto (And.intro hwl hlb))
              have cl := hto.log j
              clear hto hwl hlb
              go_wp2_with fail
              refine cl.mono ?_
              clear cl
              rintro e w4 ⟨ad2, c2, rfl, hx, hkk, hb4⟩
              have hsz := logT_len t2 j
              have hle1 := hx.le
              have hle2 := HH.out.2.2.xl.le
              obtain ⟨mm, hmm⟩ : ∃ mm, min (Tm.logT t2 j).length lg.length = mm := ⟨_, rfl⟩
              have hsame := HH.out.2.1.same j hmm.symm
              have hl1 : ((Tm.logT t2 j).take mm).length = mm := by rw [List.length_take]; omega
              have HCT : Hid (∀ wq, Below w4.heap.size w4 wq → Calls Try.prog 13 #[.slice ad2 mm c2, .slice ad mm cc] wq fun e w' => e = .returned (.bool true) ∧ Below wq.heap.size wq w') := fun wq hq => by
                have h1 := Nl.texts_any ad2 c2 ad cc ((Tm.logT t2 j).take mm) wq (by rw [hl1]; omega) ((hx.keep hq).at'.take mm) (by rw [hsame]; exact ((HH.out.2.2.xl.keep hb4).keep hq).at'.take mm)
                rw [hl1] at h1
                exact h1
              have HOLD : Hid (∀ w5, Below w4.heap.size w4 w5 → ¬ lg.length < (Tm.logT t2 j).length → TO w w5 G2 b t2 ∧ Tm.Wel t2 (fun _ => True) lg ∧ LB w5 G2 ad cc lg) := fun w5 hb5 _ => by
                have hb := bel_up hb4 hb5 (Nat.le_refl _)
                exact ⟨HH.out.1.keep hb, HH.out.2.1, HH.out.2.2.keep hb⟩
              have HNEW : Hid (∀ w5, Below w4.heap.size w4 w5 → lg.length < (Tm.logT t2 j).length → TO w w5 G2 b t2 ∧ Tm.Wel t2 (fun _ => True) (Tm.logT t2 j) ∧ LB w5 G2 ad2 c2 (Tm.logT t2 j)) := fun w5 hb5 hgt => by
                have hb := bel_up hb4 hb5 (Nat.le_refl _)
                have hw := HH.out.2.1.look j
                unfold Tm.lgst at hw
                rw [if_pos hgt] at hw
                exact ⟨HH.out.1.keep hb, hw, hx.keep hb5, fun q hq => ⟨Nat.lt_of_lt_of_le (hkk q hq).2 hb5.size, fun e => by have := (HH.out.1.mine q e).2; have := (hkk q hq).1; omega⟩⟩
              have HS : Hid (∀ wq, Below w4.heap.size w4 wq → True ∧ True) := fun _ _ => ⟨trivial, trivial⟩
              obtain ⟨la, hla⟩ : ∃ la, (Tm.logT t2 j).length = la := ⟨_, rfl⟩
              have HLA := Hid_of hla
              rw [hla] at hmm hle1 hsz HOLD HNEW
              have hmi : min (la : Int) (lg.length : Int) = (mm : Int) := by omega
              have hm1 : mm ≤ c2 := by omega
              have hm2 : mm ≤ cc := by omega
              have hm3 : mm ≤ la := by omega
              have hm4 : mm ≤ lg.length := by omega
              rw [hla]
              clear hx hkk hb4 hsame hl1 hmm hla
              go_upto_region 14 with fail
              refine wp_region_held_drew (S := fun wq => Below (w4).heap.size (w4) wq) (by kernel_rfl) (Below.drew (Below.refl _ _)) (fun hHeld => ?_)
              obtain ⟨wdx, hwdx⟩ : ∃ wd, w4.drew = wd := ⟨_, rfl⟩
              have hBwd : Below w4.heap.size w4 wdx := by rw [← hwdx]; exact Below.drew (Below.refl _ _)
              rw [hwdx] at hHeld ⊢
              clear hwdx
              refine Tm 0 ?p0x ?v0x hHeld ?r0x
              refine Tm 1 ?p1x ?v1x hHeld ?r1x
              refine Tm 2 ?p2x ?v2x hHeld ?r2x
              refine Tm 3 ?p3x ?v3x hHeld ?r3x
              refine Tm 4 ?p4x ?v4x hHeld ?r4x
              refine Tm 5 ?p5x ?v5x hHeld ?r5x
              simp only [Act.put, Pa, Pb, Pc]
              refine Rd 6 ?p6x ?s6x
              intro K hK
              go_simp
              refine ((HCT.out _ hHeld).mono ?_)
              rintro e v6 ⟨rfl, hb6⟩
              have hB6 := bel_up hHeld hb6 (Nat.le_refl _)
              clear hb6
              refine hK.out _ _ hB6 (fun hHeld => ?_)
              clear hK K
              refine Tm 7 ?p7x_6 ?v7x_6 hHeld ?r7x_6
              simp only [Act.put, Pa, Pb, Pc]
              refine wpAnyH_done (by kernel_rfl) ?_ _
              have HB6 := Hid_of hB6
              clear hB6
              by_cases hgt : lg.length < la
              · have hgti : (lg.length : Int) < (la : Int) := by omega
                have HR := Hid_of (HNEW.out v6 HB6.out hgt)
                clear HNEW HOLD HCT HS
                go_wp2_with fail
                go_roundw
                case rel => exact ⟨j + 1, _, _, _, by omega, by go_num, by rw [HLA.out], HR.out.1, HR.out.2.1, HR.out.2.2⟩
                case measure => simp [intOf]; omega
              · have hgti : ¬ (lg.length : Int) < (la : Int) := by omega
                have HR := Hid_of (HOLD.out v6 HB6.out hgt)
                clear HNEW HOLD HCT HS
                go_wp2_with fail
                go_roundw
                case rel => exact ⟨j + 1, lg, ad, cc, by omega, by go_num, rfl, HR.out.1, HR.out.2.1, HR.out.2.2⟩
                case measure => simp [intOf]; omega
            · obtain rfl : j = m := by omega
              have HH := Hid_of (And.intro hto (And.intro hwl hlb))
              clear hto hwl hlb
              go_wp2_with fail
              go_roundw
              case rel => exact ⟨k + 1, t2, G2, lg, ad, cc, hlt, by go_num, rfl, HTN.out, HH.out.1, HH.out.2.1, HBD.out, HH.out.2.2⟩
              case measure => simp [intOf]; omega
        · have HB0 := Hid_of hto.bel
          obtain rfl : k = l.length := by omega
          clear hto hwl hbd hlb htn
          go_wp2_with fail
          refine (awake_any _).mono ?_
          rintro e w2 ⟨rfl, hb⟩
          have HB := Hid_of (HB0.out.trans (hb.mono HB0.out.size))
          clear hb
          go_wp2
          go_ret
          exact ⟨rfl, HB.out⟩
    · have hq := quo_no hn
      rw [hq]
      clear hn hq
      go_wp2_with fail
      refine (awake_any _).mono ?_
      rintro e w2 ⟨rfl, hb⟩
      have HB := Hid_of (bel_up HB0.out hb (Nat.le_refl _))
      clear hb
      go_wp2
      go_ret
      exact ⟨rfl, HB.out⟩
end Go.Proofs.Ytgodnpngdbelhaa
