/-
  The law TroopValid, walked.
-/
import Derived.Test.YtgodnpngdbelhaaAgW
namespace Go.Proofs.Ytgodnpngdbelhaa
open Go.RowKit Go.Maps
set_option linter.unusedVariables false
open M (E V)
open Rm (NT R)
open Tm (T)
set_option maxRecDepth 100000
set_option maxHeartbeats 2000000
theorem AtL.get1 {w : World} {a : Option Addr} {l : List ByteArray} (h : AtL Nl.tl w a l) (j : Nat) (hj : j < l.length) : ∃ b off, a = some ⟨b, off, none⟩ ∧ w.cell? ⟨b, off + j, none⟩ = some (.string l[j]) := by
  obtain ⟨b, off, e, h0⟩ := AtL.getT' h j hj
  exact ⟨b, off, e, by simpa using h0⟩
/-- Nodes, and a row of what was proposed. -/
structure VS (w wr : World) (G : Nat → Prop) (b : Nat) (t : T) (v : Value) (said : List ByteArray) : Prop where
  tr : TO w wr G b t
  ro : OwnL Nl.tl 9 wr w.heap.size v said
  ra : ∀ k, v.ownBlock = some k → ¬ G k
def Sd (said : List ByteArray) (x : ByteArray) : Prop := x = ⟨#[]⟩ ∨ x ∈ said
section
variable {w wr w2 w' : World} {G G2 : Nat → Prop} {b : Nat} {t t2 : T} {v v' : Value} {said x : List ByteArray}
theorem VS.keep (h : VS w wr G b t v said) (hb : Below wr.heap.size wr w') : VS w w' G b t v said := ⟨h.tr.keep hb, h.ro.keep hb, h.ra⟩
theorem VS.did (h : VS w wr G b t v said) (k1 : TO w w2 G2 b t2) (k2 : Fr wr G w2 G2) : VS w w2 G2 b t2 v said :=
  ⟨k1, h.ro.keepBut (fun k hk hv => k2.block k hk (h.ra k hv)), fun k hk => not_n k2 (h.ra k hk) (h.ro.lt hk).2⟩
theorem VS.app (h : VS w wr G b t v said) (hr : Rw wr v w' v') (ho : OwnL Nl.tl 9 w' w.heap.size v' x) : VS w w' G b t v' x :=
  ⟨h.tr.step (rw_fr hr) (fun k hk => ⟨h.ra k hk, (h.ro.lt hk).1⟩), ho, fun k hk e => by
    rcases hr.n k hk with h' | h'
    · exact h.ra k h' e
    · have := (h.tr.mine k e).2; omega⟩
end
def emp (x : ByteArray) : Bool := x.toList.isEmpty
def anyT (l : List ByteArray) (z : Nat) (x : ByteArray) : Bool := (l.take z).any fun y => y.toList == x.toList
theorem anyT_succ (l : List ByteArray) (z : Nat) (x : ByteArray) (h : z < l.length) : anyT l (z + 1) x = (anyT l z x || l[z].toList == x.toList) := by
  unfold anyT
  rw [← List.take_append_getElem h, List.any_append]
  simp
theorem any_yes {l : List ByteArray} {x : ByteArray} (h : Sd l x) : (emp x || anyT l l.length x) = true := by
  rcases h with rfl | h
  · rw [show emp ⟨#[]⟩ = true by first | kernel_rfl | (simp [emp]; done)]
    rfl
  · unfold anyT
    rw [List.take_length, List.any_eq_true.2 ⟨x, h, by simp⟩, Bool.or_true]
theorem valid_walk (n : Int) (a : Option Addr) (cap : Nat) (l : List D) (w : World) (hl : l.length ≤ maxLen) (hd : AtL dl w a l) (hok : ∀ d ∈ l, d.ok) :
    Calls Try.prog 4 #[.int .i64 n, .slice a l.length cap] w fun e w' => e = .returned (.bool true) ∧ Below w.heap.size w w' := by
  have cf := few_any a cap l w hl hd hok
  have HD := Hid_of hd
  have HB0 : Hid (Below w.heap.size w w) := Below.refl _ _
  clear hd hok hl
  go_enter Try.func4, Try.ntmps4
  go_wp2_with fail
  refine cf.mono ?_
  clear cf
  rintro e w0 ⟨fb, rfl, hfew, hw0⟩
  obtain rfl := hw0.symm
  clear hw0
  cases fb with
  | false =>
    clear hfew
    go_wp2_with fail
    refine (awake_any _).mono ?_
    rintro e w2 ⟨rfl, hb⟩
    have HB := Hid_of (bel_up HB0.out hb (Nat.le_refl _))
    clear hb
    go_wp2
    go_ret
    exact ⟨rfl, HB.out⟩
  | true =>
    obtain ⟨h200, -⟩ := hfew rfl
    clear hfew
    go_wp2_with fail
    refine (rquorum_any n _).mono ?_
    rintro e w1 ⟨rfl, hw1⟩
    obtain rfl := hw1.symm
    clear hw1
    by_cases hn : 1 ≤ n ∧ n ≤ 7
    · have hq := quo_yes hn
      generalize M.quo n = q at *
      go_wp2_with fail
      refine (newT_any n _).mono ?_
      rintro e w1 (⟨hx, -⟩ | ⟨-, b, G, rfl, hto, hb1⟩)
      · exact absurd hn hx
      obtain ⟨m, rfl⟩ : ∃ m : Nat, n = (m : Int) := ⟨n.toNat, by omega⟩
      have HL0 : Hid (TO w w1 G b (Tm.t0 m)) := hto
      have HM : Hid (1 ≤ m ∧ m ≤ 7) := ⟨by omega, by omega⟩
      clear hto hb1 hq hn
      go_wp2_with fail
      go_loopw [6, 7] (fun v i wr => ∃ (k : Nat) (t : T) (G : Nat → Prop) (said : List ByteArray), k ≤ l.length ∧ i = .int .i64 k ∧ said.length ≤ k ∧ t.n = m ∧ VS w wr G b t v said ∧ Tm.Wel t (Sd said) [] ∧ Tm.Bd t k) (fun v i _ => l.length - (intOf i).toNat)
      case atStart => exact ⟨0, Tm.t0 m, G, [], Nat.zero_le _, rfl, Nat.le_refl _, rfl, ⟨HL0.out, OwnL.nil _ _ _, fun k hk => (by simp [Value.ownBlock] at hk)⟩, Tm.Wel.zero HM.out, Tm.Bd.zero m⟩
      case round =>
        clear HL0
        obtain ⟨k, t, G, said, hk, rfl, hsl, htn, hvs, hwl, hbd⟩ := hrel
        by_cases hlt : k < l.length
        · have hki : (k : Int) < (l.length : Int) := by omega
          obtain ⟨bd, od, rfl, z0, z1, z2, z3⟩ := AtL.getD (HD.out.keep hvs.tr.bel) k hlt
          have cd := hvs.tr.do_any l[k] (fun _ => rdy_of hwl hbd (by omega) _) hbd.len
          have hno : ¬ (l[k].k = 4 ∧ Tm.ppcT t l[k].a l[k].v = 0) → Tm.Wel (Tm.ddT t l[k].k l[k].a l[k].b l[k].v) (Sd said) [] := fun hx => hwl.deed (.inl rfl) _ _ _ _ (fun e1 e2 => absurd ⟨e1, e2⟩ hx)
          have hyes : Tm.Wel (Tm.ddT t l[k].k l[k].a l[k].b l[k].v) (Sd (said ++ [l[k].v])) [] := (hwl.more (fun x hx => hx.imp id (fun e => List.mem_append_left _ e))).deed (.inl rfl) _ _ _ _ (fun _ _ => .inr (by simp))
          have hd2 := hbd.deed hwl l[k].k l[k].a l[k].b l[k].v
          have hnn : (Tm.ddT t l[k].k l[k].a l[k].b l[k].v).n = m := by rw [Tm.ddT_n]; exact htn
          have hbo : l[k].k = 4 → Tm.ddb t l[k].k l[k].a l[k].b l[k].v = (Tm.ppcT t l[k].a l[k].v == 0) := fun e => by rw [e]; rfl
          obtain ⟨d, HDD⟩ : ∃ d, Hid (l[k] = d) := ⟨_, Hid_of rfl⟩
          rw [HDD.out] at z0 z1 z2 z3 cd hno hyes hd2 hnn hbo
          have HV := Hid_of hvs
          have HNO := Hid_of hno
          have HYES := Hid_of hyes
          have HD2 := Hid_of hd2
          have HNN := Hid_of hnn
          have HBO := Hid_of hbo
          have HD4 := HDD
          clear hno hyes hd2 hnn hbo hvs hwl hbd htn HDD
          go_wp2_with fail
          refine cd.mono ?_
          clear cd
          rintro e w2 ⟨G2, rfl, k1, k2⟩
          have hvs2 := HV.out.did k1 k2
          obtain ⟨bd', od', e', z0', z1', z2', z3'⟩ := AtL.getD (HD.out.keep k1.bel) k hlt
          cases e'
          clear z0 z1 z2 z3
          rw [HD4.out] at z0' z1' z2' z3'
          generalize Tm.ddb t d.k d.a d.b d.v = bo at *
          have HV2 := Hid_of hvs2
          clear k1 k2 hvs2 HV
          cases bo with
          | false =>
            have HW : Hid (Tm.Wel (Tm.ddT t d.k d.a d.b d.v) (Sd said) []) := HNO.out (fun e => by have h1 := HBO.out e.1; rw [e.2] at h1; cases h1)
            clear HNO HYES HBO
            generalize Tm.ddT t d.k d.a d.b d.v = t2 at *
            go_wp2_with fail
            go_roundw
            case rel => exact ⟨k + 1, t2, G2, said, hlt, by go_num, by omega, HNN.out, HV2.out, HW.out, HD2.out⟩
            case measure => simp [intOf]; omega
          | true =>
            by_cases h4 : d.k = 4
            · obtain ⟨av, cv, hv, hxl, hbk⟩ := HV2.out.ro.at
              obtain ⟨W3, HW3⟩ : ∃ W3, Hid (w2.alloc (.cells #[.string d.v] 9) = W3) := ⟨_, Hid_of rfl⟩
              have hb3 : Below w2.heap.size w2 W3 := by rw [← HW3.out]; exact bel1 _ _
              have hr3 : W3.heap[w2.heap.size]? = some (.cells (Nl.tl.cells [d.v]).toArray 9 (0, 0)) := by rw [← HW3.out]; exact heap_alloc_last _ _
              have hvs3 := HV2.out.keep hb3
              obtain ⟨a', c', w4, hrun, ho, hrw⟩ := run_appL_ty Nl.tiT W3 w.heap.size u6 said [d.v] w2.heap.size 0 1 1 hvs3.ro (tl_at hr3) rfl hvs3.tr.bel.size (by simp; omega)
              have hl1 : said.length + [d.v].length = said.length + 1 := by simp
              rw [hl1] at hrun ho hrw
              have HV4 := Hid_of (hvs3.app hrw ho)
              have HYE := HYES
              have hln : (said ++ [d.v]).length = said.length + 1 := by simp
              have HLN := Hid_of hln
              clear HNO HYES HBO hb3 hr3 hvs3 ho hrw hl1 hxl hbk hln
              rw [hv] at hrun ⊢
              generalize Tm.ddT t d.k d.a d.b d.v = t2 at *
              rw [h4] at z0'
              go_upto_region 9 with fail
              go_wp2_with (first | (rw [HW3.out]) | (at_builtin; refine wpList_append_known rfl _ _ 28 rfl _ _ rfl rfl _ _ (hrun _) ?_))
              go_roundw
              case rel => exact ⟨k + 1, t2, G2, said ++ [d.v], hlt, by go_num, by rw [HLN.out]; omega, HNN.out, HV4.out, HYE.out, HD2.out⟩
              case measure => simp [intOf]; omega
            · have HW : Hid (Tm.Wel (Tm.ddT t d.k d.a d.b d.v) (Sd said) []) := HNO.out (fun e => h4 e.1)
              clear HNO HYES HBO
              generalize Tm.ddT t d.k d.a d.b d.v = t2 at *
              go_wp2_with fail
              go_roundw
              case rel => exact ⟨k + 1, t2, G2, said, hlt, by go_num, by omega, HNN.out, HV2.out, HW.out, HD2.out⟩
              case measure => simp [intOf]; omega
        · obtain rfl : k = l.length := by omega
          obtain ⟨av, cv, hv, -, -⟩ := hvs.ro.at
          subst hv
          have HV := Hid_of hvs
          have HW := Hid_of hwl
          have hsz : said.length ≤ 200 := by omega
          clear hvs hwl hbd htn hlt
          go_wp2_with fail
          go_loopw [8] (fun i wq => ∃ j : Nat, j ≤ m ∧ i = .int .i64 j ∧ VS w wq G b t (.slice av said.length cv) said) (fun i _ => m - (intOf i).toNat)
          case atStart => exact ⟨0, Nat.zero_le _, rfl, HV.out⟩
          case round =>
            clear HV
            obtain ⟨j, hj, rfl, hvs⟩ := hrel
            by_cases hjm : j < m
            · have hji : (j : Int) < (m : Int) := by omega
              have hwj : IntKind.i64.wrap ((j : Int) + 1) = (j : Int) + 1 := by have := HM.out; rw [IntKind.wrap_i64]; omega
              have cl := hvs.tr.log j
              have HV := Hid_of hvs
              have HLL := Hid_of (logT_len t j)
              have HVD : Hid (∀ x ∈ Tm.logT t j, Sd said x) := HW.out.valid j
              clear hvs
              go_wp2_with fail
              refine cl.mono ?_
              clear cl
              rintro e w4 ⟨ad2, c2, rfl, hx, hkk, hb4⟩
              have HX := Hid_of hx
              have HV4 := Hid_of (HV.out.keep hb4)
              clear hx hkk hb4 HV
              obtain ⟨lg, hlg⟩ : ∃ lg, Tm.logT t j = lg := ⟨_, rfl⟩
              rw [hlg] at HX HVD HLL ⊢
              clear hlg
              have hll := HLL.out
              go_wp2_with fail
              go_loopw [10] (fun i wq => ∃ p : Nat, p ≤ lg.length ∧ i = .int .i64 p ∧ Below w4.heap.size w4 wq) (fun i _ => lg.length - (intOf i).toNat)
              case atStart => exact ⟨0, Nat.zero_le _, rfl, Below.refl _ _⟩
              case round =>
                obtain ⟨p, hp, rfl, hbq⟩ := hrel
                rename World => wo
                by_cases hpl : p < lg.length
                · have hpi : (p : Int) < (lg.length : Int) := by omega
                  obtain ⟨b1, o1, rfl, y0⟩ := AtL.get1 (HX.out.keep hbq).at' p hpl
                  have HSD := Hid_of (HVD.out _ (List.getElem_mem hpl))
                  obtain ⟨x, HXX⟩ : ∃ x, Hid (lg[p] = x) := ⟨_, Hid_of rfl⟩
                  rw [HXX.out] at y0 HSD
                  have HBQ := Hid_of hbq
                  clear hbq
                  go_wp2_with fail
                  go_loopw [11, 12] (fun tv i wz => ∃ z : Nat, z ≤ said.length ∧ i = .int .i64 z ∧ tv = .bool (emp x || anyT said z x) ∧ Below wo.heap.size wo wz) (fun tv i _ => said.length - (intOf i).toNat)
                  case atStart =>
                    refine ⟨0, Nat.zero_le _, rfl, ?_, Below.refl _ _⟩
                    show Value.bool x.toList.isEmpty = Value.bool (x.toList.isEmpty || false)
                    rw [Bool.or_false]
                  case round =>
                    clear y0
                    obtain ⟨z, hz, rfl, rfl, hbz⟩ := hrel
                    by_cases hzl : z < said.length
                    · have hzi : (z : Int) < (said.length : Int) := by omega
                      have hwz : IntKind.i64.wrap ((z : Int) + 1) = (z : Int) + 1 := by rw [IntKind.wrap_i64]; omega
                      have hbb := bel_up HBQ.out hbz (Nat.le_refl _)
                      obtain ⟨b1', o1', e1, y0⟩ := AtL.get1 (HX.out.keep hbb).at' p hpl
                      cases e1
                      rw [HXX.out] at y0
                      obtain ⟨av', cv', hv, hxl, hbk⟩ := (HV4.out.keep hbb).ro.at
                      simp only [Value.slice.injEq, true_and] at hv
                      obtain ⟨rfl, rfl⟩ := hv
                      obtain ⟨b2, o2, rfl, x0⟩ := AtL.get1 hxl.at' z hzl
                      have hsu := anyT_succ said z x hzl
                      have HB5 := Hid_of (fun nq => below_drewN hbz nq)
                      have HSU := Hid_of hsu
                      generalize said[z] = sz at *
                      generalize anyT said z x = bz at *
                      clear hbb hbz hxl hbk hsu
                      cases hth : (emp x || bz) with
                      | true =>
                        go_wp2_with fail
                        go_quiet (fail)
                        go_wp2
                        go_roundw
                        case rel => exact ⟨z + 1, by omega, by go_num, by rw [HSU.out, ← Bool.or_assoc, hth]; rfl, HB5.out _⟩
                        case measure => simp [intOf]; omega
                      | false =>
                        go_wp2_with fail
                        go_quiet (fail)
                        go_wp2
                        go_roundw
                        case rel => exact ⟨z + 1, by omega, by go_num, by rw [HSU.out, ← Bool.or_assoc, hth, Bool.false_or], HB5.out _⟩
                        case measure => simp [intOf]; omega
                    · obtain rfl : z = said.length := by omega
                      rw [any_yes HSD.out]
                      have HB5 := Hid_of (bel_up HBQ.out hbz (Nat.le_refl _))
                      clear hbz hzl
                      have hwp : IntKind.i64.wrap ((p : Int) + 1) = (p : Int) + 1 := by rw [IntKind.wrap_i64]; omega
                      go_wp2_with fail
                      go_roundw
                      case rel => exact ⟨p + 1, by omega, by go_num, HB5.out⟩
                      case measure => simp [intOf]; omega
                · obtain rfl : p = lg.length := by omega
                  have HVF := Hid_of (HV4.out.keep hbq)
                  clear hbq hpl
                  go_wp2_with fail
                  go_roundw
                  case rel => exact ⟨j + 1, by omega, by go_num, HVF.out⟩
                  case measure => simp [intOf]; omega
            · have HB0 := Hid_of hvs.tr.bel
              clear hvs
              go_wp2_with fail
              refine (awake_any _).mono ?_
              rintro e w2 ⟨rfl, hb⟩
              have HB := Hid_of (HB0.out.trans (hb.mono HB0.out.size))
              clear hb
              go_wp2
              go_ret
              exact ⟨rfl, HB.out⟩
    · have hq := quo_no hn
      rw [hq]
      clear hn hq
      go_wp2_with fail
      refine (awake_any _).mono ?_
      rintro e w2 ⟨rfl, hb⟩
      have HB := Hid_of (bel_up HB0.out hb (Nat.le_refl _))
      clear hb
      go_wp2
      go_ret
      exact ⟨rfl, HB.out⟩
end Go.Proofs.Ytgodnpngdbelhaa
