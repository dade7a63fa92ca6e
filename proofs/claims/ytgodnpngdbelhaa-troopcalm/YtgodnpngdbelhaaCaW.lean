/-
  The law TroopCalm, walked.
-/
import Derived.Test.YtgodnpngdbelhaaVaW
namespace Go.Proofs.Ytgodnpngdbelhaa
open Go.RowKit Go.Maps
set_option linter.unusedVariables false
open M (E V)
open Rm (NT R)
open Tm (T)
set_option maxRecDepth 100000
set_option maxHeartbeats 2000000
/-- A calm state in memory. -/
structure CS (w wr : World) (G : Nat → Prop) (b m nd : Nat) (l : List ByteArray) (k : Nat) : Prop where
  x : ∃ rs, TO w wr G b ⟨m, rs, []⟩ ∧ Tm.Cs m nd (Tm.b1 nd) l rs ∧ Tm.Wel ⟨m, rs, []⟩ (fun _ => True) [] ∧ Tm.Bd ⟨m, rs, []⟩ k
theorem calm_walk (n node : Int) (a : Option Addr) (cap : Nat) (l : List ByteArray) (w : World) (hl : l.length ≤ maxLen) (hd : AtL Nl.tl w a l) (hok : ∀ d ∈ l, d.size ≤ maxLen) :
    Calls Try.prog 5 #[.int .i64 n, .int .i64 node, .slice a l.length cap] w fun e w' => e = .returned (.bool true) ∧ Below w.heap.size w w' := by
  have HD := Hid_of hd
  have HOK := Hid_of hok
  have HB0 : Hid (Below w.heap.size w w) := Below.refl _ _
  have hmx : l.length ≤ 9223372036854775807 := by unfold maxLen at hl; omega
  clear hd hok hl
  by_cases hn : 1 ≤ n ∧ n ≤ 7
  rotate_left
  · have hq := quo_no hn
    have cq := rquorum_any n w
    rw [hq] at cq
    clear hn hq
    go_enter Try.func5, Try.ntmps5
    go_wp2_with fail
    refine cq.mono ?_
    clear cq
    rintro e w1 ⟨rfl, hw1⟩
    obtain rfl := hw1.symm
    clear hw1
    go_wp2_with fail
    refine (awake_any _).mono ?_
    rintro e w2 ⟨rfl, hb⟩
    have HB := Hid_of (HB0.out.trans (hb.mono HB0.out.size))
    clear hb
    go_wp2
    go_ret
    exact ⟨rfl, HB.out⟩
  have hq := quo_yes hn
  have cq := rquorum_any n w
  generalize M.quo n = q at *
  have hq0 : (q == 0) = false := beq_false_of_ne hq
  by_cases h1 : node < 0
  · have hd1 : decide (node < 0) = true := decide_eq_true h1
    clear hn
    go_enter Try.func5, Try.ntmps5
    go_wp2_with fail
    refine cq.mono ?_
    clear cq
    rintro e w1 ⟨rfl, hw1⟩
    obtain rfl := hw1.symm
    clear hw1
    go_wp2_with fail
    refine (awake_any _).mono ?_
    rintro e w2 ⟨rfl, hb⟩
    have HB := Hid_of (HB0.out.trans (hb.mono HB0.out.size))
    clear hb
    go_wp2
    go_ret
    exact ⟨rfl, HB.out⟩
  have hd1 : decide (node < 0) = false := decide_eq_false h1
  by_cases h2 : n ≤ node
  · have hd2 : decide (n ≤ node) = true := decide_eq_true h2
    clear hn
    go_enter Try.func5, Try.ntmps5
    go_wp2_with fail
    refine cq.mono ?_
    clear cq
    rintro e w1 ⟨rfl, hw1⟩
    obtain rfl := hw1.symm
    clear hw1
    go_wp2_with fail
    refine (awake_any _).mono ?_
    rintro e w2 ⟨rfl, hb⟩
    have HB := Hid_of (HB0.out.trans (hb.mono HB0.out.size))
    clear hb
    go_wp2
    go_ret
    exact ⟨rfl, HB.out⟩
  have hd2 : decide (n ≤ node) = false := decide_eq_false h2
  by_cases h3 : 8 < l.length
  · have h3i : (8 : Int) < (l.length : Int) := by omega
    clear hn
    go_enter Try.func5, Try.ntmps5
    go_wp2_with fail
    refine cq.mono ?_
    clear cq
    rintro e w1 ⟨rfl, hw1⟩
    obtain rfl := hw1.symm
    clear hw1
    go_wp2_with fail
    refine (awake_any _).mono ?_
    rintro e w2 ⟨rfl, hb⟩
    have HB := Hid_of (HB0.out.trans (hb.mono HB0.out.size))
    clear hb
    go_wp2
    go_ret
    exact ⟨rfl, HB.out⟩
  have h3i : ¬ (8 : Int) < (l.length : Int) := by omega
  obtain ⟨m, rfl⟩ : ∃ m : Nat, n = (m : Int) := ⟨n.toNat, by omega⟩
  obtain ⟨nd, rfl⟩ : ∃ nd : Nat, node = (nd : Int) := ⟨node.toNat, by omega⟩
  have HM : Hid (1 ≤ m ∧ m ≤ 7) := ⟨by omega, by omega⟩
  have HND : Hid (nd < m) := Hid_of (by omega)
  go_enter Try.func5, Try.ntmps5
  go_wp2_with fail
  refine cq.mono ?_
  clear cq
  rintro e w1 ⟨rfl, hw1⟩
  obtain rfl := hw1.symm
  clear hw1
  go_wp2_with fail
  refine (newT_any m w).mono ?_
  rintro e w1 (⟨hx, -⟩ | ⟨-, b, G, rfl, hto, -⟩)
  · exact absurd hn hx
  have HT : Hid (TO w w1 G b (Tm.t0 m)) := hto
  clear hto hn hq hq0 h1 hd1 h2 hd2
  have cl := HT.out.lead nd
  generalize Tm.isT (Tm.t0 m) (nd : Int) = bi at *
  go_wp2_with fail
  refine cl.mono ?_
  clear cl
  rintro e w3 ⟨G2, rfl, hto, -⟩
  have hw0 : Tm.Wel (Tm.t0 m) (fun _ => True) [] := Tm.Wel.zero HM.out
  have HW1 : Hid (Tm.Wel (Tm.ldT (Tm.t0 m) nd) (fun _ => True) [] ∧ Tm.Bd (Tm.ldT (Tm.t0 m) nd) 1) := ⟨hw0.lead nd, (Tm.Bd.zero m).lead hw0 nd⟩
  have HT := Hid_of hto
  obtain ⟨rs1, hal, hcs⟩ := Tm.lead_calm HM.out HND.out
  have cd := HT.out.all 60 (by omega) HW1.out.1 trivial HW1.out.2 (by omega) (by rw [hal]; rfl)
  rw [hal] at cd
  have HCS := Hid_of hcs
  clear hto hw0 hal hcs
  go_wp2_with fail
  refine cd.mono ?_
  clear cd
  rintro e w4 ⟨rfl, G3, hto, -, hwl, hbd⟩
  have HL0 : Hid (CS w w4 G3 b m nd [] 61) := ⟨rs1, hto, HCS.out, hwl, hbd⟩
  clear hto hwl hbd
  go_wp2_with fail
  go_loopw [8] (fun i wr => ∃ (k : Nat) (G : Nat → Prop), k ≤ l.length ∧ i = .int .i64 k ∧ CS w wr G b m nd (l.take k) (61 * (k + 1))) (fun i _ => l.length - (intOf i).toNat)
  case atStart => exact ⟨0, G3, Nat.zero_le _, rfl, HL0.out⟩
  case round =>
    clear HL0
    obtain ⟨k, G, hk, rfl, ⟨rs, hto, hcs, hwl, hbd⟩⟩ := hrel
    have hwk : IntKind.i64.wrap ((k : Int) + 1) = (k : Int) + 1 := by rw [IntKind.wrap_i64]; omega
    by_cases hlt : k < l.length
    · have hki : (k : Int) < (l.length : Int) := by omega
      obtain ⟨b1, o1, rfl, y0⟩ := AtL.get1 (HD.out.keep hto.bel) k hlt
      have hsz : l[k].size ≤ 9223372036854775807 := by have := HOK.out l[k] (List.getElem_mem hlt); unfold maxLen at this; omega
      have htk : l.take k ++ [l[k]] = l.take (k + 1) := List.take_append_getElem hlt
      obtain ⟨x, HXX⟩ : ∃ x, Hid (l[k] = x) := ⟨_, Hid_of rfl⟩
      rw [HXX.out] at y0 hsz htk
      by_cases h7 : 100 < x.size
      · have hdd : decide ((100 : Int) < (x.size : Int)) = true := by simp; omega
        have HB0 := Hid_of hto.bel
        clear hto hcs hwl hbd htk
        go_wp2_with fail
        refine (awake_any _).mono ?_
        rintro e w2 ⟨rfl, hb⟩
        have HB := Hid_of (HB0.out.trans (hb.mono HB0.out.size))
        clear hb
        go_wp2
        go_ret
        exact ⟨rfl, HB.out⟩
      · have hdd : decide ((100 : Int) < (x.size : Int)) = false := by simp; omega
        have htl : (l.take k).length = k := by rw [List.length_take]; omega
        obtain ⟨hp0, rs2, hal, hcs2⟩ := hcs.propose HM.out HND.out (by rw [htl]; omega) (Tm.vld_b1 HM.out HND.out) (v := x) (by omega)
        rw [htk] at hcs2
        have cp := hto.propose nd x
        rw [hp0] at cp
        have HW2 : Hid (Tm.Wel (Tm.ppT ⟨m, rs, []⟩ nd x) (fun _ => True) [] ∧ Tm.Bd (Tm.ppT ⟨m, rs, []⟩ nd x) (61 * (k + 1) + 1)) := ⟨hwl.propose nd (fun _ => trivial), hbd.propose hwl nd x⟩
        have HAL := Hid_of hal
        have HC2 := Hid_of hcs2
        clear hto hcs hwl hbd hp0 hal hcs2 htl htk
        go_wp2_with fail
        refine cp.mono ?_
        clear cp
        rintro e w5 ⟨G5, rfl, hto, -⟩
        have cd := hto.all 60 (by omega) HW2.out.1 trivial HW2.out.2 (by omega) (by rw [HAL.out]; rfl)
        rw [HAL.out] at cd
        clear hto
        go_wp2_with fail
        refine cd.mono ?_
        clear cd
        rintro e w6 ⟨rfl, G6, hto, -, hwl, hbd⟩
        have HR : Hid (CS w w6 G6 b m nd (l.take (k + 1)) (61 * (k + 1 + 1))) := ⟨rs2, hto, HC2.out, hwl, Bd_le hbd (by omega)⟩
        clear hto hwl hbd y0
        go_wp2_with fail
        go_roundw
        case rel => exact ⟨k + 1, G6, hlt, by go_num, HR.out⟩
        case measure => simp [intOf]; omega
    · obtain rfl : k = l.length := by omega
      rw [List.take_length] at hcs
      have HT := Hid_of hto
      have HC := Hid_of hcs
      have cw := hto.waiting
      have HB0 := Hid_of hto.bel
      clear hto hcs hwl hbd hlt
      go_wp2_with fail
      go_loopw [9] (fun i wq => ∃ j : Nat, j ≤ m ∧ i = .int .i64 j ∧ TO w wq G b ⟨m, rs, []⟩) (fun i _ => m - (intOf i).toNat)
      case atStart => exact ⟨0, Nat.zero_le _, rfl, HT.out⟩
      case round =>
        clear HT cw HB0
        obtain ⟨j, hj, rfl, hto⟩ := hrel
        by_cases hjm : j < m
        · have hji : (j : Int) < (m : Int) := by omega
          have hwj : IntKind.i64.wrap ((j : Int) + 1) = (j : Int) + 1 := by have := HM.out; rw [IntKind.wrap_i64]; omega
          have cg := hto.log j
          rw [HC.out.log (by omega) hjm] at cg
          have HT := Hid_of hto
          clear hto
          go_wp2_with fail
          refine cg.mono ?_
          clear cg
          rintro e w7 ⟨ad, cc, rfl, hx, -, hb7⟩
          have hto := HT.out.keep hb7
          have ct := Nl.texts_any ad cc a cap l w7 (by omega) hx.at' (HD.out.keep hto.bel)
          have HT := Hid_of hto
          clear hto hx hb7
          go_wp2_with fail
          refine ct.mono ?_
          clear ct
          rintro e w8 ⟨rfl, hb8⟩
          have HT := Hid_of (HT.out.keep hb8)
          clear hb8
          go_wp2_with fail
          go_roundw
          case rel => exact ⟨j + 1, by omega, by go_num, HT.out⟩
          case measure => simp [intOf]; omega
        · have cw := hto.waiting
          have HB0 := Hid_of hto.bel
          have hz : (⟨m, rs, []⟩ : T).way.length = 0 := rfl
          rw [hz] at cw
          clear hto hz
          go_wp2_with fail
          refine cw.mono ?_
          clear cw
          rintro e w9 ⟨rfl, hw9⟩
          subst hw9
          go_wp2_with fail
          refine (awake_any _).mono ?_
          rintro e w2 ⟨rfl, hb⟩
          have HB := Hid_of (HB0.out.trans (hb.mono HB0.out.size))
          clear hb
          go_wp2
          go_ret
          exact ⟨rfl, HB.out⟩
end Go.Proofs.Ytgodnpngdbelhaa
