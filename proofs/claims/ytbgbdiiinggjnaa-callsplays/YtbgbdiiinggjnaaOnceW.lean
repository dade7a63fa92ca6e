/-
  Numbers rise; an answer counts once.
-/
import Derived.Test.YtbgbdiiinggjnaaNoneW
namespace Go.Proofs.Ytbgbdiiinggjnaa
open Go.RowKit
set_option linter.unusedVariables false
open M (E)
open Cl (K W Ms fup Rel)

namespace Cl
theorem isA_get {me : Int} {L : List K} {m : Ms} (h : isA me L m = true) : ∃ k, get L m.i = some k ∧ op k = true := by
  unfold isA at h
  cases hk : get L m.i with
  | none => rw [hk] at h; simp at h
  | some k =>
    rw [hk] at h
    simp only [Bool.and_eq_true, decide_eq_true_eq] at h
    exact ⟨k, rfl, h.2.1⟩
theorem get_ans {me : Int} {L : List K} {m : Ms} {k : K} (h : isA me L m = true) (hk : get L m.i = some k) : get (ans me L m) m.i = some (ansK m.b k) := by
  unfold ans
  rw [h]
  show get (upd L m.i (ansK m.b)) m.i = _
  rw [get_upd L (g := ansK m.b) (fun _ => rfl), if_pos rfl, hk]
  rfl
theorem ans_st {me : Int} {L : List K} {m : Ms} (h : isA me L m = true) : stS (ans me L m) m.i = 2 ∧ stR (ans me L m) m.i = m.b := by
  obtain ⟨k, hk, _⟩ := isA_get h
  unfold stS stR
  rw [get_ans h hk]
  exact ⟨rfl, rfl⟩
theorem ans_again {me : Int} {L : List K} {m : Ms} (h : isA me L m = true) : isA me (ans me L m) m = false := by
  obtain ⟨k, hk, _⟩ := isA_get h
  unfold isA
  rw [get_ans h hk]
  simp [op, ansK]
theorem ans_no {me : Int} {L : List K} {m : Ms} (h : isA me L m = false) : ans me L m = L := by
  unfold ans
  rw [h]
  rfl
theorem ans_len {me : Int} {L : List K} {m : Ms} (hu : Up L) (h : isA me L m = true) : (nums (ans me L m)).length + 1 = (nums L).length := by
  obtain ⟨k, hk, ho⟩ := isA_get h
  obtain ⟨h1, h2⟩ := get_some hk
  have hm : k ∈ opn L := by unfold opn; rw [List.mem_filter]; exact ⟨h1, ho⟩
  obtain ⟨r, hr, he⟩ := List.getElem_of_mem hm
  have hne := ne_at hu.opn (i := m.i) hr (by rw [he]; exact h2)
  unfold nums ans
  rw [h]
  show ((opn (upd L m.i (ansK m.b))).map _).length + 1 = _
  rw [opn_shut L (g := ansK m.b) (fun _ => by simp [ansK]), hne]
  simp
  omega
end Cl
/-- A block that is not the calls' own. -/
structure Bx (w : World) (F : Nat → Prop) (k : Nat) (o : Obj) : Prop where
  at' : w.heap[k]? = some o
  nf : ¬ F k
theorem Bx.step {w w' : World} {F G : Nat → Prop} {k : Nat} {o : Obj} (h : Bx w F k o) (hF : Fr w F w' G) : Bx w' G k o := by
  have hlt := (Array.getElem?_eq_some_iff.1 h.at').1
  refine ⟨(hF.block k hlt h.nf).trans h.at', fun hg => ?_⟩
  rcases hF.n k hg with h' | h'
  · exact h.nf h'
  · omega
theorem Bx.keep {w w' : World} {F : Nat → Prop} {k : Nat} {o : Obj} (h : Bx w F k o) (hb : Below w.heap.size w w') : Bx w' F k o := h.step (Fr.ofBelow hb)
theorem Bx.new {w0 w : World} {b : Nat} {F : Nat → Prop} {me next : Int} {L : List K} (h : KS w0 w b F me next L) (o : Obj) : Bx (w.alloc o) F w.heap.size o := ⟨heap_alloc_last w _, fun hF => by have := (h.mine _ hF).2; omega⟩
/-- A deed in a box. -/
def db (d : Dd) : Obj := .cells #[.int .i64 d.k, .int .i64 d.a, .int .i64 d.b, .string d.bs, .int .i64 d.m.k, .int .i64 d.m.f, .int .i64 d.m.t, .int .i64 d.m.i, .string d.m.b] 34 (0, 0)
/-- In the loop. -/
structure OLp (w : World) (b : Nat) (next : Int) (wr : World) (F : Nat → Prop) (L : List K) : Prop where
  ks : KS w wr b F 5 next L
set_option maxRecDepth 100000 in
set_option maxHeartbeats 4000000 in
theorem once_walk (a : Option Addr) (cap : Nat) (l : List Dd) (w : World) (hm : l.length ≤ maxLen) (hat : Dds w a l) (hok : ∀ d ∈ l, d.ok ∧ d.m.b.size ≤ 140737488351232) : Calls Try.prog 5 #[.slice a l.length cap] w fun e w' => e = .returned (.bool true) ∧ Below w.heap.size w w' := by
  have hfew := few_any a cap l w hm
  by_cases hf : l.length ≤ 150
  case neg =>
    have hff : few l = false := by unfold few; exact decide_eq_false hf
    rw [hff] at hfew
    replace hfew : Calls Try.prog 7 #[.slice a l.length cap] w fun e w' => e = .returned (.int .i64 0) ∧ w' = w := hfew
    clear hat hok hff
    go_enter Try.func5, Try.ntmps5
    go_wp2_with fail
    refine hfew.mono ?_
    rintro e w1 ⟨rfl, rfl⟩
    go_wp2_with fail
    refine (awake_any _).mono ?_
    rintro e w2 ⟨rfl, b2⟩
    have HB := Hid_of b2
    clear b2
    go_wp2
    go_ret
    exact ⟨rfl, HB.out⟩
  have hff : few l = true := by unfold few; exact decide_eq_true hf
  rw [hff] at hfew
  replace hfew : Calls Try.prog 7 #[.slice a l.length cap] w fun e w' => e = .returned (.int .i64 1) ∧ w' = w := hfew
  have HAT := Hid_of hat
  have HOK := Hid_of hok
  clear hat hok hff hm
  go_enter Try.func5, Try.ntmps5
  go_wp2_with fail
  refine hfew.mono ?_
  rintro e w1 ⟨rfl, rfl⟩
  go_wp2_with fail
  refine (newK_any 5 100 w1).mono ?_
  rintro e w2 ⟨b, F2, rfl, S2⟩
  have HL0 : Hid (OLp w1 b 100 w2 F2 []) := ⟨S2⟩
  clear S2 hfew
  go_wp2_with fail
  go_loopw [4, 5] (fun u4 u5 wr => ∃ (i : Nat) (next : Int) (F : Nat → Prop) (L : List K), i ≤ l.length ∧ u5 = .int .i64 i ∧ u4 = .int .i64 next ∧ Hid (OLp w1 b next wr F L)) (fun _ u5 _ => l.length - (intOf u5).toNat)
  case atStart => exact ⟨0, 100, F2, [], by omega, rfl, rfl, HL0⟩
  case round =>
    clear HL0
    obtain ⟨i, next, F, L, hi, rfl, rfl, HL⟩ := hrel
    by_cases hlt : i < l.length
    · obtain ⟨ab, off, rfl, c0, c1, c2, c3, c4, c5, c6, c7, c8⟩ := (HAT.out.keep HL.out.ks.bel).get i hlt
      obtain ⟨hdok, hdsz⟩ := HOK.out _ (List.getElem_mem hlt)
      generalize l[i] = d at *
      obtain ⟨W1, HW1⟩ : ∃ W1, Hid (wr.alloc (.cells #[.int .i64 d.k, .int .i64 d.a, .int .i64 d.b, .string d.bs, .int .i64 d.m.k, .int .i64 d.m.f, .int .i64 d.m.t, .int .i64 d.m.i, .string d.m.b] 34) = W1) := ⟨_, rfl⟩
      have HB1 : Hid (Bx W1 F wr.heap.size (db d)) := by rw [← HW1.out]; exact Bx.new HL.out.ks _
      have hb1 : Below wr.heap.size wr W1 := by rw [← HW1.out]; exact bel1 wr _
      have hS1 := HL.out.ks.keep hb1
      have hil : (i : Int) < (l.length : Int) := by omega
      have hcl := hS1.call d.a d.bs hdok.bs 0
      obtain ⟨e0, e1, e2, e3, e4, e5, e6, e7, e8⟩ := rw9 HB1.out.at'
      have hnx := hS1.gd.2.2
      have hwi : (Lit.int .i64 d.m.i).wf = true := hdok.i
      have hadd : IntKind.i64.wrap (next + 1) = next + 1 := by rw [IntKind.wrap_i64]; omega
      clear HL hb1 hS1 hdok
      by_cases hcc : Cl.ccode (Cl.opn L).length next d.a d.bs.size 0 = 0
      · have hx1 : Cl.callN (Cl.opn L).length next d.a d.bs.size 0 = next := if_pos hcc
        have hx2 : Cl.callX (Cl.opn L).length next d.a d.bs.size 0 = next + 1 := if_pos hcc
        rw [hcc, hx1, hx2] at hcl
        generalize Cl.callL L next d.a 0 d.bs = L1 at *
        clear hcc hx1 hx2
        go_upto_region 9 with fail
        rw [HW1.out]
        go_wp2_with fail
        refine hcl.mono ?_
        rintro e w3 ⟨F3, rfl, S3, R3⟩
        have B3 := HB1.out.step R3
        have NX3 : Hid (KS w1 w3 b F3 5 (next + 1) L1) := S3
        clear hcl R3 HB1 e0 e1 e2 e3 e4 e5 e6 e7 e8 S3 c0 c1 c2 c3 c4 c5 c6 c7 c8
        obtain ⟨next1, HN1⟩ : ∃ x, Hid (next + 1 = x) := ⟨_, rfl⟩
        rw [HN1.out] at NX3
        have ho := NX3.out.opens
        obtain ⟨nl, hnl⟩ : ∃ nl, (Cl.nums L1).length = nl := ⟨_, rfl⟩
        rw [hnl] at ho
        have hle : nl ≤ 64 := by rw [← hnl]; have := NX3.out.gd.1.n; unfold Cl.nums; rw [List.length_map]; exact this
        have HNL := Hid_of hnl
        clear hnl
        go_wp2_with fail
        refine ho.mono ?_
        rintro e w4 ⟨a4, cap4, rfl, _, _, b4⟩
        have hS4 := NX3.out.keep b4
        have B4 := B3.keep b4
        obtain ⟨e0, e1, e2, e3, e4, e5, e6, e7, e8⟩ := rw9 B4.at'
        have han := hS4.answer d.m hdsz
        have HUP := Hid_of hS4.gd.1.s
        clear ho b4 B3 NX3 hS4
        cases hA : Cl.isA 5 L1 d.m with
        | true =>
          rw [hA] at han
          have HA := Hid_of hA
          have HLEN := Hid_of (Cl.ans_len HUP.out hA)
          rw [HNL.out] at HLEN
          clear hA
          go_wp2_with fail
          refine han.mono ?_
          rintro e w5 ⟨F5, rfl, S5, R5⟩
          have B5 := B4.step R5
          obtain ⟨g0, g1, g2, g3, g4, g5, g6, g7, g8⟩ := rw9 B5.at'
          have hst := S5.state d.m.i hwi
          rw [(Cl.ans_st HA.out).1, (Cl.ans_st HA.out).2] at hst
          have HS5 := Hid_of S5
          clear S5 R5 B4 han e0 e1 e2 e3 e4 e5 e6 e7 e8
          go_wp2_with fail
          refine hst.mono ?_
          rintro e w6 ⟨rfl, b6⟩
          have S6 := HS5.out.keep b6
          have B6 := B5.keep b6
          obtain ⟨e0, e1, e2, e3, e4, e5, e6, e7, e8⟩ := rw9 B6.at'
          have ho6 := S6.opens
          obtain ⟨nl6, hnl6⟩ : ∃ nl6, (Cl.nums (Cl.ans 5 L1 d.m)).length = nl6 := ⟨_, rfl⟩
          rw [hnl6] at ho6
          have hs6 : (nl6 : Int) = (nl : Int) - 1 := by have := HLEN.out; rw [hnl6] at this; omega
          have hsub : IntKind.i64.wrap ((nl : Int) - 1) = (nl : Int) - 1 := by rw [IntKind.wrap_i64]; omega
          have HS6 := Hid_of S6
          clear S6 b6 B5 hst HS5 g0 g1 g2 g3 g4 g5 g6 g7 g8 hnl6
          go_wp2_with fail
          refine ho6.mono ?_
          rintro e w7 ⟨a7, cap7, rfl, _, _, b7⟩
          have S7 := HS6.out.keep b7
          have B7 := B6.keep b7
          obtain ⟨g0, g1, g2, g3, g4, g5, g6, g7, g8⟩ := rw9 B7.at'
          have han7 := S7.answer d.m hdsz
          rw [Cl.ans_again HA.out] at han7
          have dn : ((nl6 : Int) != (nl : Int) - 1) = false := by simp [hs6]
          have dn2 : ((nl6 : Int) == (nl : Int) - 1) = true := by simp [hs6]
          clear S7 B6 b7 ho6 HS6 e0 e1 e2 e3 e4 e5 e6 e7 e8
          go_wp2_with fail
          refine han7.mono ?_
          rintro e w8 ⟨F8, rfl, S8, _⟩
          have HL8 : Hid (OLp w1 b next1 w8 F8 (Cl.ans 5 (Cl.ans 5 L1 d.m) d.m)) := ⟨S8⟩
          clear S8 han7 g0 g1 g2 g3 g4 g5 g6 g7 g8 B7
          go_wp2
          go_roundw
          case rel => exact ⟨i + 1, next1, F8, _, by omega, by go_num, (by first | rfl | rw [HN1.out]), HL8⟩
          case measure => simp [intOf]; omega
        | false =>
          rw [hA] at han
          have HNO := Hid_of (Cl.ans_no hA)
          clear hA
          go_wp2_with fail
          refine han.mono ?_
          rintro e w5 ⟨F5, rfl, S5, R5⟩
          rw [HNO.out] at S5
          have ho5 := S5.opens
          rw [HNL.out] at ho5
          have HS5 := Hid_of S5
          clear S5 R5 B4 han e0 e1 e2 e3 e4 e5 e6 e7 e8
          go_wp2_with fail
          refine ho5.mono ?_
          rintro e w6 ⟨a6, cap6, rfl, _, _, b6⟩
          have HL6 : Hid (OLp w1 b next1 w6 F5 L1) := ⟨HS5.out.keep b6⟩
          clear b6 ho5 HS5
          go_wp2
          go_roundw
          case rel => exact ⟨i + 1, next1, F5, _, by omega, by go_num, (by first | rfl | rw [HN1.out]), HL6⟩
          case measure => simp [intOf]; omega
      · have hx1 : Cl.callN (Cl.opn L).length next d.a d.bs.size 0 = 0 := if_neg hcc
        have hx2 : Cl.callX (Cl.opn L).length next d.a d.bs.size 0 = next := if_neg hcc
        rw [hx1, hx2] at hcl
        generalize Cl.callL L next d.a 0 d.bs = L1 at *
        generalize Cl.ccode (Cl.opn L).length next d.a d.bs.size 0 = cc at *
        have dcc : (cc == 0) = false := by simpa using hcc
        clear hx1 hx2
        go_upto_region 9 with fail
        rw [HW1.out]
        go_wp2_with fail
        refine hcl.mono ?_
        rintro e w3 ⟨F3, rfl, S3, R3⟩
        have B3 := HB1.out.step R3
        have NX3 : Hid (KS w1 w3 b F3 5 next L1) := S3
        clear hcl R3 HB1 e0 e1 e2 e3 e4 e5 e6 e7 e8 S3 c0 c1 c2 c3 c4 c5 c6 c7 c8 hcc hadd
        generalize next = next1 at *
        have ho := NX3.out.opens
        obtain ⟨nl, hnl⟩ : ∃ nl, (Cl.nums L1).length = nl := ⟨_, rfl⟩
        rw [hnl] at ho
        have hle : nl ≤ 64 := by rw [← hnl]; have := NX3.out.gd.1.n; unfold Cl.nums; rw [List.length_map]; exact this
        have HNL := Hid_of hnl
        clear hnl
        go_wp2_with fail
        refine ho.mono ?_
        rintro e w4 ⟨a4, cap4, rfl, _, _, b4⟩
        have hS4 := NX3.out.keep b4
        have B4 := B3.keep b4
        obtain ⟨e0, e1, e2, e3, e4, e5, e6, e7, e8⟩ := rw9 B4.at'
        have han := hS4.answer d.m hdsz
        have HUP := Hid_of hS4.gd.1.s
        clear ho b4 B3 NX3 hS4
        cases hA : Cl.isA 5 L1 d.m with
        | true =>
          rw [hA] at han
          have HA := Hid_of hA
          have HLEN := Hid_of (Cl.ans_len HUP.out hA)
          rw [HNL.out] at HLEN
          clear hA
          go_wp2_with fail
          refine han.mono ?_
          rintro e w5 ⟨F5, rfl, S5, R5⟩
          have B5 := B4.step R5
          obtain ⟨g0, g1, g2, g3, g4, g5, g6, g7, g8⟩ := rw9 B5.at'
          have hst := S5.state d.m.i hwi
          rw [(Cl.ans_st HA.out).1, (Cl.ans_st HA.out).2] at hst
          have HS5 := Hid_of S5
          clear S5 R5 B4 han e0 e1 e2 e3 e4 e5 e6 e7 e8
          go_wp2_with fail
          refine hst.mono ?_
          rintro e w6 ⟨rfl, b6⟩
          have S6 := HS5.out.keep b6
          have B6 := B5.keep b6
          obtain ⟨e0, e1, e2, e3, e4, e5, e6, e7, e8⟩ := rw9 B6.at'
          have ho6 := S6.opens
          obtain ⟨nl6, hnl6⟩ : ∃ nl6, (Cl.nums (Cl.ans 5 L1 d.m)).length = nl6 := ⟨_, rfl⟩
          rw [hnl6] at ho6
          have hs6 : (nl6 : Int) = (nl : Int) - 1 := by have := HLEN.out; rw [hnl6] at this; omega
          have hsub : IntKind.i64.wrap ((nl : Int) - 1) = (nl : Int) - 1 := by rw [IntKind.wrap_i64]; omega
          have HS6 := Hid_of S6
          clear S6 b6 B5 hst HS5 g0 g1 g2 g3 g4 g5 g6 g7 g8 hnl6
          go_wp2_with fail
          refine ho6.mono ?_
          rintro e w7 ⟨a7, cap7, rfl, _, _, b7⟩
          have S7 := HS6.out.keep b7
          have B7 := B6.keep b7
          obtain ⟨g0, g1, g2, g3, g4, g5, g6, g7, g8⟩ := rw9 B7.at'
          have han7 := S7.answer d.m hdsz
          rw [Cl.ans_again HA.out] at han7
          have dn : ((nl6 : Int) != (nl : Int) - 1) = false := by simp [hs6]
          have dn2 : ((nl6 : Int) == (nl : Int) - 1) = true := by simp [hs6]
          clear S7 B6 b7 ho6 HS6 e0 e1 e2 e3 e4 e5 e6 e7 e8
          go_wp2_with fail
          refine han7.mono ?_
          rintro e w8 ⟨F8, rfl, S8, _⟩
          have HL8 : Hid (OLp w1 b next1 w8 F8 (Cl.ans 5 (Cl.ans 5 L1 d.m) d.m)) := ⟨S8⟩
          clear S8 han7 g0 g1 g2 g3 g4 g5 g6 g7 g8 B7
          go_wp2
          go_roundw
          case rel => exact ⟨i + 1, next1, F8, _, by omega, by go_num, (by first | rfl | rw [HN1.out]), HL8⟩
          case measure => simp [intOf]; omega
        | false =>
          rw [hA] at han
          have HNO := Hid_of (Cl.ans_no hA)
          clear hA
          go_wp2_with fail
          refine han.mono ?_
          rintro e w5 ⟨F5, rfl, S5, R5⟩
          rw [HNO.out] at S5
          have ho5 := S5.opens
          rw [HNL.out] at ho5
          have HS5 := Hid_of S5
          clear S5 R5 B4 han e0 e1 e2 e3 e4 e5 e6 e7 e8
          go_wp2_with fail
          refine ho5.mono ?_
          rintro e w6 ⟨a6, cap6, rfl, _, _, b6⟩
          have HL6 : Hid (OLp w1 b next1 w6 F5 L1) := ⟨HS5.out.keep b6⟩
          clear b6 ho5 HS5
          go_wp2
          go_roundw
          case rel => exact ⟨i + 1, next1, F5, _, by omega, by go_num, (by first | rfl | rw [HN1.out]), HL6⟩
          case measure => simp [intOf]; omega
    · have hin : i = l.length := by omega
      subst hin
      have ho := HL.out.ks.opens
      have hle : (Cl.nums L).length ≤ 64 := by have := HL.out.ks.gd.1.n; unfold Cl.nums; rw [List.length_map]; exact this
      have HBL := Hid_of HL.out.ks.bel
      generalize (Cl.nums L).length = nl at *
      have dle : decide ((nl : Int) ≤ 64) = true := decide_eq_true (by omega)
      clear HL
      go_wp2_with fail
      refine ho.mono ?_
      rintro e w3 ⟨a3, cap3, rfl, _, _, b3⟩
      have HB3 : Hid (Below w1.heap.size w1 w3) := bel_up HBL.out b3 (by have := HBL.out.size; omega)
      clear b3 ho
      go_wp2_with fail
      refine (awake_any _).mono ?_
      rintro e w4 ⟨rfl, b4⟩
      have HB4 : Hid (Below w1.heap.size w1 w4) := bel_up HB3.out b4 (by have := HB3.out.size; omega)
      clear b4 HB3
      go_wp2
      go_ret
      exact ⟨rfl, HB4.out⟩
end Go.Proofs.Ytbgbdiiinggjnaa
