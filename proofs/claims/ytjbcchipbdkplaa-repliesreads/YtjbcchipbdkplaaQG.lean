/-
  The document's Read.
-/
import Derived.Test.YtjbcchipbdkplaaPS
import Derived.Test.YtjbcchipbdkplaaQF
import Derived.Deep.CutRange
namespace Go.Proofs.Ytjbcchipbdkplaa
open Go.RowKit Go.Maps
set_option linter.unusedVariables false
open Rp (C fup)

theorem f22_res : Try.f22.results = #[.cell 2 30, .tmp 3] := rfl
/-- What the document's Read gives. -/
def DRd (w : World) (s : List UInt8) (e : Ending) (w' : World) : Prop :=
  (Rp.rdR s = none ∧ e = .returned (.tuple #[.agg (DA 0 nodv), .int .i64 3]) ∧ Below w.heap.size w w') ∨
  ∃ (room : Nat) (ps : List (Int × List C)) (dv : Nat → Value), Rp.rdR s = some (room, ps) ∧ e = .returned (.tuple #[.agg (DA room dv), .int .i64 0]) ∧ DR w' (Rp.tof ps) dv ∧ Below w.heap.size w w'
theorem rdR_no {s : List UInt8} (h : Rp.rdA s = none) : Rp.rdR s = none := by unfold Rp.rdR; rw [h]
theorem res_of (room : Nat) (x : List UInt8) : ∃ ok st l, Rp.rdL room x = Rp.res ok st l := by
  cases h : Rp.rdL room x with
  | none => exact ⟨false, none, [], rfl⟩
  | some p => exact ⟨true, some p.2, p.1, rfl⟩
theorem byte_bd (x : List UInt8) : 0 ≤ vl 0 (M.byte x) ∧ vl 0 (M.byte x) ≤ 255 := by
  rcases hyb : M.byte x with _ | ⟨b, q⟩
  · simp [vl]
  · have := (Rp.byte_only hyb).2
    exact this
/-- A refusal, stored. -/
def NoEnd (w : World) (s : List UInt8) (V : World) : Prop :=
  (st30 ⟨w.heap.size, 0, none⟩ (DA 0 nodv)).run Try.prog V = .ok () (V.setRow w.heap.size (DA 0 nodv)) ∧ Hid ((V.setRow w.heap.size (DA 0 nodv)).heap[w.heap.size]? = some (.cells (DA 0 nodv) 30 (0, 0)) ∧ DRd w s (.returned (.tuple #[.agg (DA 0 nodv), .int .i64 3])) (V.setRow w.heap.size (DA 0 nodv)))
theorem noEnd {w V : World} {s : List UInt8} (hr : V.heap[w.heap.size]? = some (.cells (DA 0 nodv) 30 (0, 0))) (hb : Below w.heap.size w V) (h : Rp.rdR s = none) : NoEnd w s V :=
  ⟨store30_row V _ _ _ _ _ nodv_sl hr, Hid_of ⟨setRow_heap _ _ _ _ _ _ hr, .inl ⟨h, rfl, below_setRow hb (Nat.le_refl _) _⟩⟩⟩
set_option maxRecDepth 100000 in
set_option maxHeartbeats 4000000 in
theorem readD_no (s : List UInt8) (w : World) (hl : s.length ≤ 100000) (hbad : vl 0 (M.byte s) < 1 ∨ 16 < vl 0 (M.byte s) ∨ vl 0 (M.int (lft (nx (M.byte s)))) < 0 ∨ 64 < vl 0 (M.int (lft (nx (M.byte s)))) ∨ (nx (M.int (lft (nx (M.byte s))))).isNone = true) : Calls Try.prog 22 #[.string (ofL s)] w (DRd w s) := by
  obtain ⟨W0, HW0⟩ : ∃ W0, Hid ((w.alloc (.cells (DA 0 nodv) 30)).alloc (.cells #[.string (ofL s), .bool false] 88) = W0) := ⟨_, Hid_of rfl⟩
  have hr2 := heap_alloc2_old w (.cells (DA 0 nodv) 30) (.cells #[.string (ofL s), .bool false] 88)
  have hr4 := heap_alloc2_new w (.cells (DA 0 nodv) 30) (.cells #[.string (ofL s), .bool false] 88)
  rw [HW0.out] at hr2 hr4
  have HB0 : Hid (Below w.heap.size w W0) := by rw [← HW0.out]; exact bel_up (bel1 w _) (bel1 _ _) (Nat.le_refl _)
  have HS0 : Hid (W0.heap.size = w.heap.size + 2) := Hid_of (by rw [← HW0.out]; simp)
  obtain ⟨c0, c1, _, _⟩ := row2 hr4
  have htb := takeByte_any s false W0 (by omega)
  have hbyl := byte_left s
  have hbb := byte_bd s
  have hil := int_left (lft (nx (M.byte s)))
  have HR2 := Hid_of hr2
  have HR4 := Hid_of hr4
  have HN : Hid (Rp.rdR s = none) := Hid_of (by
    rcases hbad with h' | h' | h' | h' | h'
    · exact rdR_no (Rp.rdA_no s (.inl h'))
    · exact rdR_no (Rp.rdA_no s (.inr (.inl h')))
    · exact rdR_no (Rp.rdA_no s (.inr (.inr (.inl h'))))
    · exact rdR_no (Rp.rdA_no s (.inr (.inr (.inr h'))))
    · refine rdR_no ?_
      unfold Rp.rdA
      obtain ⟨o, ho⟩ : ∃ o, M.byte s = o := ⟨_, rfl⟩
      simp only [ho] at h' ⊢
      cases o with
      | none => rfl
      | some p =>
        obtain ⟨rm, r⟩ := p
        simp only [nx, Option.map_some, lft, Option.getD_some] at h' ⊢
        obtain ⟨z, hz⟩ : ∃ z, M.int r = z := ⟨_, rfl⟩
        simp only [hz] at h' ⊢
        cases z with
        | none => rfl
        | some q => cases h')
  clear hr2 hr4
  go_enter Try.func22, Try.ntmps22
  go_upto_region 2 with fail
  rw [HW0.out]
  go_wp2_with fail
  refine htb.mono ?_
  rintro e w1 ⟨rfl, hb1⟩
  rw [show RV (nx (M.byte s)) = .agg #[.string (ofL (lft (nx (M.byte s)))), .bool (nx (M.byte s)).isNone] from rfl]
  have hR2 := (hb1.block _ (Array.getElem?_eq_some_iff.1 HR2.out).1).trans HR2.out
  have hR4 := (hb1.block _ (Array.getElem?_eq_some_iff.1 HR4.out).1).trans HR4.out
  have hsz1 := hb1.size
  obtain ⟨z0, z1, zf0, zf1⟩ := row2 hR4
  obtain ⟨W1, HW1⟩ : ∃ W1, Hid ((w1.setCell ⟨w.heap.size + 1, 0, none⟩ (.string (ofL (lft (nx (M.byte s)))))).setCell ⟨w.heap.size + 1, 1, none⟩ (.bool (nx (M.byte s)).isNone) = W1) := ⟨_, Hid_of rfl⟩
  have HB1 : Hid (Below w.heap.size w W1) := by rw [← HW1.out]; exact bel2 (bel_up HB0.out hb1 (Nat.le_refl _)) _ (by omega) _ _
  have hX4 : W1.heap[w.heap.size + 1]? = some (.cells #[.string (ofL (lft (nx (M.byte s)))), .bool (nx (M.byte s)).isNone] 88 (0, 0)) := by rw [← HW1.out]; exact row2set hR4 _ _
  have HX2 : Hid (W1.heap[w.heap.size]? = some (.cells (DA 0 nodv) 30 (0, 0))) := by rw [← HW1.out, row2far _ _ _ _ _ (by omega)]; exact hR2
  have HS1 : Hid (w.heap.size + 2 ≤ W1.heap.size) := Hid_of (by have := HS0.out; rw [← HW1.out]; simp; omega)
  have hti := takeInt_any (lft (nx (M.byte s))) (nx (M.byte s)).isNone W1 (by omega)
  have HX4 := Hid_of hX4
  clear htb hb1 hR2 hR4 c0 c1 HR2 HR4 HB0 hsz1 HS0
  go_upto_region 3 with fail
  rw [HW1.out]
  clear HW0 HW1 z0 z1 zf0 zf1
  obtain ⟨z0, z1, zf0, zf1⟩ := row2 hX4
  go_wp2_with fail
  refine hti.mono ?_
  rintro e w2 ⟨rfl, hb2⟩
  rw [show RV (nx (M.int (lft (nx (M.byte s))))) = .agg #[.string (ofL (lft (nx (M.int (lft (nx (M.byte s))))))), .bool (nx (M.int (lft (nx (M.byte s))))).isNone] from rfl]
  have hR2 := (hb2.block _ (Array.getElem?_eq_some_iff.1 HX2.out).1).trans HX2.out
  have hR4 := (hb2.block _ (Array.getElem?_eq_some_iff.1 HX4.out).1).trans HX4.out
  have hsz2 := hb2.size
  clear z0 z1 zf0 zf1 hX4
  obtain ⟨z0, z1, zf0, zf1⟩ := row2 hR4
  obtain ⟨W2, HW2⟩ : ∃ W2, Hid ((w2.setCell ⟨w.heap.size + 1, 0, none⟩ (.string (ofL (lft (nx (M.int (lft (nx (M.byte s))))))))).setCell ⟨w.heap.size + 1, 1, none⟩ (.bool (nx (M.int (lft (nx (M.byte s))))).isNone) = W2) := ⟨_, Hid_of rfl⟩
  have HB2 : Hid (Below w.heap.size w W2) := by rw [← HW2.out]; exact bel2 (bel_up HB1.out hb2 (Nat.le_refl _)) _ (by omega) _ _
  have hX4 : W2.heap[w.heap.size + 1]? = some (.cells #[.string (ofL (lft (nx (M.int (lft (nx (M.byte s))))))), .bool (nx (M.int (lft (nx (M.byte s))))).isNone] 88 (0, 0)) := by rw [← HW2.out]; exact row2set hR4 _ _
  have hX2 : W2.heap[w.heap.size]? = some (.cells (DA 0 nodv) 30 (0, 0)) := by rw [← HW2.out, row2far _ _ _ _ _ (by omega)]; exact hR2
  have HS2 : Hid (w.heap.size + 2 ≤ W2.heap.size) := Hid_of (by have := HS1.out; rw [← HW2.out]; simp; omega)
  clear hti hb2 hR2 hR4 HX2 HX4 HB1 HS1 hsz2
  go_upto_region 4 with fail
  rw [HW2.out]
  clear HW2 z0 z1 zf0 zf1
  obtain ⟨z0, z1, zf0, zf1⟩ := row2 hX4
  obtain ⟨hst, HE⟩ := noEnd (s := s) hX2 HB2.out HN.out
  generalize vl 0 (M.byte s) = rm at *
  generalize hstt : nx (M.int (lft (nx (M.byte s)))) = st at *
  generalize vl 0 (M.int (lft (nx (M.byte s)))) = nn at *
  generalize ofL (lft st) = sv at *
  generalize hbv : st.isNone = bv at *
  have hd : bv = true ∨ bv = false ∧ (decide (rm < 1) = true ∨ decide (rm < 1) = false ∧ (decide (16 < rm) = true ∨ decide (16 < rm) = false ∧ (decide (nn < 0) = true ∨ decide (nn < 0) = false ∧ decide (64 < nn) = true))) := by
    cases bv with
    | true => exact .inl rfl
    | false => simp at hbad ⊢; omega
  clear hX2 hX4 HN HB2 HS2 hstt hbv hbad hil hbyl hbb
  rcases hd with rfl | ⟨rfl, d1 | ⟨d1, d2 | ⟨d2, d3 | ⟨d3, d4⟩⟩⟩⟩
  all_goals
    go_wp2
    refine bodyPost_ret (v := .tuple #[.agg (DA 0 nodv), .int .i64 3]) ?_ rfl HE.out.2
    exact res30_2 f22_res _ _ w.heap.size _ _ rfl HE.out.1
set_option maxRecDepth 100000 in
set_option maxHeartbeats 4000000 in
theorem readD_yes (s : List UInt8) (w : World) (hl : s.length ≤ 100000) (room n : Nat) (hrm : vl 0 (M.byte s) = (room : Int)) (hnn : vl 0 (M.int (lft (nx (M.byte s)))) = (n : Int)) (h1 : 1 ≤ room) (h16 : room ≤ 16) (h64 : n ≤ 64) (HSO : Hid ((nx (M.int (lft (nx (M.byte s))))).isNone = false)) : Calls Try.prog 22 #[.string (ofL s)] w (DRd w s) := by
  obtain ⟨W0, HW0⟩ : ∃ W0, Hid ((w.alloc (.cells (DA 0 nodv) 30)).alloc (.cells #[.string (ofL s), .bool false] 88) = W0) := ⟨_, Hid_of rfl⟩
  have hr2 := heap_alloc2_old w (.cells (DA 0 nodv) 30) (.cells #[.string (ofL s), .bool false] 88)
  have hr4 := heap_alloc2_new w (.cells (DA 0 nodv) 30) (.cells #[.string (ofL s), .bool false] 88)
  rw [HW0.out] at hr2 hr4
  have HB0 : Hid (Below w.heap.size w W0) := by rw [← HW0.out]; exact bel_up (bel1 w _) (bel1 _ _) (Nat.le_refl _)
  have HS0 : Hid (W0.heap.size = w.heap.size + 2) := Hid_of (by rw [← HW0.out]; simp)
  obtain ⟨c0, c1, _, _⟩ := row2 hr4
  have htb := takeByte_any s false W0 (by omega)
  have hbyl := byte_left s
  have hbb := byte_bd s
  have hil := int_left (lft (nx (M.byte s)))
  have HR2 := Hid_of hr2
  have HR4 := Hid_of hr4
  have HT := Hid_of (Rp.rdA_yes s room n hrm hnn h1 h16 h64)
  obtain ⟨tot, HTE⟩ : ∃ tot, Hid (Rp.rdA s = tot) := ⟨_, Hid_of rfl⟩
  rw [HTE.out] at HT
  have d1 : decide ((room : Int) < 1) = false := decide_eq_false (by omega)
  have d2 : decide ((16 : Int) < (room : Int)) = false := decide_eq_false (by omega)
  have d3 : decide ((n : Int) < 0) = false := decide_eq_false (by omega)
  have d4 : decide ((64 : Int) < (n : Int)) = false := decide_eq_false (by omega)
  have d5 : decide (room < 1) = false := decide_eq_false (by omega)
  have d6 : decide (16 < room) = false := decide_eq_false (by omega)
  have d7 : decide (64 < n) = false := decide_eq_false (by omega)
  rw [hrm] at htb
  clear hr2 hr4
  go_enter Try.func22, Try.ntmps22
  go_upto_region 2 with fail
  rw [HW0.out]
  go_wp2_with fail
  refine htb.mono ?_
  rintro e w1 ⟨rfl, hb1⟩
  rw [show RV (nx (M.byte s)) = .agg #[.string (ofL (lft (nx (M.byte s)))), .bool (nx (M.byte s)).isNone] from rfl]
  have hR2 := (hb1.block _ (Array.getElem?_eq_some_iff.1 HR2.out).1).trans HR2.out
  have hR4 := (hb1.block _ (Array.getElem?_eq_some_iff.1 HR4.out).1).trans HR4.out
  have hsz1 := hb1.size
  obtain ⟨z0, z1, zf0, zf1⟩ := row2 hR4
  obtain ⟨W1, HW1⟩ : ∃ W1, Hid ((w1.setCell ⟨w.heap.size + 1, 0, none⟩ (.string (ofL (lft (nx (M.byte s)))))).setCell ⟨w.heap.size + 1, 1, none⟩ (.bool (nx (M.byte s)).isNone) = W1) := ⟨_, Hid_of rfl⟩
  have HB1 : Hid (Below w.heap.size w W1) := by rw [← HW1.out]; exact bel2 (bel_up HB0.out hb1 (Nat.le_refl _)) _ (by omega) _ _
  have hX4 : W1.heap[w.heap.size + 1]? = some (.cells #[.string (ofL (lft (nx (M.byte s)))), .bool (nx (M.byte s)).isNone] 88 (0, 0)) := by rw [← HW1.out]; exact row2set hR4 _ _
  have HX2 : Hid (W1.heap[w.heap.size]? = some (.cells (DA 0 nodv) 30 (0, 0))) := by rw [← HW1.out, row2far _ _ _ _ _ (by omega)]; exact hR2
  have HS1 : Hid (w.heap.size + 2 ≤ W1.heap.size) := Hid_of (by have := HS0.out; rw [← HW1.out]; simp; omega)
  have hti := takeInt_any (lft (nx (M.byte s))) (nx (M.byte s)).isNone W1 (by omega)
  rw [hnn] at hti
  have HX4 := Hid_of hX4
  clear htb hb1 hR2 hR4 c0 c1 HR2 HR4 HB0 hsz1 HS0
  go_upto_region 3 with fail
  rw [HW1.out]
  clear HW0 HW1 z0 z1 zf0 zf1
  obtain ⟨z0, z1, zf0, zf1⟩ := row2 hX4
  go_wp2_with fail
  refine hti.mono ?_
  rintro e w2 ⟨rfl, hb2⟩
  rw [show RV (nx (M.int (lft (nx (M.byte s))))) = .agg #[.string (ofL (lft (nx (M.int (lft (nx (M.byte s))))))), .bool (nx (M.int (lft (nx (M.byte s))))).isNone] from rfl]
  have hR2 := (hb2.block _ (Array.getElem?_eq_some_iff.1 HX2.out).1).trans HX2.out
  have hR4 := (hb2.block _ (Array.getElem?_eq_some_iff.1 HX4.out).1).trans HX4.out
  have hsz2 := hb2.size
  clear z0 z1 zf0 zf1 hX4
  obtain ⟨z0, z1, zf0, zf1⟩ := row2 hR4
  obtain ⟨W2, HW2⟩ : ∃ W2, Hid ((w2.setCell ⟨w.heap.size + 1, 0, none⟩ (.string (ofL (lft (nx (M.int (lft (nx (M.byte s))))))))).setCell ⟨w.heap.size + 1, 1, none⟩ (.bool (nx (M.int (lft (nx (M.byte s))))).isNone) = W2) := ⟨_, Hid_of rfl⟩
  have HB2 : Hid (Below w.heap.size w W2) := by rw [← HW2.out]; exact bel2 (bel_up HB1.out hb2 (Nat.le_refl _)) _ (by omega) _ _
  have hX4 : W2.heap[w.heap.size + 1]? = some (.cells #[.string (ofL (lft (nx (M.int (lft (nx (M.byte s))))))), .bool (nx (M.int (lft (nx (M.byte s))))).isNone] 88 (0, 0)) := by rw [← HW2.out]; exact row2set hR4 _ _
  have hX2 : W2.heap[w.heap.size]? = some (.cells (DA 0 nodv) 30 (0, 0)) := by rw [← HW2.out, row2far _ _ _ _ _ (by omega)]; exact hR2
  have HS2 : Hid (w.heap.size + 2 ≤ W2.heap.size) := Hid_of (by have := HS1.out; rw [← HW2.out]; simp; omega)
  clear hti hb2 hR2 hR4 HX2 HX4 HB1 HS1 hsz2
  go_upto_region 4 with fail
  rw [HW2.out]
  clear HW2 z0 z1 zf0 zf1
  obtain ⟨z0, z1, zf0, zf1⟩ := row2 hX4
  rw [HSO.out] at hX4 z1
  generalize hst : nx (M.int (lft (nx (M.byte s)))) = st at *
  have HST : Hid (st = some (lft st) ∧ (lft st).length ≤ s.length) := ⟨some_of HSO.out, by omega⟩
  have hnd := newD_any (room : Int) W2
  rw [rm_nat ⟨h1, h16⟩] at hnd
  have HX2 := Hid_of hX2
  have HX4 := Hid_of hX4
  clear hX2 hX4 hst hil hbyl hbb zf0 zf1 hrm hnn HSO
  generalize hsv0 : ofL (lft st) = sv0 at *
  have HSV0 := Hid_of hsv0
  clear hsv0
  go_wp2_with fail
  refine hnd.mono ?_
  rintro e w3 ⟨rfl, hb3⟩
  have hbx : (w3.alloc (.cells (DA 0 nodv) 30)).heap[w3.heap.size]? = some (.cells (DA 0 nodv) 30 (0, 0)) := heap_alloc_last w3 _
  have hst3 := store30_row _ w3.heap.size (room : Int) 0 nodv nodv nodv_sl hbx
  obtain ⟨W3, HW3⟩ : ∃ W3, Hid ((w3.alloc (.cells (DA 0 nodv) 30)).setRow w3.heap.size (DA room nodv) = W3) := ⟨_, Hid_of rfl⟩
  have hB3 : Below W2.heap.size W2 W3 := by rw [← HW3.out]; exact below_setRow (bel_up hb3 (bel1 w3 _) (Nat.le_refl _)) hb3.size _
  have HP3 : Hid (W3.heap[w.heap.size]? = some (.cells (DA 0 nodv) 30 (0, 0)) ∧ W3.heap[w.heap.size + 1]? = some (.cells #[.string sv0, .bool false] 88 (0, 0)) ∧ W3.heap[w3.heap.size]? = some (.cells (DA room nodv) 30 (0, 0)) ∧ Below w.heap.size w W3 ∧ w3.heap.size < W3.heap.size ∧ w.heap.size + 2 ≤ w3.heap.size) := by
    have := HS2.out
    have := hb3.size
    refine ⟨(hB3.block _ (by omega)).trans HX2.out, (hB3.block _ (by omega)).trans HX4.out, by rw [← HW3.out]; exact setRow_heap _ _ _ _ _ _ hbx, bel_up HB2.out hB3 (Nat.le_refl _), ?_, by omega⟩
    rw [← HW3.out]
    simp [World.setRow]
  clear hbx hb3 hB3 HX2 HX4 HB2 HS2 hnd z0 z1
  go_upto_region 7 with fail
  rw [HW3.out]
  obtain ⟨B, hB⟩ : ∃ B, w3.heap.size = B := ⟨_, rfl⟩
  rw [hB] at HP3 ⊢
  clear hst3 HW3 hB
  go_wp2
  go_loopw [9, 8] (fun i lv wr => ∃ (k : Nat) (ps : List (Int × List C)) (last : Int) (r : List UInt8) (dv : Nat → Value), k ≤ n ∧ i = .int .i64 k ∧ lv = .int .i64 last ∧ wr.heap[w.heap.size]? = some (.cells (DA 0 nodv) 30 (0, 0)) ∧ wr.heap[w.heap.size + 1]? = some (.cells #[.string (ofL r), .bool false] 88 (0, 0)) ∧ wr.heap[B]? = some (.cells (DA room dv) 30 (0, 0)) ∧ Below w.heap.size w wr ∧ B < wr.heap.size ∧ w.heap.size + 2 ≤ B ∧ r.length ≤ s.length ∧ DR wr (Rp.tof ps) dv ∧ DN (fun q => q ≤ B) dv ∧ (∀ p ∈ ps, p.1 ≤ last) ∧ Hid (Rp.TotM room tot (some r) (n - k) last ps)) (fun i lv _ => n - (intOf i).toNat)
  case atStart => exact ⟨0, [], -1, lft st, nodv, Nat.zero_le _, rfl, rfl, HP3.out.1, (by rw [HSV0.out]; exact HP3.out.2.1), HP3.out.2.2.1, HP3.out.2.2.2.1, HP3.out.2.2.2.2.1, HP3.out.2.2.2.2.2, HST.out.2, DR.none W3, DN.none _, by simp, by rw [← HST.out.1]; exact HT⟩
  case round =>
    obtain ⟨k, ps, last, r, dv, hk, rfl, rfl, hr2, hr4, hr7, hbl, hBw, hBl, hrl, hdr, hdn, hps, HT'⟩ := hrel
    clear HP3 HT HST
    obtain ⟨c0, c1, _, _⟩ := row2 hr4
    have HNO : Hid (∀ V, Below wr.heap.size wr V → Rp.rdR s = none → NoEnd w s V) := fun V hV hno => noEnd ((hV.block _ (by omega)).trans hr2) (bel_up hbl hV (Nat.le_refl _)) hno
    by_cases hlt : k < n
    · obtain ⟨m, hm⟩ : ∃ m, n - k = m + 1 := ⟨n - k - 1, by omega⟩
      rw [hm] at HT'
      have HM : Hid (n - (k + 1) = m) := Hid_of (by omega)
      have hki : (k : Int) < (n : Int) := by omega
      have htb := takeByte_any r false wr (by omega)
      have hbyl := byte_left r
      have hbb := byte_bd r
      have HQ := Hid_of (And.intro hr2 (And.intro hr4 (And.intro hr7 (And.intro hbl (And.intro hdr (And.intro hdn hps))))))
      clear hr2 hr4 hr7 hbl hdr hdn hps hm
      go_wp2_with fail
      refine htb.mono ?_
      rintro e w1 ⟨rfl, hb1⟩
      rw [show RV (nx (M.byte r)) = .agg #[.string (ofL (lft (nx (M.byte r)))), .bool (nx (M.byte r)).isNone] from rfl]
      obtain ⟨V1, HV1⟩ : ∃ V1, Hid (w1.alloc (.cells #[.string (ofL (lft (nx (M.byte r)))), .bool (nx (M.byte r)).isNone] 88) = V1) := ⟨_, Hid_of rfl⟩
      have hq10 : V1.heap[w1.heap.size]? = some (.cells #[.string (ofL (lft (nx (M.byte r)))), .bool (nx (M.byte r)).isNone] 88 (0, 0)) := by rw [← HV1.out]; exact heap_alloc_last w1 _
      have HBV1 : Hid (Below wr.heap.size wr V1) := by rw [← HV1.out]; exact bel_up hb1 (bel1 w1 _) (Nat.le_refl _)
      obtain ⟨g0, g1, _, _⟩ := row2 hq10
      have hone := one_any room (lft (nx (M.byte r))) V1 (by omega) h16
      have HBAD : Hid (∀ ok st' l, Rp.rdL room (lft (nx (M.byte r))) = Rp.res ok st' l → (ok = false ∨ vl 0 (M.byte r) ≤ last ∨ Rp.mayC (vl 0 (M.byte r)) = false) → Rp.rdR s = none) := fun ok st' l h1 h2 => rdR_no (by rw [HTE.out]; exact HT'.out.no h1 h2)
      have HGO : Hid (∀ st' l, Rp.rdL room (lft (nx (M.byte r))) = Rp.res true st' l → ¬ vl 0 (M.byte r) ≤ last → Rp.mayC (vl 0 (M.byte r)) = true → Rp.TotM room tot st' m (vl 0 (M.byte r)) (ps ++ [(vl 0 (M.byte r), l)])) := fun st' l h1 h2 h3 => HT'.out.go h1 h2 h3
      obtain ⟨ok0, st0, l0, h0⟩ := res_of room (lft (nx (M.byte r)))
      have HRE := Hid_of h0
      have HNB : Hid ((nx (M.byte r)).isNone = true → Rp.rdR s = none) := fun hnn => HBAD.out false none [] (by rw [none_of hnn]; rfl) (.inl rfl)
      have HLN : Hid ((lft (nx (M.byte r))).length ≤ s.length) := Hid_of (by omega)
      clear htb hb1 hq10 c0 c1 h0 HT'
      generalize vl 0 (M.byte r) = c at *
      generalize nx (M.byte r) = st1 at *
      go_upto_region 12 with fail
      rw [HV1.out]
      clear HV1 hbyl
      cases hso : st1.isNone with
      | true =>
        rw [hso] at g1
        obtain ⟨hst, HE⟩ := HNO.out V1 HBV1.out (HNB.out hso)
        clear HNO HNB HBAD HGO HQ HRE hone
        go_wp2
        refine bodyPost_ret (v := .tuple #[.agg (DA 0 nodv), .int .i64 3]) ?_ rfl HE.out.2
        exact res30_2 f22_res _ _ w.heap.size _ _ rfl HE.out.1
      | false =>
        rw [hso] at g1
        by_cases hcl : c ≤ last
        · obtain ⟨hst, HE⟩ := HNO.out V1 HBV1.out (HBAD.out _ _ _ HRE.out (.inr (.inl hcl)))
          have dcl : decide (c ≤ last) = true := decide_eq_true hcl
          clear HNO HNB HBAD HGO HQ HRE hone hcl
          go_wp2
          refine bodyPost_ret (v := .tuple #[.agg (DA 0 nodv), .int .i64 3]) ?_ rfl HE.out.2
          exact res30_2 f22_res _ _ w.heap.size _ _ rfl HE.out.1
        · have dcl : decide (c ≤ last) = false := decide_eq_false hcl
          by_cases h6 : 64 ≤ c
          · obtain ⟨hst, HE⟩ := HNO.out V1 HBV1.out (HBAD.out _ _ _ HRE.out (.inr (.inr (by unfold Rp.mayC; rw [show decide (c ≤ 63) = false from decide_eq_false (by omega), Bool.and_false]))))
            have dc6 : decide (64 ≤ c) = true := decide_eq_true h6
            clear HNO HNB HBAD HGO HQ HRE hone hcl
            go_wp2
            refine bodyPost_ret (v := .tuple #[.agg (DA 0 nodv), .int .i64 3]) ?_ rfl HE.out.2
            exact res30_2 f22_res _ _ w.heap.size _ _ rfl HE.out.1
          · obtain ⟨cn, rfl⟩ := Int.eq_ofNat_of_zero_le hbb.1
            have dc6 : decide ((64 : Int) ≤ (cn : Int)) = false := decide_eq_false h6
            have dc7 : decide (64 ≤ cn) = false := decide_eq_false (by omega)
            have hmc : Rp.mayC (cn : Int) = true := by unfold Rp.mayC; rw [decide_eq_true (by omega), decide_eq_true (by omega)]; rfl
            have hcn : cn < 64 := by omega
            have hci : (cn : Int) < 64 := by omega
            clear hso HNB
            go_wp2_with fail
            refine hone.mono ?_
            rintro e w2 (⟨hno, ⟨sv, bv, rfl⟩, hb2⟩ | ⟨l, r2, v, hyes, rfl, ho2, hne, hl2, hb2⟩)
            · obtain ⟨hst, HE⟩ := HNO.out (w2.alloc (.cells #[.string sv, .bool bv] 88)) (bel_up (bel_up HBV1.out hb2 (Nat.le_refl _)) (bel1 w2 _) (Nat.le_refl _)) (HBAD.out false none [] (by rw [hno]; rfl) (.inl rfl))
              clear HNO HBAD HGO HQ HRE hone hb2 hno
              go_wp2
              refine bodyPost_ret (v := .tuple #[.agg (DA 0 nodv), .int .i64 3]) ?_ rfl HE.out.2
              exact res30_2 f22_res _ _ w.heap.size _ _ rfl HE.out.1
            · obtain ⟨a2, cap2, rfl, hx2, hbk⟩ := ho2.at
              have hb12 : Below wr.heap.size wr w2 := bel_up HBV1.out hb2 (Nat.le_refl _)
              have hV1 := HBV1.out.size
              obtain ⟨V2, HV2⟩ : ∃ V2, Hid (w2.alloc (.cells #[.string (ofL r2), .bool false] 88) = V2) := ⟨_, Hid_of rfl⟩
              have hbV2 : Below w2.heap.size w2 V2 := by rw [← HV2.out]; exact bel1 w2 _
              have hbW2 : Below wr.heap.size wr V2 := bel_up hb12 hbV2 (Nat.le_refl _)
              have hq12 : V2.heap[w2.heap.size]? = some (.cells #[.string (ofL r2), .bool false] 88 (0, 0)) := by rw [← HV2.out]; exact heap_alloc_last w2 _
              obtain ⟨t0, t1, _, _⟩ := row2 hq12
              have hR2 := (hbW2.block _ (by omega)).trans HQ.out.1
              have hR4 := (hbW2.block _ (by omega)).trans HQ.out.2.1
              have hR7 := (hbW2.block _ hBw).trans HQ.out.2.2.1
              obtain ⟨y0, y1, yf0, yf1⟩ := row2 hR4
              obtain ⟨V3, HV3⟩ : ∃ V3, Hid ((V2.setCell ⟨w.heap.size + 1, 0, none⟩ (.string (ofL r2))).setCell ⟨w.heap.size + 1, 1, none⟩ (.bool false) = V3) := ⟨_, Hid_of rfl⟩
              have hS4 : V3.heap[w.heap.size + 1]? = some (.cells #[.string (ofL r2), .bool false] 88 (0, 0)) := by rw [← HV3.out]; exact row2set hR4 _ _
              have hS7 : V3.heap[B]? = some (.cells (DA room dv) 30 (0, 0)) := by rw [← HV3.out, row2far _ _ _ _ _ (by omega)]; exact hR7
              obtain ⟨da, dcap, hdv, _⟩ := HQ.out.2.2.2.2.1.row cn
              have u1 : V3.cell? ⟨B, 1 + cn, none⟩ = some (.slice da (Rp.tof ps cn).length dcap) := by rw [cell_of_row V3 _ _ _ _ _ hS7, DA_get _ _ _ hcn, hdv]
              have u2 : V3.frozen? ⟨B, 1 + cn, none⟩ = false := frozen_of_row V3 _ _ _ _ hS7
              obtain ⟨V4, HV4⟩ : ∃ V4, Hid (V3.setCell ⟨B, 1 + cn, none⟩ (.slice a2 l.length cap2) = V4) := ⟨_, Hid_of rfl⟩
              have hU7 : V4.heap[B]? = some (.cells (DA room (dvup dv cn (.slice a2 l.length cap2))) 30 (0, 0)) := by rw [← HV4.out, heap_setCell_same V3 _ _ _ _ _ hS7, DA_set _ _ _ _ hcn]
              have hfar : ∀ q, q ≠ w.heap.size + 1 → q ≠ B → V4.heap[q]? = V2.heap[q]? := fun q q1 q2 => by
                rw [← HV4.out, heap_setCell_other V3 ⟨B, 1 + cn, none⟩ q _ q2, ← HV3.out, row2far _ _ _ _ _ q1]
              have hU4 : V4.heap[w.heap.size + 1]? = some (.cells #[.string (ofL r2), .bool false] 88 (0, 0)) := by rw [← HV4.out, heap_setCell_other V3 ⟨B, 1 + cn, none⟩ _ _ (by show w.heap.size + 1 ≠ B; omega)]; exact hS4
              have hU2 : V4.heap[w.heap.size]? = some (.cells (DA 0 nodv) 30 (0, 0)) := (hfar _ (by omega) (by omega)).trans hR2
              have hB4 : Below w.heap.size w V4 := by
                rw [← HV4.out, ← HV3.out]
                exact (bel2 (bel_up HQ.out.2.2.2.1 hbW2 (Nat.le_refl _)) _ (by omega) _ _).setCell (p := ⟨B, 1 + cn, none⟩) (by show w.heap.size ≤ B; omega) _
              have hsz4 : V4.heap.size = V2.heap.size := by rw [← HV4.out, ← HV3.out]; simp
              have hps' : ∀ p ∈ ps, p.1 ≠ (cn : Int) := fun p hp e => by have := HQ.out.2.2.2.2.2.2 p hp; omega
              have hfr : Fr V2 (fun q => q = w.heap.size + 1 ∨ q = B) V4 (fun q => q = w.heap.size + 1 ∨ q = B) := ⟨by rw [← HV4.out, ← HV3.out]; rfl, by rw [← HV4.out, ← HV3.out]; rfl, by rw [← HV4.out, ← HV3.out]; rfl, by omega, fun q hq hn => hfar q (fun e => hn (.inl e)) (fun e => hn (.inr e)), fun q h => .inl h⟩
              have hd4 := ((HQ.out.2.2.2.2.1.keep hbW2).fr (HQ.out.2.2.2.2.2.1.mono (fun q hq => by show q ≤ B; rcases hq with h' | h' <;> omega)) hfr).1
              have hx4 : XL cl V4 a2 cap2 l := (hx2.keep hbV2).keepBut (fun q hq hb => hfar q (by have := (hbk q hb).1; omega) (by have := (hbk q hb).1; omega))
              have hdr4 := hd4.up cn l a2 cap2 hx4 hne
              rw [← Rp.tof_snoc hps'] at hdr4
              have hdn4 : DN (fun q => q ≤ B) (dvup dv cn (.slice a2 l.length cap2)) := HQ.out.2.2.2.2.2.1.new (w := wr) (New.up cn (fun q hq => by have := (hbk q hq).1; omega)) (fun q hq => by have hq' : q ≤ B := hq; omega)
              have HPS2 : Hid (∀ p ∈ ps ++ [((cn : Int), l)], p.1 ≤ (cn : Int)) := fun p hp => by
                rcases List.mem_append.1 hp with h' | h'
                · have := HQ.out.2.2.2.2.2.2 p h'; omega
                · simp at h'; subst h'; exact Int.le_refl _
              have HT2 := Hid_of (HGO.out (some r2) l (by rw [hyes]; rfl) hcl hmc)
              have HREL : Hid (V4.heap[w.heap.size]? = some (.cells (DA 0 nodv) 30 (0, 0)) ∧ V4.heap[w.heap.size + 1]? = some (.cells #[.string (ofL r2), .bool false] 88 (0, 0)) ∧ V4.heap[B]? = some (.cells (DA room (dvup dv cn (.slice a2 l.length cap2))) 30 (0, 0)) ∧ Below w.heap.size w V4 ∧ B < V4.heap.size ∧ r2.length ≤ s.length ∧ DR V4 (Rp.tof (ps ++ [((cn : Int), l)])) (dvup dv cn (.slice a2 l.length cap2)) ∧ DN (fun q => q ≤ B) (dvup dv cn (.slice a2 l.length cap2))) :=
                ⟨hU2, hU4, hU7, hB4, by have := hbW2.size; omega, by have := HLN.out; omega, hdr4, hdn4⟩
              clear hx2 hbk hb12 hV1 hbV2 hbW2 hq12 hR2 hR4 hR7 hS4 hS7 hdv hU7 hfar hU4 hU2 hB4 hsz4 hps' hfr hd4 hx4 hdr4 hdn4 HNO HBAD HGO HQ HRE hone hb2 hyes ho2 hne hl2 hmc hcl
              generalize l.length = L at *
              go_upto_region 15 with fail
              rw [HV2.out]
              go_upto_region 18 with fail
              rw [HV3.out]
              clear t0 t1 y0 y1 yf0 yf1
              go_wp2
              rw [HV4.out]
              go_roundw
              case rel => exact ⟨k + 1, ps ++ [((cn : Int), l)], cn, r2, _, by omega, by go_num, rfl, HREL.out.1, HREL.out.2.1, HREL.out.2.2.1, HREL.out.2.2.2.1, HREL.out.2.2.2.2.1, hBl, HREL.out.2.2.2.2.2.1, HREL.out.2.2.2.2.2.2.1, HREL.out.2.2.2.2.2.2.2, HPS2.out, by rw [HM.out]; exact HT2⟩
              case measure => simp [intOf]; omega
    · obtain rfl : k = n := by omega
      have hen := end_any (some r) wr
      rw [show RV (some r) = .agg #[.string (ofL r), .bool false] from rfl] at hen
      have HD : Hid (tot = Rp.res true (some r) (room, ps)) := by
        rw [Nat.sub_self] at HT'
        exact HT'.out.done
      rcases rdone_eq (some r) with ⟨h0, he⟩ | ⟨h3, he⟩
      · rw [h0] at hen
        have HNR : Hid (Rp.rdR s = some (room, ps)) := Hid_of (by
          unfold Rp.rdR
          rw [HTE.out, HD.out, he]
          rfl)
        have HQ := Hid_of (And.intro hr2 (And.intro hr7 (And.intro hbl (And.intro hdr hdn))))
        clear hr2 hr4 hr7 hbl hdr hdn hps HT' HD HTE he
        go_wp2_with fail
        refine hen.mono ?_
        rintro e w4 ⟨rfl, hb4⟩
        have hR2 := (hb4.block _ (by omega)).trans HQ.out.1
        have hR7 := (hb4.block _ hBw).trans HQ.out.2.1
        have hld := load30_row w4 B room dv hR7
        have hst := store30_row w4 w.heap.size (room : Int) 0 dv nodv HQ.out.2.2.2.1.sl hR2
        have hfr := fr_setRow w4 w.heap.size (DA room dv)
        have HE : Hid ((w4.setRow w.heap.size (DA room dv)).heap[w.heap.size]? = some (.cells (DA room dv) 30 (0, 0)) ∧ DRd w s (.returned (.tuple #[.agg (DA room dv), .int .i64 0])) (w4.setRow w.heap.size (DA room dv))) := Hid_of ⟨setRow_heap _ _ _ _ _ _ hR2, .inr ⟨room, ps, dv, HNR.out, rfl, ((HQ.out.2.2.2.1.keep hb4).fr (HQ.out.2.2.2.2.mono (fun q hq => by show q ≤ B; have hq' : q = w.heap.size := hq; omega)) hfr).1, below_setRow (bel_up HQ.out.2.2.1 hb4 (Nat.le_refl _)) (Nat.le_refl _) _⟩⟩
        clear hR2 hR7 hfr HQ HNO hen hb4 HNR
        go_wp2
        refine bodyPost_ret (v := .tuple #[.agg (DA room dv), .int .i64 0]) ?_ rfl HE.out.2
        exact res30_2 f22_res _ _ w.heap.size _ _ rfl HE.out.1
      · rw [h3] at hen
        have HNR : Hid (Rp.rdR s = none) := Hid_of (by
          unfold Rp.rdR
          rw [HTE.out, HD.out]
          cases r with
          | nil => exact absurd rfl he
          | cons x q => rfl)
        clear hr2 hr4 hr7 hbl hdr hdn hps HT' HD HTE he
        go_wp2_with fail
        refine hen.mono ?_
        rintro e w4 ⟨rfl, hb4⟩
        obtain ⟨hst, HE⟩ := HNO.out w4 hb4 HNR.out
        clear HNO hen hb4 HNR
        go_wp2
        refine bodyPost_ret (v := .tuple #[.agg (DA 0 nodv), .int .i64 3]) ?_ rfl HE.out.2
        exact res30_2 f22_res _ _ w.heap.size _ _ rfl HE.out.1
theorem readD_any (s : List UInt8) (w : World) (hl : s.length ≤ 100000) : Calls Try.prog 22 #[.string (ofL s)] w (DRd w s) := by
  by_cases hbad : vl 0 (M.byte s) < 1 ∨ 16 < vl 0 (M.byte s) ∨ vl 0 (M.int (lft (nx (M.byte s)))) < 0 ∨ 64 < vl 0 (M.int (lft (nx (M.byte s)))) ∨ (nx (M.int (lft (nx (M.byte s))))).isNone = true
  · exact readD_no s w hl hbad
  · obtain ⟨room, hrm⟩ := Int.eq_ofNat_of_zero_le (show 0 ≤ vl 0 (M.byte s) by omega)
    obtain ⟨n, hn⟩ := Int.eq_ofNat_of_zero_le (show 0 ≤ vl 0 (M.int (lft (nx (M.byte s)))) by omega)
    exact readD_yes s w hl room n hrm hn (by omega) (by omega) (by omega) (Hid_of (by
      cases h : (nx (M.int (lft (nx (M.byte s))))).isNone with
      | false => rfl
      | true => exact absurd (.inr (.inr (.inr (.inr h)))) hbad))
end Go.Proofs.Ytjbcchipbdkplaa
