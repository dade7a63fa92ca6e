/-
  What is kept, as bytes.
-/
import Derived.Test.YtjbcchipbdkplaaRE
import Derived.Test.YtjbcchipbdkplaaP
import Derived.Test.YtjbcchipbdkplaaShelf
import Derived.Lib.SlKeysI
import Derived.Deep.CutRange
namespace Go.Proofs.Ytjbcchipbdkplaa
open Go.RowKit Go.Maps Go.Sort
set_option linter.unusedVariables false
open Rp (C fup)

theorem bld_keep {B b : Nat} {p : Value} {bs : List Value} {w w' : World} (h : Lib.BuilderAt 75 5 B b p bs w) (hb : Below w.heap.size w w') : Lib.BuilderAt 75 5 B b p bs w' := by
  obtain ⟨q1, v, q2, q3, q4⟩ := h
  exact ⟨q1, v, (hb.block _ (Array.getElem?_eq_some_iff.1 q2).1).trans q2, owns_keepBut q3 (fun k hk _ => hb.block k hk), q4⟩
namespace Rp
/-- What has been told so far: of so many clients; of the next one's first so many calls. -/
def pre (room : Nat) (T : Int → List C) (j : Nat) : List UInt8 := hd room (keys T).length ++ ((prs T).take j).flatMap encP
theorem prs_len (T : Int → List C) : (prs T).length = (keys T).length := by unfold prs; simp
theorem prs_get (T : Int → List C) (j : Nat) (h : j < (keys T).length) : (prs T)[j]'(by rw [prs_len]; exact h) = ((keys T)[j], T (keys T)[j]) := by unfold prs; simp
theorem pre_zero (room : Nat) (T : Int → List C) : pre room T 0 = hd room (keys T).length := by unfold pre; simp
theorem pre_all (room : Nat) (T : Int → List C) : pre room T (keys T).length = txt room T := by unfold pre txt; rw [List.take_of_length_le (by rw [prs_len]; exact Nat.le_refl _)]
theorem pre_step (room : Nat) (T : Int → List C) (j : Nat) (h : j < (keys T).length) : pre room T (j + 1) = pre room T j ++ hd (keys T)[j] (T (keys T)[j]).length ++ encL (T (keys T)[j]) := by
  unfold pre
  rw [List.take_succ_eq_append_getElem (by rw [prs_len]; exact h), List.flatMap_append, prs_get T j h]
  simp [encP]
theorem encC_len (c : C) (h : 0 ≤ c.id ∧ c.id ≤ 2147483647) (hr : c.reply.length ≤ 4096) : (encC c).length ≤ 5000 := by
  have h1 := M.enc_ten c.id (by omega)
  have h2 := enc_nat c.reply.length (by omega)
  unfold encC M.encT
  split
  · simp; omega
  · simp; omega
theorem encL_len {room : Nat} {l : List C} (h : Okl room l) (k : Nat) : (encL (l.take k)).length ≤ l.length * 5000 := by
  have := flat_le encC 5000 (l.take k) (fun x hx => encC_len x (h.ids x (List.mem_of_mem_take hx)) (h.rep x (List.mem_of_mem_take hx)))
  have h2 : (l.take k).length ≤ l.length := by rw [List.length_take]; omega
  exact Nat.le_trans this (Nat.mul_le_mul_right _ h2)
theorem hd_len (x : Int) (k : Nat) (h : k ≤ 1000000) : (hd x k).length ≤ 11 := by unfold hd; have := enc_nat k h; simp; omega
theorem pre_len {room : Nat} {T : Int → List C} (h : Ok room T) (j : Nat) : (pre room T j).length ≤ 10000000 := by
  have hk := keys_len T
  have h1 := hd_len room (keys T).length (by omega)
  have h2 := flat_le encP 100000 ((prs T).take j) (fun p hp => by
    have hp := List.mem_of_mem_take hp
    obtain ⟨_, _, ho, _⟩ := (prs_upp h).2 p hp
    have h3 := ho.le
    have h16 := h.r16
    have h4 := hd_len p.1 p.2.length (by omega)
    have h5 := encL_len ho p.2.length
    rw [List.take_of_length_le (Nat.le_refl _)] at h5
    unfold encP
    rw [List.length_append]
    omega)
  have h3 : ((prs T).take j).length ≤ 64 := by rw [List.length_take, prs_len]; omega
  unfold pre
  rw [List.length_append]
  omega
theorem encL_step (l : List C) (k : Nat) (h : k < l.length) : encL (l.take (k + 1)) = encL (l.take k) ++ encC l[k] := by
  unfold encL
  rw [List.take_succ_eq_append_getElem h, List.flatMap_append]
  simp
end Rp
theorem text_nil_any (w : World) : Calls Try.prog 19 #[.pointer none] w fun e w' => e = .returned (.string ⟨#[]⟩) ∧ w' = w := by
  go_enter Try.func19, Try.ntmps19
  go_wp2
  go_ret
  exact ⟨rfl, rfl⟩
set_option maxRecDepth 100000 in
set_option maxHeartbeats 2000000 in
theorem textR_any {w : World} {base b m n room : Nat} {f : Int → Option (Nat × Nat × Nat)} {T : Int → List C} (h : RI w base b m n room f T) (ok : Rp.Ok room T) (hn : n ≤ 100000) :
    Calls Try.prog 19 #[.pointer (some ⟨b, 0, none⟩)] w fun e w' => e = .returned (.string (ofL (Rp.txt room T))) ∧ Below w.heap.size w w' := by
  have hcl := clients_any h ok hn
  have HX := Hid_of h
  have HOK := Hid_of ok
  have hkl := Rp.keys_len T
  have h16 := ok.r16
  clear h ok
  go_enter Try.func19, Try.ntmps19
  go_wp2_with fail
  refine hcl.mono ?_
  rintro e w1 ⟨v, rfl, ho, hb1⟩
  obtain ⟨a, cap, rfl, hx, _⟩ := ho.at
  have HA := Hid_of hx.at'
  have HB1 := Hid_of hb1
  obtain ⟨W2, HW2⟩ : ∃ W2, Hid (w1.alloc (.cells #[.pointer none, .slice none 0 0] 75) = W2) := ⟨_, Hid_of rfl⟩
  have HB2 : Hid (Below w1.heap.size w1 W2) := by rw [← HW2.out]; exact bel1 w1 _
  have HBD : Hid (Lib.IsBuilder 75 5 w1.heap.size w1.heap.size [] W2) := .inl ⟨Nat.le_refl _, .slice none 0 0, by rw [← HW2.out]; exact heap_alloc_last w1 _, World.ownsRow_nil _ _ _ _, by simp [Value.ownBlock]⟩
  have hX2 := (HX.out.keep hb1).keep HB2.out
  obtain ⟨⟨q0, q1⟩, _⟩ := hX2.cells
  have hht := headText_any (room : Int) (Rp.keys T).length W2 (by omega) (by omega)
  clear hcl ho hx hX2 hb1
  generalize hK : (Rp.keys T).length = K at *
  go_upto_region 5 with fail
  rw [HW2.out]
  go_wp2_with fail
  refine hht.mono ?_
  rintro e w3 ⟨rfl, hb3⟩
  have hbw := bwrite_any w1.heap.size w1.heap.size [] (ofL (Rp.hd room K)) w3 (by
    rcases HBD.out with h' | h'
    · exact .inl (bld_keep h' hb3)
    · exact .inr (bld_keep h' hb3)) (by rw [ofL_size]; have := Rp.hd_len room K (by omega); simp; omega) (by have := HB2.out.size; have := hb3.size; omega)
  rw [Lib.strCells_eq, List.nil_append, show (ofL (Rp.hd room K)).data.toList = Rp.pre room T 0 by rw [ofL_data, Rp.pre_zero, hK]] at hbw
  have HB3 : Hid (Below w1.heap.size w1 w3) := bel_up HB2.out hb3 (Nat.le_refl _)
  clear hht hb3 q0 q1 HBD HB2 HW2
  go_wp2_with fail
  refine hbw.mono ?_
  rintro e w4 ⟨rfl, hB4, hb4⟩
  have HST := Hid_of (And.intro hB4 (HB3.out.trans hb4))
  clear hbw hB4 hb4 HB3
  go_wp2
  go_loopw [23] (fun i wr => ∃ j : Nat, j ≤ K ∧ i = .int .i64 j ∧ Lib.BuilderAt 75 5 w1.heap.size w1.heap.size (.pointer (some ⟨w1.heap.size, 0, none⟩)) (Lib.byteCells (Rp.pre room T j)) wr ∧ Below w1.heap.size w1 wr) (fun i _ => K - (intOf i).toNat)
  case atStart => exact ⟨0, Nat.zero_le _, rfl, HST.out⟩
  case round =>
    obtain ⟨j, hj, rfl, hBd, hbl⟩ := hrel
    by_cases hlt : j < K
    · have hjk : j < (Rp.keys T).length := by omega
      obtain ⟨g0, off, rfl, z0⟩ := (HA.out.keep hbl).getI j hjk
      obtain ⟨c, hc⟩ : ∃ c, (Rp.keys T)[j] = c := ⟨_, rfl⟩
      have hck := Rp.mayC_yes (Rp.mem_keys.1 (List.getElem_mem hjk)).1
      have HSTEP := Hid_of (Rp.pre_step room T j hjk)
      rw [hc] at z0 hck HSTEP
      have hXr := HX.out.keep (bel_up HB1.out hbl (Nat.le_refl _))
      obtain ⟨⟨q0, q1⟩, _⟩ := hXr.cells
      have hlk := hXr.mi.look c (lit_i (by omega) (by omega))
      obtain ⟨a2, cap2, hv2, hx2, _⟩ := (hXr.own c).at
      rw [hv2] at hlk
      have hokc := HOK.out.l c
      have hl16 := hokc.le
      have HOC := Hid_of hokc
      have hht := headText_any c (T c).length wr (by omega) (by omega)
      have hpl := Rp.pre_len HOK.out j
      have HBd := Hid_of hBd
      have HBl := Hid_of hbl
      clear hXr hBd hbl hx2 hc hokc hjk HST hv2
      go_wp2_with fail
      refine hht.mono ?_
      rintro e w5 ⟨rfl, hb5⟩
      have hbw := bwrite_any w1.heap.size w1.heap.size _ (ofL (Rp.hd c (T c).length)) w5 (.inr (bld_keep HBd.out hb5)) (by rw [ofL_size, Lib.byteCells_length]; have := Rp.hd_len c (T c).length (by omega); omega) (by have := HBl.out.size; have := hb5.size; omega)
      rw [Lib.strCells_eq, ← Lib.byteCells_append, ofL_data] at hbw
      have HB5 : Hid (Below w1.heap.size w1 w5) := bel_up HBl.out hb5 (Nat.le_refl _)
      clear hht hb5 HBd HBl q0 q1 hlk z0
      go_wp2_with fail
      refine hbw.mono ?_
      rintro e w6 ⟨rfl, hB6, hb6⟩
      have hb16 := HB5.out.trans hb6
      have HST6 := Hid_of (And.intro hB6 hb16)
      have hX6 := HX.out.keep (bel_up HB1.out hb16 (Nat.le_refl _))
      obtain ⟨⟨q0, q1⟩, _⟩ := hX6.cells
      have hlk := hX6.mi.look c (lit_i (by omega) (by omega))
      obtain ⟨a3, cap3, hv3, hx3, _⟩ := (hX6.own c).at
      rw [hv3] at hlk
      have HV3 := Hid_of hv3
      clear hbw hB6 hb6 HB5 hX6 hx3 hb16 hv3
      generalize hL : (T c).length = L at *
      go_wp2
      go_loopw [44] (fun i wq => ∃ k : Nat, k ≤ L ∧ i = .int .i64 k ∧ Lib.BuilderAt 75 5 w1.heap.size w1.heap.size (.pointer (some ⟨w1.heap.size, 0, none⟩)) (Lib.byteCells (Rp.pre room T j ++ Rp.hd c L ++ Rp.encL ((T c).take k))) wq ∧ Below w1.heap.size w1 wq) (fun i _ => L - (intOf i).toNat)
      case atStart => exact ⟨0, Nat.zero_le _, rfl, by simpa [Rp.encL] using HST6.out.1, HST6.out.2⟩
      case round =>
        obtain ⟨k, hk, rfl, hBk, hbk⟩ := hrel
        by_cases hkl2 : k < L
        · have hkT : k < (T c).length := by omega
          obtain ⟨a4, cap4, hv4, hx4, _⟩ := ((HX.out.keep (bel_up HB1.out hbk (Nat.le_refl _))).own c).at
          have he4 : a4 = a3 := by
            have := HV3.out
            rw [hv4] at this
            simp only [Value.slice.injEq] at this
            exact this.1
          subst he4
          obtain ⟨g1, off1, rfl, y0, y1, y2⟩ := hx4.at'.getC k hkT
          obtain ⟨W7, HW7⟩ : ∃ W7, Hid (wr.alloc (.cells #[.int .i64 (T c)[k].id, .bool (T c)[k].busy, .string (ofL (T c)[k].reply)] 66) = W7) := ⟨_, Hid_of rfl⟩
          have HB7 : Hid (Below wr.heap.size wr W7) := by rw [← HW7.out]; exact bel1 wr _
          have hbox : W7.heap[wr.heap.size]? = some (.cells #[.int .i64 (T c)[k].id, .bool (T c)[k].busy, .string (ofL (T c)[k].reply)] 66 (0, 0)) := by rw [← HW7.out]; exact heap_alloc_last wr _
          obtain ⟨⟨x0, x1, x2⟩, _⟩ := row3 hbox
          have hmem := List.getElem_mem hkT
          have hct := callText_any (T c)[k] W7 (HOC.out.ids _ hmem) (HOC.out.rep _ hmem)
          have hcl5 := Rp.encC_len (T c)[k] (HOC.out.ids _ hmem) (HOC.out.rep _ hmem)
          have hel := Rp.encL_len HOC.out k
          have hhl := Rp.hd_len c L (by omega)
          have HES := Hid_of (Rp.encL_step (T c) k hkT)
          have HBk := Hid_of hBk
          have Hbk := Hid_of hbk
          clear hx4 hbox hv4 hBk hbk hmem HST6
          generalize (T c)[k].id = i0 at *
          generalize (T c)[k].busy = i1 at *
          generalize (T c)[k].reply = i2 at *
          generalize Rp.encC (T c)[k] = ec at *
          go_upto_region 13 with fail
          rw [HW7.out]
          go_wp2_with fail
          refine hct.mono ?_
          rintro e w8 ⟨rfl, hb8⟩
          have hb78 := bel_up HB7.out hb8 (Nat.le_refl _)
          have hbw := bwrite_any w1.heap.size w1.heap.size _ (ofL ec) w8 (.inr (bld_keep HBk.out hb78)) (by rw [ofL_size, Lib.byteCells_length]; simp only [List.length_append]; omega) (by have := Hbk.out.size; have := hb78.size; omega)
          rw [Lib.strCells_eq, ← Lib.byteCells_append, ofL_data, List.append_assoc, ← HES.out] at hbw
          have HB8 : Hid (Below w1.heap.size w1 w8) := bel_up Hbk.out hb78 (Nat.le_refl _)
          clear hct hb8 hb78 HBk Hbk HB7 HW7 HES y0 y1 y2 x0 x1 x2
          go_wp2_with fail
          refine hbw.mono ?_
          rintro e w9 ⟨rfl, hB9, hb9⟩
          have HR := Hid_of (And.intro hB9 (HB8.out.trans hb9))
          clear hbw hB9 hb9 HB8
          go_wp2
          go_roundw
          case rel => exact ⟨k + 1, by omega, by go_num, HR.out⟩
          case measure => simp [intOf]; omega
        · obtain rfl : k = L := by omega
          have HR : Hid (Lib.BuilderAt 75 5 w1.heap.size w1.heap.size (.pointer (some ⟨w1.heap.size, 0, none⟩)) (Lib.byteCells (Rp.pre room T (j + 1))) wr ∧ Below w1.heap.size w1 wr) := by
            refine ⟨?_, hbk⟩
            rw [HSTEP.out]
            rw [List.take_of_length_le (by omega)] at hBk
            exact hBk
          clear hBk hbk HST6
          go_wp2
          go_roundw
          case rel => exact ⟨j + 1, by omega, by go_num, HR.out⟩
          case measure => simp [intOf]; omega
    · obtain rfl : j = K := by omega
      have hstr := Try.Builder_String_any w1.heap.size w1.heap.size (Rp.pre room T j) wr (.inr hBd) hbl.size
      have HBl := Hid_of hbl
      have HPA : Hid ((⟨(Rp.pre room T j).toArray⟩ : ByteArray) = ofL (Rp.txt room T)) := Hid_of (by rw [← hK, Rp.pre_all]; rfl)
      clear hBd hbl HX HOK HA HST
      go_wp2_with fail
      refine hstr.mono ?_
      rintro e w6 ⟨rfl, hb6⟩
      have HQ : Hid (Below w.heap.size w w6) := bel_up HB1.out (HBl.out.trans hb6) (Nat.le_refl _)
      clear hstr hb6 HBl
      go_wp2
      go_ret
      exact ⟨by rw [HPA.out]; rfl, HQ.out⟩
end Go.Proofs.Ytjbcchipbdkplaa
