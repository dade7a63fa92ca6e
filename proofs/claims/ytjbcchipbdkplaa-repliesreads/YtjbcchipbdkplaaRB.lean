/-
  Which numbers may be; nothing is kept yet; a reply is put.
-/
import Derived.Test.YtjbcchipbdkplaaRA
namespace Go.Proofs.Ytjbcchipbdkplaa
open Go.RowKit Go.Maps
set_option linter.unusedVariables false
open Rp (C fup)

theorem isC_any (c : Int) (w : World) : Calls Try.prog 27 #[.int .i64 c] w fun e w' => e = .returned (.bool (Rp.mayC c)) ∧ w' = w := by
  unfold Rp.mayC
  by_cases h0 : 0 ≤ c
  · have d0 : decide ((0 : Int) ≤ c) = true := decide_eq_true h0
    rw [d0, Bool.true_and]
    go_enter Try.func27, Try.ntmps27
    go_wp2
    go_ret
    exact ⟨rfl, rfl⟩
  · have d0 : decide ((0 : Int) ≤ c) = false := decide_eq_false h0
    rw [d0, Bool.false_and]
    go_enter Try.func27, Try.ntmps27
    go_wp2
    go_ret
    exact ⟨rfl, rfl⟩
theorem isI_any (c : Int) (w : World) : Calls Try.prog 28 #[.int .i64 c] w fun e w' => e = .returned (.bool (Rp.mayI c)) ∧ w' = w := by
  unfold Rp.mayI
  by_cases h0 : 0 ≤ c
  · have d0 : decide ((0 : Int) ≤ c) = true := decide_eq_true h0
    rw [d0, Bool.true_and]
    go_enter Try.func28, Try.ntmps28
    go_wp2
    go_ret
    exact ⟨rfl, rfl⟩
  · have d0 : decide ((0 : Int) ≤ c) = false := decide_eq_false h0
    rw [d0, Bool.false_and]
    go_enter Try.func28, Try.ntmps28
    go_wp2
    go_ret
    exact ⟨rfl, rfl⟩
/-- How many are kept of each. -/
def rm (n : Int) : Nat := (min (max n 1) 16).toNat
theorem rm_eq (n : Int) : ((rm n : Nat) : Int) = min (max n 1) 16 := by unfold rm; omega
theorem rm_bd (n : Int) : 1 ≤ rm n ∧ rm n ≤ 16 := by unfold rm; omega
theorem rm_nat {n : Nat} (h : 1 ≤ n ∧ n ≤ 16) : rm (n : Int) = n := by unfold rm; omega
def NewOut (w : World) (room : Nat) (e : Ending) (w' : World) : Prop := ∃ b m, e = .returned (.pointer (some ⟨b, 0, none⟩)) ∧ RI w' w.heap.size b m 0 room (fun _ => none) Rp.non ∧ Below w.heap.size w w'
set_option maxHeartbeats 400000 in
theorem new_any (n : Int) (w : World) : Calls Try.prog 10 #[.int .i64 n] w (NewOut w (rm n)) := by
  have hmm := @run_makeMap Try.prog
  have hrm := (rm_eq n).symm
  have hb0 := bel1 w (.map #[] 0)
  have hb1 : Below w.heap.size w ((w.alloc (.map #[] 0)).alloc (.cells #[.int .i64 (rm n), .map (some w.heap.size)] 57)) := hb0.alloc (by simp) _
  have hh := heap_alloc2_old w (.map #[] 0) (.cells #[.int .i64 (rm n), .map (some w.heap.size)] 57)
  have hn := heap_alloc2_new w (.map #[] 0) (.cells #[.int .i64 (rm n), .map (some w.heap.size)] 57)
  have HK : Hid (NewOut w (rm n) (.returned (.pointer (some ⟨w.heap.size + 1, 0, none⟩))) ((w.alloc (.map #[] 0)).alloc (.cells #[.int .i64 (rm n), .map (some w.heap.size)] 57))) := by
    refine ⟨w.heap.size + 1, w.heap.size, rfl, ⟨hn, (MI.made w).keep ?_, fun c => OwnL.nil _ _ _, fun c h => (by cases h), fun c d g h _ => (by simp [svV, Value.ownBlock] at h), fun c => (by simp [svV, Value.ownBlock]), ⟨by omega, Nat.le_refl _⟩⟩, hb1⟩
    rw [hh]
    exact (heap_alloc_last w _).symm
  clear hb0 hb1 hh hn
  generalize rm n = r at *
  go_enter Try.func10, Try.ntmps10
  go_wp2
  go_ret
  exact HK.out
theorem ofL_app_len (l : List UInt8) : (ofL l).size = l.length := ofL_size l
/-- What a Put leaves. -/
def PtOut (w : World) (base b m n room : Nat) (f : Int → Option (Nat × Nat × Nat)) (T : Int → List C) (c k : Int) (s : List UInt8) (e : Ending) (w' : World) : Prop :=
  e = .returned (.bool (Rp.ptb (T c) k s)) ∧ RI w' base b m n room f (Rp.put T c k s) ∧ Fr w (fpr b m f) w' (fpr b m f)
theorem put_no {T : Int → List C} {c k : Int} {s : List UInt8} (h : Rp.ptb (T c) k s = false) : Rp.put T c k s = T := by
  unfold Rp.put Rp.ptl
  rw [h]
  exact Rp.fup_self T c
theorem put_nil (c k : Int) (s : ByteArray) (w : World) : Calls Try.prog 13 #[.pointer none, .int .i64 c, .int .i64 k, .string s] w fun e w' => e = .returned (.bool false) ∧ w' = w := by
  go_enter Try.func13, Try.ntmps13
  go_wp2
  go_ret
  exact ⟨rfl, rfl⟩
set_option maxRecDepth 100000 in
set_option maxHeartbeats 1000000 in
theorem put_any {w : World} {base b m n room : Nat} {f : Int → Option (Nat × Nat × Nat)} {T : Int → List C} (h : RI w base b m n room f T) (ok : Rp.Ok room T) (c k : Int) (hc : -9223372036854775808 ≤ c ∧ c ≤ 9223372036854775807) (s : List UInt8) (hs : s.length ≤ 1000000) :
    Calls Try.prog 13 #[.pointer (some ⟨b, 0, none⟩), .int .i64 c, .int .i64 k, .string (ofL s)] w (PtOut w base b m n room f T c k s) := by
  obtain ⟨⟨c0, c1⟩, _⟩ := h.cells
  have hsz : ((ofL s).size : Int) = (s.length : Int) := by rw [ofL_size]
  by_cases h1 : 4096 < s.length
  · have hb : Rp.ptb (T c) k s = false := by unfold Rp.ptb; rw [decide_eq_false (by omega), Bool.false_and]
    have HK : Hid (PtOut w base b m n room f T c k s (.returned (.bool false)) w) := ⟨by rw [hb], by rw [put_no hb]; exact h, Fr.refl _ _⟩
    have d1 : decide ((4096 : Int) < (s.length : Int)) = true := decide_eq_true (by omega)
    clear h ok hb
    go_enter Try.func13, Try.ntmps13
    go_wp2
    go_ret
    exact HK.out
  have d1 : decide ((4096 : Int) < (s.length : Int)) = false := decide_eq_false (by omega)
  have hlk := h.mi.look c (lit_i hc.1 hc.2)
  obtain ⟨a, cap, hv, hx, _⟩ := (h.own c).at
  rw [hv] at hlk
  have hl16 := (ok.l c).le
  have h16 := ok.r16
  have hu := (ok.l c).up
  have hpl := place_any a cap (T c) k w (by omega) hx.at' hu
  have HX := Hid_of h
  have HOK := Hid_of ok
  have HA := Hid_of hx.at'
  have HV := Hid_of hv
  have HU := Hid_of hu
  clear h ok hx hv hu
  go_enter Try.func13, Try.ntmps13
  go_wp2_with fail
  refine hpl.mono ?_
  rintro e w1 ⟨r, bb, rfl, hsr, hb1⟩
  obtain ⟨e1, e2⟩ := hsr.plc HU.out
  have hf := hsr.fnd HU.out
  have hX1 := HX.out.keep hb1
  have hA1 := HA.out.keep hb1
  have HF1 := Hid_of (Fr.ofBelow (F := fpr b m f) hb1)
  clear hpl hsr c0 c1 hlk
  cases bb with
  | false =>
    have hb : Rp.ptb (T c) k s = false := by unfold Rp.ptb; rw [hf.2 rfl, Bool.and_false]
    have HK : Hid (PtOut w base b m n room f T c k s (.returned (.bool false)) w1) := ⟨by rw [hb], by rw [put_no hb]; exact hX1, HF1.out⟩
    clear hX1 hA1 hf e1 e2 hb hb1
    go_wp2
    go_ret
    exact HK.out
  | true =>
    obtain ⟨hr, hfn, hid⟩ := hf.1 rfl
    obtain ⟨g0, off, ea, q0, q1, q2⟩ := hA1.getC r hr
    cases hbu : (T c)[r].busy with
    | false =>
      have hb : Rp.ptb (T c) k s = false := by unfold Rp.ptb; rw [hfn]; simp only; rw [hbu, Bool.and_false]
      have HK : Hid (PtOut w base b m n room f T c k s (.returned (.bool false)) w1) := ⟨by rw [hb], by rw [put_no hb]; exact hX1, HF1.out⟩
      rw [hbu] at q1
      have hrl : (r : Int) < ((T c).length : Int) := by omega
      subst ea
      clear hX1 hA1 hf hfn e1 e2 hb hb1 q0 q2 hid hbu
      generalize (T c).length = L at *
      go_wp2
      go_ret
      exact HK.out
    | true =>
      have hb : Rp.ptb (T c) k s = true := by unfold Rp.ptb; rw [hfn]; simp only; rw [hbu, decide_eq_true (by omega)]; rfl
      have hcl := clone_any (ofL s) w1 (by rw [ofL_size]; omega)
      rw [hbu] at q1
      have hrl : (r : Int) < ((T c).length : Int) := by omega
      have HX1 := Hid_of hX1
      have HP : Hid (Rp.put T c k s = fup T c ((T c).set r ⟨k, false, s⟩)) := Hid_of (by unfold Rp.put Rp.ptl; rw [hb, e1]; rfl)
      have HB := Hid_of hb
      obtain ⟨g, cap', hfc⟩ := hX1.has (c := c) (fun e => by rw [e] at hr; simp at hr)
      have hgo : g0 = g ∧ off = 0 ∧ cap = cap' := by
        have := HV.out
        rw [hfc, ea] at this
        simp only [svV, Value.slice.injEq, Option.some.injEq, Addr.mk.injEq, true_and, and_true] at this
        exact ⟨this.1.1.symm, this.1.2.symm, this.2.symm⟩
      obtain ⟨rfl, rfl, rfl⟩ := hgo
      subst ea
      rw [Nat.zero_add] at q1
      have HFC := Hid_of hfc
      have HR := Hid_of hr
      clear hX1 hA1 hf hfn e1 e2 hb q0 q2 hid hbu HV hfc hb1
      generalize hL : (T c).length = L at *
      go_wp2_with fail
      refine hcl.mono ?_
      rintro e w2 ⟨rfl, hb2⟩
      obtain ⟨hfr, ⟨v0, z0⟩, ⟨v1, z1⟩, ⟨v2, z2⟩, hset⟩ := (HX1.out.keep hb2).setAt c r (by rw [hL]; exact HR.out) (by rw [hL]; exact HFC.out)
      have f0 := hfr (r * 3)
      have f1 := hfr (r * 3 + 1)
      have f2 := hfr (r * 3 + 2)
      obtain ⟨hX3, hF3⟩ := hset ⟨k, false, s⟩
      have HK : Hid (PtOut w base b m n room f T c k s (.returned (.bool true)) (((w2.setCell ⟨g0, r * 3, none⟩ (.int .i64 k)).setCell ⟨g0, r * 3 + 1, none⟩ (.bool false)).setCell ⟨g0, r * 3 + 2, none⟩ (.string (ofL s)))) := ⟨by rw [HB.out], by rw [HP.out]; exact hX3, (HF1.out.up hb2).trans hF3⟩
      clear hset hX3 hF3 hfr hb2 HX1 hcl HX HOK HA HU q1 HP HFC HF1 HR hL
      go_wp2
      go_ret
      exact HK.out
end Go.Proofs.Ytjbcchipbdkplaa
