/-
  A call is taken; the numbers that are kept.
-/
import Derived.Test.YtjbcchipbdkplaaRB
import Derived.Deep.CutRange
namespace Go.Proofs.Ytjbcchipbdkplaa
open Go.RowKit Go.Maps
set_option linter.unusedVariables false
open Rp (C fup)

/-- What a Take leaves. -/
def TkOut (w : World) (base b m n room : Nat) (f : Int → Option (Nat × Nat × Nat)) (T : Int → List C) (c k : Int) (e : Ending) (w' : World) : Prop :=
  ∃ f', e = .returned (.tuple #[.int .i64 (Rp.code room T c k), .string (ofL (Rp.told T c k))]) ∧ RI w' base b m (n + 1) room f' (Rp.take room T c k) ∧ Fr w (fpr b m f) w' (fpr b m f')
theorem tk_nil (c k : Int) (w : World) : Calls Try.prog 15 #[.pointer none, .int .i64 c, .int .i64 k] w fun e w' => e = .returned (.tuple #[.int .i64 0, .string ⟨#[]⟩]) ∧ w' = w := by
  go_enter Try.func15, Try.ntmps15
  go_wp2
  go_ret2
  exact ⟨rfl, rfl⟩
set_option maxHeartbeats 1000000 in
theorem take_no {w : World} {base b m n room : Nat} {f : Int → Option (Nat × Nat × Nat)} {T : Int → List C} (h : RI w base b m n room f T) (c k : Int) (hm : Rp.may c k = false) :
    Calls Try.prog 15 #[.pointer (some ⟨b, 0, none⟩), .int .i64 c, .int .i64 k] w (TkOut w base b m n room f T c k) := by
  have HK : Hid (TkOut w base b m n room f T c k (.returned (.tuple #[.int .i64 0, .string (ofL [])])) w) := by
    refine ⟨f, ?_, ?_, Fr.refl _ _⟩
    · unfold Rp.code Rp.told; rw [hm]; rfl
    · unfold Rp.take; rw [hm]; exact h.mono (by omega)
  have hc := isC_any c
  have hi := isI_any k
  clear h
  cases h1 : Rp.mayC c with
  | false =>
    rw [h1] at hc
    clear hi hm h1
    go_enter Try.func15, Try.ntmps15
    go_wp2_with fail
    refine (hc _).mono ?_
    rintro e w1 ⟨rfl, rfl⟩
    go_wp2
    go_ret2
    exact HK.out
  | true =>
    have h2 : Rp.mayI k = false := by unfold Rp.may at hm; rw [h1, Bool.true_and] at hm; exact hm
    rw [h1] at hc
    rw [h2] at hi
    clear hm h1 h2
    go_enter Try.func15, Try.ntmps15
    go_wp2_with fail
    refine (hc _).mono ?_
    rintro e w1 ⟨rfl, rfl⟩
    go_wp2_with fail
    refine (hi _).mono ?_
    rintro e w1 ⟨rfl, rfl⟩
    go_wp2
    go_ret2
    exact HK.out
set_option maxRecDepth 100000 in
set_option maxHeartbeats 1000000 in
theorem take_hit {w : World} {base b m n room : Nat} {f : Int → Option (Nat × Nat × Nat)} {T : Int → List C} (h : RI w base b m n room f T) (ok : Rp.Ok room T) (c k : Int) (hb : base ≤ w.heap.size) (hn : n < maxLen) (hm : Rp.may c k = true) (hP : (Rp.fnd (T c) k).isSome = true) :
    Calls Try.prog 15 #[.pointer (some ⟨b, 0, none⟩), .int .i64 c, .int .i64 k] w (TkOut w base b m n room f T c k) := by
  have hmc : Rp.mayC c = true ∧ Rp.mayI k = true := by unfold Rp.may at hm; simpa using hm
  have hcb := Rp.mayC_yes hmc.1
  have hic := isC_any c
  have hii := isI_any k
  rw [hmc.1] at hic
  rw [hmc.2] at hii
  obtain ⟨⟨c0, c1⟩, _⟩ := h.cells
  have hlk := h.mi.look c (lit_i (by omega) (by omega))
  obtain ⟨a, cap, hv, hx, _⟩ := (h.own c).at
  rw [hv] at hlk
  have hl16 := (ok.l c).le
  have h16 := ok.r16
  have h1 := ok.r1
  have hu := (ok.l c).up
  have hpl := place_any a cap (T c) k w (by omega) hx.at' hu
  have HE : Hid (Rp.code room T c k = Rp.tkc room (T c) k ∧ Rp.told T c k = Rp.tkr (T c) k ∧ Rp.take room T c k = fup T c (Rp.tkl room (T c) k)) := by
    unfold Rp.code Rp.told Rp.take; rw [hm]; exact ⟨rfl, rfl, rfl⟩
  have HX := Hid_of h
  have HOK := Hid_of ok
  have HA := Hid_of hx.at'
  have HV := Hid_of hv
  have HU := Hid_of hu
  have HN := Hid_of hn
  have HCB := Hid_of hcb
  clear h ok hx hv hu hm hmc hn hcb
  go_enter Try.func15, Try.ntmps15
  go_wp2_with fail
  refine (hic _).mono ?_
  rintro e w0 ⟨rfl, rfl⟩
  go_wp2_with fail
  refine (hii _).mono ?_
  rintro e w0 ⟨rfl, rfl⟩
  go_wp2_with fail
  refine hpl.mono ?_
  rintro e w1 ⟨r, bb, rfl, hsr, hb1⟩
  obtain ⟨e1, e2⟩ := hsr.plc HU.out
  have hf := hsr.fnd HU.out
  have hX1 := HX.out.keep hb1
  have hA1 := HA.out.keep hb1
  have hrle := hsr.le
  have HF1 := Hid_of (Fr.ofBelow (F := fpr b m f) hb1)
  have hs1 := hb1.size
  clear hpl hsr c0 c1 hlk hic hii hb1 HA
  cases bb with
  | true =>
    obtain ⟨hr, hfn, hid⟩ := hf.1 rfl
    obtain ⟨g0, off, ea, q0, q1, q2⟩ := hA1.getC r hr
    obtain ⟨t1, t2, t3⟩ := Rp.tk_of (room := room) hfn
    have hrep := (HOK.out.l c).rep _ (List.getElem_mem hr)
    rw [t1, t2, t3, Rp.fup_self] at HE
    have hrl : (r : Int) < ((T c).length : Int) := by omega
    cases hbu : (T c)[r].busy with
    | true =>
      rw [hbu] at q1 HE
      have HK : Hid (TkOut w0 base b m n room f T c k (.returned (.tuple #[.int .i64 3, .string (ofL [])])) w1) := ⟨f, by rw [HE.out.1, HE.out.2.1]; rfl, by rw [HE.out.2.2]; exact hX1.mono (by omega), HF1.out⟩
      subst ea
      clear hX1 hA1 hf hfn e1 e2 q0 q2 hid hbu HE hrep t1 t2 t3 HV
      generalize (T c).length = L at *
      go_wp2
      go_ret2
      exact HK.out
    | false =>
      rw [hbu] at q1 HE
      have HK : Hid (∀ w2, Below w1.heap.size w1 w2 → TkOut w0 base b m n room f T c k (.returned (.tuple #[.int .i64 2, .string (ofL (T c)[r].reply)])) w2) := fun w2 hb2 => ⟨f, by rw [HE.out.1, HE.out.2.1]; rfl, by rw [HE.out.2.2]; exact (hX1.mono (by omega)).keep hb2, HF1.out.up hb2⟩
      have hcl := clone_any (ofL (T c)[r].reply) w1 (by rw [ofL_size]; omega)
      subst ea
      clear hX1 hA1 hf hfn e1 e2 q0 hid hbu HE hrep t1 t2 t3 HV
      generalize (T c)[r].reply = rp at *
      generalize (T c).length = L at *
      go_wp2_with fail
      refine hcl.mono ?_
      rintro e w2 ⟨rfl, hb2⟩
      have HK2 := Hid_of (HK.out w2 hb2)
      clear HK hb2 hcl q1 q2
      go_wp2
      go_ret2
      exact HK2.out
  | false => rw [hP] at e2; cases e2
set_option maxRecDepth 100000 in
set_option maxHeartbeats 1000000 in
theorem take_old {w : World} {base b m n room : Nat} {f : Int → Option (Nat × Nat × Nat)} {T : Int → List C} (h : RI w base b m n room f T) (ok : Rp.Ok room T) (c k : Int) (hb : base ≤ w.heap.size) (hn : n < maxLen) (hm : Rp.may c k = true) (hP : (Rp.fnd (T c) k).isSome = false) (hfull : (T c).length = room) (hpz : Rp.plc (T c) k = 0) :
    Calls Try.prog 15 #[.pointer (some ⟨b, 0, none⟩), .int .i64 c, .int .i64 k] w (TkOut w base b m n room f T c k) := by
  have HFU := Hid_of hfull
  clear hfull
  have hmc : Rp.mayC c = true ∧ Rp.mayI k = true := by unfold Rp.may at hm; simpa using hm
  have hcb := Rp.mayC_yes hmc.1
  have hic := isC_any c
  have hii := isI_any k
  rw [hmc.1] at hic
  rw [hmc.2] at hii
  obtain ⟨⟨c0, c1⟩, _⟩ := h.cells
  have hlk := h.mi.look c (lit_i (by omega) (by omega))
  obtain ⟨a, cap, hv, hx, _⟩ := (h.own c).at
  rw [hv] at hlk
  have hl16 := (ok.l c).le
  have h16 := ok.r16
  have h1 := ok.r1
  have hu := (ok.l c).up
  have hpl := place_any a cap (T c) k w (by omega) hx.at' hu
  have HE : Hid (Rp.code room T c k = Rp.tkc room (T c) k ∧ Rp.told T c k = Rp.tkr (T c) k ∧ Rp.take room T c k = fup T c (Rp.tkl room (T c) k)) := by
    unfold Rp.code Rp.told Rp.take; rw [hm]; exact ⟨rfl, rfl, rfl⟩
  have HX := Hid_of h
  have HOK := Hid_of ok
  have HA := Hid_of hx.at'
  have HV := Hid_of hv
  have HU := Hid_of hu
  have HN := Hid_of hn
  have HCB := Hid_of hcb
  clear h ok hx hv hu hm hmc hn hcb
  go_enter Try.func15, Try.ntmps15
  go_wp2_with fail
  refine (hic _).mono ?_
  rintro e w0 ⟨rfl, rfl⟩
  go_wp2_with fail
  refine (hii _).mono ?_
  rintro e w0 ⟨rfl, rfl⟩
  go_wp2_with fail
  refine hpl.mono ?_
  rintro e w1 ⟨r, bb, rfl, hsr, hb1⟩
  obtain ⟨e1, e2⟩ := hsr.plc HU.out
  have hf := hsr.fnd HU.out
  have hX1 := HX.out.keep hb1
  have hA1 := HA.out.keep hb1
  have hrle := hsr.le
  have HF1 := Hid_of (Fr.ofBelow (F := fpr b m f) hb1)
  have hs1 := hb1.size
  clear hpl hsr c0 c1 hlk hic hii hb1 HA
  cases bb with
  | true => rw [hP] at e2; cases e2
  | false =>
    have hfn := hf.2 rfl
    obtain ⟨⟨d0, d1⟩, df⟩ := hX1.cells
    have hp : Rp.plc (T c) k = r := e1.symm
    have hfull := HFU.out
    clear HFU
    have hr0 : r = 0 := by omega
    have HK : Hid (TkOut w0 base b m n room f T c k (.returned (.tuple #[.int .i64 4, .string (ofL [])])) w1) := by
      have hcond : room ≤ (T c).length ∧ Rp.plc (T c) k = 0 := ⟨by omega, by omega⟩
      refine ⟨f, ?_, ?_, HF1.out⟩
      · rw [HE.out.1, HE.out.2.1]; unfold Rp.tkc Rp.tkr; rw [hfn]; simp only; rw [if_pos hcond]
      · rw [HE.out.2.2]; unfold Rp.tkl; rw [hfn]; simp only; rw [if_pos hcond, Rp.fup_self]; exact hX1.mono (by omega)
    subst hr0
    clear hX1 hA1 hf hfn e1 e2 HE hp d1 df HV
    rw [← hfull] at d0
    clear hfull
    generalize (T c).length = L at *
    go_wp2
    go_ret2
    exact HK.out
set_option maxRecDepth 100000 in
set_option maxHeartbeats 1000000 in
theorem take_full {w : World} {base b m n room : Nat} {f : Int → Option (Nat × Nat × Nat)} {T : Int → List C} (h : RI w base b m n room f T) (ok : Rp.Ok room T) (c k : Int) (hb : base ≤ w.heap.size) (hn : n < maxLen) (hm : Rp.may c k = true) (hP : (Rp.fnd (T c) k).isSome = false) (hfull : (T c).length = room) (hpz : ¬ Rp.plc (T c) k = 0) :
    Calls Try.prog 15 #[.pointer (some ⟨b, 0, none⟩), .int .i64 c, .int .i64 k] w (TkOut w base b m n room f T c k) := by
  have HFU := Hid_of hfull
  clear hfull
  have hmc : Rp.mayC c = true ∧ Rp.mayI k = true := by unfold Rp.may at hm; simpa using hm
  have hcb := Rp.mayC_yes hmc.1
  have hic := isC_any c
  have hii := isI_any k
  rw [hmc.1] at hic
  rw [hmc.2] at hii
  obtain ⟨⟨c0, c1⟩, _⟩ := h.cells
  have hlk := h.mi.look c (lit_i (by omega) (by omega))
  obtain ⟨a, cap, hv, hx, _⟩ := (h.own c).at
  rw [hv] at hlk
  have hl16 := (ok.l c).le
  have h16 := ok.r16
  have h1 := ok.r1
  have hu := (ok.l c).up
  have hpl := place_any a cap (T c) k w (by omega) hx.at' hu
  have HE : Hid (Rp.code room T c k = Rp.tkc room (T c) k ∧ Rp.told T c k = Rp.tkr (T c) k ∧ Rp.take room T c k = fup T c (Rp.tkl room (T c) k)) := by
    unfold Rp.code Rp.told Rp.take; rw [hm]; exact ⟨rfl, rfl, rfl⟩
  have HX := Hid_of h
  have HOK := Hid_of ok
  have HA := Hid_of hx.at'
  have HV := Hid_of hv
  have HU := Hid_of hu
  have HN := Hid_of hn
  have HCB := Hid_of hcb
  clear h ok hx hv hu hm hmc hn hcb
  go_enter Try.func15, Try.ntmps15
  go_wp2_with fail
  refine (hic _).mono ?_
  rintro e w0 ⟨rfl, rfl⟩
  go_wp2_with fail
  refine (hii _).mono ?_
  rintro e w0 ⟨rfl, rfl⟩
  go_wp2_with fail
  refine hpl.mono ?_
  rintro e w1 ⟨r, bb, rfl, hsr, hb1⟩
  obtain ⟨e1, e2⟩ := hsr.plc HU.out
  have hf := hsr.fnd HU.out
  have hX1 := HX.out.keep hb1
  have hA1 := HA.out.keep hb1
  have hrle := hsr.le
  have HF1 := Hid_of (Fr.ofBelow (F := fpr b m f) hb1)
  have hs1 := hb1.size
  clear hpl hsr c0 c1 hlk hic hii hb1 HA
  cases bb with
  | true => rw [hP] at e2; cases e2
  | false =>
    have hfn := hf.2 rfl
    obtain ⟨⟨d0, d1⟩, df⟩ := hX1.cells
    have hp : Rp.plc (T c) k = r := e1.symm
    have hfull := HFU.out
    clear HFU
    have hr0 : ¬ r = 0 := by omega
    have hTl : Rp.tkl room (T c) k = ((T c).drop 1).take (r - 1) ++ [⟨k, true, []⟩] ++ ((T c).drop 1).drop (r - 1) := by
      unfold Rp.tkl; rw [hfn]; simp only; rw [if_neg (by rw [hp]; exact fun h => hr0 h.2), if_pos (by omega), hp, Rp.ins_drop (by omega) (fun e => by rw [e] at hfull; simp at hfull; omega)]
    have hTc : Rp.tkc room (T c) k = 1 ∧ Rp.tkr (T c) k = [] := by
      refine ⟨?_, by unfold Rp.tkr; rw [hfn]⟩
      unfold Rp.tkc; rw [hfn]; simp only; rw [if_neg (by rw [hp]; exact fun h => hr0 h.2)]
    have hown1 := hX1.own c
    rcases hown1.row with ⟨_, e0⟩ | ⟨g, cap', cur, hvg, hbg, hrw⟩
    · rw [e0] at hfull; simp at hfull; omega
    have hva := HV.out
    rw [hvg] at hva
    simp only [Value.slice.injEq, true_and] at hva
    obtain ⟨rfl, rfl⟩ := hva
    have hd : Calls Try.prog 29 #[.slice (some ⟨g, 0, none⟩) (T c).length cap', .int .i64 0, .int .i64 1] w1 (InsOut w1 base (.slice (some ⟨g, 0, none⟩) (T c).length cap') ((T c).drop 1)) := by
      have := delete_row 0 hbg hrw (by omega) (by omega)
      simpa using this
    have HX1 := Hid_of hX1
    have HVG := Hid_of hvg
    have hdl : ((T c).drop 1).length ≤ 16 := by rw [List.length_drop]; omega
    have hdl2 : r - 1 ≤ ((T c).drop 1).length := by rw [List.length_drop]; omega
    have hsub : IntKind.i64.wrap ((r : Int) - 1) = ((r - 1 : Nat) : Int) := by rw [IntKind.wrap_i64]; omega
    have hr0' : ¬ ((r : Int) = 0) := by omega
    have d0' : w1.cell? ⟨b, 0, none⟩ = some (.int .i64 ((T c).length : Int)) := by rw [hfull]; exact d0
    have HTL := Hid_of hTl
    have HTC := Hid_of hTc
    clear hX1 hA1 hf hfn e1 e2 hp d0 d1 df hown1 hrw hvg HV HX hTl hTc hrle hfull hl16
    generalize hL : (T c).length = L at *
    generalize hQ : (T c).drop 1 = Q at *
    go_wp2_with fail
    refine hd.mono ?_
    rintro e w2 ⟨v2, rfl, ho2, hr2⟩
    obtain ⟨a2, cap2, hv2, _⟩ := ho2.at
    have HO2 := Hid_of ho2
    have HR2 : Hid (Rw w1 (svV (f c)) w2 v2) := by rw [HVG.out]; exact hr2
    have hs2 := hr2.g.size
    have HHB := Hid_of (hr2.g.block b HX1.out.lt (fun e => (HX1.out.nb c).1 (by rw [HVG.out]; exact e.symm)))
    subst hv2
    have SB : Hid (w2.cell? ⟨b, 1, none⟩ = some (.map (some m))) := (rw2 (HHB.out.trans HX1.out.row)).1.2
    have HINS : Hid (∀ wd, w2.drew = wd → Calls Try.prog 30 #[.slice a2 Q.length cap2, .int .i64 (r - 1 : Nat), .slice (some ⟨wd.heap.size, 0, none⟩) 1 1] (wd.alloc (.cells #[.int .i64 k, .bool true, .string ⟨#[]⟩] 66)) fun e w4 => ∃ p : Nat × Nat × Nat, e = .returned (svV (some p)) ∧ w4.cell? ⟨b, 1, none⟩ = some (.map (some m)) ∧ ∃ w5, (Instr.mapUpdate 55 (.map (some m)) (.int .i64 c) (svV (some p))).run Try.prog w4 = .ok () w5 ∧ w5.cell? ⟨b, 1, none⟩ = some (.map (some m)) ∧ Hid (TkOut w0 base b m n room f T c k (.returned (.tuple #[.int .i64 1, .string ⟨#[]⟩])) w5)) := by
      intro wd hwd
      have bd : Below w2.heap.size w2 wd := by rw [← hwd]; exact (Below.refl _ _).drew
      have bx := bel1 wd (.cells #[.int .i64 k, .bool true, .string ⟨#[]⟩] 66)
      have bb := bel_up bd bx (Nat.le_refl _)
      have hrow : Row (wd.alloc (.cells #[.int .i64 k, .bool true, .string ⟨#[]⟩] 66)) wd.heap.size 1 [.int .i64 k, .bool true, .string ⟨#[]⟩] [(⟨k, true, []⟩ : C)] := ⟨heap_alloc_last wd _, by simp, by decide, rfl, rfl⟩
      have hvn : (Value.slice a2 Q.length cap2).ownBlock ≠ some wd.heap.size := fun e => by have := (HO2.out.lt e).2; have := bd.size; omega
      have hins := insert_any (w := wd.alloc (.cells #[.int .i64 k, .bool true, .string ⟨#[]⟩] 66)) (base := base) (v := .slice a2 Q.length cap2) (u := .slice (some ⟨wd.heap.size, 0, none⟩) 1 1) (P := Q) (Q := [⟨k, true, []⟩]) (r - 1) (by have := bb.size; omega) (HO2.out.keep bb) (.inr ⟨_, 1, _, rfl, hrow, hvn, by simp⟩) (hdl2) (by omega) (by simp)
      refine hins.mono ?_
      rintro e w4 ⟨v4, rfl, ho4, hr4⟩
      have hne4 : (Q).take (r - 1) ++ [(⟨k, true, []⟩ : C)] ++ (Q).drop (r - 1) ≠ [] := by simp
      rcases ho4.row with ⟨_, e0⟩ | ⟨g4, cap4, cur4, rfl, hbg4, hrw4⟩
      · exact absurd e0 hne4
      have hr04 : Rw w1 (svV (f c)) w4 (svV (some (g4, ((Q).take (r - 1) ++ [(⟨k, true, []⟩ : C)] ++ (Q).drop (r - 1)).length, cap4))) := HR2.out.trans ((Rw.ofBelow _ bb).trans hr4)
      have hm4 : MI w4 m n f := HX1.out.mi.keep (hr04.g.block m HX1.out.mi.lt (fun e => (HX1.out.nb c).2 e.symm))
      have hb4 : w4.heap[b]? = w1.heap[b]? := hr04.g.block b HX1.out.lt (fun e => (HX1.out.nb c).1 e.symm)
      obtain ⟨w5, hput, hm5, ht5⟩ := hm4.put c (lit_i (by have := HCB.out.1; omega) (by have := HCB.out.2; omega)) (g4, ((Q).take (r - 1) ++ [(⟨k, true, []⟩ : C)] ++ (Q).drop (r - 1)).length, cap4) HN.out
      obtain ⟨hX5, hF5⟩ := HX1.out.stored hr04 ho4 hne4 hm5 ht5
      refine ⟨_, rfl, (rw2 (hb4.trans HX1.out.row)).1.2, w5, hput, (rw2 hX5.row).1.2, ⟨_, ?_, ?_, HF1.out.trans hF5⟩⟩
      · rw [HE.out.1, HE.out.2.1, HTC.out.1, HTC.out.2]; rfl
      · rw [HE.out.2.2, HTL.out]; exact hX5
    clear ho2 hr2 hd HX1 HVG HHB HTL HTC HE HO2 HR2 HN HCB HU HOK HF1 hL hQ d0' hr0' hr0
    have hr1b : r - 1 ≤ 16 := by omega
    clear hdl2
    generalize hr1 : r - 1 = r1 at *
    clear hr1
    go_upto_region 14 with fail
    obtain ⟨wd, hwd⟩ : ∃ wd, w2.drew = wd := ⟨_, rfl⟩
    have SD : wd.cell? ⟨b, 1, none⟩ = some (.map (some m)) := by rw [← hwd]; exact SB.out
    have HWD := Hid_of hwd
    refine wp_region_held_drew (S := fun wq => wq.cell? ⟨b, 1, none⟩ = some (.map (some m))) (by kernel_rfl) SB.out (fun hHeld => ?_)
    rw [hwd] at hHeld ⊢
    clear hwd
    refine wpAnyH_take (i := 0) (oi := ?p0x1a) (v := ?v0x1a) ?o0x1a (by kernel_rfl) (by kernel_rfl) (by kernel_rfl) ?q0x1a ?y0x1a hHeld ?r0x1a
    case o0x1a => (simp only [List.getElem?_toArray, List.getElem?_cons_zero]; try rfl)
    case q0x1a => exact fun _ _ _ h => h
    case y0x1a => (refine Or.inl ⟨rfl, ?_⟩; intro wq hq; obtain q0 := hq; go_simp; try with_reducible rfl)
    simp only [Act.put, List.setIfInBounds_toArray, List.set_cons_zero, List.set_cons_succ]
    refine wpAnyH_take (i := 1) (oi := ?p1x2a) (v := ?v1x2a) ?o1x2a (by kernel_rfl) (by kernel_rfl) (by kernel_rfl) ?q1x2a ?y1x2a hHeld ?r1x2a
    case o1x2a => (simp only [List.getElem?_toArray, List.getElem?_cons_succ, List.getElem?_cons_zero]; try rfl)
    case q1x2a => exact fun _ _ _ h => h
    case y1x2a => (refine Or.inl ⟨rfl, ?_⟩; intro wq hq; obtain q0 := hq; go_simp; try with_reducible rfl)
    simp only [Act.put, List.setIfInBounds_toArray, List.set_cons_zero, List.set_cons_succ]
    refine wpAnyH_take (i := 2) (oi := ?p2x3a) (v := ?v2x3a) ?o2x3a (by kernel_rfl) (by kernel_rfl) (by kernel_rfl) ?q2x3a ?y2x3a hHeld ?r2x3a
    case o2x3a => (simp only [List.getElem?_toArray, List.getElem?_cons_succ, List.getElem?_cons_zero]; try rfl)
    case q2x3a => exact fun _ _ _ h => h
    case y2x3a => (refine Or.inl ⟨rfl, ?_⟩; intro wq hq; obtain q0 := hq; go_simp; try with_reducible rfl)
    simp only [Act.put, List.setIfInBounds_toArray, List.set_cons_zero, List.set_cons_succ]
    refine wpAnyH_take (i := 3) (oi := ?p3x4a) (v := ?v3x4a) ?o3x4a (by kernel_rfl) (by kernel_rfl) (by kernel_rfl) ?q3x4a ?y3x4a hHeld ?r3x4a
    case o3x4a => (simp only [List.getElem?_toArray, List.getElem?_cons_succ, List.getElem?_cons_zero]; try rfl)
    case q3x4a => exact fun _ _ _ h => h
    case y3x4a => (refine Or.inl ⟨rfl, ?_⟩; intro wq hq; obtain q0 := hq; go_simp; try with_reducible rfl)
    simp only [Act.put, List.setIfInBounds_toArray, List.set_cons_zero, List.set_cons_succ]
    refine wpAnyH_take (i := 4) (oi := ?p4x5a) (v := ?v4x5a) ?o4x5a (by kernel_rfl) (by kernel_rfl) (by kernel_rfl) ?q4x5a ?y4x5a hHeld ?r4x5a
    case o4x5a => (simp only [List.getElem?_toArray, List.getElem?_cons_succ, List.getElem?_cons_zero]; try rfl)
    case q4x5a => exact fun _ _ _ h => h
    case y4x5a => (refine Or.inl ⟨rfl, ?_⟩; intro wq hq; obtain q0 := hq; go_simp; try with_reducible rfl)
    simp only [Act.put, List.setIfInBounds_toArray, List.set_cons_zero, List.set_cons_succ]
    refine wpAnyH_take (i := 5) (oi := ?p5x6a) (v := ?v5x6a) ?o5x6a (by kernel_rfl) (by kernel_rfl) (by kernel_rfl) ?q5x6a ?y5x6a hHeld ?r5x6a
    case o5x6a => (simp only [List.getElem?_toArray, List.getElem?_cons_succ, List.getElem?_cons_zero]; try rfl)
    case q5x6a => exact fun _ _ _ h => h
    case y5x6a => (refine Or.inl ⟨rfl, ?_⟩; intro wq hq; obtain q0 := hq; go_simp; try with_reducible rfl)
    simp only [Act.put, List.setIfInBounds_toArray, List.set_cons_zero, List.set_cons_succ]
    refine wpAnyH_take (i := 6) (oi := ?p6x7a) (v := ?v6x7a) ?o6x7a (by kernel_rfl) (by kernel_rfl) (by kernel_rfl) ?q6x7a ?y6x7a hHeld ?r6x7a
    case o6x7a => (simp only [List.getElem?_toArray, List.getElem?_cons_succ, List.getElem?_cons_zero]; try rfl)
    case q6x7a => exact fun _ _ _ h => h
    case y6x7a => (refine Or.inl ⟨rfl, ?_⟩; intro wq hq; obtain q0 := hq; go_simp; try with_reducible rfl)
    simp only [Act.put, List.setIfInBounds_toArray, List.set_cons_zero, List.set_cons_succ]
    refine wpAnyH_take (i := 7) (oi := ?p7x8a) (v := ?v7x8a) ?o7x8a (by kernel_rfl) (by kernel_rfl) (by kernel_rfl) ?q7x8a ?y7x8a hHeld ?r7x8a
    case o7x8a => (simp only [List.getElem?_toArray, List.getElem?_cons_succ, List.getElem?_cons_zero]; try rfl)
    case q7x8a => exact fun _ _ _ h => h
    case y7x8a => (refine Or.inl ⟨rfl, ?_⟩; intro wq hq; obtain q0 := hq; go_simp; try with_reducible rfl)
    simp only [Act.put, List.setIfInBounds_toArray, List.set_cons_zero, List.set_cons_succ]
    refine wpAnyH_take (i := 8) (oi := ?p8x9a) (v := ?v8x9a) ?o8x9a (by kernel_rfl) (by kernel_rfl) (by kernel_rfl) ?q8x9a ?y8x9a hHeld ?r8x9a
    case o8x9a => (simp only [List.getElem?_toArray, List.getElem?_cons_succ, List.getElem?_cons_zero]; try rfl)
    case q8x9a => exact fun _ _ _ h => h
    case y8x9a => (refine Or.inl ⟨rfl, ?_⟩; intro wq hq; obtain q0 := hq; go_simp; try with_reducible rfl)
    simp only [Act.put, List.setIfInBounds_toArray, List.set_cons_zero, List.set_cons_succ]
    refine wpAnyH_ready (rs := [9]) (by kernel_rfl) (by simp) ?_
    refine (AllReadyH.cons (o := ?p9x10a) ?o9x10a ?s9x10a AllReadyH.nil)
    case o9x10a => (simp only [List.getElem?_toArray, List.getElem?_cons_succ, List.getElem?_cons_zero]; try rfl)
    intro Kk hK
    go_simp
    refine hK.out _ _ (cell_up SD _) (fun hHeld => ?_)
    clear hK Kk
    refine wpAnyH_ready (rs := [10]) (by kernel_rfl) (by simp) ?_
    refine (AllReadyH.cons (o := ?p10x11a) ?o10x11a ?s10x11a AllReadyH.nil)
    case o10x11a => (simp only [List.getElem?_toArray, List.getElem?_cons_succ, List.getElem?_cons_zero]; try rfl)
    intro Kk hK
    go_simp
    refine (HINS.out wd HWD.out).mono ?_
    rintro e w4 ⟨p, rfl, hcm, w5, hput, hcm5, hTK⟩
    refine hK.out _ _ hcm (fun hHeld => ?_)
    clear hK Kk
    refine wpAnyH_ready (rs := [11]) (by kernel_rfl) (by simp) ?_
    refine (AllReadyH.cons (o := ?p11x12a) ?o11x12a ?s11x12a AllReadyH.nil)
    case o11x12a => (simp only [List.getElem?_toArray, List.getElem?_cons_succ, List.getElem?_cons_zero]; try rfl)
    intro Kk hK
    go_simp
    refine hK.out _ _ hcm5 (fun hHeld => ?_)
    clear hK Kk
    refine wpAnyH_done (by kernel_rfl) ?_ _
    clear hput hcm hcm5 SD SB HINS HWD
    go_wp2
    go_ret2
    exact hTK.out
set_option maxRecDepth 100000 in
set_option maxHeartbeats 1000000 in
theorem take_room {w : World} {base b m n room : Nat} {f : Int → Option (Nat × Nat × Nat)} {T : Int → List C} (h : RI w base b m n room f T) (ok : Rp.Ok room T) (c k : Int) (hb : base ≤ w.heap.size) (hn : n < maxLen) (hm : Rp.may c k = true) (hP : (Rp.fnd (T c) k).isSome = false) (hfull : ¬ (T c).length = room) :
    Calls Try.prog 15 #[.pointer (some ⟨b, 0, none⟩), .int .i64 c, .int .i64 k] w (TkOut w base b m n room f T c k) := by
  have HFU := Hid_of hfull
  clear hfull
  have hmc : Rp.mayC c = true ∧ Rp.mayI k = true := by unfold Rp.may at hm; simpa using hm
  have hcb := Rp.mayC_yes hmc.1
  have hic := isC_any c
  have hii := isI_any k
  rw [hmc.1] at hic
  rw [hmc.2] at hii
  obtain ⟨⟨c0, c1⟩, _⟩ := h.cells
  have hlk := h.mi.look c (lit_i (by omega) (by omega))
  obtain ⟨a, cap, hv, hx, _⟩ := (h.own c).at
  rw [hv] at hlk
  have hl16 := (ok.l c).le
  have h16 := ok.r16
  have h1 := ok.r1
  have hu := (ok.l c).up
  have hpl := place_any a cap (T c) k w (by omega) hx.at' hu
  have HE : Hid (Rp.code room T c k = Rp.tkc room (T c) k ∧ Rp.told T c k = Rp.tkr (T c) k ∧ Rp.take room T c k = fup T c (Rp.tkl room (T c) k)) := by
    unfold Rp.code Rp.told Rp.take; rw [hm]; exact ⟨rfl, rfl, rfl⟩
  have HX := Hid_of h
  have HOK := Hid_of ok
  have HA := Hid_of hx.at'
  have HV := Hid_of hv
  have HU := Hid_of hu
  have HN := Hid_of hn
  have HCB := Hid_of hcb
  clear h ok hx hv hu hm hmc hn hcb
  go_enter Try.func15, Try.ntmps15
  go_wp2_with fail
  refine (hic _).mono ?_
  rintro e w0 ⟨rfl, rfl⟩
  go_wp2_with fail
  refine (hii _).mono ?_
  rintro e w0 ⟨rfl, rfl⟩
  go_wp2_with fail
  refine hpl.mono ?_
  rintro e w1 ⟨r, bb, rfl, hsr, hb1⟩
  obtain ⟨e1, e2⟩ := hsr.plc HU.out
  have hf := hsr.fnd HU.out
  have hX1 := HX.out.keep hb1
  have hA1 := HA.out.keep hb1
  have hrle := hsr.le
  have HF1 := Hid_of (Fr.ofBelow (F := fpr b m f) hb1)
  have hs1 := hb1.size
  clear hpl hsr c0 c1 hlk hic hii hb1 HA
  cases bb with
  | true => rw [hP] at e2; cases e2
  | false =>
    have hfn := hf.2 rfl
    obtain ⟨⟨d0, d1⟩, df⟩ := hX1.cells
    have hp : Rp.plc (T c) k = r := e1.symm
    have hfull := HFU.out
    clear HFU
    have hTl : Rp.tkl room (T c) k = (T c).take r ++ [⟨k, true, []⟩] ++ (T c).drop r := by
      unfold Rp.tkl; rw [hfn]; simp only; rw [if_neg (by omega), if_neg (by omega), hp]; rfl
    have hTc : Rp.tkc room (T c) k = 1 ∧ Rp.tkr (T c) k = [] := by
      refine ⟨?_, by unfold Rp.tkr; rw [hfn]⟩
      unfold Rp.tkc; rw [hfn]; simp only; rw [if_neg (by omega)]
    have hne : ¬ (((T c).length : Int) = (room : Int)) := by omega
    have HO2 := Hid_of (hX1.own c)
    have HR2 : Hid (Rw w1 (svV (f c)) w1 (.slice a (T c).length cap)) := by rw [HV.out]; exact Rw.refl _ _
    have HX1 := Hid_of hX1
    have HTL := Hid_of hTl
    have HTC := Hid_of hTc
    have hql : (T c).length ≤ 16 := by omega
    clear hX1 hA1 hf hfn e1 e2 hp df HX hTl hTc hfull
    have hvq := HV.out
    rw [hvq] at HO2
    have SB : Hid (w1.cell? ⟨b, 1, none⟩ = some (.map (some m))) := d1
    have HINS : Hid (∀ wd, w1.drew = wd → Calls Try.prog 30 #[.slice a (T c).length cap, .int .i64 (r : Nat), .slice (some ⟨wd.heap.size, 0, none⟩) 1 1] (wd.alloc (.cells #[.int .i64 k, .bool true, .string ⟨#[]⟩] 66)) fun e w4 => ∃ p : Nat × Nat × Nat, e = .returned (svV (some p)) ∧ w4.cell? ⟨b, 1, none⟩ = some (.map (some m)) ∧ ∃ w5, (Instr.mapUpdate 55 (.map (some m)) (.int .i64 c) (svV (some p))).run Try.prog w4 = .ok () w5 ∧ w5.cell? ⟨b, 1, none⟩ = some (.map (some m)) ∧ Hid (TkOut w0 base b m n room f T c k (.returned (.tuple #[.int .i64 1, .string ⟨#[]⟩])) w5)) := by
      intro wd hwd
      have bd : Below w1.heap.size w1 wd := by rw [← hwd]; exact (Below.refl _ _).drew
      have bx := bel1 wd (.cells #[.int .i64 k, .bool true, .string ⟨#[]⟩] 66)
      have bb := bel_up bd bx (Nat.le_refl _)
      have hrow : Row (wd.alloc (.cells #[.int .i64 k, .bool true, .string ⟨#[]⟩] 66)) wd.heap.size 1 [.int .i64 k, .bool true, .string ⟨#[]⟩] [(⟨k, true, []⟩ : C)] := ⟨heap_alloc_last wd _, by simp, by decide, rfl, rfl⟩
      have hvn : (Value.slice a (T c).length cap).ownBlock ≠ some wd.heap.size := fun e => by have := (HO2.out.lt e).2; have := bd.size; omega
      have hins := insert_any (w := wd.alloc (.cells #[.int .i64 k, .bool true, .string ⟨#[]⟩] 66)) (base := base) (v := .slice a (T c).length cap) (u := .slice (some ⟨wd.heap.size, 0, none⟩) 1 1) (P := T c) (Q := [⟨k, true, []⟩]) (r) (by have := bb.size; omega) (HO2.out.keep bb) (.inr ⟨_, 1, _, rfl, hrow, hvn, by simp⟩) (hrle) (by omega) (by simp)
      refine hins.mono ?_
      rintro e w4 ⟨v4, rfl, ho4, hr4⟩
      have hne4 : (T c).take (r) ++ [(⟨k, true, []⟩ : C)] ++ (T c).drop (r) ≠ [] := by simp
      rcases ho4.row with ⟨_, e0⟩ | ⟨g4, cap4, cur4, rfl, hbg4, hrw4⟩
      · exact absurd e0 hne4
      have hr04 : Rw w1 (svV (f c)) w4 (svV (some (g4, ((T c).take (r) ++ [(⟨k, true, []⟩ : C)] ++ (T c).drop (r)).length, cap4))) := HR2.out.trans ((Rw.ofBelow _ bb).trans hr4)
      have hm4 : MI w4 m n f := HX1.out.mi.keep (hr04.g.block m HX1.out.mi.lt (fun e => (HX1.out.nb c).2 e.symm))
      have hb4 : w4.heap[b]? = w1.heap[b]? := hr04.g.block b HX1.out.lt (fun e => (HX1.out.nb c).1 e.symm)
      obtain ⟨w5, hput, hm5, ht5⟩ := hm4.put c (lit_i (by have := HCB.out.1; omega) (by have := HCB.out.2; omega)) (g4, ((T c).take (r) ++ [(⟨k, true, []⟩ : C)] ++ (T c).drop (r)).length, cap4) HN.out
      obtain ⟨hX5, hF5⟩ := HX1.out.stored hr04 ho4 hne4 hm5 ht5
      refine ⟨_, rfl, (rw2 (hb4.trans HX1.out.row)).1.2, w5, hput, (rw2 hX5.row).1.2, ⟨_, ?_, ?_, HF1.out.trans hF5⟩⟩
      · rw [HE.out.1, HE.out.2.1, HTC.out.1, HTC.out.2]; rfl
      · rw [HE.out.2.2, HTL.out]; exact hX5
    clear HX1 HTL HTC HE HO2 HR2 HN HCB HU HOK HF1 HV hvq
    generalize (T c).length = L at *
    clear d1
    go_upto_region 14 with fail
    obtain ⟨wd, hwd⟩ : ∃ wd, w1.drew = wd := ⟨_, rfl⟩
    have SD : wd.cell? ⟨b, 1, none⟩ = some (.map (some m)) := by rw [← hwd]; exact SB.out
    have HWD := Hid_of hwd
    refine wp_region_held_drew (S := fun wq => wq.cell? ⟨b, 1, none⟩ = some (.map (some m))) (by kernel_rfl) SB.out (fun hHeld => ?_)
    rw [hwd] at hHeld ⊢
    clear hwd
    refine wpAnyH_take (i := 0) (oi := ?p0x1b) (v := ?v0x1b) ?o0x1b (by kernel_rfl) (by kernel_rfl) (by kernel_rfl) ?q0x1b ?y0x1b hHeld ?r0x1b
    case o0x1b => (simp only [List.getElem?_toArray, List.getElem?_cons_zero]; try rfl)
    case q0x1b => exact fun _ _ _ h => h
    case y0x1b => (refine Or.inl ⟨rfl, ?_⟩; intro wq hq; obtain q0 := hq; go_simp; try with_reducible rfl)
    simp only [Act.put, List.setIfInBounds_toArray, List.set_cons_zero, List.set_cons_succ]
    refine wpAnyH_take (i := 1) (oi := ?p1x2b) (v := ?v1x2b) ?o1x2b (by kernel_rfl) (by kernel_rfl) (by kernel_rfl) ?q1x2b ?y1x2b hHeld ?r1x2b
    case o1x2b => (simp only [List.getElem?_toArray, List.getElem?_cons_succ, List.getElem?_cons_zero]; try rfl)
    case q1x2b => exact fun _ _ _ h => h
    case y1x2b => (refine Or.inl ⟨rfl, ?_⟩; intro wq hq; obtain q0 := hq; go_simp; try with_reducible rfl)
    simp only [Act.put, List.setIfInBounds_toArray, List.set_cons_zero, List.set_cons_succ]
    refine wpAnyH_take (i := 2) (oi := ?p2x3b) (v := ?v2x3b) ?o2x3b (by kernel_rfl) (by kernel_rfl) (by kernel_rfl) ?q2x3b ?y2x3b hHeld ?r2x3b
    case o2x3b => (simp only [List.getElem?_toArray, List.getElem?_cons_succ, List.getElem?_cons_zero]; try rfl)
    case q2x3b => exact fun _ _ _ h => h
    case y2x3b => (refine Or.inl ⟨rfl, ?_⟩; intro wq hq; obtain q0 := hq; go_simp; try with_reducible rfl)
    simp only [Act.put, List.setIfInBounds_toArray, List.set_cons_zero, List.set_cons_succ]
    refine wpAnyH_take (i := 3) (oi := ?p3x4b) (v := ?v3x4b) ?o3x4b (by kernel_rfl) (by kernel_rfl) (by kernel_rfl) ?q3x4b ?y3x4b hHeld ?r3x4b
    case o3x4b => (simp only [List.getElem?_toArray, List.getElem?_cons_succ, List.getElem?_cons_zero]; try rfl)
    case q3x4b => exact fun _ _ _ h => h
    case y3x4b => (refine Or.inl ⟨rfl, ?_⟩; intro wq hq; obtain q0 := hq; go_simp; try with_reducible rfl)
    simp only [Act.put, List.setIfInBounds_toArray, List.set_cons_zero, List.set_cons_succ]
    refine wpAnyH_take (i := 4) (oi := ?p4x5b) (v := ?v4x5b) ?o4x5b (by kernel_rfl) (by kernel_rfl) (by kernel_rfl) ?q4x5b ?y4x5b hHeld ?r4x5b
    case o4x5b => (simp only [List.getElem?_toArray, List.getElem?_cons_succ, List.getElem?_cons_zero]; try rfl)
    case q4x5b => exact fun _ _ _ h => h
    case y4x5b => (refine Or.inl ⟨rfl, ?_⟩; intro wq hq; obtain q0 := hq; go_simp; try with_reducible rfl)
    simp only [Act.put, List.setIfInBounds_toArray, List.set_cons_zero, List.set_cons_succ]
    refine wpAnyH_take (i := 5) (oi := ?p5x6b) (v := ?v5x6b) ?o5x6b (by kernel_rfl) (by kernel_rfl) (by kernel_rfl) ?q5x6b ?y5x6b hHeld ?r5x6b
    case o5x6b => (simp only [List.getElem?_toArray, List.getElem?_cons_succ, List.getElem?_cons_zero]; try rfl)
    case q5x6b => exact fun _ _ _ h => h
    case y5x6b => (refine Or.inl ⟨rfl, ?_⟩; intro wq hq; obtain q0 := hq; go_simp; try with_reducible rfl)
    simp only [Act.put, List.setIfInBounds_toArray, List.set_cons_zero, List.set_cons_succ]
    refine wpAnyH_take (i := 6) (oi := ?p6x7b) (v := ?v6x7b) ?o6x7b (by kernel_rfl) (by kernel_rfl) (by kernel_rfl) ?q6x7b ?y6x7b hHeld ?r6x7b
    case o6x7b => (simp only [List.getElem?_toArray, List.getElem?_cons_succ, List.getElem?_cons_zero]; try rfl)
    case q6x7b => exact fun _ _ _ h => h
    case y6x7b => (refine Or.inl ⟨rfl, ?_⟩; intro wq hq; obtain q0 := hq; go_simp; try with_reducible rfl)
    simp only [Act.put, List.setIfInBounds_toArray, List.set_cons_zero, List.set_cons_succ]
    refine wpAnyH_take (i := 7) (oi := ?p7x8b) (v := ?v7x8b) ?o7x8b (by kernel_rfl) (by kernel_rfl) (by kernel_rfl) ?q7x8b ?y7x8b hHeld ?r7x8b
    case o7x8b => (simp only [List.getElem?_toArray, List.getElem?_cons_succ, List.getElem?_cons_zero]; try rfl)
    case q7x8b => exact fun _ _ _ h => h
    case y7x8b => (refine Or.inl ⟨rfl, ?_⟩; intro wq hq; obtain q0 := hq; go_simp; try with_reducible rfl)
    simp only [Act.put, List.setIfInBounds_toArray, List.set_cons_zero, List.set_cons_succ]
    refine wpAnyH_take (i := 8) (oi := ?p8x9b) (v := ?v8x9b) ?o8x9b (by kernel_rfl) (by kernel_rfl) (by kernel_rfl) ?q8x9b ?y8x9b hHeld ?r8x9b
    case o8x9b => (simp only [List.getElem?_toArray, List.getElem?_cons_succ, List.getElem?_cons_zero]; try rfl)
    case q8x9b => exact fun _ _ _ h => h
    case y8x9b => (refine Or.inl ⟨rfl, ?_⟩; intro wq hq; obtain q0 := hq; go_simp; try with_reducible rfl)
    simp only [Act.put, List.setIfInBounds_toArray, List.set_cons_zero, List.set_cons_succ]
    refine wpAnyH_ready (rs := [9]) (by kernel_rfl) (by simp) ?_
    refine (AllReadyH.cons (o := ?p9x10b) ?o9x10b ?s9x10b AllReadyH.nil)
    case o9x10b => (simp only [List.getElem?_toArray, List.getElem?_cons_succ, List.getElem?_cons_zero]; try rfl)
    intro Kk hK
    go_simp
    refine hK.out _ _ (cell_up SD _) (fun hHeld => ?_)
    clear hK Kk
    refine wpAnyH_ready (rs := [10]) (by kernel_rfl) (by simp) ?_
    refine (AllReadyH.cons (o := ?p10x11b) ?o10x11b ?s10x11b AllReadyH.nil)
    case o10x11b => (simp only [List.getElem?_toArray, List.getElem?_cons_succ, List.getElem?_cons_zero]; try rfl)
    intro Kk hK
    go_simp
    refine (HINS.out wd HWD.out).mono ?_
    rintro e w4 ⟨p, rfl, hcm, w5, hput, hcm5, hTK⟩
    refine hK.out _ _ hcm (fun hHeld => ?_)
    clear hK Kk
    refine wpAnyH_ready (rs := [11]) (by kernel_rfl) (by simp) ?_
    refine (AllReadyH.cons (o := ?p11x12b) ?o11x12b ?s11x12b AllReadyH.nil)
    case o11x12b => (simp only [List.getElem?_toArray, List.getElem?_cons_succ, List.getElem?_cons_zero]; try rfl)
    intro Kk hK
    go_simp
    refine hK.out _ _ hcm5 (fun hHeld => ?_)
    clear hK Kk
    refine wpAnyH_done (by kernel_rfl) ?_ _
    clear hput hcm hcm5 SD SB HINS HWD
    go_wp2
    go_ret2
    exact hTK.out
theorem tk_any {w : World} {base b m n room : Nat} {f : Int → Option (Nat × Nat × Nat)} {T : Int → List C} (h : RI w base b m n room f T) (ok : Rp.Ok room T) (c k : Int) (hb : base ≤ w.heap.size) (hn : n < maxLen) :
    Calls Try.prog 15 #[.pointer (some ⟨b, 0, none⟩), .int .i64 c, .int .i64 k] w (TkOut w base b m n room f T c k) := by
  cases hm : Rp.may c k with
  | false => exact take_no h c k hm
  | true =>
    cases hP : (Rp.fnd (T c) k).isSome with
    | true => exact take_hit h ok c k hb hn hm hP
    | false =>
      by_cases hfull : (T c).length = room
      · by_cases hpz : Rp.plc (T c) k = 0
        · exact take_old h ok c k hb hn hm hP hfull hpz
        · exact take_full h ok c k hb hn hm hP hfull hpz
      · exact take_room h ok c k hb hn hm hP hfull

theorem ids_nil (c : Int) (w : World) : Calls Try.prog 17 #[.pointer none, .int .i64 c] w fun e w' => e = .returned (.slice none 0 0) ∧ w' = w := by
  go_enter Try.func17, Try.ntmps17
  go_wp2
  go_ret
  exact ⟨rfl, rfl⟩
/-- New numbers. -/
def IdOut (w : World) (l : List Int) (e : Ending) (w' : World) : Prop := ∃ v : Value, e = .returned v ∧ OwnL il 3 w' w.heap.size v l ∧ Below w.heap.size w w'
set_option maxRecDepth 100000 in
set_option maxHeartbeats 1000000 in
theorem ids_any {w : World} {base b m n room : Nat} {f : Int → Option (Nat × Nat × Nat)} {T : Int → List C} (h : RI w base b m n room f T) (ok : Rp.Ok room T) (c : Int) (hc : -9223372036854775808 ≤ c ∧ c ≤ 9223372036854775807) :
    Calls Try.prog 17 #[.pointer (some ⟨b, 0, none⟩), .int .i64 c] w (IdOut w ((T c).map C.id)) := by
  obtain ⟨⟨c0, c1⟩, _⟩ := h.cells
  have hlk := h.mi.look c (lit_i hc.1 hc.2)
  obtain ⟨a, cap, hv, hx, _⟩ := (h.own c).at
  rw [hv] at hlk
  have hl16 := (ok.l c).le
  have h16 := ok.r16
  have HA := Hid_of hx.at'
  clear h ok hx hv
  go_enter Try.func17, Try.ntmps17
  go_wp2
  go_loopw [17, 5] (fun i v wr => ∃ k : Nat, k ≤ (T c).length ∧ i = .int .i64 k ∧ OwnL il 3 wr w.heap.size v (((T c).map C.id).take k) ∧ Below w.heap.size w wr) (fun i v _ => (T c).length - (intOf i).toNat)
  case atStart => exact ⟨0, Nat.zero_le _, rfl, OwnL.nil _ _ _, Below.refl _ _⟩
  case round =>
    obtain ⟨k, hk, rfl, ho, hbl⟩ := hrel
    obtain ⟨a1, cap1, hv1, hx1, _⟩ := ho.at
    have hlen : (((T c).map C.id).take k).length = k := by simp; omega
    rw [hlen] at hv1
    subst hv1
    by_cases hlt : k < (T c).length
    · obtain ⟨g0, off, rfl, q0, q1, q2⟩ := (HA.out.keep hbl).getC k hlt
      have HT : Hid (((T c).map C.id).take (k + 1) = ((T c).map C.id).take k ++ [(T c)[k].id]) := Hid_of (by rw [List.take_succ_eq_append_getElem (by simpa using hlt)]; simp)
      obtain ⟨W1, HW1⟩ : ∃ W1, Hid (wr.alloc (.cells #[.int .i64 (T c)[k].id, .bool (T c)[k].busy, .string (ofL (T c)[k].reply)] 66) = W1) := ⟨_, Hid_of rfl⟩
      have HB1 : Hid (Below wr.heap.size wr W1) := by rw [← HW1.out]; exact bel1 wr _
      have hbox : W1.heap[wr.heap.size]? = some (.cells #[.int .i64 (T c)[k].id, .bool (T c)[k].busy, .string (ofL (T c)[k].reply)] 66 (0, 0)) := by rw [← HW1.out]; exact heap_alloc_last wr _
      obtain ⟨⟨z0, _, _⟩, _⟩ := row3 hbox
      obtain ⟨a', c', w4, hrun, ho4, hr4⟩ := run_appL_ty tiI (W1.alloc (.cells #[.int .i64 (T c)[k].id] 3)) w.heap.size (.slice a1 k cap1) (((T c).map C.id).take k) [(T c)[k].id] W1.heap.size 0 1 1 ((ho.keep HB1.out).keep (bel1 W1 _)) (atL_one (t := 3) (heap_alloc_last W1 _)) rfl (by have := hbl.size; have := HB1.out.size; simp; omega) (by rw [hlen]; simp; omega)
      rw [hlen] at hrun ho4 hr4
      have hr6 : Rw wr (.slice a1 k cap1) w4 (.slice a' (k + [(T c)[k].id].length) c') := (Rw.ofBelow _ (bel_up HB1.out (bel1 W1 _) (Nat.le_refl _))).trans hr4
      have HB4 : Hid (Below w.heap.size w w4) := hbl.trans (hr6.below (fun j hj => (ho.lt hj).1) hbl.size)
      have HO4 := Hid_of ho4
      clear ho ho4 hr4 hr6 hx1 hbl hbox
      generalize (T c)[k].id = x0 at *
      generalize (T c)[k].busy = x1 at *
      generalize (T c)[k].reply = x2 at *
      simp only [List.length_cons, List.length_nil, Nat.zero_add] at hrun HO4
      generalize hL : (T c).length = L at *
      go_upto_region 7 with fail
      rw [HW1.out]
      go_wp2_with (at_builtin; refine wpList_append_known rfl _ _ 42 rfl _ _ rfl rfl _ _ (hrun _) ?_)
      go_roundw
      case rel => exact ⟨k + 1, by omega, by go_num, by rw [HT.out]; exact HO4.out, HB4.out⟩
      case measure => simp [intOf]; omega
    · obtain rfl : k = (T c).length := by omega
      have HQ : Hid (IdOut w ((T c).map C.id) (.returned (.slice a1 (T c).length cap1)) wr) := ⟨_, rfl, by rw [List.take_of_length_le (by simp)] at ho; exact ho, hbl⟩
      clear ho hbl hx1
      generalize (T c).length = L at *
      go_wp2
      go_ret
      exact HQ.out
end Go.Proofs.Ytjbcchipbdkplaa
