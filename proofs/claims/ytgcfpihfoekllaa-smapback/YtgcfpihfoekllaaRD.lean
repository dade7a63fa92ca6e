/-
  Which stripes there are: of a state, on a server, an owner's begun ones.
-/
import Derived.Test.YtgcfpihfoekllaaRC
namespace Go.Proofs.Ytgcfpihfoekllaa
open Go.RowKit
set_option linter.unusedVariables false
open Sm (S)

theorem enters {f : FuncId} {fn : Func} {c : Code} (hf : Try.prog.funcs[f]? = some fn) (hn : fn.name.length ≠ 20) (hb : fn.body = some c) : ∀ (args : Array Value) (W : World), (callFunc f args).run Try.prog W = .ok (.enter f args) W := by
  intro args W
  simp only [callFunc, Sem.run_bind]
  simp [hf, hb]
  intro h
  have := congrArg String.length h
  exact absurd (this.trans (by decide)) hn
theorem runs39 : ∀ (args : Array Value) (W : World), (callFunc 39 args).run Try.prog W = .ok (.enter 39 args) W := enters Try.func39 (by decide) rfl
theorem runs40 : ∀ (args : Array Value) (W : World), (callFunc 40 args).run Try.prog W = .ok (.enter 40 args) W := enters Try.func40 (by decide) rfl
theorem runs59 : ∀ (args : Array Value) (W : World), (callFunc 59 args).run Try.prog W = .ok (.enter 59 args) W := enters Try.func59 (by decide) rfl
theorem contains_any (a : Option Addr) (cap : Nat) (l : List Int) (n : Int) (w : World) (hl : l.length ≤ 1000000) (h : AtL il w a l) :
    Calls Try.prog 41 #[.slice a l.length cap, .int .i64 n] w fun e w' => e = .returned (.bool (decide (n ∈ l))) ∧ w' = w := by
  have hi := index_any a cap l n w hl h
  have HD : Hid (decide ((0 : Int) ≤ Mb.pl l n) = decide (n ∈ l)) := Hid_of (by simp [Mb.pl_ge])
  clear h
  go_enter Try.func41, Try.ntmps41
  go_wp2_with fail
  refine hi.mono ?_
  rintro e w1 ⟨rfl, hw⟩
  subst w1
  clear hi
  go_wp2
  go_ret
  exact ⟨by rw [← HD.out]; rfl, rfl⟩
section
variable {w w' : World} {base b : Nat} {v : Value} {es : List E} {n : Int} {e : E}
/-- A stripe that is handed over lies in a box. -/
theorem e_box (W : World) (x : E) : EAt (W.alloc (eO x)) W.heap.size 0 x := by
  obtain ⟨⟨c0, c1, c2, c3, c4, c5⟩, _⟩ := row6 (heap_alloc_last W (eO x))
  exact ⟨c0, c1, c2, c3, c4, c5⟩
theorem isSt_any (x : E) (z : Int) (q : Nat) (W : World) (hq : W.cell? ⟨q, 0, none⟩ = some (.int .i64 z)) : Calls Try.prog 39 #[eV x, .pointer (some ⟨q, 0, none⟩)] W fun e w' => e = .returned (.bool (Sm.isSt z x.s)) ∧ Below W.heap.size W w' := by
  obtain ⟨c0, c1, c2, c3, c4, c5⟩ := e_box W x
  have hq2 := cell_up hq (eO x)
  have HB := Hid_of (bel1 W (eO x))
  go_enter Try.func39, Try.ntmps39
  go_wp2
  go_ret
  exact ⟨rfl, HB.out⟩
theorem isOw_any (x : E) (z : Int) (q : Nat) (W : World) (hq : W.cell? ⟨q, 0, none⟩ = some (.int .i64 z)) : Calls Try.prog 59 #[eV x, .pointer (some ⟨q, 0, none⟩)] W fun e w' => e = .returned (.bool (Sm.isOw z x.s)) ∧ Below W.heap.size W w' := by
  obtain ⟨c0, c1, c2, c3, c4, c5⟩ := e_box W x
  have hq2 := cell_up hq (eO x)
  have HB := Hid_of (bel1 W (eO x))
  have HV : Hid (Sm.isOw z x.s = ((x.s.st == 1) && (x.s.ow == z))) := rfl
  cases hs : x.s.st == 1 with
  | true =>
    rw [HV.out, hs]
    go_enter Try.func59, Try.ntmps59
    go_wp2
    go_ret
    exact ⟨by simp, HB.out⟩
  | false =>
    rw [HV.out, hs]
    go_enter Try.func59, Try.ntmps59
    go_wp2
    go_ret
    exact ⟨rfl, HB.out⟩
theorem isOn_any (x : E) (z : Int) (q : Nat) (W : World) (hq : W.cell? ⟨q, 0, none⟩ = some (.int .i64 z)) (hl : x.s.l.length ≤ 1000000) (ha : AtL il W x.a x.s.l) : Calls Try.prog 40 #[eV x, .pointer (some ⟨q, 0, none⟩)] W fun e w' => e = .returned (.bool (Sm.isOn z x.s)) ∧ Below W.heap.size W w' := by
  obtain ⟨c0, c1, c2, c3, c4, c5⟩ := e_box W x
  have hq2 := cell_up hq (eO x)
  have hcn := contains_any x.a x.c x.s.l z (W.alloc (eO x)) hl (ha.keep (bel1 W (eO x)))
  have HB := Hid_of (bel1 W (eO x))
  have HV : Hid (Sm.isOn z x.s = ((x.s.st != 3) && decide (z ∈ x.s.l))) := rfl
  clear ha
  cases hs : x.s.st != 3 with
  | true =>
    have hs2 : (x.s.st == 3) = false := by simpa using hs
    rw [HV.out, hs]
    go_enter Try.func40, Try.ntmps40
    go_wp2_with fail
    refine hcn.mono ?_
    rintro e w1 ⟨rfl, hw⟩
    subst w1
    clear hcn
    go_wp2
    go_ret
    exact ⟨by simp, HB.out⟩
  | false =>
    have hs2 : (x.s.st == 3) = true := by simpa using hs
    rw [HV.out, hs]
    clear hcn
    go_enter Try.func40, Try.ntmps40
    go_wp2
    go_ret
    exact ⟨rfl, HB.out⟩
theorem IdsOut.pre {W : World} {l : List Int} {x : Ending} (hb : Below w.heap.size w W) (h : IdsOut W l x w') : IdsOut w l x w' := by
  obtain ⟨u, he, ho, hb2⟩ := h
  exact ⟨u, he, ho.low hb.size, bel_up hb hb2 (Nat.le_refl _)⟩
theorem list_any (h : MI w base b v es n) (hn : es.length ≤ 100000) (z : Int) : Calls Try.prog 16 #[.pointer (some ⟨b, 0, none⟩), .int .i64 z] w (IdsOut w (Sm.ofSt (es.map (·.s)) z)) := by
  have hb := bel1 w (.cells #[.int .i64 z] 3)
  have hq := (row1 (heap_alloc_last w (.cells #[.int .i64 z] 3))).1
  have hw := which_any (h.keep hb) 39 runs39 (.pointer (some ⟨w.heap.size, 0, none⟩)) (Sm.isSt z) hn (fun W x hW hx => isSt_any x z _ W (by rw [← hq]; exact World.cell?_of_block (hW.block _ (by simp))))
  have HB := Hid_of hb
  have HE : Hid (Sm.ofSt (es.map (·.s)) z = Sm.ids (Sm.isSt z) (es.map (·.s)) es.length) := Hid_of (by unfold Sm.ofSt; rw [List.length_map])
  rw [HE.out]
  clear h hb hq HE
  go_enter Try.func16, Try.ntmps16
  go_wp2_with fail
  refine hw.mono ?_
  intro e w1 ho
  have HO := Hid_of (IdsOut.pre HB.out ho)
  obtain ⟨u, rfl, _⟩ := ho
  clear hw HB
  go_wp2
  go_ret
  exact HO.out
theorem on_any (h : MI w base b v es n) (hn : es.length ≤ 100000) (hl : ∀ x ∈ es, x.s.l.length ≤ 1000000) (z : Int) : Calls Try.prog 18 #[.pointer (some ⟨b, 0, none⟩), .int .i64 z] w (IdsOut w (Sm.onSv (es.map (·.s)) z)) := by
  have hb := bel1 w (.cells #[.int .i64 z] 3)
  have hq := (row1 (heap_alloc_last w (.cells #[.int .i64 z] 3))).1
  have hw := which_any (h.keep hb) 40 runs40 (.pointer (some ⟨w.heap.size, 0, none⟩)) (Sm.isOn z) hn (fun W x hW hx => isOn_any x z _ W (by rw [← hq]; exact World.cell?_of_block (hW.block _ (by simp))) (hl x hx) ((h.sv x hx).at.keep (bel_up hb hW (Nat.le_refl _))))
  have HB := Hid_of hb
  have HE : Hid (Sm.onSv (es.map (·.s)) z = Sm.ids (Sm.isOn z) (es.map (·.s)) es.length) := Hid_of (by unfold Sm.onSv; rw [List.length_map])
  rw [HE.out]
  clear h hb hq HE hl
  go_enter Try.func18, Try.ntmps18
  go_wp2_with fail
  refine hw.mono ?_
  intro e w1 ho
  have HO := Hid_of (IdsOut.pre HB.out ho)
  obtain ⟨u, rfl, _⟩ := ho
  clear hw HB
  go_wp2
  go_ret
  exact HO.out
theorem whichN (f : Value) (w : World) : Calls Try.prog 38 #[.pointer none, f] w fun e w' => e = .returned (.slice none 0 0) ∧ w' = w := by
  go_enter Try.func38, Try.ntmps38
  go_wp2
  go_ret
  exact ⟨rfl, rfl⟩
theorem listN (z : Int) (w : World) : Calls Try.prog 16 #[.pointer none, .int .i64 z] w fun e w' => e = .returned (.slice none 0 0) ∧ Below w.heap.size w w' := by
  have HB := Hid_of (bel1 w (.cells #[.int .i64 z] 3))
  go_enter Try.func16, Try.ntmps16
  go_wp2_with fail
  refine (whichN _ _).mono ?_
  rintro e w1 ⟨rfl, hw⟩
  subst w1
  go_wp2
  go_ret
  exact ⟨rfl, HB.out⟩
theorem onN (z : Int) (w : World) : Calls Try.prog 18 #[.pointer none, .int .i64 z] w fun e w' => e = .returned (.slice none 0 0) ∧ Below w.heap.size w w' := by
  have HB := Hid_of (bel1 w (.cells #[.int .i64 z] 3))
  go_enter Try.func18, Try.ntmps18
  go_wp2_with fail
  refine (whichN _ _).mono ?_
  rintro e w1 ⟨rfl, hw⟩
  subst w1
  go_wp2
  go_ret
  exact ⟨rfl, HB.out⟩
end
end Go.Proofs.Ytgcfpihfoekllaa
