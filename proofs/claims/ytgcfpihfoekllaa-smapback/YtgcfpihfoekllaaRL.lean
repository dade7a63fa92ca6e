/- What is known, as bytes. -/
import Derived.Test.YtgcfpihfoekllaaRN
import Derived.Test.YtgcfpihfoekllaaBL
import Derived.Test.YtgcfpihfoekllaaP

namespace Go.Proofs.Ytgcfpihfoekllaa

open Go.RowKit

set_option linter.unusedVariables false

open Sm (S)

section
variable {w w' : World} {base b : Nat} {v : Value} {es : List E} {n : Int} {F : Nat → Prop} {m : List S}
theorem at_of {w : World} {a : Option Addr} {l : List Int} (h : AtL il w a l) : At w a (Value.int .i64) l := fun j hj => h.getI j hj
theorem of_at {w : World} {a : Option Addr} {l : List Int} (h : At w a (Value.int .i64) l) : AtL il w a l := by
  intro j hj
  obtain ⟨b, off, e, h0⟩ := h j hj
  refine ⟨b, off, e, fun o ho => ?_⟩
  have ho' : o = 0 := by simp [il] at ho; omega
  subst ho'
  simpa [il] using h0
theorem wq_next {w0 w w' : World} {b m : Nat} {a : Option Addr} {cap : Nat} {st st' : Nat × List UInt8} (hB : Below w0.heap.size w0 w) (hb : w0.heap.size ≤ b) (hw : WS w b a cap m st) (h : WQ w b a m st' w') : ∃ a' cap', WS w' b a' cap' m st' ∧ Below w0.heap.size w0 w' := by
  obtain ⟨a', cap', h1, h2⟩ := h
  exact ⟨a', cap', h1, hB.trans (h2.below hb (fun k hk => by have := (hw.inb k hk).1; omega) hB.size)⟩
theorem laid_any (f : Nat) (hrun : ∀ args W, (callFunc f args).run Try.prog W = .ok (.enter f args) W) (cp : Value) (out : List UInt8) (w : World)
    (hc : ∀ W bw aw cw, Below w.heap.size w W → w.heap.size ≤ bw → WS W bw aw cw 65536 (0, []) → Calls Try.prog f #[.pointer (some ⟨bw, 0, none⟩), cp] W fun e w' => e = .returned (.tuple #[]) ∧ ∃ a' cap', WS w' bw a' cap' 65536 (0, out) ∧ Below w.heap.size w w') :
    Calls Try.prog 44 #[.func (.func f) #[] #[cp]] w fun e w' => e = .returned (.string (ofL out)) ∧ Below w.heap.size w w' := by
  have hnw := newWriter_any 65536 w
  have hcl : clip 65536 = 65536 := by decide
  rw [hcl] at hnw
  have HC := Hid_of hc
  clear hc hcl
  go_enter Try.func44, Try.ntmps44
  go_wp2_with fail
  refine hnw.mono ?_
  rintro e w1 ⟨bw, rfl, hbw, hw1, hb1⟩
  have hc := HC.out _ _ _ _ hb1 hbw hw1
  clear hnw hbw hw1 hb1 HC
  go_wp2_with fail
  refine hc.mono ?_
  rintro e w2 ⟨rfl, a2, cp2, hw2, hb2⟩
  have HB2 := Hid_of hb2
  have hd := wdone_any _ _ _ _ _ _ hw2
  clear hc hb2 hw2
  go_wp2_with fail
  refine hd.mono ?_
  rintro e w3 ⟨rfl, hb3⟩
  have HB3 := Hid_of (bel_up HB2.out hb3 (Nat.le_refl _))
  clear hd hb3 HB2
  go_wp2
  go_ret
  exact ⟨rfl, HB3.out⟩
theorem runs45 : ∀ (args : Array Value) (W : World), (callFunc 45 args).run Try.prog W = .ok (.enter 45 args) W := enters Try.func45 (by decide) rfl
theorem runs72 : ∀ (args : Array Value) (W : World), (callFunc 72 args).run Try.prog W = .ok (.enter 72 args) W := enters Try.func72 (by decide) rfl
theorem cntW_any (h : MI w base b v es n) (hn : es.length ≤ 4096) {q : Nat} (hq : w.heap[q]? = some (.cells #[.pointer (some ⟨b, 0, none⟩)] 25 (0, 0))) :
    ∀ W bw aw cw, Below w.heap.size w W → w.heap.size ≤ bw → WS W bw aw cw 65536 (0, []) → Calls Try.prog 45 #[.pointer (some ⟨bw, 0, none⟩), .pointer (some ⟨q, 0, none⟩)] W fun e w' => e = .returned (.tuple #[]) ∧ ∃ a' cap', WS w' bw a' cap' 65536 (0, M.enc es.length) ∧ Below w.heap.size w w' := by
  intro W bw aw cw hb hbw hw
  have h0 := (row1 (bel_row hq hb)).1
  obtain ⟨a, cap, rfl, _⟩ := h.len
  obtain ⟨c0, c1, _, _⟩ := (h.keep hb).cells
  have he := M.enc_ten (es.length : Int) (by omega)
  have hi := wint_any bw aw cw 65536 (0, []) es.length W hw (by omega)
  rw [Sm.lay_ok (by simp; omega), List.nil_append] at hi
  have HB := Hid_of hb
  have HW := Hid_of hw
  have HBW := Hid_of hbw
  clear hw hb hbw h he
  go_enter Try.func45, Try.ntmps45
  go_wp2_with fail
  refine hi.mono ?_
  rintro e w2 ⟨rfl, hq⟩
  have HQ := Hid_of (wq_next HB.out HBW.out HW.out hq)
  clear hi hq HB HBW HW
  go_wp2
  go_end0
  exact ⟨rfl, HQ.out⟩
set_option maxHeartbeats 1000000 in
theorem part_any {x : E} (ho : Sm.ok x.s) (ha : AtL il w x.a x.s.l) (hal : ∀ k, blk x.a k → k < w.heap.size) {q : Nat} (hq : w.heap[q]? = some (eO x)) :
    ∀ W bw aw cw, Below w.heap.size w W → w.heap.size ≤ bw → WS W bw aw cw 65536 (0, []) → Calls Try.prog 72 #[.pointer (some ⟨bw, 0, none⟩), .pointer (some ⟨q, 0, none⟩)] W fun e w' => e = .returned (.tuple #[]) ∧ ∃ a' cap', WS w' bw a' cap' 65536 (0, Sm.part x.s) ∧ Below w.heap.size w w' := by
  intro W bw aw cw hb hbw hw
  obtain ⟨n1, n2, n3, n4, n5⟩ := ho.bnd
  obtain ⟨t1, t2, t3, t4, t5, u1, u2, u3, u4⟩ := Sm.part_len ho
  have HS : Hid (∀ wq, Below w.heap.size w wq → wq.cell? ⟨q, 1, none⟩ = some (.int .i64 x.s.st) ∧ wq.cell? ⟨q, 2, none⟩ = some (.int .i64 x.s.ow) ∧ wq.cell? ⟨q, 3, none⟩ = some (.int .i64 x.s.ep) ∧ wq.cell? ⟨q, 4, none⟩ = some (.int .i64 x.s.ln) ∧ wq.cell? ⟨q, 5, none⟩ = some (.slice x.a x.s.l.length x.c)) := Hid_of fun wq hwq => by
    have := (row6 (bel_row hq hwq)).1
    exact this.2
  have HE1 : Hid (∀ (wq : World) (bw : Nat) (aw : Option Addr) (cw : Nat), WS wq bw aw cw 65536 (0, []) → Calls Try.prog 73 #[.pointer (some ⟨bw, 0, none⟩), .int .i64 x.s.st] wq fun x_1 w' => x_1 = .returned (.tuple #[]) ∧ WQ wq bw aw 65536 (0, Sm.p1 x.s) w') := Hid_of fun wq bw aw cw hw => by
    have := wbyte_any bw aw cw 65536 (0, []) x.s.st wq hw
    rwa [Sm.byte_ok ho] at this
  have HE2 : Hid (∀ (wq : World) (bw : Nat) (aw : Option Addr) (cw : Nat), WS wq bw aw cw 65536 (0, Sm.p1 x.s) → Calls Try.prog 46 #[.pointer (some ⟨bw, 0, none⟩), .int .i64 x.s.ow] wq fun x_1 w' => x_1 = .returned (.tuple #[]) ∧ WQ wq bw aw 65536 (0, Sm.p2 x.s) w') := Hid_of fun wq bw aw cw hw => by
    have := wint_any bw aw cw 65536 (0, Sm.p1 x.s) x.s.ow wq hw n1
    rwa [Sm.lay_ok (by omega)] at this
  have HE3 : Hid (∀ (wq : World) (bw : Nat) (aw : Option Addr) (cw : Nat), WS wq bw aw cw 65536 (0, Sm.p2 x.s) → Calls Try.prog 46 #[.pointer (some ⟨bw, 0, none⟩), .int .i64 x.s.ep] wq fun x_1 w' => x_1 = .returned (.tuple #[]) ∧ WQ wq bw aw 65536 (0, Sm.p3 x.s) w') := Hid_of fun wq bw aw cw hw => by
    have := wint_any bw aw cw 65536 (0, Sm.p2 x.s) x.s.ep wq hw n2
    rwa [Sm.lay_ok (by omega)] at this
  have HE4 : Hid (∀ (wq : World) (bw : Nat) (aw : Option Addr) (cw : Nat), WS wq bw aw cw 65536 (0, Sm.p3 x.s) → Calls Try.prog 46 #[.pointer (some ⟨bw, 0, none⟩), .int .i64 x.s.ln] wq fun x_1 w' => x_1 = .returned (.tuple #[]) ∧ WQ wq bw aw 65536 (0, Sm.p4 x.s) w') := Hid_of fun wq bw aw cw hw => by
    have := wint_any bw aw cw 65536 (0, Sm.p3 x.s) x.s.ln wq hw n3
    rwa [Sm.lay_ok (by omega)] at this
  have HE5 : Hid (∀ (wq : World) (bw : Nat) (aw : Option Addr) (cw : Nat), Below w.heap.size w wq → w.heap.size ≤ bw → WS wq bw aw cw 65536 (0, Sm.p4 x.s) → Calls Try.prog 74 #[.pointer (some ⟨bw, 0, none⟩), .slice x.a x.s.l.length x.c] wq fun x_1 w' => x_1 = .returned (.tuple #[]) ∧ WQ wq bw aw 65536 (0, Sm.part x.s) w') := Hid_of fun wq bw aw cw hq hbw hw => by
    have := wints_any bw aw cw 65536 (0, Sm.p4 x.s) x.a x.c x.s.l wq hw (at_of (ha.keep hq)) (fun _ k hk => ⟨by have := hal k hk; omega, fun e => by have := hal k hk; have := (hw.inb k e).1; omega⟩) (by omega) n5
    rwa [Sm.lay_ok (by omega)] at this
  have HB := Hid_of hb
  have HBW := Hid_of hbw
  have HW := Hid_of hw
  have hc := HE1.out _ _ _ _ hw
  obtain ⟨z0, _⟩ := HS.out _ hb
  clear hb hw hbw HE1 ho ha hal hq n1 n2 n3 n4 n5 t1 t2 t3 t4 t5 u1 u2 u3 u4
  go_enter Try.func72, Try.ntmps72
  go_wp2_with fail
  refine hc.mono ?_
  rintro e w2 ⟨rfl, hq⟩
  obtain ⟨a1, cp1, hw1, hb1⟩ := wq_next HB.out HBW.out HW.out hq
  have HB1 := Hid_of hb1
  have HW1 := Hid_of hw1
  have hc2 := HE2.out _ _ _ _ hw1
  obtain ⟨_, z1, _⟩ := HS.out _ hb1
  clear hc hq hb1 hw1 HB HW HE2 z0
  go_wp2_with fail
  refine hc2.mono ?_
  rintro e w3 ⟨rfl, hq⟩
  obtain ⟨a2, cp2, hw2, hb2⟩ := wq_next HB1.out HBW.out HW1.out hq
  have HB2 := Hid_of hb2
  have HW2 := Hid_of hw2
  have hc3 := HE3.out _ _ _ _ hw2
  obtain ⟨_, _, z2, _⟩ := HS.out _ hb2
  clear hc2 hq hb2 hw2 HB1 HW1 HE3 z1
  go_wp2_with fail
  refine hc3.mono ?_
  rintro e w4 ⟨rfl, hq⟩
  obtain ⟨a3, cp3, hw3, hb3⟩ := wq_next HB2.out HBW.out HW2.out hq
  have HB3 := Hid_of hb3
  have HW3 := Hid_of hw3
  have hc4 := HE4.out _ _ _ _ hw3
  obtain ⟨_, _, _, z3, _⟩ := HS.out _ hb3
  clear hc3 hq hb3 hw3 HB2 HW2 HE4 z2
  go_wp2_with fail
  refine hc4.mono ?_
  rintro e w5 ⟨rfl, hq⟩
  obtain ⟨a4, cp4, hw4, hb4⟩ := wq_next HB3.out HBW.out HW3.out hq
  have HB4 := Hid_of hb4
  have HW4 := Hid_of hw4
  have hc5 := HE5.out _ _ _ _ hb4 HBW.out hw4
  obtain ⟨_, _, _, _, z4⟩ := HS.out _ hb4
  clear hc4 hq hb4 hw4 HB3 HW3 HE5 z3
  go_wp2_with fail
  refine hc5.mono ?_
  rintro e w6 ⟨rfl, hq⟩
  obtain ⟨a5, cp5, hw5, hb5⟩ := wq_next HB4.out HBW.out HW4.out hq
  have HQ := Hid_of (And.intro hw5 hb5)
  clear hc5 hq hw5 hb5 HB4 HW4 HS z4
  go_wp2
  go_end0
  exact ⟨rfl, a5, cp5, HQ.out⟩
theorem stripeText_any (x : E) (ho : Sm.ok x.s) (w : World) (ha : AtL il w x.a x.s.l) (hal : ∀ k, blk x.a k → k < w.heap.size) : Calls Try.prog 47 #[eV x] w fun e w' => e = .returned (.string (ofL (Sm.part x.s))) ∧ Below w.heap.size w w' := by
  have hb := bel1 w (eO x)
  have hl := laid_any 72 runs72 (.pointer (some ⟨w.heap.size, 0, none⟩)) (Sm.part x.s) (w.alloc (eO x)) (part_any ho (ha.keep hb) (fun k hk => by have := hal k hk; simp; omega) (heap_alloc_last w (eO x)))
  have HB := Hid_of hb
  clear hb ha hal ho
  go_enter Try.func47, Try.ntmps47
  go_wp2_with fail
  refine hl.mono ?_
  rintro e w1 ⟨rfl, hb⟩
  have HB1 := Hid_of (bel_up HB.out hb (Nat.le_refl _))
  clear hl hb HB
  go_wp2
  go_ret
  exact ⟨rfl, HB1.out⟩
end
namespace Sm
/-- What has been told so far. -/
def pre (m : List S) (k : Nat) : List UInt8 := M.enc m.length ++ (m.take k).flatMap part
theorem pre_zero (m : List S) : pre m 0 = M.enc m.length := by simp [pre]
theorem pre_step {m : List S} {k : Nat} (h : k < m.length) : pre m (k + 1) = pre m k ++ part m[k] := by
  unfold pre
  rw [List.take_succ_eq_append_getElem h, List.flatMap_append, List.append_assoc]
  simp
theorem pre_all (m : List S) : pre m m.length = txt m := by unfold pre txt; rw [List.take_length]
theorem pre_len {m : List S} (h : ∀ s ∈ m, ok s) (hn : m.length ≤ 4096) (k : Nat) : (pre m k).length ≤ 1000000 := by
  have h1 := M.enc_ten (m.length : Int) (by omega)
  have h2 := flat_le part 121 (m.take k) (fun x hx => (part_len (h x (List.mem_of_mem_take hx))).2.2.2.2.1)
  have h3 : (m.take k).length ≤ 4096 := by rw [List.length_take]; omega
  unfold pre
  rw [List.length_append]
  have h4 := Nat.mul_le_mul_right 121 h3
  omega
end Sm
open Sm (S)
section
variable {w w' : World} {base b : Nat} {v : Value} {es : List E} {n : Int} {F : Nat → Prop} {m : List S}
set_option maxRecDepth 100000 in
set_option maxHeartbeats 1000000 in
theorem text_any (h : MM w base b F m) : Calls Try.prog 20 #[.pointer (some ⟨b, 0, none⟩)] w fun e w' => e = .returned (.string (ofL (Sm.txt m))) ∧ Below w.heap.size w w' := by
  obtain ⟨v, es, rfl, hM, rfl, hG⟩ := h
  have hn := hG.ln
  rw [List.length_map] at hn
  have HOK : Hid (∀ s ∈ es.map (·.s), Sm.ok s) := Hid_of hG.st
  have hml : (es.map (·.s)).length = es.length := by simp
  obtain ⟨av, cv, rfl, hx⟩ := hM.len
  obtain ⟨W1, HW1⟩ : ∃ W1, Hid (w.alloc (.cells #[.pointer (some ⟨b, 0, none⟩)] 25) = W1) := ⟨_, rfl⟩
  have hb1 : Below w.heap.size w W1 := by rw [← HW1.out]; exact bel1 w _
  have hq1 : W1.heap[w.heap.size]? = some (.cells #[.pointer (some ⟨b, 0, none⟩)] 25 (0, 0)) := by rw [← HW1.out]; exact heap_alloc_last w _
  obtain ⟨P, HP⟩ : ∃ P, Hid (w.heap.size = P) := ⟨_, rfl⟩
  rw [HP.out] at hq1
  obtain ⟨W2, HW2⟩ : ∃ W2, Hid (W1.alloc (.cells #[.pointer none, .slice none 0 0] 79) = W2) := ⟨_, rfl⟩
  have HBD : Hid (Lib.IsBuilder 79 5 W1.heap.size W1.heap.size [] W2) := .inl ⟨Nat.le_refl _, .slice none 0 0, by rw [← HW2.out]; exact heap_alloc_last W1 _, World.ownsRow_nil _ _ _ _, by simp [Value.ownBlock]⟩
  have hb12 : Below W1.heap.size W1 W2 := by rw [← HW2.out]; exact bel1 W1 _
  have hb2 := bel_up hb1 hb12 (Nat.le_refl _)
  have hl0 := laid_any 45 runs45 (.pointer (some ⟨P, 0, none⟩)) (M.enc es.length) W2 (cntW_any (hM.keep hb2) hn (bel_row hq1 hb12))
  have HQ1 := Hid_of hq1
  have HM := Hid_of hM
  have HB1 := Hid_of hb1
  have HB12 := Hid_of hb12
  have HSZ : Hid (W1.heap.size = P + 1) := Hid_of (by rw [← HW1.out, ← HP.out]; simp)
  rw [HSZ.out] at HBD
  have q1 := (row1 hq1).1
  have HPR : Hid (∀ W, Below W1.heap.size W1 W → W.cell? ⟨P, 0, none⟩ = some (.pointer (some ⟨b, 0, none⟩)) ∧ W.cell? ⟨b, 0, none⟩ = some (.slice av es.length cv)) := Hid_of fun W hW => ⟨(row1 (bel_row HQ1.out hW)).1, (HM.out.keep (bel_up HB1.out hW (Nat.le_refl _))).cells.1⟩
  clear hM hG hb1 hb12 hb2 hq1 hx
  go_enter Try.func20, Try.ntmps20
  go_wp2_with fail
  rw [HP.out, HW1.out, HW2.out]
  refine hl0.mono ?_
  rintro e w3 ⟨rfl, hb3⟩
  have HB3 : Hid (Below W1.heap.size W1 w3) := Hid_of (bel_up HB12.out hb3 (Nat.le_refl _))
  have he0 := M.enc_ten (es.length : Int) (by omega)
  have hbw := bwrite_any (P + 1) (P + 1) [] (ofL (M.enc es.length)) w3 (by
    rcases HBD.out with h' | h'
    · exact .inl (bld_keep h' hb3)
    · exact .inr (bld_keep h' hb3)) (by rw [ofL_size]; simp; omega) (by have := HB3.out.size; have := HSZ.out; omega)
  rw [Lib.strCells_eq, List.nil_append, show (ofL (M.enc es.length)).data.toList = Sm.pre (es.map (·.s)) 0 by rw [ofL_data, Sm.pre_zero, hml]] at hbw
  clear hl0 hb3 HW1 HW2 HBD he0 q1 HB12
  go_wp2_with fail
  refine hbw.mono ?_
  rintro e w4 ⟨rfl, hB4, hb4⟩
  have HST : Hid (Lib.BuilderAt 79 5 (P + 1) (P + 1) (.pointer (some ⟨P + 1, 0, none⟩)) (Lib.byteCells (Sm.pre (es.map (·.s)) 0)) w4 ∧ Below W1.heap.size W1 w4) := Hid_of (And.intro hB4 (HB3.out.trans (by rw [HSZ.out]; exact hb4)))
  obtain ⟨q2, q3⟩ := HPR.out w4 HST.out.2
  clear hbw hB4 hb4 HB3
  go_wp2
  go_loopw [16] (fun i wr => ∃ j : Nat, j ≤ es.length ∧ i = .int .i64 j ∧ Hid (Lib.BuilderAt 79 5 (P + 1) (P + 1) (.pointer (some ⟨P + 1, 0, none⟩)) (Lib.byteCells (Sm.pre (es.map (·.s)) j)) wr ∧ Below W1.heap.size W1 wr)) (fun i _ => es.length - (intOf i).toNat)
  case atStart => exact ⟨0, by omega, rfl, HST⟩
  case round =>
    obtain ⟨j, hj, rfl, HD⟩ := hrel
    clear HST q2 q3
    by_cases hlt : j < es.length
    · have hbwr := bel_up HB1.out HD.out.2 (Nat.le_refl _)
      have hMr := HM.out.keep hbwr
      obtain ⟨a2, c2, hv2, hx⟩ := hMr.len
      simp only [Value.slice.injEq] at hv2
      obtain ⟨rfl, _, rfl⟩ := hv2
      have hsv := hMr.sv _ (List.getElem_mem hlt)
      obtain ⟨bv, ov, rfl, c0, c1, c2, c3, c4, c5⟩ := hx.at'.getE j hlt
      have hki : (j : Int) < (es.length : Int) := by omega
      have hjm : j < (es.map (·.s)).length := by simpa using hlt
      have hok : Sm.ok es[j].s := HOK.out _ (List.mem_map_of_mem (List.getElem_mem hlt))
      have HPS : Hid (Sm.pre (es.map (·.s)) (j + 1) = Sm.pre (es.map (·.s)) j ++ Sm.part es[j].s) := Hid_of (by rw [Sm.pre_step hjm]; simp)
      have hb5 := bel1 wr (eO es[j])
      obtain ⟨⟨d0, d1, d2, d3, d4, d5⟩, _⟩ := row_cells (heap_alloc_last wr (eO es[j]))
      have hst := stripeText_any es[j] hok (wr.alloc (eO es[j])) (hsv.at.keep hb5) (fun k hk => by have := (hsv.lt hk).2; have := hb5.size; omega)
      have HB5 := Hid_of hb5
      have hpl := Sm.pre_len HOK.out (by rw [hml]; exact hn) j
      have hpt := (Sm.part_len hok).2.2.2.2.1
      clear hbwr hMr hx hsv hjm hok hb5
      generalize es[j] = x at *
      go_wp2_with fail
      refine hst.mono ?_
      rintro e w6 ⟨rfl, hb6⟩
      have HB6 := Hid_of (bel_up HB5.out hb6 (Nat.le_refl _))
      have hbw := bwrite_any (P + 1) (P + 1) _ (ofL (Sm.part x.s)) w6 (.inr (bld_keep HD.out.1 HB6.out)) (by rw [ofL_size, Lib.byteCells_length]; omega) (by have := HD.out.2.size; have := HSZ.out; have := HB6.out.size; omega)
      rw [Lib.strCells_eq, ← Lib.byteCells_append, ofL_data, ← HPS.out] at hbw
      have HB7 : Hid (Below W1.heap.size W1 w6) := Hid_of (bel_up HD.out.2 HB6.out (Nat.le_refl _))
      clear hst hb6 HD HB6 HB5 c0 c1 c2 c3 c4 c5 d0 d1 d2 d3 d4 d5 hpl hpt HPS
      go_wp2_with fail
      refine hbw.mono ?_
      rintro e w7 ⟨rfl, hB7, hb7⟩
      have HN : Hid (Lib.BuilderAt 79 5 (P + 1) (P + 1) (.pointer (some ⟨P + 1, 0, none⟩)) (Lib.byteCells (Sm.pre (es.map (·.s)) (j + 1))) w7 ∧ Below W1.heap.size W1 w7) := Hid_of (And.intro hB7 (HB7.out.trans (by rw [HSZ.out]; exact hb7)))
      clear hbw hB7 hb7 HB7
      go_wp2
      go_roundw
      case rel => exact ⟨j + 1, by omega, by go_num, HN⟩
      case measure => simp [intOf]; omega
    · have hjn : j = es.length := by omega
      subst hjn
      have hstr := Try.Builder_String_any (P + 1) (P + 1) (Sm.pre (es.map (·.s)) es.length) wr (.inr HD.out.1) (by have := HD.out.2.size; have := HSZ.out; omega)
      have HT : Hid (Sm.pre (es.map (·.s)) es.length = Sm.txt (es.map (·.s))) := Hid_of (by rw [← hml]; exact Sm.pre_all _)
      rw [HT.out] at hstr
      have HB8 := Hid_of HD.out.2
      clear HD HPR HM HQ1 HT HOK
      go_wp2_with fail
      refine hstr.mono ?_
      rintro e w8 ⟨rfl, hb8⟩
      have HB9 := Hid_of (HB1.out.trans ((HB8.out.trans (by rw [HSZ.out]; exact hb8)).mono (by have := HB1.out.size; omega)))
      clear hstr hb8 HB8
      go_wp2
      go_ret
      exact ⟨rfl, HB9.out⟩
theorem textN (w : World) : Calls Try.prog 20 #[.pointer none] w fun e w' => e = .returned (.string (ofL [])) ∧ Below w.heap.size w w' := by
  have HB := Hid_of (bel1 w (.cells #[.pointer none] 25))
  go_enter Try.func20, Try.ntmps20
  go_wp2
  go_ret
  exact ⟨rfl, HB.out⟩
end

end Go.Proofs.Ytgcfpihfoekllaa
