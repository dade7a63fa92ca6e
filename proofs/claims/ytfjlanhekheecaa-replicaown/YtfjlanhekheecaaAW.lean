/-
  The chapter's example, walked.
-/
import Derived.Test.YtfjlanhekheecaaAWM
namespace Go.Proofs.Ytfjlanhekheecaa
open Go.RowKit Go.Maps
set_option linter.unusedVariables false
open M (E V)
open Rm (NT R)
/-- A row of texts beside a node. -/
structure LB (w : World) (G : Nat → Prop) (ad : Option Addr) (c : Nat) (l : List ByteArray) : Prop where
  xl : XL Nl.tl w ad c l
  blk : ∀ k, blk ad k → k < w.heap.size ∧ ¬ G k
theorem LB.fr {w w' : World} {G G' : Nat → Prop} {ad : Option Addr} {c : Nat} {l : List ByteArray} (h : LB w G ad c l) (hf : Fr w G w' G') : LB w' G' ad c l :=
  ⟨h.xl.keepBut fun k hk hk2 => hf.block k hk (h.blk k hk2).2, fun k hk => ⟨Nat.lt_of_lt_of_le (h.blk k hk).1 hf.size, not_n hf (h.blk k hk).2 (h.blk k hk).1⟩⟩
theorem LB.kp {w w' : World} {G G' : Nat → Prop} {u v : Value} {ad : Option Addr} {c : Nat} {l : List ByteArray} (h : LB w G ad c l) (hf : Kp w G u w' G' v) (hu : ∀ k, Go.Proofs.Ytfjlanhekheecaa.blk ad k → u.ownBlock ≠ some k) : LB w' G' ad c l :=
  ⟨h.xl.keepBut fun k hk hk2 => hf.block k hk (h.blk k hk2).2 (hu k hk2), fun k hk => ⟨Nat.lt_of_lt_of_le (h.blk k hk).1 hf.size, fun e => by
    rcases hf.n k e with h' | h'
    · exact (h.blk k hk).2 h'
    · have := (h.blk k hk).1; omega⟩⟩
theorem tl_at {w : World} {k : Nat} {l : List ByteArray} (h : w.heap[k]? = some (.cells (Nl.tl.cells l).toArray 9 (0, 0))) : AtL Nl.tl w (some ⟨k, 0, none⟩) l := by
  intro j hj
  refine ⟨k, 0, rfl, fun q hq => ?_⟩
  rw [cell_of_row w _ _ _ _ _ h, List.getElem?_toArray, Nat.zero_add]
  exact Nl.tl.get _ j hj q hq
theorem Kp.below {w w' : World} {F G : Nat → Prop} {u v : Value} (h : Kp w F u w' G v) : w.heap.size ≤ w'.heap.size := h.size
set_option maxRecDepth 100000 in
set_option maxHeartbeats 2000000 in
theorem awake_any (w : World) : Calls Try.prog 7 #[] w fun e w' => e = .returned (.bool true) ∧ Below w.heap.size w w' := by
  have c1 := new_any w w (Below.refl _ _) 1 0
  go_enter Try.func7, Try.ntmps7
  go_wp2_with fail
  refine c1.mono ?_
  clear c1
  rintro e w1 (⟨hf, -, -⟩ | ⟨-, b, G1, rfl, hr1, -, -⟩)
  · exact absurd (ex0.1.symm.trans hf) (by decide)
  have c2 := new_any w w1 hr1.bel 3 3
  have HR := Hid_of hr1
  clear hr1
  go_wp2_with fail
  refine c2.mono ?_
  clear c2
  rintro e w2 (⟨-, rfl, hb2⟩ | ⟨hf, -⟩)
  case inr => exact absurd (ex0.2.symm.trans hf) (by decide)
  have hr2 := HR.out.keep hb2
  obtain ⟨ba, bp, bl, Fa, Fp, Fl, rfl, hp⟩ := hr2
  have c3 := hp.propose exX
  rw [ex1] at c3
  clear HR hb2 hp
  go_wp2_with fail
  refine c3.mono ?_
  clear c3
  rintro e w3 ⟨u3, rfl, -, hr3, -⟩
  have c4 := RP.lead (r := a1) hr3
  have HS3 := Hid_of hr3.bel.size
  clear hr3
  go_wp2_with fail
  refine c4.mono ?_
  clear c4
  rintro e w4 ⟨u4, G4, rfl, hno, hr4, hf4⟩
  obtain ⟨ys, hob, hm⟩ := hno.ob
  have c5 := settle_any hr4 hob hm hf4.size HS3.out ex2
  clear hno hr4 hf4 hob hm HS3
  go_wp2_with fail
  refine c5.mono ?_
  clear c5
  rintro e w5 ⟨G5, v5, rfl, hr5, -⟩
  obtain ⟨ba, bp, bl, Fa, Fp, Fl, rfl, hp⟩ := hr5
  have c6 := RP.propose (r := a3) hp exX
  rw [ex3] at c6
  have HS5 := Hid_of hp.bel.size
  clear hp
  go_wp2_with fail
  refine c6.mono ?_
  clear c6
  rintro e w6 ⟨u6, rfl, hno, hr6, hf6⟩
  obtain ⟨ys, hob, hm⟩ := hno.ob
  have c7 := settle_any (r := a4) hr6.rs hob hm hf6.size HS5.out ex4
  clear hno hr6 hf6 hob hm HS5
  go_wp2_with fail
  refine c7.mono ?_
  clear c7
  rintro e w7 ⟨G7, v7, rfl, hr7, -⟩
  obtain ⟨ba, bp, bl, Fa, Fp, Fl, rfl, hp⟩ := hr7
  have c8 := RP.log (r := a5) hp
  have HP7 := Hid_of hp
  clear hp
  go_wp2_with fail
  refine c8.mono ?_
  clear c8
  rintro e w8 ⟨ad, c, he, hx8, hk8, hb8⟩
  have hp8 := HP7.out.keep hb8
  have hlb : LB w8 (uni b Fa Fp Fl) ad c (Rm.logL a5) := ⟨hx8, fun k hk => ⟨(hk8 k hk).2, fun e => by have := (hk8 k hk).1; have := (HP7.out.mine k e).2; omega⟩⟩
  rw [ex5] at he hlb
  subst he
  have c9 := RP.leads (r := a5) hp8
  rw [ex6] at c9
  have HP8 := Hid_of hp8
  have HLB := Hid_of hlb
  clear hx8 hk8 hb8 HP7 hp8 hlb
  go_wp2_with fail
  refine c9.mono ?_
  clear c9
  rintro e w9 ⟨rfl, hw9⟩
  subst hw9
  have c10 := RP.crash (r := a5) HP8.out
  clear HP8
  go_wp2_with fail
  refine c10.mono ?_
  clear c10
  rintro e w10 ⟨G10, rfl, hr10, hf10⟩
  have hlb := HLB.out.fr hf10
  obtain ⟨ba, bp, bl, Fa, Fp, Fl, rfl, hp⟩ := hr10
  have c11 := RP.log (r := a6) hp
  rw [ex7] at c11
  have HP10 := Hid_of hp
  have HLB := Hid_of hlb
  clear hf10 hp hlb
  go_wp2_with fail
  refine c11.mono ?_
  clear c11
  rintro e w11 ⟨ad11, c11', rfl, -, -, hb11⟩
  have hp := HP10.out.keep hb11
  have hlb := HLB.out.fr (Fr.ofBelow hb11)
  have c12 := RP.lead (r := a6) hp
  have HS11 := Hid_of hp.bel.size
  have HLB := Hid_of hlb
  clear hb11 hp hlb HP10
  go_wp2_with fail
  refine c12.mono ?_
  clear c12
  rintro e w12 ⟨u12, G12, rfl, hno, hr12, hf12⟩
  obtain ⟨ys, hob, hm⟩ := hno.ob
  have c13 := settle_any (r := a7) hr12 hob hm hf12.size HS11.out ex8
  have hlb := HLB.out.fr hf12
  have HU : Hid (∀ k, Go.Proofs.Ytfjlanhekheecaa.blk ad k → u12.ownBlock ≠ some k) := fun k hk e => by
    have := (hob.ow.own.lt e).1
    have := (HLB.out.blk k hk).1
    omega
  have HLB := Hid_of hlb
  clear hno hr12 hf12 hob hm HS11 hlb
  go_wp2_with fail
  refine c13.mono ?_
  clear c13
  rintro e w13 ⟨G13, v13, rfl, hr13, hk13⟩
  have hlb := HLB.out.kp hk13 HU.out
  obtain ⟨ba, bp, bl, Fa, Fp, Fl, rfl, hp⟩ := hr13
  have HP13 : Hid (RP w w13 b ba bp bl Fa Fp Fl a8) := Hid_of hp
  obtain ⟨W14, HW14⟩ : ∃ W, Hid (w13.alloc (.cells #[.string ⟨#[120]⟩] 9) = W) := ⟨_, Hid_of rfl⟩
  have hb14 : Below w13.heap.size w13 W14 := by rw [← HW14.out]; exact bel1 w13 _
  have hr14 : W14.heap[w13.heap.size]? = some (.cells (Nl.tl.cells [exX]).toArray 9 (0, 0)) := by rw [← HW14.out]; exact heap_alloc_last w13 _
  have c14 := Nl.texts_any ad c (some ⟨w13.heap.size, 0, none⟩) 1 [exX] W14 (by simp) (hlb.xl.keep hb14).at' (tl_at hr14)
  simp only [List.length_cons, List.length_nil, Nat.zero_add] at c14
  have HB14 := Hid_of hb14
  clear hk13 hlb HLB HU hp hb14 hr14
  go_wp2_with fail
  rw [HW14.out]
  refine c14.mono ?_
  clear c14 HW14
  rintro e w15 ⟨rfl, hb15⟩
  have hp := HP13.out.keep (bel_up HB14.out hb15 (Nat.le_refl _))
  have c16 := RP.log hp
  rw [ex9] at c16
  have HP15 := Hid_of hp
  clear hb15 hp HP13 HB14
  go_wp2_with fail
  refine c16.mono ?_
  clear c16
  rintro e w16 ⟨ad16, c16', rfl, hx16, -, hb16⟩
  obtain ⟨W17, HW17⟩ : ∃ W, Hid (w16.alloc (.cells #[.string ⟨#[120]⟩] 9) = W) := ⟨_, Hid_of rfl⟩
  have hb17 : Below w16.heap.size w16 W17 := by rw [← HW17.out]; exact bel1 w16 _
  have hr17 : W17.heap[w16.heap.size]? = some (.cells (Nl.tl.cells [exX]).toArray 9 (0, 0)) := by rw [← HW17.out]; exact heap_alloc_last w16 _
  have c17 := Nl.texts_any ad16 c16' (some ⟨w16.heap.size, 0, none⟩) 1 [exX] W17 (by simp) (hx16.keep hb17).at' (tl_at hr17)
  simp only [List.length_cons, List.length_nil, Nat.zero_add] at c17
  have HP17 := Hid_of ((HP15.out.keep hb16).keep hb17)
  clear hx16 hb16 hb17 hr17 HP15
  simp only [List.length_cons, List.length_nil, Nat.zero_add]
  go_wp2_with fail
  rw [HW17.out]
  refine c17.mono ?_
  clear c17 HW17
  rintro e w18 ⟨rfl, hb18⟩
  have hp := HP17.out.keep hb18
  have c19 := RP.next hp
  rw [ex10] at c19
  have HB := Hid_of hp.bel
  clear hb18 hp HP17
  go_wp2_with fail
  refine c19.mono ?_
  clear c19
  rintro e w19 ⟨rfl, hw19⟩
  subst hw19
  go_wp2
  go_ret
  exact ⟨rfl, HB.out⟩
end Go.Proofs.Ytfjlanhekheecaa
