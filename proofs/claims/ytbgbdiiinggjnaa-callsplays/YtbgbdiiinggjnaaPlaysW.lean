/-
  The law of anything done to a node's calls, walked.
-/
import Derived.Test.YtbgbdiiinggjnaaPW
namespace Go.Proofs.Ytbgbdiiinggjnaa
open Go.RowKit
set_option linter.unusedVariables false
open M (E)
open Cl (K W Ms fup Rel)

set_option maxRecDepth 100000 in
set_option maxHeartbeats 16000000 in
theorem plays_walk (me0 first : Int) (a0 : Option Addr) (cap0 : Nat) (l : List Dd) (w : World) (_ : (Lit.int .i64 me0).wf = true) (_ : (Lit.int .i64 first).wf = true) (hm : l.length ≤ maxLen) (hat : Dds w a0 l) (hok : ∀ d ∈ l, d.ok ∧ d.m.b.size ≤ 140737488351232) :
    Calls Try.prog 3 #[.int .i64 me0, .int .i64 first, .slice a0 l.length cap0] w fun e w' => e = .returned (.bool true) ∧ Below w.heap.size w w' := by
  have hfew := few_any a0 cap0 l w hm
  by_cases hf : l.length ≤ 150
  case neg =>
    have hff : few l = false := by unfold few; exact decide_eq_false hf
    rw [hff] at hfew
    replace hfew : Calls Try.prog 7 #[.slice a0 l.length cap0] w fun e w' => e = .returned (.int .i64 0) ∧ w' = w := hfew
    clear hat hok hff
    go_enter Try.func3, Try.ntmps3
    go_wp2_with fail
    refine hfew.mono ?_
    rintro e w1 ⟨rfl, rfl⟩
    go_wp2_with fail
    refine (awake_any _).mono ?_
    rintro e w2 ⟨rfl, b2⟩
    have HB := Hid_of b2
    clear b2
    go_wp2
    go_ret
    exact ⟨rfl, HB.out⟩
  have hff : few l = true := by unfold few; exact decide_eq_true hf
  rw [hff] at hfew
  replace hfew : Calls Try.prog 7 #[.slice a0 l.length cap0] w fun e w' => e = .returned (.int .i64 1) ∧ w' = w := hfew
  have HAT := Hid_of hat
  have HOK := Hid_of hok
  have cN := fun W => newK_any me0 first W
  have cR := fun W => rnew_any me0 first W
  generalize Cl.node me0 = me at *
  generalize Cl.start first = st at *
  clear hat hok hff hm
  go_enter Try.func3, Try.ntmps3
  go_wp2_with fail
  refine hfew.mono ?_
  rintro e w1 ⟨rfl, rfl⟩
  go_wp2_with fail
  refine (cN w1).mono ?_
  rintro e w2 ⟨b, F2, rfl, S2⟩
  go_wp2_with fail
  refine (cR w2).mono ?_
  rintro e w3 ⟨rfl, b3⟩
  obtain ⟨W4, HW4⟩ : ∃ W4, Hid (w3.alloc (.cells #[.int .i64 me, .int .i64 st, .slice none 0 0] 29) = W4) := ⟨_, rfl⟩
  have HP0 : Hid (PL w1 b w3.heap.size 0 W4 F2 me st [] none 0) := by
    have S3 := S2.keep b3
    rw [← HW4.out]
    exact ⟨S3.keep (bel1 w3 _), ⟨Bx.new S3 _, ⟨XL.emp _, by simp⟩, fun k hk => by obtain ⟨_, _, e⟩ := hk; cases e⟩, S3.bel.size, by simp⟩
  clear S2 b3 hfew cN cR
  go_upto_region 4 with fail
  rw [HW4.out]
  clear HW4
  generalize w3.heap.size = xb at *
  go_wp2_with fail
  go_loopw [9] (fun u9 wr => ∃ (i : Nat) (F : Nat → Prop) (next : Int) (L : List K) (a : Option Addr) (cap : Nat), i ≤ l.length ∧ u9 = .int .i64 i ∧ Hid (PL w1 b xb i wr F me next L a cap)) (fun u9 _ => l.length - (intOf u9).toNat)
  case atStart => exact ⟨0, F2, st, [], none, 0, by omega, rfl, HP0⟩
  case round =>
    clear HP0
    obtain ⟨i, F, next, L, a, cap, hi, rfl, HL⟩ := hrel
    by_cases hlt : i < l.length
    · obtain ⟨ab, off, rfl, c0, c1, c2, c3, c4, c5, c6, c7, c8⟩ := (HAT.out.keep HL.out.ks.bel).get i hlt
      obtain ⟨hdok, hdsz⟩ := HOK.out _ (List.getElem_mem hlt)
      generalize l[i] = d at *
      obtain ⟨W1, HW1⟩ : ∃ W1, Hid (wr.alloc (.cells #[.int .i64 d.k, .int .i64 d.a, .int .i64 d.b, .string d.bs, .int .i64 d.m.k, .int .i64 d.m.f, .int .i64 d.m.t, .int .i64 d.m.i, .string d.m.b] 34) = W1) := ⟨_, rfl⟩
      obtain ⟨dk, HDK⟩ : ∃ dk, Hid (wr.heap.size = dk) := ⟨_, rfl⟩
      have HP : Hid (PX w1 b xb dk d W1 F me next L next a cap L) := by rw [← HW1.out, ← HDK.out]; exact HL.out.begin d
      have hLi := HL.out.ln
      have hnx := HL.out.ks.gd.2.2
      have hil : (i : Int) < (l.length : Int) := by omega
      have hwi : (Lit.int .i64 d.m.i).wf = true := hdok.i
      obtain ⟨e0, e1, e2, e3, e4, e5, e6, e7, e8⟩ := rw9 HP.out.bd.at'
      obtain ⟨x0, x1, x2⟩ := HP.out.opn
      clear HL
      go_upto_region 9 with fail
      rw [HW1.out, HDK.out]
      clear HW1 HDK c0 c1 c2 c3 c4 c5 c6 c7 c8
      by_cases hk0 : d.k = 0
      · rw [hk0] at e0
        clear hk0
        have hrc := rcall_any HP.out.rx.rn me next d.a d.bs hdok.bs d.b hnx.1
        have hpc := fun (W : World) (G : Nat → Prop) (h : KS w1 W b G me next L) => h.call d.a d.bs hdok.bs d.b
        have hLl := Cl.callL_length L next d.a d.b d.bs
        generalize Cl.callN (Cl.opn L).length next d.a d.bs.size d.b = cn at *
        generalize Cl.callX (Cl.opn L).length next d.a d.bs.size d.b = nxz at *
        generalize Cl.callL L next d.a d.b d.bs = Lz at *
        generalize Cl.ccode (Cl.opn L).length next d.a d.bs.size d.b = cc at *
        go_wp2_with fail
        refine hrc.mono ?_
        rintro e w2 ⟨a2, cap2, rfl, hx2, hli2, hb2⟩
        obtain ⟨W3, hW3⟩ : ∃ W3, w2.alloc (.cells #[.int .i64 me, .int .i64 nxz, .slice a2 Lz.length cap2] 29) = W3 := ⟨_, rfl⟩
        obtain ⟨W4, hW4⟩ : ∃ W4, put3 W3 xb (.int .i64 me) (.int .i64 nxz) (.slice a2 Lz.length cap2) = W4 := ⟨_, rfl⟩
        obtain ⟨⟨y0, y1, y2⟩, ⟨⟨z0, z1, z2⟩, zf0, zf1, zf2⟩, hP4, hoth4⟩ := HP.out.refd hb2 hx2 hli2 (by omega) W3 hW3 W4 hW4
        have HP4 := Hid_of hP4
        have HW3 := Hid_of hW3
        have HW4 := Hid_of hW4
        unfold put3 at HW4
        clear hP4 hoth4 hW3 hW4 hx2 hli2 hb2 hrc
        go_upto_region 12 with fail
        rw [HW3.out]
        go_upto_region 13 with fail
        rw [HW4.out]
        clear HW3 HW4 y0 y1 y2 z0 z1 z2 zf0 zf1 zf2 x0 x1 x2 e0 e1 e2 e3 e4 e5 e6 e7 e8
        obtain ⟨e0, e1, e2, e3, e4, e5, e6, e7, e8⟩ := rw9 HP4.out.bd.at'
        have hp5 := hpc W4 F HP4.out.ks
        go_wp2_with fail
        refine hp5.mono ?_
        rintro e w5 ⟨Gz, rfl, S5, R5⟩
        have HPZ := Hid_of (HP4.out.step R5 S5)
        have HLN : Hid (Lz.length ≤ i + 1) := by show Lz.length ≤ i + 1; omega
        clear hp5 hpc S5 R5 HP HP4 e0 e1 e2 e3 e4 e5 e6 e7 e8 hLl
        obtain ⟨az, haz⟩ : ∃ az, a2 = az := ⟨_, rfl⟩
        obtain ⟨cz, hcz⟩ : ∃ cz, cap2 = cz := ⟨_, rfl⟩
        rw [haz, hcz] at HPZ
        clear haz hcz
        have hLN := HLN.out
        obtain ⟨e0, e1, e2, e3, e4, e5, e6, e7, e8⟩ := rw9 HPZ.out.bd.at'
        have hst := HPZ.out.ks.state d.m.i hwi
        go_wp2_with fail
        refine hst.mono ?_
        rintro e wA ⟨rfl, bA⟩
        have HPA := Hid_of (HPZ.out.keep bA)
        clear hst bA HPZ e0 e1 e2 e3 e4 e5 e6 e7 e8
        obtain ⟨e0, e1, e2, e3, e4, e5, e6, e7, e8⟩ := rw9 HPA.out.bd.at'
        obtain ⟨x0, x1, x2⟩ := HPA.out.opn
        have hrs := rstate_any HPA.out.rx.rn HPA.out.ks.gd.1.s me nxz d.m.i
        generalize Cl.stS Lz d.m.i = sv at *
        generalize Cl.stR Lz d.m.i = rv at *
        go_wp2_with fail
        refine hrs.mono ?_
        rintro e wB ⟨rfl, bB⟩
        have HPB := Hid_of (HPA.out.keep bB)
        clear hrs bB HPA e0 e1 e2 e3 e4 e5 e6 e7 e8 x0 x1 x2
        go_upto_region 29 with fail
        refine wp_region_held_drew (S := fun wq => wq.cell? ⟨xb, 0, none⟩ = some (.int .i64 me) ∧ wq.cell? ⟨xb, 1, none⟩ = some (.int .i64 nxz) ∧ wq.cell? ⟨xb, 2, none⟩ = some (.slice az Lz.length cz)) (by kernel_rfl) HPB.out.opn (fun hHeld => ?_)
        refine wpAnyH_take (i := 0) (oi := ?p0z0) (v := ?v0z0) ?o0z0 (by kernel_rfl) (by kernel_rfl) (by kernel_rfl) ?q0z0 ?y0z0 hHeld ?r0z0
        case o0z0 => simp only [List.getElem?_toArray, List.getElem?_cons_zero]; rfl
        case q0z0 => exact fun _ _ _ h => h
        case y0z0 => (refine Or.inl ⟨rfl, ?_⟩; intro wq hq; obtain ⟨q0, q1, q2⟩ := hq; go_simp; try with_reducible rfl)
        simp only [Act.put, List.setIfInBounds_toArray, List.set_cons_zero, List.set_cons_succ]
        refine wpAnyH_take (i := 1) (oi := ?p1z0) (v := ?v1z0) ?o1z0 (by kernel_rfl) (by kernel_rfl) (by kernel_rfl) ?q1z0 ?y1z0 hHeld ?r1z0
        case o1z0 => simp only [List.getElem?_toArray, List.getElem?_cons_succ, List.getElem?_cons_zero]; rfl
        case q1z0 => exact fun _ _ _ h => h
        case y1z0 => (refine Or.inl ⟨rfl, ?_⟩; intro wq hq; obtain ⟨q0, q1, q2⟩ := hq; go_simp; try with_reducible rfl)
        simp only [Act.put, List.setIfInBounds_toArray, List.set_cons_zero, List.set_cons_succ]
        refine wpAnyH_take (i := 2) (oi := ?p2z0) (v := ?v2z0) ?o2z0 (by kernel_rfl) (by kernel_rfl) (by kernel_rfl) ?q2z0 ?y2z0 hHeld ?r2z0
        case o2z0 => simp only [List.getElem?_toArray, List.getElem?_cons_succ, List.getElem?_cons_zero]; rfl
        case q2z0 => exact fun _ _ _ h => h
        case y2z0 => (refine Or.inl ⟨rfl, ?_⟩; intro wq hq; obtain ⟨q0, q1, q2⟩ := hq; go_simp; try with_reducible rfl)
        simp only [Act.put, List.setIfInBounds_toArray, List.set_cons_zero, List.set_cons_succ]
        refine wpAnyH_take (i := 3) (oi := ?p3z0) (v := ?v3z0) ?o3z0 (by kernel_rfl) (by kernel_rfl) (by kernel_rfl) ?q3z0 ?y3z0 hHeld ?r3z0
        case o3z0 => simp only [List.getElem?_toArray, List.getElem?_cons_succ, List.getElem?_cons_zero]; rfl
        case q3z0 => exact fun _ _ _ h => h
        case y3z0 => (refine Or.inl ⟨rfl, ?_⟩; intro wq hq; obtain ⟨q0, q1, q2⟩ := hq; go_simp; try with_reducible rfl)
        simp only [Act.put, List.setIfInBounds_toArray, List.set_cons_zero, List.set_cons_succ]
        refine wpAnyH_take (i := 4) (oi := ?p4z0) (v := ?v4z0) ?o4z0 (by kernel_rfl) (by kernel_rfl) (by kernel_rfl) ?q4z0 ?y4z0 hHeld ?r4z0
        case o4z0 => simp only [List.getElem?_toArray, List.getElem?_cons_succ, List.getElem?_cons_zero]; rfl
        case q4z0 => exact fun _ _ _ h => h
        case y4z0 => (refine Or.inl ⟨rfl, ?_⟩; intro wq hq; obtain ⟨q0, q1, q2⟩ := hq; go_simp; try with_reducible rfl)
        simp only [Act.put, List.setIfInBounds_toArray, List.set_cons_zero, List.set_cons_succ]
        refine wpAnyH_take (i := 5) (oi := ?p5z0) (v := ?v5z0) ?o5z0 (by kernel_rfl) (by kernel_rfl) (by kernel_rfl) ?q5z0 ?y5z0 hHeld ?r5z0
        case o5z0 => simp only [List.getElem?_toArray, List.getElem?_cons_succ, List.getElem?_cons_zero]; rfl
        case q5z0 => exact fun _ _ _ h => h
        case y5z0 => (refine Or.inl ⟨rfl, ?_⟩; intro wq hq; obtain ⟨q0, q1, q2⟩ := hq; go_simp; try with_reducible rfl)
        simp only [Act.put, List.setIfInBounds_toArray, List.set_cons_zero, List.set_cons_succ]
        refine wpAnyH_take (i := 6) (oi := ?p6z0) (v := ?v6z0) ?o6z0 (by kernel_rfl) (by kernel_rfl) (by kernel_rfl) ?q6z0 ?y6z0 hHeld ?r6z0
        case o6z0 => simp only [List.getElem?_toArray, List.getElem?_cons_succ, List.getElem?_cons_zero]; rfl
        case q6z0 => exact fun _ _ _ h => h
        case y6z0 => (refine Or.inl ⟨rfl, ?_⟩; intro wq hq; obtain ⟨q0, q1, q2⟩ := hq; go_simp; try with_reducible rfl)
        simp only [Act.put, List.setIfInBounds_toArray, List.set_cons_zero, List.set_cons_succ]
        refine wpAnyH_take (i := 7) (oi := ?p7z0) (v := ?v7z0) ?o7z0 (by kernel_rfl) (by kernel_rfl) (by kernel_rfl) ?q7z0 ?y7z0 hHeld ?r7z0
        case o7z0 => simp only [List.getElem?_toArray, List.getElem?_cons_succ, List.getElem?_cons_zero]; rfl
        case q7z0 => exact fun _ _ _ h => h
        case y7z0 => (refine Or.inl ⟨rfl, ?_⟩; intro wq hq; obtain ⟨q0, q1, q2⟩ := hq; go_simp; try with_reducible rfl)
        simp only [Act.put, List.setIfInBounds_toArray, List.set_cons_zero, List.set_cons_succ]
        refine wpAnyH_take (i := 8) (oi := ?p8z0) (v := ?v8z0) ?o8z0 (by kernel_rfl) (by kernel_rfl) (by kernel_rfl) ?q8z0 ?y8z0 hHeld ?r8z0
        case o8z0 => simp only [List.getElem?_toArray, List.getElem?_cons_succ, List.getElem?_cons_zero]; rfl
        case q8z0 => exact fun _ _ _ h => h
        case y8z0 => (refine Or.inl ⟨rfl, ?_⟩; intro wq hq; obtain ⟨q0, q1, q2⟩ := hq; go_simp; try with_reducible rfl)
        simp only [Act.put, List.setIfInBounds_toArray, List.set_cons_zero, List.set_cons_succ]
        refine wpAnyH_take (i := 9) (oi := ?p9z0) (v := ?v9z0) ?o9z0 (by kernel_rfl) (by kernel_rfl) (by kernel_rfl) ?q9z0 ?y9z0 hHeld ?r9z0
        case o9z0 => simp only [List.getElem?_toArray, List.getElem?_cons_succ, List.getElem?_cons_zero]; rfl
        case q9z0 => exact fun _ _ _ h => h
        case y9z0 => (refine Or.inl ⟨rfl, ?_⟩; intro wq hq; obtain ⟨q0, q1, q2⟩ := hq; go_simp; try with_reducible rfl)
        simp only [Act.put, List.setIfInBounds_toArray, List.set_cons_zero, List.set_cons_succ]
        refine wpAnyH_take (i := 10) (oi := ?p10z0) (v := ?v10z0) ?o10z0 (by kernel_rfl) (by kernel_rfl) (by kernel_rfl) ?q10z0 ?y10z0 hHeld ?r10z0
        case o10z0 => simp only [List.getElem?_toArray, List.getElem?_cons_succ, List.getElem?_cons_zero]; rfl
        case q10z0 => exact fun _ _ _ h => h
        case y10z0 => (refine Or.inl ⟨rfl, ?_⟩; intro wq hq; obtain ⟨q0, q1, q2⟩ := hq; go_simp; try with_reducible rfl)
        simp only [Act.put, List.setIfInBounds_toArray, List.set_cons_zero, List.set_cons_succ]
        refine wpAnyH_take (i := 11) (oi := ?p11z0) (v := ?v11z0) ?o11z0 (by kernel_rfl) (by kernel_rfl) (by kernel_rfl) ?q11z0 ?y11z0 hHeld ?r11z0
        case o11z0 => simp only [List.getElem?_toArray, List.getElem?_cons_succ, List.getElem?_cons_zero]; rfl
        case q11z0 => exact fun _ _ _ h => h
        case y11z0 => (refine Or.inl ⟨rfl, ?_⟩; intro wq hq; obtain ⟨q0, q1, q2⟩ := hq; go_simp; try with_reducible rfl)
        simp only [Act.put, List.setIfInBounds_toArray, List.set_cons_zero, List.set_cons_succ]
        refine wpAnyH_take (i := 12) (oi := ?p12z0) (v := ?v12z0) ?o12z0 (by kernel_rfl) (by kernel_rfl) (by kernel_rfl) ?q12z0 ?y12z0 hHeld ?r12z0
        case o12z0 => simp only [List.getElem?_toArray, List.getElem?_cons_succ, List.getElem?_cons_zero]; rfl
        case q12z0 => exact fun _ _ _ h => h
        case y12z0 => (refine Or.inl ⟨rfl, ?_⟩; intro wq hq; obtain ⟨q0, q1, q2⟩ := hq; go_simp; try with_reducible rfl)
        simp only [Act.put, List.setIfInBounds_toArray, List.set_cons_zero, List.set_cons_succ]
        refine wpAnyH_take (i := 13) (oi := ?p13z0) (v := ?v13z0) ?o13z0 (by kernel_rfl) (by kernel_rfl) (by kernel_rfl) ?q13z0 ?y13z0 hHeld ?r13z0
        case o13z0 => simp only [List.getElem?_toArray, List.getElem?_cons_succ, List.getElem?_cons_zero]; rfl
        case q13z0 => exact fun _ _ _ h => h
        case y13z0 => (refine Or.inl ⟨rfl, ?_⟩; intro wq hq; obtain ⟨q0, q1, q2⟩ := hq; go_simp; try with_reducible rfl)
        simp only [Act.put, List.setIfInBounds_toArray, List.set_cons_zero, List.set_cons_succ]
        refine wpAnyH_take (i := 15) (oi := ?p15z0) (v := ?v15z0) ?o15z0 (by kernel_rfl) (by kernel_rfl) (by kernel_rfl) ?q15z0 ?y15z0 hHeld ?r15z0
        case o15z0 => simp only [List.getElem?_toArray, List.getElem?_cons_succ, List.getElem?_cons_zero]; rfl
        case q15z0 => exact fun _ _ _ h => h
        case y15z0 => (refine Or.inl ⟨rfl, ?_⟩; intro wq hq; obtain ⟨q0, q1, q2⟩ := hq; go_simp; try with_reducible rfl)
        simp only [Act.put, List.setIfInBounds_toArray, List.set_cons_zero, List.set_cons_succ]
        refine wpAnyH_ready (rs := [14]) (by kernel_rfl) (by simp) ?_
        refine AllReadyH.cons (o := ?p14z0) ?o14z0 ?s14z0 AllReadyH.nil
        case o14z0 => simp only [List.getElem?_toArray, List.getElem?_cons_succ, List.getElem?_cons_zero]; rfl
        intro K hK
        go_simp
        refine (HPB.out.keep ((Below.refl _ _).drew)).ks.opens.mono ?_
        rintro e wC ⟨aC, capC, rfl, hatC, _, bC⟩
        have HPC := Hid_of ((HPB.out.keep ((Below.refl _ _).drew)).keep bC)
        have HatC := Hid_of hatC
        clear hatC bC
        refine hK.out _ _ HPC.out.opn (fun hHeld => ?_)
        clear hK K
        refine wpAnyH_ready (rs := [16]) (by kernel_rfl) (by simp) ?_
        refine AllReadyH.cons (o := ?p16z0) ?o16z0 ?s16z0 AllReadyH.nil
        case o16z0 => simp only [List.getElem?_toArray, List.getElem?_cons_succ, List.getElem?_cons_zero]; rfl
        intro K hK
        go_simp
        refine (ropen_any HPC.out.rx.rn me nxz).mono ?_
        rintro e wD ⟨aD, capD, rfl, hatD, _, bD⟩
        have HPD := Hid_of (HPC.out.keep bD)
        have HatD := Hid_of (And.intro (HatC.out.keep bD) hatD)
        clear hatD bD HatC HPC
        refine hK.out _ _ HPD.out.opn (fun hHeld => ?_)
        clear hK K
        refine wpAnyH_ready (rs := [17]) (by kernel_rfl) (by simp) ?_
        refine AllReadyH.cons (o := ?p17z0) ?o17z0 ?s17z0 AllReadyH.nil
        case o17z0 => simp only [List.getElem?_toArray, List.getElem?_cons_succ, List.getElem?_cons_zero]; rfl
        intro K hK
        go_simp
        refine (ints_any aC capC aD capD (Cl.nums Lz) wD (by have := nums_len Lz; have := HPD.out.rx.rn.n; omega) HatD.out.1 HatD.out.2).mono ?_
        rintro e wE ⟨rfl, bE⟩
        have HPE := Hid_of (HPD.out.keep bE)
        clear bE HatD HPD
        refine hK.out _ _ HPE.out.opn (fun hHeld => ?_)
        clear hK K
        refine wpAnyH_take (i := 18) (oi := ?p18z0) (v := ?v18z0) ?o18z0 (by kernel_rfl) (by kernel_rfl) (by kernel_rfl) ?q18z0 ?y18z0 hHeld ?r18z0
        case o18z0 => simp only [List.getElem?_toArray, List.getElem?_cons_succ, List.getElem?_cons_zero]; rfl
        case q18z0 => exact fun _ _ _ h => h
        case y18z0 => (refine Or.inl ⟨rfl, ?_⟩; intro wq hq; obtain ⟨q0, q1, q2⟩ := hq; go_simp; try with_reducible rfl)
        simp only [Act.put, List.setIfInBounds_toArray, List.set_cons_zero, List.set_cons_succ]
        refine wpAnyH_take (i := 19) (oi := ?p19z0) (v := ?v19z0) ?o19z0 (by kernel_rfl) (by kernel_rfl) (by kernel_rfl) ?q19z0 ?y19z0 hHeld ?r19z0
        case o19z0 => simp only [List.getElem?_toArray, List.getElem?_cons_succ, List.getElem?_cons_zero]; rfl
        case q19z0 => exact fun _ _ _ h => h
        case y19z0 => (refine Or.inl ⟨rfl, ?_⟩; intro wq hq; obtain ⟨q0, q1, q2⟩ := hq; go_simp; try with_reducible rfl)
        simp only [Act.put, List.setIfInBounds_toArray, List.set_cons_zero, List.set_cons_succ]
        refine wpAnyH_done (by kernel_rfl) ?_ _
        have HPL : Hid (PL w1 b xb (i + 1) wE Gz me nxz Lz az cz) := HPE.out.close hLN
        clear HPE HPB hLN HLN
        go_wp2
        go_roundw
        case rel => exact ⟨i + 1, Gz, nxz, Lz, az, cz, by omega, by go_num, HPL⟩
        case measure => simp [intOf]; omega
      have dk0 : (d.k == 0) = false := by simpa using hk0
      clear hk0
      by_cases hk1 : d.k = 1
      · rw [hk1] at e0
        clear hk1 dk0
        cases hmo : Cl.moment d.b with
        | true =>
          obtain ⟨ids, hds, hil⟩ := HP.out.ks.dues d.b
          have hgd := HP.out.ks.gd.1
          have hrc := rdue_yes HP.out.rx.rn hgd.s next hgd.k me next d.b hmo ids hds (by omega)
          obtain ⟨⟨Lz, out⟩, hrun⟩ : ∃ p, Cl.run me d.b ids L [] = p := ⟨_, rfl⟩
          have hLl := Cl.run_len me d.b ids L []
          have hOl := Cl.run_out me d.b ids L []
          rw [hrun] at hrc hLl hOl
          simp only [List.length_nil, Nat.zero_add] at hrc hLl hOl
          replace hLl : Lz.length ≤ L.length := by omega
          have HDS := Hid_of hds
          have HRUN := Hid_of hrun
          clear hgd hds hrun
          go_wp2_with fail
          refine hrc.mono ?_
          rintro e w2 ⟨a2, cap2, ao, co, rfl, hx2, hli2, hat2, hbl2, hb2⟩
          obtain ⟨W3, hW3⟩ : ∃ W3, w2.alloc (.cells #[.int .i64 me, .int .i64 next, .slice a2 Lz.length cap2] 29) = W3 := ⟨_, rfl⟩
          obtain ⟨W4, hW4⟩ : ∃ W4, put3 W3 xb (.int .i64 me) (.int .i64 next) (.slice a2 Lz.length cap2) = W4 := ⟨_, rfl⟩
          obtain ⟨⟨y0, y1, y2⟩, ⟨⟨z0, z1, z2⟩, zf0, zf1, zf2⟩, hP4, hoth4⟩ := HP.out.refd hb2 hx2 hli2 (by omega) W3 hW3 W4 hW4
          have HP4 := Hid_of hP4
          have HW3 := Hid_of hW3
          have HW4 := Hid_of hW4
          unfold put3 at HW4
          have hxlt : xb < W1.heap.size := (Array.getElem?_eq_some_iff.1 HP.out.rx.bx.at').1
          have HBS : Hid (Bs W4 F ao out) := by
            refine ⟨hat2.keepBut fun k hk hbk => hoth4 k (by have := (hbl2 k hbk).1; omega) hk, fun k hbk => ⟨?_, fun hF => ?_⟩⟩
            · have h1 := (hbl2 k hbk).2
              have h2 : W4.heap.size = W3.heap.size := by rw [← hW4]; exact put3_size _ _ _ _ _
              have h3 : W3.heap.size = w2.heap.size + 1 := by rw [← hW3]; simp
              omega
            · have h1 := (hbl2 k hbk).1
              have h2 := (HP.out.ks.mine k hF).2
              omega
          clear hP4 hoth4 hW3 hW4 hx2 hli2 hb2 hrc hat2 hbl2 hxlt
          generalize hol : out.length = ol at *
          have HOL := Hid_of hol
          clear hol
          go_upto_region 17 with fail
          rw [HW3.out]
          go_upto_region 18 with fail
          rw [HW4.out]
          clear HW3 HW4 y0 y1 y2 z0 z1 z2 zf0 zf1 zf2 x0 x1 x2 e0 e1 e2 e3 e4 e5 e6 e7 e8
          obtain ⟨e0, e1, e2, e3, e4, e5, e6, e7, e8⟩ := rw9 HP4.out.bd.at'
          have hp5 := HP4.out.ks.due d.b hmo
          go_wp2_with fail
          refine hp5.mono ?_
          rintro e w5 ⟨ids', a5, cap5, Gz, hd', he, hat5, _, S5, R5⟩
          obtain rfl := hd'.uniq HDS.out
          rw [HRUN.out] at he hat5 S5
          simp only at he hat5 S5
          rw [HOL.out] at he
          subst he
          have HP5 := Hid_of (HP4.out.step R5 S5)
          have hsm := sameM_any a5 cap5 ao co out w5 (by rw [HOL.out]; omega) hat5 (HBS.out.step R5).at'
          rw [HOL.out] at hsm
          clear hp5 hat5 S5 R5 HBS HP4 HP hd' HDS HRUN e0 e1 e2 e3 e4 e5 e6 e7 e8
          go_wp2_with fail
          refine hsm.mono ?_
          rintro e w6 ⟨rfl, b6⟩
          have HPZ := Hid_of (HP5.out.keep b6)
          have HLN : Hid (Lz.length ≤ i + 1) := by show Lz.length ≤ i + 1; omega
          clear hsm b6 HP5 hLl hOl
          obtain ⟨az, haz⟩ : ∃ az, a2 = az := ⟨_, rfl⟩
          obtain ⟨cz, hcz⟩ : ∃ cz, cap2 = cz := ⟨_, rfl⟩
          obtain ⟨nxz, hnz⟩ : ∃ nxz, next = nxz := ⟨_, rfl⟩
          rw [haz, hcz, hnz] at HPZ
          clear haz hcz hnz
          have hLN := HLN.out
          obtain ⟨e0, e1, e2, e3, e4, e5, e6, e7, e8⟩ := rw9 HPZ.out.bd.at'
          have hst := HPZ.out.ks.state d.m.i hwi
          go_wp2_with fail
          refine hst.mono ?_
          rintro e wA ⟨rfl, bA⟩
          have HPA := Hid_of (HPZ.out.keep bA)
          clear hst bA HPZ e0 e1 e2 e3 e4 e5 e6 e7 e8
          obtain ⟨e0, e1, e2, e3, e4, e5, e6, e7, e8⟩ := rw9 HPA.out.bd.at'
          obtain ⟨x0, x1, x2⟩ := HPA.out.opn
          have hrs := rstate_any HPA.out.rx.rn HPA.out.ks.gd.1.s me nxz d.m.i
          generalize Cl.stS Lz d.m.i = sv at *
          generalize Cl.stR Lz d.m.i = rv at *
          go_wp2_with fail
          refine hrs.mono ?_
          rintro e wB ⟨rfl, bB⟩
          have HPB := Hid_of (HPA.out.keep bB)
          clear hrs bB HPA e0 e1 e2 e3 e4 e5 e6 e7 e8 x0 x1 x2
          go_upto_region 29 with fail
          refine wp_region_held_drew (S := fun wq => wq.cell? ⟨xb, 0, none⟩ = some (.int .i64 me) ∧ wq.cell? ⟨xb, 1, none⟩ = some (.int .i64 nxz) ∧ wq.cell? ⟨xb, 2, none⟩ = some (.slice az Lz.length cz)) (by kernel_rfl) HPB.out.opn (fun hHeld => ?_)
          refine wpAnyH_take (i := 0) (oi := ?p0z1t) (v := ?v0z1t) ?o0z1t (by kernel_rfl) (by kernel_rfl) (by kernel_rfl) ?q0z1t ?y0z1t hHeld ?r0z1t
          case o0z1t => simp only [List.getElem?_toArray, List.getElem?_cons_zero]; rfl
          case q0z1t => exact fun _ _ _ h => h
          case y0z1t => (refine Or.inl ⟨rfl, ?_⟩; intro wq hq; obtain ⟨q0, q1, q2⟩ := hq; go_simp; try with_reducible rfl)
          simp only [Act.put, List.setIfInBounds_toArray, List.set_cons_zero, List.set_cons_succ]
          refine wpAnyH_take (i := 1) (oi := ?p1z1t) (v := ?v1z1t) ?o1z1t (by kernel_rfl) (by kernel_rfl) (by kernel_rfl) ?q1z1t ?y1z1t hHeld ?r1z1t
          case o1z1t => simp only [List.getElem?_toArray, List.getElem?_cons_succ, List.getElem?_cons_zero]; rfl
          case q1z1t => exact fun _ _ _ h => h
          case y1z1t => (refine Or.inl ⟨rfl, ?_⟩; intro wq hq; obtain ⟨q0, q1, q2⟩ := hq; go_simp; try with_reducible rfl)
          simp only [Act.put, List.setIfInBounds_toArray, List.set_cons_zero, List.set_cons_succ]
          refine wpAnyH_take (i := 2) (oi := ?p2z1t) (v := ?v2z1t) ?o2z1t (by kernel_rfl) (by kernel_rfl) (by kernel_rfl) ?q2z1t ?y2z1t hHeld ?r2z1t
          case o2z1t => simp only [List.getElem?_toArray, List.getElem?_cons_succ, List.getElem?_cons_zero]; rfl
          case q2z1t => exact fun _ _ _ h => h
          case y2z1t => (refine Or.inl ⟨rfl, ?_⟩; intro wq hq; obtain ⟨q0, q1, q2⟩ := hq; go_simp; try with_reducible rfl)
          simp only [Act.put, List.setIfInBounds_toArray, List.set_cons_zero, List.set_cons_succ]
          refine wpAnyH_take (i := 3) (oi := ?p3z1t) (v := ?v3z1t) ?o3z1t (by kernel_rfl) (by kernel_rfl) (by kernel_rfl) ?q3z1t ?y3z1t hHeld ?r3z1t
          case o3z1t => simp only [List.getElem?_toArray, List.getElem?_cons_succ, List.getElem?_cons_zero]; rfl
          case q3z1t => exact fun _ _ _ h => h
          case y3z1t => (refine Or.inl ⟨rfl, ?_⟩; intro wq hq; obtain ⟨q0, q1, q2⟩ := hq; go_simp; try with_reducible rfl)
          simp only [Act.put, List.setIfInBounds_toArray, List.set_cons_zero, List.set_cons_succ]
          refine wpAnyH_take (i := 4) (oi := ?p4z1t) (v := ?v4z1t) ?o4z1t (by kernel_rfl) (by kernel_rfl) (by kernel_rfl) ?q4z1t ?y4z1t hHeld ?r4z1t
          case o4z1t => simp only [List.getElem?_toArray, List.getElem?_cons_succ, List.getElem?_cons_zero]; rfl
          case q4z1t => exact fun _ _ _ h => h
          case y4z1t => (refine Or.inl ⟨rfl, ?_⟩; intro wq hq; obtain ⟨q0, q1, q2⟩ := hq; go_simp; try with_reducible rfl)
          simp only [Act.put, List.setIfInBounds_toArray, List.set_cons_zero, List.set_cons_succ]
          refine wpAnyH_take (i := 5) (oi := ?p5z1t) (v := ?v5z1t) ?o5z1t (by kernel_rfl) (by kernel_rfl) (by kernel_rfl) ?q5z1t ?y5z1t hHeld ?r5z1t
          case o5z1t => simp only [List.getElem?_toArray, List.getElem?_cons_succ, List.getElem?_cons_zero]; rfl
          case q5z1t => exact fun _ _ _ h => h
          case y5z1t => (refine Or.inl ⟨rfl, ?_⟩; intro wq hq; obtain ⟨q0, q1, q2⟩ := hq; go_simp; try with_reducible rfl)
          simp only [Act.put, List.setIfInBounds_toArray, List.set_cons_zero, List.set_cons_succ]
          refine wpAnyH_take (i := 6) (oi := ?p6z1t) (v := ?v6z1t) ?o6z1t (by kernel_rfl) (by kernel_rfl) (by kernel_rfl) ?q6z1t ?y6z1t hHeld ?r6z1t
          case o6z1t => simp only [List.getElem?_toArray, List.getElem?_cons_succ, List.getElem?_cons_zero]; rfl
          case q6z1t => exact fun _ _ _ h => h
          case y6z1t => (refine Or.inl ⟨rfl, ?_⟩; intro wq hq; obtain ⟨q0, q1, q2⟩ := hq; go_simp; try with_reducible rfl)
          simp only [Act.put, List.setIfInBounds_toArray, List.set_cons_zero, List.set_cons_succ]
          refine wpAnyH_take (i := 7) (oi := ?p7z1t) (v := ?v7z1t) ?o7z1t (by kernel_rfl) (by kernel_rfl) (by kernel_rfl) ?q7z1t ?y7z1t hHeld ?r7z1t
          case o7z1t => simp only [List.getElem?_toArray, List.getElem?_cons_succ, List.getElem?_cons_zero]; rfl
          case q7z1t => exact fun _ _ _ h => h
          case y7z1t => (refine Or.inl ⟨rfl, ?_⟩; intro wq hq; obtain ⟨q0, q1, q2⟩ := hq; go_simp; try with_reducible rfl)
          simp only [Act.put, List.setIfInBounds_toArray, List.set_cons_zero, List.set_cons_succ]
          refine wpAnyH_take (i := 8) (oi := ?p8z1t) (v := ?v8z1t) ?o8z1t (by kernel_rfl) (by kernel_rfl) (by kernel_rfl) ?q8z1t ?y8z1t hHeld ?r8z1t
          case o8z1t => simp only [List.getElem?_toArray, List.getElem?_cons_succ, List.getElem?_cons_zero]; rfl
          case q8z1t => exact fun _ _ _ h => h
          case y8z1t => (refine Or.inl ⟨rfl, ?_⟩; intro wq hq; obtain ⟨q0, q1, q2⟩ := hq; go_simp; try with_reducible rfl)
          simp only [Act.put, List.setIfInBounds_toArray, List.set_cons_zero, List.set_cons_succ]
          refine wpAnyH_take (i := 9) (oi := ?p9z1t) (v := ?v9z1t) ?o9z1t (by kernel_rfl) (by kernel_rfl) (by kernel_rfl) ?q9z1t ?y9z1t hHeld ?r9z1t
          case o9z1t => simp only [List.getElem?_toArray, List.getElem?_cons_succ, List.getElem?_cons_zero]; rfl
          case q9z1t => exact fun _ _ _ h => h
          case y9z1t => (refine Or.inl ⟨rfl, ?_⟩; intro wq hq; obtain ⟨q0, q1, q2⟩ := hq; go_simp; try with_reducible rfl)
          simp only [Act.put, List.setIfInBounds_toArray, List.set_cons_zero, List.set_cons_succ]
          refine wpAnyH_take (i := 10) (oi := ?p10z1t) (v := ?v10z1t) ?o10z1t (by kernel_rfl) (by kernel_rfl) (by kernel_rfl) ?q10z1t ?y10z1t hHeld ?r10z1t
          case o10z1t => simp only [List.getElem?_toArray, List.getElem?_cons_succ, List.getElem?_cons_zero]; rfl
          case q10z1t => exact fun _ _ _ h => h
          case y10z1t => (refine Or.inl ⟨rfl, ?_⟩; intro wq hq; obtain ⟨q0, q1, q2⟩ := hq; go_simp; try with_reducible rfl)
          simp only [Act.put, List.setIfInBounds_toArray, List.set_cons_zero, List.set_cons_succ]
          refine wpAnyH_take (i := 11) (oi := ?p11z1t) (v := ?v11z1t) ?o11z1t (by kernel_rfl) (by kernel_rfl) (by kernel_rfl) ?q11z1t ?y11z1t hHeld ?r11z1t
          case o11z1t => simp only [List.getElem?_toArray, List.getElem?_cons_succ, List.getElem?_cons_zero]; rfl
          case q11z1t => exact fun _ _ _ h => h
          case y11z1t => (refine Or.inl ⟨rfl, ?_⟩; intro wq hq; obtain ⟨q0, q1, q2⟩ := hq; go_simp; try with_reducible rfl)
          simp only [Act.put, List.setIfInBounds_toArray, List.set_cons_zero, List.set_cons_succ]
          refine wpAnyH_take (i := 12) (oi := ?p12z1t) (v := ?v12z1t) ?o12z1t (by kernel_rfl) (by kernel_rfl) (by kernel_rfl) ?q12z1t ?y12z1t hHeld ?r12z1t
          case o12z1t => simp only [List.getElem?_toArray, List.getElem?_cons_succ, List.getElem?_cons_zero]; rfl
          case q12z1t => exact fun _ _ _ h => h
          case y12z1t => (refine Or.inl ⟨rfl, ?_⟩; intro wq hq; obtain ⟨q0, q1, q2⟩ := hq; go_simp; try with_reducible rfl)
          simp only [Act.put, List.setIfInBounds_toArray, List.set_cons_zero, List.set_cons_succ]
          refine wpAnyH_take (i := 13) (oi := ?p13z1t) (v := ?v13z1t) ?o13z1t (by kernel_rfl) (by kernel_rfl) (by kernel_rfl) ?q13z1t ?y13z1t hHeld ?r13z1t
          case o13z1t => simp only [List.getElem?_toArray, List.getElem?_cons_succ, List.getElem?_cons_zero]; rfl
          case q13z1t => exact fun _ _ _ h => h
          case y13z1t => (refine Or.inl ⟨rfl, ?_⟩; intro wq hq; obtain ⟨q0, q1, q2⟩ := hq; go_simp; try with_reducible rfl)
          simp only [Act.put, List.setIfInBounds_toArray, List.set_cons_zero, List.set_cons_succ]
          refine wpAnyH_take (i := 15) (oi := ?p15z1t) (v := ?v15z1t) ?o15z1t (by kernel_rfl) (by kernel_rfl) (by kernel_rfl) ?q15z1t ?y15z1t hHeld ?r15z1t
          case o15z1t => simp only [List.getElem?_toArray, List.getElem?_cons_succ, List.getElem?_cons_zero]; rfl
          case q15z1t => exact fun _ _ _ h => h
          case y15z1t => (refine Or.inl ⟨rfl, ?_⟩; intro wq hq; obtain ⟨q0, q1, q2⟩ := hq; go_simp; try with_reducible rfl)
          simp only [Act.put, List.setIfInBounds_toArray, List.set_cons_zero, List.set_cons_succ]
          refine wpAnyH_ready (rs := [14]) (by kernel_rfl) (by simp) ?_
          refine AllReadyH.cons (o := ?p14z1t) ?o14z1t ?s14z1t AllReadyH.nil
          case o14z1t => simp only [List.getElem?_toArray, List.getElem?_cons_succ, List.getElem?_cons_zero]; rfl
          intro K hK
          go_simp
          refine (HPB.out.keep ((Below.refl _ _).drew)).ks.opens.mono ?_
          rintro e wC ⟨aC, capC, rfl, hatC, _, bC⟩
          have HPC := Hid_of ((HPB.out.keep ((Below.refl _ _).drew)).keep bC)
          have HatC := Hid_of hatC
          clear hatC bC
          refine hK.out _ _ HPC.out.opn (fun hHeld => ?_)
          clear hK K
          refine wpAnyH_ready (rs := [16]) (by kernel_rfl) (by simp) ?_
          refine AllReadyH.cons (o := ?p16z1t) ?o16z1t ?s16z1t AllReadyH.nil
          case o16z1t => simp only [List.getElem?_toArray, List.getElem?_cons_succ, List.getElem?_cons_zero]; rfl
          intro K hK
          go_simp
          refine (ropen_any HPC.out.rx.rn me nxz).mono ?_
          rintro e wD ⟨aD, capD, rfl, hatD, _, bD⟩
          have HPD := Hid_of (HPC.out.keep bD)
          have HatD := Hid_of (And.intro (HatC.out.keep bD) hatD)
          clear hatD bD HatC HPC
          refine hK.out _ _ HPD.out.opn (fun hHeld => ?_)
          clear hK K
          refine wpAnyH_ready (rs := [17]) (by kernel_rfl) (by simp) ?_
          refine AllReadyH.cons (o := ?p17z1t) ?o17z1t ?s17z1t AllReadyH.nil
          case o17z1t => simp only [List.getElem?_toArray, List.getElem?_cons_succ, List.getElem?_cons_zero]; rfl
          intro K hK
          go_simp
          refine (ints_any aC capC aD capD (Cl.nums Lz) wD (by have := nums_len Lz; have := HPD.out.rx.rn.n; omega) HatD.out.1 HatD.out.2).mono ?_
          rintro e wE ⟨rfl, bE⟩
          have HPE := Hid_of (HPD.out.keep bE)
          clear bE HatD HPD
          refine hK.out _ _ HPE.out.opn (fun hHeld => ?_)
          clear hK K
          refine wpAnyH_take (i := 18) (oi := ?p18z1t) (v := ?v18z1t) ?o18z1t (by kernel_rfl) (by kernel_rfl) (by kernel_rfl) ?q18z1t ?y18z1t hHeld ?r18z1t
          case o18z1t => simp only [List.getElem?_toArray, List.getElem?_cons_succ, List.getElem?_cons_zero]; rfl
          case q18z1t => exact fun _ _ _ h => h
          case y18z1t => (refine Or.inl ⟨rfl, ?_⟩; intro wq hq; obtain ⟨q0, q1, q2⟩ := hq; go_simp; try with_reducible rfl)
          simp only [Act.put, List.setIfInBounds_toArray, List.set_cons_zero, List.set_cons_succ]
          refine wpAnyH_take (i := 19) (oi := ?p19z1t) (v := ?v19z1t) ?o19z1t (by kernel_rfl) (by kernel_rfl) (by kernel_rfl) ?q19z1t ?y19z1t hHeld ?r19z1t
          case o19z1t => simp only [List.getElem?_toArray, List.getElem?_cons_succ, List.getElem?_cons_zero]; rfl
          case q19z1t => exact fun _ _ _ h => h
          case y19z1t => (refine Or.inl ⟨rfl, ?_⟩; intro wq hq; obtain ⟨q0, q1, q2⟩ := hq; go_simp; try with_reducible rfl)
          simp only [Act.put, List.setIfInBounds_toArray, List.set_cons_zero, List.set_cons_succ]
          refine wpAnyH_done (by kernel_rfl) ?_ _
          have HPL : Hid (PL w1 b xb (i + 1) wE Gz me nxz Lz az cz) := HPE.out.close hLN
          clear HPE HPB hLN HLN
          go_wp2
          go_roundw
          case rel => exact ⟨i + 1, Gz, nxz, Lz, az, cz, by omega, by go_num, HPL⟩
          case measure => simp [intOf]; omega
        | false =>
          have hrc := rdue_no HP.out.rx.rn me next d.b hmo
          go_wp2_with fail
          refine hrc.mono ?_
          rintro e w2 ⟨a2, cap2, rfl, hx2, hli2, hb2⟩
          obtain ⟨W3, hW3⟩ : ∃ W3, w2.alloc (.cells #[.int .i64 me, .int .i64 next, .slice a2 L.length cap2] 29) = W3 := ⟨_, rfl⟩
          obtain ⟨W4, hW4⟩ : ∃ W4, put3 W3 xb (.int .i64 me) (.int .i64 next) (.slice a2 L.length cap2) = W4 := ⟨_, rfl⟩
          obtain ⟨⟨y0, y1, y2⟩, ⟨⟨z0, z1, z2⟩, zf0, zf1, zf2⟩, hP4, hoth4⟩ := HP.out.refd hb2 hx2 hli2 (by omega) W3 hW3 W4 hW4
          have HP4 := Hid_of hP4
          have HW3 := Hid_of hW3
          have HW4 := Hid_of hW4
          unfold put3 at HW4
          clear hP4 hoth4 hW3 hW4 hx2 hli2 hb2 hrc
          go_upto_region 17 with fail
          rw [HW3.out]
          go_upto_region 18 with fail
          rw [HW4.out]
          clear HW3 HW4 y0 y1 y2 z0 z1 z2 zf0 zf1 zf2 x0 x1 x2 e0 e1 e2 e3 e4 e5 e6 e7 e8
          obtain ⟨e0, e1, e2, e3, e4, e5, e6, e7, e8⟩ := rw9 HP4.out.bd.at'
          have hp5 := HP4.out.ks.dueNo d.b hmo
          go_wp2_with fail
          refine hp5.mono ?_
          rintro e w5 ⟨rfl, rfl⟩
          have hsm := sameM_any none 0 none 0 [] w5 (by simp) (AtL.nil _ _) (AtL.nil _ _)
          simp only [List.length_nil] at hsm
          clear hp5 HP e0 e1 e2 e3 e4 e5 e6 e7 e8
          go_wp2_with fail
          refine hsm.mono ?_
          rintro e w6 ⟨rfl, b6⟩
          have HPZ := Hid_of (HP4.out.keep b6)
          obtain ⟨Lz, hLz⟩ : ∃ Lz, L = Lz := ⟨_, rfl⟩
          rw [hLz] at HPZ
          have HLN : Hid (Lz.length ≤ i + 1) := by show Lz.length ≤ i + 1; rw [← hLz]; omega
          obtain ⟨Gz, hGz⟩ : ∃ Gz, F = Gz := ⟨_, rfl⟩
          rw [hGz] at HPZ
          clear hsm b6 HP4 hLz hGz
          obtain ⟨az, haz⟩ : ∃ az, a2 = az := ⟨_, rfl⟩
          obtain ⟨cz, hcz⟩ : ∃ cz, cap2 = cz := ⟨_, rfl⟩
          obtain ⟨nxz, hnz⟩ : ∃ nxz, next = nxz := ⟨_, rfl⟩
          rw [haz, hcz, hnz] at HPZ
          clear haz hcz hnz
          have hLN := HLN.out
          obtain ⟨e0, e1, e2, e3, e4, e5, e6, e7, e8⟩ := rw9 HPZ.out.bd.at'
          have hst := HPZ.out.ks.state d.m.i hwi
          go_wp2_with fail
          refine hst.mono ?_
          rintro e wA ⟨rfl, bA⟩
          have HPA := Hid_of (HPZ.out.keep bA)
          clear hst bA HPZ e0 e1 e2 e3 e4 e5 e6 e7 e8
          obtain ⟨e0, e1, e2, e3, e4, e5, e6, e7, e8⟩ := rw9 HPA.out.bd.at'
          obtain ⟨x0, x1, x2⟩ := HPA.out.opn
          have hrs := rstate_any HPA.out.rx.rn HPA.out.ks.gd.1.s me nxz d.m.i
          generalize Cl.stS Lz d.m.i = sv at *
          generalize Cl.stR Lz d.m.i = rv at *
          go_wp2_with fail
          refine hrs.mono ?_
          rintro e wB ⟨rfl, bB⟩
          have HPB := Hid_of (HPA.out.keep bB)
          clear hrs bB HPA e0 e1 e2 e3 e4 e5 e6 e7 e8 x0 x1 x2
          go_upto_region 29 with fail
          refine wp_region_held_drew (S := fun wq => wq.cell? ⟨xb, 0, none⟩ = some (.int .i64 me) ∧ wq.cell? ⟨xb, 1, none⟩ = some (.int .i64 nxz) ∧ wq.cell? ⟨xb, 2, none⟩ = some (.slice az Lz.length cz)) (by kernel_rfl) HPB.out.opn (fun hHeld => ?_)
          refine wpAnyH_take (i := 0) (oi := ?p0z1f) (v := ?v0z1f) ?o0z1f (by kernel_rfl) (by kernel_rfl) (by kernel_rfl) ?q0z1f ?y0z1f hHeld ?r0z1f
          case o0z1f => simp only [List.getElem?_toArray, List.getElem?_cons_zero]; rfl
          case q0z1f => exact fun _ _ _ h => h
          case y0z1f => (refine Or.inl ⟨rfl, ?_⟩; intro wq hq; obtain ⟨q0, q1, q2⟩ := hq; go_simp; try with_reducible rfl)
          simp only [Act.put, List.setIfInBounds_toArray, List.set_cons_zero, List.set_cons_succ]
          refine wpAnyH_take (i := 1) (oi := ?p1z1f) (v := ?v1z1f) ?o1z1f (by kernel_rfl) (by kernel_rfl) (by kernel_rfl) ?q1z1f ?y1z1f hHeld ?r1z1f
          case o1z1f => simp only [List.getElem?_toArray, List.getElem?_cons_succ, List.getElem?_cons_zero]; rfl
          case q1z1f => exact fun _ _ _ h => h
          case y1z1f => (refine Or.inl ⟨rfl, ?_⟩; intro wq hq; obtain ⟨q0, q1, q2⟩ := hq; go_simp; try with_reducible rfl)
          simp only [Act.put, List.setIfInBounds_toArray, List.set_cons_zero, List.set_cons_succ]
          refine wpAnyH_take (i := 2) (oi := ?p2z1f) (v := ?v2z1f) ?o2z1f (by kernel_rfl) (by kernel_rfl) (by kernel_rfl) ?q2z1f ?y2z1f hHeld ?r2z1f
          case o2z1f => simp only [List.getElem?_toArray, List.getElem?_cons_succ, List.getElem?_cons_zero]; rfl
          case q2z1f => exact fun _ _ _ h => h
          case y2z1f => (refine Or.inl ⟨rfl, ?_⟩; intro wq hq; obtain ⟨q0, q1, q2⟩ := hq; go_simp; try with_reducible rfl)
          simp only [Act.put, List.setIfInBounds_toArray, List.set_cons_zero, List.set_cons_succ]
          refine wpAnyH_take (i := 3) (oi := ?p3z1f) (v := ?v3z1f) ?o3z1f (by kernel_rfl) (by kernel_rfl) (by kernel_rfl) ?q3z1f ?y3z1f hHeld ?r3z1f
          case o3z1f => simp only [List.getElem?_toArray, List.getElem?_cons_succ, List.getElem?_cons_zero]; rfl
          case q3z1f => exact fun _ _ _ h => h
          case y3z1f => (refine Or.inl ⟨rfl, ?_⟩; intro wq hq; obtain ⟨q0, q1, q2⟩ := hq; go_simp; try with_reducible rfl)
          simp only [Act.put, List.setIfInBounds_toArray, List.set_cons_zero, List.set_cons_succ]
          refine wpAnyH_take (i := 4) (oi := ?p4z1f) (v := ?v4z1f) ?o4z1f (by kernel_rfl) (by kernel_rfl) (by kernel_rfl) ?q4z1f ?y4z1f hHeld ?r4z1f
          case o4z1f => simp only [List.getElem?_toArray, List.getElem?_cons_succ, List.getElem?_cons_zero]; rfl
          case q4z1f => exact fun _ _ _ h => h
          case y4z1f => (refine Or.inl ⟨rfl, ?_⟩; intro wq hq; obtain ⟨q0, q1, q2⟩ := hq; go_simp; try with_reducible rfl)
          simp only [Act.put, List.setIfInBounds_toArray, List.set_cons_zero, List.set_cons_succ]
          refine wpAnyH_take (i := 5) (oi := ?p5z1f) (v := ?v5z1f) ?o5z1f (by kernel_rfl) (by kernel_rfl) (by kernel_rfl) ?q5z1f ?y5z1f hHeld ?r5z1f
          case o5z1f => simp only [List.getElem?_toArray, List.getElem?_cons_succ, List.getElem?_cons_zero]; rfl
          case q5z1f => exact fun _ _ _ h => h
          case y5z1f => (refine Or.inl ⟨rfl, ?_⟩; intro wq hq; obtain ⟨q0, q1, q2⟩ := hq; go_simp; try with_reducible rfl)
          simp only [Act.put, List.setIfInBounds_toArray, List.set_cons_zero, List.set_cons_succ]
          refine wpAnyH_take (i := 6) (oi := ?p6z1f) (v := ?v6z1f) ?o6z1f (by kernel_rfl) (by kernel_rfl) (by kernel_rfl) ?q6z1f ?y6z1f hHeld ?r6z1f
          case o6z1f => simp only [List.getElem?_toArray, List.getElem?_cons_succ, List.getElem?_cons_zero]; rfl
          case q6z1f => exact fun _ _ _ h => h
          case y6z1f => (refine Or.inl ⟨rfl, ?_⟩; intro wq hq; obtain ⟨q0, q1, q2⟩ := hq; go_simp; try with_reducible rfl)
          simp only [Act.put, List.setIfInBounds_toArray, List.set_cons_zero, List.set_cons_succ]
          refine wpAnyH_take (i := 7) (oi := ?p7z1f) (v := ?v7z1f) ?o7z1f (by kernel_rfl) (by kernel_rfl) (by kernel_rfl) ?q7z1f ?y7z1f hHeld ?r7z1f
          case o7z1f => simp only [List.getElem?_toArray, List.getElem?_cons_succ, List.getElem?_cons_zero]; rfl
          case q7z1f => exact fun _ _ _ h => h
          case y7z1f => (refine Or.inl ⟨rfl, ?_⟩; intro wq hq; obtain ⟨q0, q1, q2⟩ := hq; go_simp; try with_reducible rfl)
          simp only [Act.put, List.setIfInBounds_toArray, List.set_cons_zero, List.set_cons_succ]
          refine wpAnyH_take (i := 8) (oi := ?p8z1f) (v := ?v8z1f) ?o8z1f (by kernel_rfl) (by kernel_rfl) (by kernel_rfl) ?q8z1f ?y8z1f hHeld ?r8z1f
          case o8z1f => simp only [List.getElem?_toArray, List.getElem?_cons_succ, List.getElem?_cons_zero]; rfl
          case q8z1f => exact fun _ _ _ h => h
          case y8z1f => (refine Or.inl ⟨rfl, ?_⟩; intro wq hq; obtain ⟨q0, q1, q2⟩ := hq; go_simp; try with_reducible rfl)
          simp only [Act.put, List.setIfInBounds_toArray, List.set_cons_zero, List.set_cons_succ]
          refine wpAnyH_take (i := 9) (oi := ?p9z1f) (v := ?v9z1f) ?o9z1f (by kernel_rfl) (by kernel_rfl) (by kernel_rfl) ?q9z1f ?y9z1f hHeld ?r9z1f
          case o9z1f => simp only [List.getElem?_toArray, List.getElem?_cons_succ, List.getElem?_cons_zero]; rfl
          case q9z1f => exact fun _ _ _ h => h
          case y9z1f => (refine Or.inl ⟨rfl, ?_⟩; intro wq hq; obtain ⟨q0, q1, q2⟩ := hq; go_simp; try with_reducible rfl)
          simp only [Act.put, List.setIfInBounds_toArray, List.set_cons_zero, List.set_cons_succ]
          refine wpAnyH_take (i := 10) (oi := ?p10z1f) (v := ?v10z1f) ?o10z1f (by kernel_rfl) (by kernel_rfl) (by kernel_rfl) ?q10z1f ?y10z1f hHeld ?r10z1f
          case o10z1f => simp only [List.getElem?_toArray, List.getElem?_cons_succ, List.getElem?_cons_zero]; rfl
          case q10z1f => exact fun _ _ _ h => h
          case y10z1f => (refine Or.inl ⟨rfl, ?_⟩; intro wq hq; obtain ⟨q0, q1, q2⟩ := hq; go_simp; try with_reducible rfl)
          simp only [Act.put, List.setIfInBounds_toArray, List.set_cons_zero, List.set_cons_succ]
          refine wpAnyH_take (i := 11) (oi := ?p11z1f) (v := ?v11z1f) ?o11z1f (by kernel_rfl) (by kernel_rfl) (by kernel_rfl) ?q11z1f ?y11z1f hHeld ?r11z1f
          case o11z1f => simp only [List.getElem?_toArray, List.getElem?_cons_succ, List.getElem?_cons_zero]; rfl
          case q11z1f => exact fun _ _ _ h => h
          case y11z1f => (refine Or.inl ⟨rfl, ?_⟩; intro wq hq; obtain ⟨q0, q1, q2⟩ := hq; go_simp; try with_reducible rfl)
          simp only [Act.put, List.setIfInBounds_toArray, List.set_cons_zero, List.set_cons_succ]
          refine wpAnyH_take (i := 12) (oi := ?p12z1f) (v := ?v12z1f) ?o12z1f (by kernel_rfl) (by kernel_rfl) (by kernel_rfl) ?q12z1f ?y12z1f hHeld ?r12z1f
          case o12z1f => simp only [List.getElem?_toArray, List.getElem?_cons_succ, List.getElem?_cons_zero]; rfl
          case q12z1f => exact fun _ _ _ h => h
          case y12z1f => (refine Or.inl ⟨rfl, ?_⟩; intro wq hq; obtain ⟨q0, q1, q2⟩ := hq; go_simp; try with_reducible rfl)
          simp only [Act.put, List.setIfInBounds_toArray, List.set_cons_zero, List.set_cons_succ]
          refine wpAnyH_take (i := 13) (oi := ?p13z1f) (v := ?v13z1f) ?o13z1f (by kernel_rfl) (by kernel_rfl) (by kernel_rfl) ?q13z1f ?y13z1f hHeld ?r13z1f
          case o13z1f => simp only [List.getElem?_toArray, List.getElem?_cons_succ, List.getElem?_cons_zero]; rfl
          case q13z1f => exact fun _ _ _ h => h
          case y13z1f => (refine Or.inl ⟨rfl, ?_⟩; intro wq hq; obtain ⟨q0, q1, q2⟩ := hq; go_simp; try with_reducible rfl)
          simp only [Act.put, List.setIfInBounds_toArray, List.set_cons_zero, List.set_cons_succ]
          refine wpAnyH_take (i := 15) (oi := ?p15z1f) (v := ?v15z1f) ?o15z1f (by kernel_rfl) (by kernel_rfl) (by kernel_rfl) ?q15z1f ?y15z1f hHeld ?r15z1f
          case o15z1f => simp only [List.getElem?_toArray, List.getElem?_cons_succ, List.getElem?_cons_zero]; rfl
          case q15z1f => exact fun _ _ _ h => h
          case y15z1f => (refine Or.inl ⟨rfl, ?_⟩; intro wq hq; obtain ⟨q0, q1, q2⟩ := hq; go_simp; try with_reducible rfl)
          simp only [Act.put, List.setIfInBounds_toArray, List.set_cons_zero, List.set_cons_succ]
          refine wpAnyH_ready (rs := [14]) (by kernel_rfl) (by simp) ?_
          refine AllReadyH.cons (o := ?p14z1f) ?o14z1f ?s14z1f AllReadyH.nil
          case o14z1f => simp only [List.getElem?_toArray, List.getElem?_cons_succ, List.getElem?_cons_zero]; rfl
          intro K hK
          go_simp
          refine (HPB.out.keep ((Below.refl _ _).drew)).ks.opens.mono ?_
          rintro e wC ⟨aC, capC, rfl, hatC, _, bC⟩
          have HPC := Hid_of ((HPB.out.keep ((Below.refl _ _).drew)).keep bC)
          have HatC := Hid_of hatC
          clear hatC bC
          refine hK.out _ _ HPC.out.opn (fun hHeld => ?_)
          clear hK K
          refine wpAnyH_ready (rs := [16]) (by kernel_rfl) (by simp) ?_
          refine AllReadyH.cons (o := ?p16z1f) ?o16z1f ?s16z1f AllReadyH.nil
          case o16z1f => simp only [List.getElem?_toArray, List.getElem?_cons_succ, List.getElem?_cons_zero]; rfl
          intro K hK
          go_simp
          refine (ropen_any HPC.out.rx.rn me nxz).mono ?_
          rintro e wD ⟨aD, capD, rfl, hatD, _, bD⟩
          have HPD := Hid_of (HPC.out.keep bD)
          have HatD := Hid_of (And.intro (HatC.out.keep bD) hatD)
          clear hatD bD HatC HPC
          refine hK.out _ _ HPD.out.opn (fun hHeld => ?_)
          clear hK K
          refine wpAnyH_ready (rs := [17]) (by kernel_rfl) (by simp) ?_
          refine AllReadyH.cons (o := ?p17z1f) ?o17z1f ?s17z1f AllReadyH.nil
          case o17z1f => simp only [List.getElem?_toArray, List.getElem?_cons_succ, List.getElem?_cons_zero]; rfl
          intro K hK
          go_simp
          refine (ints_any aC capC aD capD (Cl.nums Lz) wD (by have := nums_len Lz; have := HPD.out.rx.rn.n; omega) HatD.out.1 HatD.out.2).mono ?_
          rintro e wE ⟨rfl, bE⟩
          have HPE := Hid_of (HPD.out.keep bE)
          clear bE HatD HPD
          refine hK.out _ _ HPE.out.opn (fun hHeld => ?_)
          clear hK K
          refine wpAnyH_take (i := 18) (oi := ?p18z1f) (v := ?v18z1f) ?o18z1f (by kernel_rfl) (by kernel_rfl) (by kernel_rfl) ?q18z1f ?y18z1f hHeld ?r18z1f
          case o18z1f => simp only [List.getElem?_toArray, List.getElem?_cons_succ, List.getElem?_cons_zero]; rfl
          case q18z1f => exact fun _ _ _ h => h
          case y18z1f => (refine Or.inl ⟨rfl, ?_⟩; intro wq hq; obtain ⟨q0, q1, q2⟩ := hq; go_simp; try with_reducible rfl)
          simp only [Act.put, List.setIfInBounds_toArray, List.set_cons_zero, List.set_cons_succ]
          refine wpAnyH_take (i := 19) (oi := ?p19z1f) (v := ?v19z1f) ?o19z1f (by kernel_rfl) (by kernel_rfl) (by kernel_rfl) ?q19z1f ?y19z1f hHeld ?r19z1f
          case o19z1f => simp only [List.getElem?_toArray, List.getElem?_cons_succ, List.getElem?_cons_zero]; rfl
          case q19z1f => exact fun _ _ _ h => h
          case y19z1f => (refine Or.inl ⟨rfl, ?_⟩; intro wq hq; obtain ⟨q0, q1, q2⟩ := hq; go_simp; try with_reducible rfl)
          simp only [Act.put, List.setIfInBounds_toArray, List.set_cons_zero, List.set_cons_succ]
          refine wpAnyH_done (by kernel_rfl) ?_ _
          have HPL : Hid (PL w1 b xb (i + 1) wE Gz me nxz Lz az cz) := HPE.out.close hLN
          clear HPE HPB hLN HLN
          go_wp2
          go_roundw
          case rel => exact ⟨i + 1, Gz, nxz, Lz, az, cz, by omega, by go_num, HPL⟩
          case measure => simp [intOf]; omega
      have dk1 : (d.k == 1) = false := by simpa using hk1
      clear hk1
      by_cases hk2 : d.k = 2
      · rw [hk2] at e0
        clear hk2 dk0 dk1
        have hrc := ranswer_any HP.out.rx.rn HP.out.ks.gd.1.s me next d.m
        have hpc := fun (W : World) (G : Nat → Prop) (h : KS w1 W b G me next L) => h.answer d.m hdsz
        have hLl := Cl.ans_length me L d.m
        replace hLl : (Cl.ans me L d.m).length ≤ L.length := by omega
        generalize Cl.isA me L d.m = bb at *
        generalize Cl.ans me L d.m = Lz at *
        go_wp2_with fail
        refine hrc.mono ?_
        rintro e w2 ⟨a2, cap2, rfl, hx2, hli2, hb2⟩
        obtain ⟨W3, hW3⟩ : ∃ W3, w2.alloc (.cells #[.int .i64 me, .int .i64 next, .slice a2 Lz.length cap2] 29) = W3 := ⟨_, rfl⟩
        obtain ⟨W4, hW4⟩ : ∃ W4, put3 W3 xb (.int .i64 me) (.int .i64 next) (.slice a2 Lz.length cap2) = W4 := ⟨_, rfl⟩
        obtain ⟨⟨y0, y1, y2⟩, ⟨⟨z0, z1, z2⟩, zf0, zf1, zf2⟩, hP4, hoth4⟩ := HP.out.refd hb2 hx2 hli2 (by omega) W3 hW3 W4 hW4
        have HP4 := Hid_of hP4
        have HW3 := Hid_of hW3
        have HW4 := Hid_of hW4
        unfold put3 at HW4
        clear hP4 hoth4 hW3 hW4 hx2 hli2 hb2 hrc
        go_upto_region 21 with fail
        rw [HW3.out]
        go_upto_region 22 with fail
        rw [HW4.out]
        clear HW3 HW4 y0 y1 y2 z0 z1 z2 zf0 zf1 zf2 x0 x1 x2 e0 e1 e2 e3 e4 e5 e6 e7 e8
        obtain ⟨e0, e1, e2, e3, e4, e5, e6, e7, e8⟩ := rw9 HP4.out.bd.at'
        have hp5 := hpc W4 F HP4.out.ks
        go_wp2_with fail
        refine hp5.mono ?_
        rintro e w5 ⟨Gz, rfl, S5, R5⟩
        have HPZ := Hid_of (HP4.out.step R5 S5)
        have HLN : Hid (Lz.length ≤ i + 1) := by show Lz.length ≤ i + 1; omega
        have hbb : (bb == bb) = true := by simp
        clear hp5 hpc S5 R5 HP HP4 e0 e1 e2 e3 e4 e5 e6 e7 e8 hLl
        obtain ⟨az, haz⟩ : ∃ az, a2 = az := ⟨_, rfl⟩
        obtain ⟨cz, hcz⟩ : ∃ cz, cap2 = cz := ⟨_, rfl⟩
        obtain ⟨nxz, hnz⟩ : ∃ nxz, next = nxz := ⟨_, rfl⟩
        rw [haz, hcz, hnz] at HPZ
        clear haz hcz hnz
        have hLN := HLN.out
        obtain ⟨e0, e1, e2, e3, e4, e5, e6, e7, e8⟩ := rw9 HPZ.out.bd.at'
        have hst := HPZ.out.ks.state d.m.i hwi
        go_wp2_with fail
        refine hst.mono ?_
        rintro e wA ⟨rfl, bA⟩
        have HPA := Hid_of (HPZ.out.keep bA)
        clear hst bA HPZ e0 e1 e2 e3 e4 e5 e6 e7 e8
        obtain ⟨e0, e1, e2, e3, e4, e5, e6, e7, e8⟩ := rw9 HPA.out.bd.at'
        obtain ⟨x0, x1, x2⟩ := HPA.out.opn
        have hrs := rstate_any HPA.out.rx.rn HPA.out.ks.gd.1.s me nxz d.m.i
        generalize Cl.stS Lz d.m.i = sv at *
        generalize Cl.stR Lz d.m.i = rv at *
        go_wp2_with fail
        refine hrs.mono ?_
        rintro e wB ⟨rfl, bB⟩
        have HPB := Hid_of (HPA.out.keep bB)
        clear hrs bB HPA e0 e1 e2 e3 e4 e5 e6 e7 e8 x0 x1 x2
        go_upto_region 29 with fail
        refine wp_region_held_drew (S := fun wq => wq.cell? ⟨xb, 0, none⟩ = some (.int .i64 me) ∧ wq.cell? ⟨xb, 1, none⟩ = some (.int .i64 nxz) ∧ wq.cell? ⟨xb, 2, none⟩ = some (.slice az Lz.length cz)) (by kernel_rfl) HPB.out.opn (fun hHeld => ?_)
        refine wpAnyH_take (i := 0) (oi := ?p0z2) (v := ?v0z2) ?o0z2 (by kernel_rfl) (by kernel_rfl) (by kernel_rfl) ?q0z2 ?y0z2 hHeld ?r0z2
        case o0z2 => simp only [List.getElem?_toArray, List.getElem?_cons_zero]; rfl
        case q0z2 => exact fun _ _ _ h => h
        case y0z2 => (refine Or.inl ⟨rfl, ?_⟩; intro wq hq; obtain ⟨q0, q1, q2⟩ := hq; go_simp; try with_reducible rfl)
        simp only [Act.put, List.setIfInBounds_toArray, List.set_cons_zero, List.set_cons_succ]
        refine wpAnyH_take (i := 1) (oi := ?p1z2) (v := ?v1z2) ?o1z2 (by kernel_rfl) (by kernel_rfl) (by kernel_rfl) ?q1z2 ?y1z2 hHeld ?r1z2
        case o1z2 => simp only [List.getElem?_toArray, List.getElem?_cons_succ, List.getElem?_cons_zero]; rfl
        case q1z2 => exact fun _ _ _ h => h
        case y1z2 => (refine Or.inl ⟨rfl, ?_⟩; intro wq hq; obtain ⟨q0, q1, q2⟩ := hq; go_simp; try with_reducible rfl)
        simp only [Act.put, List.setIfInBounds_toArray, List.set_cons_zero, List.set_cons_succ]
        refine wpAnyH_take (i := 2) (oi := ?p2z2) (v := ?v2z2) ?o2z2 (by kernel_rfl) (by kernel_rfl) (by kernel_rfl) ?q2z2 ?y2z2 hHeld ?r2z2
        case o2z2 => simp only [List.getElem?_toArray, List.getElem?_cons_succ, List.getElem?_cons_zero]; rfl
        case q2z2 => exact fun _ _ _ h => h
        case y2z2 => (refine Or.inl ⟨rfl, ?_⟩; intro wq hq; obtain ⟨q0, q1, q2⟩ := hq; go_simp; try with_reducible rfl)
        simp only [Act.put, List.setIfInBounds_toArray, List.set_cons_zero, List.set_cons_succ]
        refine wpAnyH_take (i := 3) (oi := ?p3z2) (v := ?v3z2) ?o3z2 (by kernel_rfl) (by kernel_rfl) (by kernel_rfl) ?q3z2 ?y3z2 hHeld ?r3z2
        case o3z2 => simp only [List.getElem?_toArray, List.getElem?_cons_succ, List.getElem?_cons_zero]; rfl
        case q3z2 => exact fun _ _ _ h => h
        case y3z2 => (refine Or.inl ⟨rfl, ?_⟩; intro wq hq; obtain ⟨q0, q1, q2⟩ := hq; go_simp; try with_reducible rfl)
        simp only [Act.put, List.setIfInBounds_toArray, List.set_cons_zero, List.set_cons_succ]
        refine wpAnyH_take (i := 4) (oi := ?p4z2) (v := ?v4z2) ?o4z2 (by kernel_rfl) (by kernel_rfl) (by kernel_rfl) ?q4z2 ?y4z2 hHeld ?r4z2
        case o4z2 => simp only [List.getElem?_toArray, List.getElem?_cons_succ, List.getElem?_cons_zero]; rfl
        case q4z2 => exact fun _ _ _ h => h
        case y4z2 => (refine Or.inl ⟨rfl, ?_⟩; intro wq hq; obtain ⟨q0, q1, q2⟩ := hq; go_simp; try with_reducible rfl)
        simp only [Act.put, List.setIfInBounds_toArray, List.set_cons_zero, List.set_cons_succ]
        refine wpAnyH_take (i := 5) (oi := ?p5z2) (v := ?v5z2) ?o5z2 (by kernel_rfl) (by kernel_rfl) (by kernel_rfl) ?q5z2 ?y5z2 hHeld ?r5z2
        case o5z2 => simp only [List.getElem?_toArray, List.getElem?_cons_succ, List.getElem?_cons_zero]; rfl
        case q5z2 => exact fun _ _ _ h => h
        case y5z2 => (refine Or.inl ⟨rfl, ?_⟩; intro wq hq; obtain ⟨q0, q1, q2⟩ := hq; go_simp; try with_reducible rfl)
        simp only [Act.put, List.setIfInBounds_toArray, List.set_cons_zero, List.set_cons_succ]
        refine wpAnyH_take (i := 6) (oi := ?p6z2) (v := ?v6z2) ?o6z2 (by kernel_rfl) (by kernel_rfl) (by kernel_rfl) ?q6z2 ?y6z2 hHeld ?r6z2
        case o6z2 => simp only [List.getElem?_toArray, List.getElem?_cons_succ, List.getElem?_cons_zero]; rfl
        case q6z2 => exact fun _ _ _ h => h
        case y6z2 => (refine Or.inl ⟨rfl, ?_⟩; intro wq hq; obtain ⟨q0, q1, q2⟩ := hq; go_simp; try with_reducible rfl)
        simp only [Act.put, List.setIfInBounds_toArray, List.set_cons_zero, List.set_cons_succ]
        refine wpAnyH_take (i := 7) (oi := ?p7z2) (v := ?v7z2) ?o7z2 (by kernel_rfl) (by kernel_rfl) (by kernel_rfl) ?q7z2 ?y7z2 hHeld ?r7z2
        case o7z2 => simp only [List.getElem?_toArray, List.getElem?_cons_succ, List.getElem?_cons_zero]; rfl
        case q7z2 => exact fun _ _ _ h => h
        case y7z2 => (refine Or.inl ⟨rfl, ?_⟩; intro wq hq; obtain ⟨q0, q1, q2⟩ := hq; go_simp; try with_reducible rfl)
        simp only [Act.put, List.setIfInBounds_toArray, List.set_cons_zero, List.set_cons_succ]
        refine wpAnyH_take (i := 8) (oi := ?p8z2) (v := ?v8z2) ?o8z2 (by kernel_rfl) (by kernel_rfl) (by kernel_rfl) ?q8z2 ?y8z2 hHeld ?r8z2
        case o8z2 => simp only [List.getElem?_toArray, List.getElem?_cons_succ, List.getElem?_cons_zero]; rfl
        case q8z2 => exact fun _ _ _ h => h
        case y8z2 => (refine Or.inl ⟨rfl, ?_⟩; intro wq hq; obtain ⟨q0, q1, q2⟩ := hq; go_simp; try with_reducible rfl)
        simp only [Act.put, List.setIfInBounds_toArray, List.set_cons_zero, List.set_cons_succ]
        refine wpAnyH_take (i := 9) (oi := ?p9z2) (v := ?v9z2) ?o9z2 (by kernel_rfl) (by kernel_rfl) (by kernel_rfl) ?q9z2 ?y9z2 hHeld ?r9z2
        case o9z2 => simp only [List.getElem?_toArray, List.getElem?_cons_succ, List.getElem?_cons_zero]; rfl
        case q9z2 => exact fun _ _ _ h => h
        case y9z2 => (refine Or.inl ⟨rfl, ?_⟩; intro wq hq; obtain ⟨q0, q1, q2⟩ := hq; go_simp; try with_reducible rfl)
        simp only [Act.put, List.setIfInBounds_toArray, List.set_cons_zero, List.set_cons_succ]
        refine wpAnyH_take (i := 10) (oi := ?p10z2) (v := ?v10z2) ?o10z2 (by kernel_rfl) (by kernel_rfl) (by kernel_rfl) ?q10z2 ?y10z2 hHeld ?r10z2
        case o10z2 => simp only [List.getElem?_toArray, List.getElem?_cons_succ, List.getElem?_cons_zero]; rfl
        case q10z2 => exact fun _ _ _ h => h
        case y10z2 => (refine Or.inl ⟨rfl, ?_⟩; intro wq hq; obtain ⟨q0, q1, q2⟩ := hq; go_simp; try with_reducible rfl)
        simp only [Act.put, List.setIfInBounds_toArray, List.set_cons_zero, List.set_cons_succ]
        refine wpAnyH_take (i := 11) (oi := ?p11z2) (v := ?v11z2) ?o11z2 (by kernel_rfl) (by kernel_rfl) (by kernel_rfl) ?q11z2 ?y11z2 hHeld ?r11z2
        case o11z2 => simp only [List.getElem?_toArray, List.getElem?_cons_succ, List.getElem?_cons_zero]; rfl
        case q11z2 => exact fun _ _ _ h => h
        case y11z2 => (refine Or.inl ⟨rfl, ?_⟩; intro wq hq; obtain ⟨q0, q1, q2⟩ := hq; go_simp; try with_reducible rfl)
        simp only [Act.put, List.setIfInBounds_toArray, List.set_cons_zero, List.set_cons_succ]
        refine wpAnyH_take (i := 12) (oi := ?p12z2) (v := ?v12z2) ?o12z2 (by kernel_rfl) (by kernel_rfl) (by kernel_rfl) ?q12z2 ?y12z2 hHeld ?r12z2
        case o12z2 => simp only [List.getElem?_toArray, List.getElem?_cons_succ, List.getElem?_cons_zero]; rfl
        case q12z2 => exact fun _ _ _ h => h
        case y12z2 => (refine Or.inl ⟨rfl, ?_⟩; intro wq hq; obtain ⟨q0, q1, q2⟩ := hq; go_simp; try with_reducible rfl)
        simp only [Act.put, List.setIfInBounds_toArray, List.set_cons_zero, List.set_cons_succ]
        refine wpAnyH_take (i := 13) (oi := ?p13z2) (v := ?v13z2) ?o13z2 (by kernel_rfl) (by kernel_rfl) (by kernel_rfl) ?q13z2 ?y13z2 hHeld ?r13z2
        case o13z2 => simp only [List.getElem?_toArray, List.getElem?_cons_succ, List.getElem?_cons_zero]; rfl
        case q13z2 => exact fun _ _ _ h => h
        case y13z2 => (refine Or.inl ⟨rfl, ?_⟩; intro wq hq; obtain ⟨q0, q1, q2⟩ := hq; go_simp; try with_reducible rfl)
        simp only [Act.put, List.setIfInBounds_toArray, List.set_cons_zero, List.set_cons_succ]
        refine wpAnyH_take (i := 15) (oi := ?p15z2) (v := ?v15z2) ?o15z2 (by kernel_rfl) (by kernel_rfl) (by kernel_rfl) ?q15z2 ?y15z2 hHeld ?r15z2
        case o15z2 => simp only [List.getElem?_toArray, List.getElem?_cons_succ, List.getElem?_cons_zero]; rfl
        case q15z2 => exact fun _ _ _ h => h
        case y15z2 => (refine Or.inl ⟨rfl, ?_⟩; intro wq hq; obtain ⟨q0, q1, q2⟩ := hq; go_simp; try with_reducible rfl)
        simp only [Act.put, List.setIfInBounds_toArray, List.set_cons_zero, List.set_cons_succ]
        refine wpAnyH_ready (rs := [14]) (by kernel_rfl) (by simp) ?_
        refine AllReadyH.cons (o := ?p14z2) ?o14z2 ?s14z2 AllReadyH.nil
        case o14z2 => simp only [List.getElem?_toArray, List.getElem?_cons_succ, List.getElem?_cons_zero]; rfl
        intro K hK
        go_simp
        refine (HPB.out.keep ((Below.refl _ _).drew)).ks.opens.mono ?_
        rintro e wC ⟨aC, capC, rfl, hatC, _, bC⟩
        have HPC := Hid_of ((HPB.out.keep ((Below.refl _ _).drew)).keep bC)
        have HatC := Hid_of hatC
        clear hatC bC
        refine hK.out _ _ HPC.out.opn (fun hHeld => ?_)
        clear hK K
        refine wpAnyH_ready (rs := [16]) (by kernel_rfl) (by simp) ?_
        refine AllReadyH.cons (o := ?p16z2) ?o16z2 ?s16z2 AllReadyH.nil
        case o16z2 => simp only [List.getElem?_toArray, List.getElem?_cons_succ, List.getElem?_cons_zero]; rfl
        intro K hK
        go_simp
        refine (ropen_any HPC.out.rx.rn me nxz).mono ?_
        rintro e wD ⟨aD, capD, rfl, hatD, _, bD⟩
        have HPD := Hid_of (HPC.out.keep bD)
        have HatD := Hid_of (And.intro (HatC.out.keep bD) hatD)
        clear hatD bD HatC HPC
        refine hK.out _ _ HPD.out.opn (fun hHeld => ?_)
        clear hK K
        refine wpAnyH_ready (rs := [17]) (by kernel_rfl) (by simp) ?_
        refine AllReadyH.cons (o := ?p17z2) ?o17z2 ?s17z2 AllReadyH.nil
        case o17z2 => simp only [List.getElem?_toArray, List.getElem?_cons_succ, List.getElem?_cons_zero]; rfl
        intro K hK
        go_simp
        refine (ints_any aC capC aD capD (Cl.nums Lz) wD (by have := nums_len Lz; have := HPD.out.rx.rn.n; omega) HatD.out.1 HatD.out.2).mono ?_
        rintro e wE ⟨rfl, bE⟩
        have HPE := Hid_of (HPD.out.keep bE)
        clear bE HatD HPD
        refine hK.out _ _ HPE.out.opn (fun hHeld => ?_)
        clear hK K
        refine wpAnyH_take (i := 18) (oi := ?p18z2) (v := ?v18z2) ?o18z2 (by kernel_rfl) (by kernel_rfl) (by kernel_rfl) ?q18z2 ?y18z2 hHeld ?r18z2
        case o18z2 => simp only [List.getElem?_toArray, List.getElem?_cons_succ, List.getElem?_cons_zero]; rfl
        case q18z2 => exact fun _ _ _ h => h
        case y18z2 => (refine Or.inl ⟨rfl, ?_⟩; intro wq hq; obtain ⟨q0, q1, q2⟩ := hq; go_simp; try with_reducible rfl)
        simp only [Act.put, List.setIfInBounds_toArray, List.set_cons_zero, List.set_cons_succ]
        refine wpAnyH_take (i := 19) (oi := ?p19z2) (v := ?v19z2) ?o19z2 (by kernel_rfl) (by kernel_rfl) (by kernel_rfl) ?q19z2 ?y19z2 hHeld ?r19z2
        case o19z2 => simp only [List.getElem?_toArray, List.getElem?_cons_succ, List.getElem?_cons_zero]; rfl
        case q19z2 => exact fun _ _ _ h => h
        case y19z2 => (refine Or.inl ⟨rfl, ?_⟩; intro wq hq; obtain ⟨q0, q1, q2⟩ := hq; go_simp; try with_reducible rfl)
        simp only [Act.put, List.setIfInBounds_toArray, List.set_cons_zero, List.set_cons_succ]
        refine wpAnyH_done (by kernel_rfl) ?_ _
        have HPL : Hid (PL w1 b xb (i + 1) wE Gz me nxz Lz az cz) := HPE.out.close hLN
        clear HPE HPB hLN HLN
        go_wp2
        go_roundw
        case rel => exact ⟨i + 1, Gz, nxz, Lz, az, cz, by omega, by go_num, HPL⟩
        case measure => simp [intOf]; omega
      have dk2 : (d.k == 2) = false := by simpa using hk2
      clear hk2
      by_cases hk3 : d.k = 3
      · rw [hk3] at e0
        clear hk3 dk0 dk1 dk2
        have hrc := rforget_any HP.out.rx.rn HP.out.ks.gd.1.s me next d.a
        have hpc := fun (W : World) (G : Nat → Prop) (h : KS w1 W b G me next L) => h.forget d.a hdok.a
        have hLl := Cl.fgt_length L d.a
        generalize (Cl.en L d.a).isSome = bb at *
        generalize Cl.fgt L d.a = Lz at *
        go_wp2_with fail
        refine hrc.mono ?_
        rintro e w2 ⟨a2, cap2, rfl, hx2, hli2, hb2⟩
        obtain ⟨W3, hW3⟩ : ∃ W3, w2.alloc (.cells #[.int .i64 me, .int .i64 next, .slice a2 Lz.length cap2] 29) = W3 := ⟨_, rfl⟩
        obtain ⟨W4, hW4⟩ : ∃ W4, put3 W3 xb (.int .i64 me) (.int .i64 next) (.slice a2 Lz.length cap2) = W4 := ⟨_, rfl⟩
        obtain ⟨⟨y0, y1, y2⟩, ⟨⟨z0, z1, z2⟩, zf0, zf1, zf2⟩, hP4, hoth4⟩ := HP.out.refd hb2 hx2 hli2 (by omega) W3 hW3 W4 hW4
        have HP4 := Hid_of hP4
        have HW3 := Hid_of hW3
        have HW4 := Hid_of hW4
        unfold put3 at HW4
        clear hP4 hoth4 hW3 hW4 hx2 hli2 hb2 hrc
        go_upto_region 25 with fail
        rw [HW3.out]
        go_upto_region 26 with fail
        rw [HW4.out]
        clear HW3 HW4 y0 y1 y2 z0 z1 z2 zf0 zf1 zf2 x0 x1 x2 e0 e1 e2 e3 e4 e5 e6 e7 e8
        obtain ⟨e0, e1, e2, e3, e4, e5, e6, e7, e8⟩ := rw9 HP4.out.bd.at'
        have hp5 := hpc W4 F HP4.out.ks
        go_wp2_with fail
        refine hp5.mono ?_
        rintro e w5 ⟨Gz, rfl, S5, R5⟩
        have HPZ := Hid_of (HP4.out.step R5 S5)
        have HLN : Hid (Lz.length ≤ i + 1) := by show Lz.length ≤ i + 1; omega
        have hbb : (bb == bb) = true := by simp
        clear hp5 hpc S5 R5 HP HP4 e0 e1 e2 e3 e4 e5 e6 e7 e8 hLl
        obtain ⟨az, haz⟩ : ∃ az, a2 = az := ⟨_, rfl⟩
        obtain ⟨cz, hcz⟩ : ∃ cz, cap2 = cz := ⟨_, rfl⟩
        obtain ⟨nxz, hnz⟩ : ∃ nxz, next = nxz := ⟨_, rfl⟩
        rw [haz, hcz, hnz] at HPZ
        clear haz hcz hnz
        have hLN := HLN.out
        obtain ⟨e0, e1, e2, e3, e4, e5, e6, e7, e8⟩ := rw9 HPZ.out.bd.at'
        have hst := HPZ.out.ks.state d.m.i hwi
        go_wp2_with fail
        refine hst.mono ?_
        rintro e wA ⟨rfl, bA⟩
        have HPA := Hid_of (HPZ.out.keep bA)
        clear hst bA HPZ e0 e1 e2 e3 e4 e5 e6 e7 e8
        obtain ⟨e0, e1, e2, e3, e4, e5, e6, e7, e8⟩ := rw9 HPA.out.bd.at'
        obtain ⟨x0, x1, x2⟩ := HPA.out.opn
        have hrs := rstate_any HPA.out.rx.rn HPA.out.ks.gd.1.s me nxz d.m.i
        generalize Cl.stS Lz d.m.i = sv at *
        generalize Cl.stR Lz d.m.i = rv at *
        go_wp2_with fail
        refine hrs.mono ?_
        rintro e wB ⟨rfl, bB⟩
        have HPB := Hid_of (HPA.out.keep bB)
        clear hrs bB HPA e0 e1 e2 e3 e4 e5 e6 e7 e8 x0 x1 x2
        go_upto_region 29 with fail
        refine wp_region_held_drew (S := fun wq => wq.cell? ⟨xb, 0, none⟩ = some (.int .i64 me) ∧ wq.cell? ⟨xb, 1, none⟩ = some (.int .i64 nxz) ∧ wq.cell? ⟨xb, 2, none⟩ = some (.slice az Lz.length cz)) (by kernel_rfl) HPB.out.opn (fun hHeld => ?_)
        refine wpAnyH_take (i := 0) (oi := ?p0z3) (v := ?v0z3) ?o0z3 (by kernel_rfl) (by kernel_rfl) (by kernel_rfl) ?q0z3 ?y0z3 hHeld ?r0z3
        case o0z3 => simp only [List.getElem?_toArray, List.getElem?_cons_zero]; rfl
        case q0z3 => exact fun _ _ _ h => h
        case y0z3 => (refine Or.inl ⟨rfl, ?_⟩; intro wq hq; obtain ⟨q0, q1, q2⟩ := hq; go_simp; try with_reducible rfl)
        simp only [Act.put, List.setIfInBounds_toArray, List.set_cons_zero, List.set_cons_succ]
        refine wpAnyH_take (i := 1) (oi := ?p1z3) (v := ?v1z3) ?o1z3 (by kernel_rfl) (by kernel_rfl) (by kernel_rfl) ?q1z3 ?y1z3 hHeld ?r1z3
        case o1z3 => simp only [List.getElem?_toArray, List.getElem?_cons_succ, List.getElem?_cons_zero]; rfl
        case q1z3 => exact fun _ _ _ h => h
        case y1z3 => (refine Or.inl ⟨rfl, ?_⟩; intro wq hq; obtain ⟨q0, q1, q2⟩ := hq; go_simp; try with_reducible rfl)
        simp only [Act.put, List.setIfInBounds_toArray, List.set_cons_zero, List.set_cons_succ]
        refine wpAnyH_take (i := 2) (oi := ?p2z3) (v := ?v2z3) ?o2z3 (by kernel_rfl) (by kernel_rfl) (by kernel_rfl) ?q2z3 ?y2z3 hHeld ?r2z3
        case o2z3 => simp only [List.getElem?_toArray, List.getElem?_cons_succ, List.getElem?_cons_zero]; rfl
        case q2z3 => exact fun _ _ _ h => h
        case y2z3 => (refine Or.inl ⟨rfl, ?_⟩; intro wq hq; obtain ⟨q0, q1, q2⟩ := hq; go_simp; try with_reducible rfl)
        simp only [Act.put, List.setIfInBounds_toArray, List.set_cons_zero, List.set_cons_succ]
        refine wpAnyH_take (i := 3) (oi := ?p3z3) (v := ?v3z3) ?o3z3 (by kernel_rfl) (by kernel_rfl) (by kernel_rfl) ?q3z3 ?y3z3 hHeld ?r3z3
        case o3z3 => simp only [List.getElem?_toArray, List.getElem?_cons_succ, List.getElem?_cons_zero]; rfl
        case q3z3 => exact fun _ _ _ h => h
        case y3z3 => (refine Or.inl ⟨rfl, ?_⟩; intro wq hq; obtain ⟨q0, q1, q2⟩ := hq; go_simp; try with_reducible rfl)
        simp only [Act.put, List.setIfInBounds_toArray, List.set_cons_zero, List.set_cons_succ]
        refine wpAnyH_take (i := 4) (oi := ?p4z3) (v := ?v4z3) ?o4z3 (by kernel_rfl) (by kernel_rfl) (by kernel_rfl) ?q4z3 ?y4z3 hHeld ?r4z3
        case o4z3 => simp only [List.getElem?_toArray, List.getElem?_cons_succ, List.getElem?_cons_zero]; rfl
        case q4z3 => exact fun _ _ _ h => h
        case y4z3 => (refine Or.inl ⟨rfl, ?_⟩; intro wq hq; obtain ⟨q0, q1, q2⟩ := hq; go_simp; try with_reducible rfl)
        simp only [Act.put, List.setIfInBounds_toArray, List.set_cons_zero, List.set_cons_succ]
        refine wpAnyH_take (i := 5) (oi := ?p5z3) (v := ?v5z3) ?o5z3 (by kernel_rfl) (by kernel_rfl) (by kernel_rfl) ?q5z3 ?y5z3 hHeld ?r5z3
        case o5z3 => simp only [List.getElem?_toArray, List.getElem?_cons_succ, List.getElem?_cons_zero]; rfl
        case q5z3 => exact fun _ _ _ h => h
        case y5z3 => (refine Or.inl ⟨rfl, ?_⟩; intro wq hq; obtain ⟨q0, q1, q2⟩ := hq; go_simp; try with_reducible rfl)
        simp only [Act.put, List.setIfInBounds_toArray, List.set_cons_zero, List.set_cons_succ]
        refine wpAnyH_take (i := 6) (oi := ?p6z3) (v := ?v6z3) ?o6z3 (by kernel_rfl) (by kernel_rfl) (by kernel_rfl) ?q6z3 ?y6z3 hHeld ?r6z3
        case o6z3 => simp only [List.getElem?_toArray, List.getElem?_cons_succ, List.getElem?_cons_zero]; rfl
        case q6z3 => exact fun _ _ _ h => h
        case y6z3 => (refine Or.inl ⟨rfl, ?_⟩; intro wq hq; obtain ⟨q0, q1, q2⟩ := hq; go_simp; try with_reducible rfl)
        simp only [Act.put, List.setIfInBounds_toArray, List.set_cons_zero, List.set_cons_succ]
        refine wpAnyH_take (i := 7) (oi := ?p7z3) (v := ?v7z3) ?o7z3 (by kernel_rfl) (by kernel_rfl) (by kernel_rfl) ?q7z3 ?y7z3 hHeld ?r7z3
        case o7z3 => simp only [List.getElem?_toArray, List.getElem?_cons_succ, List.getElem?_cons_zero]; rfl
        case q7z3 => exact fun _ _ _ h => h
        case y7z3 => (refine Or.inl ⟨rfl, ?_⟩; intro wq hq; obtain ⟨q0, q1, q2⟩ := hq; go_simp; try with_reducible rfl)
        simp only [Act.put, List.setIfInBounds_toArray, List.set_cons_zero, List.set_cons_succ]
        refine wpAnyH_take (i := 8) (oi := ?p8z3) (v := ?v8z3) ?o8z3 (by kernel_rfl) (by kernel_rfl) (by kernel_rfl) ?q8z3 ?y8z3 hHeld ?r8z3
        case o8z3 => simp only [List.getElem?_toArray, List.getElem?_cons_succ, List.getElem?_cons_zero]; rfl
        case q8z3 => exact fun _ _ _ h => h
        case y8z3 => (refine Or.inl ⟨rfl, ?_⟩; intro wq hq; obtain ⟨q0, q1, q2⟩ := hq; go_simp; try with_reducible rfl)
        simp only [Act.put, List.setIfInBounds_toArray, List.set_cons_zero, List.set_cons_succ]
        refine wpAnyH_take (i := 9) (oi := ?p9z3) (v := ?v9z3) ?o9z3 (by kernel_rfl) (by kernel_rfl) (by kernel_rfl) ?q9z3 ?y9z3 hHeld ?r9z3
        case o9z3 => simp only [List.getElem?_toArray, List.getElem?_cons_succ, List.getElem?_cons_zero]; rfl
        case q9z3 => exact fun _ _ _ h => h
        case y9z3 => (refine Or.inl ⟨rfl, ?_⟩; intro wq hq; obtain ⟨q0, q1, q2⟩ := hq; go_simp; try with_reducible rfl)
        simp only [Act.put, List.setIfInBounds_toArray, List.set_cons_zero, List.set_cons_succ]
        refine wpAnyH_take (i := 10) (oi := ?p10z3) (v := ?v10z3) ?o10z3 (by kernel_rfl) (by kernel_rfl) (by kernel_rfl) ?q10z3 ?y10z3 hHeld ?r10z3
        case o10z3 => simp only [List.getElem?_toArray, List.getElem?_cons_succ, List.getElem?_cons_zero]; rfl
        case q10z3 => exact fun _ _ _ h => h
        case y10z3 => (refine Or.inl ⟨rfl, ?_⟩; intro wq hq; obtain ⟨q0, q1, q2⟩ := hq; go_simp; try with_reducible rfl)
        simp only [Act.put, List.setIfInBounds_toArray, List.set_cons_zero, List.set_cons_succ]
        refine wpAnyH_take (i := 11) (oi := ?p11z3) (v := ?v11z3) ?o11z3 (by kernel_rfl) (by kernel_rfl) (by kernel_rfl) ?q11z3 ?y11z3 hHeld ?r11z3
        case o11z3 => simp only [List.getElem?_toArray, List.getElem?_cons_succ, List.getElem?_cons_zero]; rfl
        case q11z3 => exact fun _ _ _ h => h
        case y11z3 => (refine Or.inl ⟨rfl, ?_⟩; intro wq hq; obtain ⟨q0, q1, q2⟩ := hq; go_simp; try with_reducible rfl)
        simp only [Act.put, List.setIfInBounds_toArray, List.set_cons_zero, List.set_cons_succ]
        refine wpAnyH_take (i := 12) (oi := ?p12z3) (v := ?v12z3) ?o12z3 (by kernel_rfl) (by kernel_rfl) (by kernel_rfl) ?q12z3 ?y12z3 hHeld ?r12z3
        case o12z3 => simp only [List.getElem?_toArray, List.getElem?_cons_succ, List.getElem?_cons_zero]; rfl
        case q12z3 => exact fun _ _ _ h => h
        case y12z3 => (refine Or.inl ⟨rfl, ?_⟩; intro wq hq; obtain ⟨q0, q1, q2⟩ := hq; go_simp; try with_reducible rfl)
        simp only [Act.put, List.setIfInBounds_toArray, List.set_cons_zero, List.set_cons_succ]
        refine wpAnyH_take (i := 13) (oi := ?p13z3) (v := ?v13z3) ?o13z3 (by kernel_rfl) (by kernel_rfl) (by kernel_rfl) ?q13z3 ?y13z3 hHeld ?r13z3
        case o13z3 => simp only [List.getElem?_toArray, List.getElem?_cons_succ, List.getElem?_cons_zero]; rfl
        case q13z3 => exact fun _ _ _ h => h
        case y13z3 => (refine Or.inl ⟨rfl, ?_⟩; intro wq hq; obtain ⟨q0, q1, q2⟩ := hq; go_simp; try with_reducible rfl)
        simp only [Act.put, List.setIfInBounds_toArray, List.set_cons_zero, List.set_cons_succ]
        refine wpAnyH_take (i := 15) (oi := ?p15z3) (v := ?v15z3) ?o15z3 (by kernel_rfl) (by kernel_rfl) (by kernel_rfl) ?q15z3 ?y15z3 hHeld ?r15z3
        case o15z3 => simp only [List.getElem?_toArray, List.getElem?_cons_succ, List.getElem?_cons_zero]; rfl
        case q15z3 => exact fun _ _ _ h => h
        case y15z3 => (refine Or.inl ⟨rfl, ?_⟩; intro wq hq; obtain ⟨q0, q1, q2⟩ := hq; go_simp; try with_reducible rfl)
        simp only [Act.put, List.setIfInBounds_toArray, List.set_cons_zero, List.set_cons_succ]
        refine wpAnyH_ready (rs := [14]) (by kernel_rfl) (by simp) ?_
        refine AllReadyH.cons (o := ?p14z3) ?o14z3 ?s14z3 AllReadyH.nil
        case o14z3 => simp only [List.getElem?_toArray, List.getElem?_cons_succ, List.getElem?_cons_zero]; rfl
        intro K hK
        go_simp
        refine (HPB.out.keep ((Below.refl _ _).drew)).ks.opens.mono ?_
        rintro e wC ⟨aC, capC, rfl, hatC, _, bC⟩
        have HPC := Hid_of ((HPB.out.keep ((Below.refl _ _).drew)).keep bC)
        have HatC := Hid_of hatC
        clear hatC bC
        refine hK.out _ _ HPC.out.opn (fun hHeld => ?_)
        clear hK K
        refine wpAnyH_ready (rs := [16]) (by kernel_rfl) (by simp) ?_
        refine AllReadyH.cons (o := ?p16z3) ?o16z3 ?s16z3 AllReadyH.nil
        case o16z3 => simp only [List.getElem?_toArray, List.getElem?_cons_succ, List.getElem?_cons_zero]; rfl
        intro K hK
        go_simp
        refine (ropen_any HPC.out.rx.rn me nxz).mono ?_
        rintro e wD ⟨aD, capD, rfl, hatD, _, bD⟩
        have HPD := Hid_of (HPC.out.keep bD)
        have HatD := Hid_of (And.intro (HatC.out.keep bD) hatD)
        clear hatD bD HatC HPC
        refine hK.out _ _ HPD.out.opn (fun hHeld => ?_)
        clear hK K
        refine wpAnyH_ready (rs := [17]) (by kernel_rfl) (by simp) ?_
        refine AllReadyH.cons (o := ?p17z3) ?o17z3 ?s17z3 AllReadyH.nil
        case o17z3 => simp only [List.getElem?_toArray, List.getElem?_cons_succ, List.getElem?_cons_zero]; rfl
        intro K hK
        go_simp
        refine (ints_any aC capC aD capD (Cl.nums Lz) wD (by have := nums_len Lz; have := HPD.out.rx.rn.n; omega) HatD.out.1 HatD.out.2).mono ?_
        rintro e wE ⟨rfl, bE⟩
        have HPE := Hid_of (HPD.out.keep bE)
        clear bE HatD HPD
        refine hK.out _ _ HPE.out.opn (fun hHeld => ?_)
        clear hK K
        refine wpAnyH_take (i := 18) (oi := ?p18z3) (v := ?v18z3) ?o18z3 (by kernel_rfl) (by kernel_rfl) (by kernel_rfl) ?q18z3 ?y18z3 hHeld ?r18z3
        case o18z3 => simp only [List.getElem?_toArray, List.getElem?_cons_succ, List.getElem?_cons_zero]; rfl
        case q18z3 => exact fun _ _ _ h => h
        case y18z3 => (refine Or.inl ⟨rfl, ?_⟩; intro wq hq; obtain ⟨q0, q1, q2⟩ := hq; go_simp; try with_reducible rfl)
        simp only [Act.put, List.setIfInBounds_toArray, List.set_cons_zero, List.set_cons_succ]
        refine wpAnyH_take (i := 19) (oi := ?p19z3) (v := ?v19z3) ?o19z3 (by kernel_rfl) (by kernel_rfl) (by kernel_rfl) ?q19z3 ?y19z3 hHeld ?r19z3
        case o19z3 => simp only [List.getElem?_toArray, List.getElem?_cons_succ, List.getElem?_cons_zero]; rfl
        case q19z3 => exact fun _ _ _ h => h
        case y19z3 => (refine Or.inl ⟨rfl, ?_⟩; intro wq hq; obtain ⟨q0, q1, q2⟩ := hq; go_simp; try with_reducible rfl)
        simp only [Act.put, List.setIfInBounds_toArray, List.set_cons_zero, List.set_cons_succ]
        refine wpAnyH_done (by kernel_rfl) ?_ _
        have HPL : Hid (PL w1 b xb (i + 1) wE Gz me nxz Lz az cz) := HPE.out.close hLN
        clear HPE HPB hLN HLN
        go_wp2
        go_roundw
        case rel => exact ⟨i + 1, Gz, nxz, Lz, az, cz, by omega, by go_num, HPL⟩
        case measure => simp [intOf]; omega
      have dk3 : (d.k == 3) = false := by simpa using hk3
      clear hk3
      have HPZ := HP
      have HLN : Hid (L.length ≤ i + 1) := by show L.length ≤ i + 1; omega
      clear HP x0 x1 x2 e1 e2 e3 e4 e5 e6 e7 e8
      obtain ⟨az, haz⟩ : ∃ az, a = az := ⟨_, rfl⟩
      obtain ⟨cz, hcz⟩ : ∃ cz, cap = cz := ⟨_, rfl⟩
      obtain ⟨nxz, hnz⟩ : ∃ nxz, next = nxz := ⟨_, rfl⟩
      obtain ⟨Lz, hLz⟩ : ∃ Lz, L = Lz := ⟨_, rfl⟩
      obtain ⟨Gz, hGz⟩ : ∃ Gz, F = Gz := ⟨_, rfl⟩
      rw [haz, hcz, hnz, hLz, hGz] at HPZ
      rw [hLz] at HLN
      clear haz hcz hnz hLz hGz
      have hLN := HLN.out
      clear e0
      obtain ⟨ek0, e1, e2, e3, e4, e5, e6, e7, e8⟩ := rw9 HPZ.out.bd.at'
      have hst := HPZ.out.ks.state d.m.i hwi
      go_wp2_with fail
      refine hst.mono ?_
      rintro e wA ⟨rfl, bA⟩
      have HPA := Hid_of (HPZ.out.keep bA)
      clear hst bA HPZ ek0 e1 e2 e3 e4 e5 e6 e7 e8
      obtain ⟨e0, e1, e2, e3, e4, e5, e6, e7, e8⟩ := rw9 HPA.out.bd.at'
      obtain ⟨x0, x1, x2⟩ := HPA.out.opn
      have hrs := rstate_any HPA.out.rx.rn HPA.out.ks.gd.1.s me nxz d.m.i
      generalize Cl.stS Lz d.m.i = sv at *
      generalize Cl.stR Lz d.m.i = rv at *
      go_wp2_with fail
      refine hrs.mono ?_
      rintro e wB ⟨rfl, bB⟩
      have HPB := Hid_of (HPA.out.keep bB)
      clear hrs bB HPA e0 e1 e2 e3 e4 e5 e6 e7 e8 x0 x1 x2
      go_upto_region 29 with fail
      refine wp_region_held_drew (S := fun wq => wq.cell? ⟨xb, 0, none⟩ = some (.int .i64 me) ∧ wq.cell? ⟨xb, 1, none⟩ = some (.int .i64 nxz) ∧ wq.cell? ⟨xb, 2, none⟩ = some (.slice az Lz.length cz)) (by kernel_rfl) HPB.out.opn (fun hHeld => ?_)
      refine wpAnyH_take (i := 0) (oi := ?p0zd) (v := ?v0zd) ?o0zd (by kernel_rfl) (by kernel_rfl) (by kernel_rfl) ?q0zd ?y0zd hHeld ?r0zd
      case o0zd => simp only [List.getElem?_toArray, List.getElem?_cons_zero]; rfl
      case q0zd => exact fun _ _ _ h => h
      case y0zd => (refine Or.inl ⟨rfl, ?_⟩; intro wq hq; obtain ⟨q0, q1, q2⟩ := hq; go_simp; try with_reducible rfl)
      simp only [Act.put, List.setIfInBounds_toArray, List.set_cons_zero, List.set_cons_succ]
      refine wpAnyH_take (i := 1) (oi := ?p1zd) (v := ?v1zd) ?o1zd (by kernel_rfl) (by kernel_rfl) (by kernel_rfl) ?q1zd ?y1zd hHeld ?r1zd
      case o1zd => simp only [List.getElem?_toArray, List.getElem?_cons_succ, List.getElem?_cons_zero]; rfl
      case q1zd => exact fun _ _ _ h => h
      case y1zd => (refine Or.inl ⟨rfl, ?_⟩; intro wq hq; obtain ⟨q0, q1, q2⟩ := hq; go_simp; try with_reducible rfl)
      simp only [Act.put, List.setIfInBounds_toArray, List.set_cons_zero, List.set_cons_succ]
      refine wpAnyH_take (i := 2) (oi := ?p2zd) (v := ?v2zd) ?o2zd (by kernel_rfl) (by kernel_rfl) (by kernel_rfl) ?q2zd ?y2zd hHeld ?r2zd
      case o2zd => simp only [List.getElem?_toArray, List.getElem?_cons_succ, List.getElem?_cons_zero]; rfl
      case q2zd => exact fun _ _ _ h => h
      case y2zd => (refine Or.inl ⟨rfl, ?_⟩; intro wq hq; obtain ⟨q0, q1, q2⟩ := hq; go_simp; try with_reducible rfl)
      simp only [Act.put, List.setIfInBounds_toArray, List.set_cons_zero, List.set_cons_succ]
      refine wpAnyH_take (i := 3) (oi := ?p3zd) (v := ?v3zd) ?o3zd (by kernel_rfl) (by kernel_rfl) (by kernel_rfl) ?q3zd ?y3zd hHeld ?r3zd
      case o3zd => simp only [List.getElem?_toArray, List.getElem?_cons_succ, List.getElem?_cons_zero]; rfl
      case q3zd => exact fun _ _ _ h => h
      case y3zd => (refine Or.inl ⟨rfl, ?_⟩; intro wq hq; obtain ⟨q0, q1, q2⟩ := hq; go_simp; try with_reducible rfl)
      simp only [Act.put, List.setIfInBounds_toArray, List.set_cons_zero, List.set_cons_succ]
      refine wpAnyH_take (i := 4) (oi := ?p4zd) (v := ?v4zd) ?o4zd (by kernel_rfl) (by kernel_rfl) (by kernel_rfl) ?q4zd ?y4zd hHeld ?r4zd
      case o4zd => simp only [List.getElem?_toArray, List.getElem?_cons_succ, List.getElem?_cons_zero]; rfl
      case q4zd => exact fun _ _ _ h => h
      case y4zd => (refine Or.inl ⟨rfl, ?_⟩; intro wq hq; obtain ⟨q0, q1, q2⟩ := hq; go_simp; try with_reducible rfl)
      simp only [Act.put, List.setIfInBounds_toArray, List.set_cons_zero, List.set_cons_succ]
      refine wpAnyH_take (i := 5) (oi := ?p5zd) (v := ?v5zd) ?o5zd (by kernel_rfl) (by kernel_rfl) (by kernel_rfl) ?q5zd ?y5zd hHeld ?r5zd
      case o5zd => simp only [List.getElem?_toArray, List.getElem?_cons_succ, List.getElem?_cons_zero]; rfl
      case q5zd => exact fun _ _ _ h => h
      case y5zd => (refine Or.inl ⟨rfl, ?_⟩; intro wq hq; obtain ⟨q0, q1, q2⟩ := hq; go_simp; try with_reducible rfl)
      simp only [Act.put, List.setIfInBounds_toArray, List.set_cons_zero, List.set_cons_succ]
      refine wpAnyH_take (i := 6) (oi := ?p6zd) (v := ?v6zd) ?o6zd (by kernel_rfl) (by kernel_rfl) (by kernel_rfl) ?q6zd ?y6zd hHeld ?r6zd
      case o6zd => simp only [List.getElem?_toArray, List.getElem?_cons_succ, List.getElem?_cons_zero]; rfl
      case q6zd => exact fun _ _ _ h => h
      case y6zd => (refine Or.inl ⟨rfl, ?_⟩; intro wq hq; obtain ⟨q0, q1, q2⟩ := hq; go_simp; try with_reducible rfl)
      simp only [Act.put, List.setIfInBounds_toArray, List.set_cons_zero, List.set_cons_succ]
      refine wpAnyH_take (i := 7) (oi := ?p7zd) (v := ?v7zd) ?o7zd (by kernel_rfl) (by kernel_rfl) (by kernel_rfl) ?q7zd ?y7zd hHeld ?r7zd
      case o7zd => simp only [List.getElem?_toArray, List.getElem?_cons_succ, List.getElem?_cons_zero]; rfl
      case q7zd => exact fun _ _ _ h => h
      case y7zd => (refine Or.inl ⟨rfl, ?_⟩; intro wq hq; obtain ⟨q0, q1, q2⟩ := hq; go_simp; try with_reducible rfl)
      simp only [Act.put, List.setIfInBounds_toArray, List.set_cons_zero, List.set_cons_succ]
      refine wpAnyH_take (i := 8) (oi := ?p8zd) (v := ?v8zd) ?o8zd (by kernel_rfl) (by kernel_rfl) (by kernel_rfl) ?q8zd ?y8zd hHeld ?r8zd
      case o8zd => simp only [List.getElem?_toArray, List.getElem?_cons_succ, List.getElem?_cons_zero]; rfl
      case q8zd => exact fun _ _ _ h => h
      case y8zd => (refine Or.inl ⟨rfl, ?_⟩; intro wq hq; obtain ⟨q0, q1, q2⟩ := hq; go_simp; try with_reducible rfl)
      simp only [Act.put, List.setIfInBounds_toArray, List.set_cons_zero, List.set_cons_succ]
      refine wpAnyH_take (i := 9) (oi := ?p9zd) (v := ?v9zd) ?o9zd (by kernel_rfl) (by kernel_rfl) (by kernel_rfl) ?q9zd ?y9zd hHeld ?r9zd
      case o9zd => simp only [List.getElem?_toArray, List.getElem?_cons_succ, List.getElem?_cons_zero]; rfl
      case q9zd => exact fun _ _ _ h => h
      case y9zd => (refine Or.inl ⟨rfl, ?_⟩; intro wq hq; obtain ⟨q0, q1, q2⟩ := hq; go_simp; try with_reducible rfl)
      simp only [Act.put, List.setIfInBounds_toArray, List.set_cons_zero, List.set_cons_succ]
      refine wpAnyH_take (i := 10) (oi := ?p10zd) (v := ?v10zd) ?o10zd (by kernel_rfl) (by kernel_rfl) (by kernel_rfl) ?q10zd ?y10zd hHeld ?r10zd
      case o10zd => simp only [List.getElem?_toArray, List.getElem?_cons_succ, List.getElem?_cons_zero]; rfl
      case q10zd => exact fun _ _ _ h => h
      case y10zd => (refine Or.inl ⟨rfl, ?_⟩; intro wq hq; obtain ⟨q0, q1, q2⟩ := hq; go_simp; try with_reducible rfl)
      simp only [Act.put, List.setIfInBounds_toArray, List.set_cons_zero, List.set_cons_succ]
      refine wpAnyH_take (i := 11) (oi := ?p11zd) (v := ?v11zd) ?o11zd (by kernel_rfl) (by kernel_rfl) (by kernel_rfl) ?q11zd ?y11zd hHeld ?r11zd
      case o11zd => simp only [List.getElem?_toArray, List.getElem?_cons_succ, List.getElem?_cons_zero]; rfl
      case q11zd => exact fun _ _ _ h => h
      case y11zd => (refine Or.inl ⟨rfl, ?_⟩; intro wq hq; obtain ⟨q0, q1, q2⟩ := hq; go_simp; try with_reducible rfl)
      simp only [Act.put, List.setIfInBounds_toArray, List.set_cons_zero, List.set_cons_succ]
      refine wpAnyH_take (i := 12) (oi := ?p12zd) (v := ?v12zd) ?o12zd (by kernel_rfl) (by kernel_rfl) (by kernel_rfl) ?q12zd ?y12zd hHeld ?r12zd
      case o12zd => simp only [List.getElem?_toArray, List.getElem?_cons_succ, List.getElem?_cons_zero]; rfl
      case q12zd => exact fun _ _ _ h => h
      case y12zd => (refine Or.inl ⟨rfl, ?_⟩; intro wq hq; obtain ⟨q0, q1, q2⟩ := hq; go_simp; try with_reducible rfl)
      simp only [Act.put, List.setIfInBounds_toArray, List.set_cons_zero, List.set_cons_succ]
      refine wpAnyH_take (i := 13) (oi := ?p13zd) (v := ?v13zd) ?o13zd (by kernel_rfl) (by kernel_rfl) (by kernel_rfl) ?q13zd ?y13zd hHeld ?r13zd
      case o13zd => simp only [List.getElem?_toArray, List.getElem?_cons_succ, List.getElem?_cons_zero]; rfl
      case q13zd => exact fun _ _ _ h => h
      case y13zd => (refine Or.inl ⟨rfl, ?_⟩; intro wq hq; obtain ⟨q0, q1, q2⟩ := hq; go_simp; try with_reducible rfl)
      simp only [Act.put, List.setIfInBounds_toArray, List.set_cons_zero, List.set_cons_succ]
      refine wpAnyH_take (i := 15) (oi := ?p15zd) (v := ?v15zd) ?o15zd (by kernel_rfl) (by kernel_rfl) (by kernel_rfl) ?q15zd ?y15zd hHeld ?r15zd
      case o15zd => simp only [List.getElem?_toArray, List.getElem?_cons_succ, List.getElem?_cons_zero]; rfl
      case q15zd => exact fun _ _ _ h => h
      case y15zd => (refine Or.inl ⟨rfl, ?_⟩; intro wq hq; obtain ⟨q0, q1, q2⟩ := hq; go_simp; try with_reducible rfl)
      simp only [Act.put, List.setIfInBounds_toArray, List.set_cons_zero, List.set_cons_succ]
      refine wpAnyH_ready (rs := [14]) (by kernel_rfl) (by simp) ?_
      refine AllReadyH.cons (o := ?p14zd) ?o14zd ?s14zd AllReadyH.nil
      case o14zd => simp only [List.getElem?_toArray, List.getElem?_cons_succ, List.getElem?_cons_zero]; rfl
      intro K hK
      go_simp
      refine (HPB.out.keep ((Below.refl _ _).drew)).ks.opens.mono ?_
      rintro e wC ⟨aC, capC, rfl, hatC, _, bC⟩
      have HPC := Hid_of ((HPB.out.keep ((Below.refl _ _).drew)).keep bC)
      have HatC := Hid_of hatC
      clear hatC bC
      refine hK.out _ _ HPC.out.opn (fun hHeld => ?_)
      clear hK K
      refine wpAnyH_ready (rs := [16]) (by kernel_rfl) (by simp) ?_
      refine AllReadyH.cons (o := ?p16zd) ?o16zd ?s16zd AllReadyH.nil
      case o16zd => simp only [List.getElem?_toArray, List.getElem?_cons_succ, List.getElem?_cons_zero]; rfl
      intro K hK
      go_simp
      refine (ropen_any HPC.out.rx.rn me nxz).mono ?_
      rintro e wD ⟨aD, capD, rfl, hatD, _, bD⟩
      have HPD := Hid_of (HPC.out.keep bD)
      have HatD := Hid_of (And.intro (HatC.out.keep bD) hatD)
      clear hatD bD HatC HPC
      refine hK.out _ _ HPD.out.opn (fun hHeld => ?_)
      clear hK K
      refine wpAnyH_ready (rs := [17]) (by kernel_rfl) (by simp) ?_
      refine AllReadyH.cons (o := ?p17zd) ?o17zd ?s17zd AllReadyH.nil
      case o17zd => simp only [List.getElem?_toArray, List.getElem?_cons_succ, List.getElem?_cons_zero]; rfl
      intro K hK
      go_simp
      refine (ints_any aC capC aD capD (Cl.nums Lz) wD (by have := nums_len Lz; have := HPD.out.rx.rn.n; omega) HatD.out.1 HatD.out.2).mono ?_
      rintro e wE ⟨rfl, bE⟩
      have HPE := Hid_of (HPD.out.keep bE)
      clear bE HatD HPD
      refine hK.out _ _ HPE.out.opn (fun hHeld => ?_)
      clear hK K
      refine wpAnyH_take (i := 18) (oi := ?p18zd) (v := ?v18zd) ?o18zd (by kernel_rfl) (by kernel_rfl) (by kernel_rfl) ?q18zd ?y18zd hHeld ?r18zd
      case o18zd => simp only [List.getElem?_toArray, List.getElem?_cons_succ, List.getElem?_cons_zero]; rfl
      case q18zd => exact fun _ _ _ h => h
      case y18zd => (refine Or.inl ⟨rfl, ?_⟩; intro wq hq; obtain ⟨q0, q1, q2⟩ := hq; go_simp; try with_reducible rfl)
      simp only [Act.put, List.setIfInBounds_toArray, List.set_cons_zero, List.set_cons_succ]
      refine wpAnyH_take (i := 19) (oi := ?p19zd) (v := ?v19zd) ?o19zd (by kernel_rfl) (by kernel_rfl) (by kernel_rfl) ?q19zd ?y19zd hHeld ?r19zd
      case o19zd => simp only [List.getElem?_toArray, List.getElem?_cons_succ, List.getElem?_cons_zero]; rfl
      case q19zd => exact fun _ _ _ h => h
      case y19zd => (refine Or.inl ⟨rfl, ?_⟩; intro wq hq; obtain ⟨q0, q1, q2⟩ := hq; go_simp; try with_reducible rfl)
      simp only [Act.put, List.setIfInBounds_toArray, List.set_cons_zero, List.set_cons_succ]
      refine wpAnyH_done (by kernel_rfl) ?_ _
      have HPL : Hid (PL w1 b xb (i + 1) wE Gz me nxz Lz az cz) := HPE.out.close hLN
      clear HPE HPB hLN HLN
      go_wp2
      go_roundw
      case rel => exact ⟨i + 1, Gz, nxz, Lz, az, cz, by omega, by go_num, HPL⟩
      case measure => simp [intOf]; omega
    · have hin : i = l.length := by omega
      subst hin
      have HBL := Hid_of HL.out.ks.bel
      clear HL
      go_wp2_with fail
      refine (awake_any _).mono ?_
      rintro e w4 ⟨rfl, b4⟩
      have HB4 : Hid (Below w1.heap.size w1 w4) := bel_up HBL.out b4 (by have := HBL.out.size; omega)
      clear b4 HBL
      go_wp2
      go_ret
      exact ⟨rfl, HB4.out⟩
end Go.Proofs.Ytbgbdiiinggjnaa
