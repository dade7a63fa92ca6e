/-
  A new group; a group's bytes.
-/
import Derived.Test.YtacfndfkoiifhaaRF
import Derived.Test.YtacfndfkoiifhaaME
import Derived.Test.YtacfndfkoiifhaaG
namespace Go.Proofs.Ytacfndfkoiifhaa
open Go.RowKit
set_option linter.unusedVariables false
open Mb (S)

theorem at_of {w : World} {a : Option Addr} {l : List Int} (h : AtL il w a l) : At w a (Value.int .i64) l := fun j hj => h.getI j hj
theorem of_at {w : World} {a : Option Addr} {l : List Int} (h : At w a (Value.int .i64) l) : AtL il w a l := by
  intro j hj
  obtain ⟨b, off, e, c⟩ := h j hj
  refine ⟨b, off, e, fun o ho => ?_⟩
  have : o = 0 := by simp [il] at ho; omega
  subst this
  rw [show off + j * il.n + 0 = off + j by simp [il]]
  exact c
/-- What New leaves. -/
def NewM (w : World) (l sp : List Int) (e : Ending) (w' : World) : Prop :=
  Below w.heap.size w w' ∧ ((Mb.nw l sp ∧ ∃ b va vb, e = .returned (.pointer (some ⟨b, 0, none⟩)) ∧ MI w' w.heap.size b va vb (Mb.s0 l sp)) ∨ (¬ Mb.nw l sp ∧ e = .returned (.pointer none)))
set_option maxHeartbeats 1000000 in
theorem newM_any (a1 : Option Addr) (c1 : Nat) (l : List Int) (a2 : Option Addr) (c2 : Nat) (sp : List Int) (w : World) (m1 : l.length ≤ 1000000) (m2 : sp.length ≤ 1000000) (h1 : AtL il w a1 l) (h2 : AtL il w a2 sp) :
    Calls Try.prog 10 #[.slice a1 l.length c1, .slice a2 sp.length c2] w (NewM w l sp) := by
  have HNO : Hid (¬ Mb.nw l sp → ∀ w', Below w.heap.size w w' → NewM w l sp (.returned (.pointer none)) w') := Hid_of fun hn w' hb => ⟨hb, .inr ⟨hn, rfl⟩⟩
  by_cases hlo : l.length < 2
  · have HQ := Hid_of (HNO.out (fun h => by have := h.1.1; omega) w (Below.refl _ _))
    have d1 : decide ((l.length : Int) < 2) = true := decide_eq_true (by omega)
    clear HNO h1 h2
    go_enter Try.func10, Try.ntmps10
    go_wp2
    go_ret
    exact HQ.out
  by_cases hhi : 8 < l.length
  · have HQ := Hid_of (HNO.out (fun h => by have := h.1.2.1; omega) w (Below.refl _ _))
    have d1 : decide ((l.length : Int) < 2) = false := decide_eq_false (by omega)
    have d2 : decide ((8 : Int) < (l.length : Int)) = true := decide_eq_true (by omega)
    clear HNO h1 h2
    go_enter Try.func10, Try.ntmps10
    go_wp2
    go_ret
    exact HQ.out
  have d1 : decide ((l.length : Int) < 2) = false := decide_eq_false (by omega)
  have d2 : decide ((8 : Int) < (l.length : Int)) = false := decide_eq_false (by omega)
  have hb1 := bel1 w (.cells #[.slice a1 l.length c1, .slice a2 sp.length c2] 22)
  have hap := apart2 (heap_alloc_last w (.cells #[.slice a1 l.length c1, .slice a2 sp.length c2] 22)) (h1.keep hb1) (h2.keep hb1) m1 m2
  have hb1 := Hid_of hb1
  have H1 := Hid_of h1
  have H2 := Hid_of h2
  clear h1 h2
  by_cases hn : Mb.Ap (l ++ sp)
  · have HN : Hid (Mb.nw l sp) := Hid_of ⟨⟨by omega, by omega, hn.left⟩, hn⟩
    rw [Mb.apB_eq.2 hn] at hap
    have HC1 : Hid (∀ W, Below w.heap.size w W → Calls Try.prog 29 #[.slice a1 l.length c1] W (CpOut W l)) := Hid_of fun W hW => copied_out a1 c1 l W m1 (H1.out.keep hW)
    have HC2 : Hid (∀ W, Below w.heap.size w W → Calls Try.prog 29 #[.slice a2 sp.length c2] W (CpOut W sp)) := Hid_of fun W hW => copied_out a2 c2 sp W m2 (H2.out.keep hW)
    clear HNO hn
    go_enter Try.func10, Try.ntmps10
    go_wp2_with fail
    refine hap.mono ?_
    rintro e w2 ⟨rfl, hb2⟩
    have HB2 := Hid_of (bel_up hb1.out hb2 (Nat.le_refl _))
    have hc1 := HC1.out w2 HB2.out
    clear hap hb2 hb1 HC1
    go_wp2_with fail
    refine hc1.mono ?_
    rintro e w3 ⟨rfl, ho1, hb3⟩
    have HO1 := Hid_of ho1
    have HB3' := Hid_of hb3
    have HB3 := Hid_of (bel_up HB2.out hb3 (Nat.le_refl _))
    have hc2 := HC2.out w3 HB3.out
    clear hc1 ho1 hb3 HC2
    go_wp2_with fail
    refine hc2.mono ?_
    rintro e w4 ⟨rfl, ho2, hb4⟩
    have HQ : Hid (NewM w l sp (.returned (.pointer (some ⟨w4.heap.size, 0, none⟩))) (w4.alloc (.cells #[.int .i64 1, .int .i64 (-1), .bool false, .int .i64 (-1), .slice (some ⟨w2.heap.size, 0, none⟩) l.length l.length, .slice (some ⟨w3.heap.size, 0, none⟩) sp.length sp.length] 60))) := by
      refine Hid_of ⟨bel_up (bel_up HB3.out hb4 (Nat.le_refl _)) (bel1 w4 _) (Nat.le_refl _), .inl ⟨HN.out, w4.heap.size, .slice (some ⟨w2.heap.size, 0, none⟩) l.length l.length, .slice (some ⟨w3.heap.size, 0, none⟩) sp.length sp.length, rfl, ?_⟩⟩
      have z3 := HB3'.out.size
      have z4 := hb4.size
      have z2 := HB2.out.size
      have z5 := (HO1.out.lt (b := w2.heap.size) rfl).2
      have z6 := (ho2.lt (b := w3.heap.size) rfl).2
      refine ⟨heap_alloc_last w4 _, ((HO1.out.keep hb4).keep (bel1 w4 _)).low z2, (ho2.keep (bel1 w4 _)).low (by omega), ?_, ?_, ?_, by omega⟩
      · intro e; simp [Value.ownBlock] at e; omega
      · intro e; simp [Value.ownBlock] at e; omega
      · intro k e e'; simp [Value.ownBlock] at e e'; omega
    clear hc2 ho2 hb4 HO1 HB3 HB3' HB2 H1 H2 HN
    go_wp2
    go_ret
    exact HQ.out
  · have HQ := Hid_of (HNO.out (fun h => hn h.2))
    rw [Mb.apB_no hn] at hap
    clear HNO hn H1 H2
    go_enter Try.func10, Try.ntmps10
    go_wp2_with fail
    refine hap.mono ?_
    rintro e w2 ⟨rfl, hb2⟩
    have HB2 := Hid_of (bel_up hb1.out hb2 (Nat.le_refl _))
    clear hap hb2 hb1
    go_wp2
    go_ret
    exact HQ.out _ HB2.out
theorem wq_next {w0 w w' : World} {b m : Nat} {a : Option Addr} {cap : Nat} {st st' : Nat × List UInt8} (hB : Below w0.heap.size w0 w) (hb : w0.heap.size ≤ b) (hw : WS w b a cap m st) (h : WQ w b a m st' w') : ∃ a' cap', WS w' b a' cap' m st' ∧ Below w0.heap.size w0 w' := by
  obtain ⟨a', cap', h1, h2⟩ := h
  exact ⟨a', cap', h1, hB.trans (h2.below hb (fun k hk => by have := (hw.inb k hk).1; omega) hB.size)⟩
set_option maxHeartbeats 1000000 in
theorem text_any {w : World} {base b : Nat} {va vb : Value} {s : S} (h : MI w base b va vb s) (g : Mb.G s) (he : s.ep ≤ 9223372036854775807) : Calls Try.prog 18 #[.pointer (some ⟨b, 0, none⟩)] w fun e w' => e = .returned (.string (ofL (Mb.txt s))) ∧ Below w.heap.size w w' := by
  obtain ⟨n1, n2, n3, n4, n5, n6, n7⟩ := g.bnd he
  obtain ⟨t1, t2, t3, t4, t5, t6, u1, u2, u3, u4⟩ := Mb.t_len g he
  obtain ⟨aa, ca, ha, hxa, hba⟩ := h.ol.at
  obtain ⟨ab, cb, hb, hxb, hbb⟩ := h.os.at
  have HS : Hid (∀ wq, Below w.heap.size w wq → wq.cell? ⟨b, 0, none⟩ = some (.int .i64 s.ep) ∧ wq.cell? ⟨b, 1, none⟩ = some (.int .i64 s.hole) ∧ wq.cell? ⟨b, 2, none⟩ = some (.bool s.fl) ∧ wq.cell? ⟨b, 3, none⟩ = some (.int .i64 s.gone) ∧ wq.cell? ⟨b, 4, none⟩ = some (.slice aa s.l.length ca) ∧ wq.cell? ⟨b, 5, none⟩ = some (.slice ab s.sp.length cb)) := Hid_of fun wq hq => by
    have := (row6 (h.keep hq).row).1
    rw [ha, hb] at this
    exact this
  have HI1 : Hid (∀ (wq : World) (bw : Nat) (aw : Option Addr) (cw : Nat), Below w.heap.size w wq → w.heap.size ≤ bw → WS wq bw aw cw 65536 (0, Mb.t4 s) → Calls Try.prog 38 #[.pointer (some ⟨bw, 0, none⟩), .slice aa s.l.length ca] wq fun x w' => x = .returned (.tuple #[]) ∧ WQ wq bw aw 65536 (0, Mb.t5 s) w') := Hid_of fun wq bw aw cw hq hbw hw => by
    have := wints_any bw aw cw 65536 (0, Mb.t4 s) aa ca s.l wq hw (at_of (hxa.at'.keep hq)) (fun _ k hk => ⟨by have := (hba k hk).2.2; omega, fun e => by have := (hba k hk).2.2; have := (hw.inb k e).1; omega⟩) (by omega) n6
    rwa [Mb.lay_ok (by omega)] at this
  have HI2 : Hid (∀ (wq : World) (bw : Nat) (aw : Option Addr) (cw : Nat), Below w.heap.size w wq → w.heap.size ≤ bw → WS wq bw aw cw 65536 (0, Mb.t5 s) → Calls Try.prog 38 #[.pointer (some ⟨bw, 0, none⟩), .slice ab s.sp.length cb] wq fun x w' => x = .returned (.tuple #[]) ∧ WQ wq bw aw 65536 (0, Mb.txt s) w') := Hid_of fun wq bw aw cw hq hbw hw => by
    have := wints_any bw aw cw 65536 (0, Mb.t5 s) ab cb s.sp wq hw (at_of (hxb.at'.keep hq)) (fun _ k hk => ⟨by have := (hbb k hk).2.2; omega, fun e => by have := (hbb k hk).2.2; have := (hw.inb k e).1; omega⟩) (by omega) n7
    rwa [Mb.lay_ok (by omega), Mb.t6] at this
  have HE1 : Hid (∀ (wq : World) (bw : Nat) (aw : Option Addr) (cw : Nat), WS wq bw aw cw 65536 (0, []) → Calls Try.prog 36 #[.pointer (some ⟨bw, 0, none⟩), .int .i64 s.ep] wq fun x w' => x = .returned (.tuple #[]) ∧ WQ wq bw aw 65536 (0, Mb.t1 s) w') := Hid_of fun wq bw aw cw hw => by
    have := wint_any bw aw cw 65536 (0, []) s.ep wq hw n1
    rwa [Mb.lay_ok (by simpa [Mb.t1] using Nat.le_trans t1 (by omega))] at this
  have HE2 : Hid (∀ (wq : World) (bw : Nat) (aw : Option Addr) (cw : Nat), WS wq bw aw cw 65536 (0, Mb.t1 s) → Calls Try.prog 36 #[.pointer (some ⟨bw, 0, none⟩), .int .i64 s.hole] wq fun x w' => x = .returned (.tuple #[]) ∧ WQ wq bw aw 65536 (0, Mb.t2 s) w') := Hid_of fun wq bw aw cw hw => by
    have := wint_any bw aw cw 65536 (0, Mb.t1 s) s.hole wq hw n2
    rwa [Mb.lay_ok (by omega)] at this
  have HE3 : Hid (∀ (wq : World) (bw : Nat) (aw : Option Addr) (cw : Nat), WS wq bw aw cw 65536 (0, Mb.t2 s) → Calls Try.prog 37 #[.pointer (some ⟨bw, 0, none⟩), .int .i64 (if s.fl then 1 else 0)] wq fun x w' => x = .returned (.tuple #[]) ∧ WQ wq bw aw 65536 (0, Mb.t3 s) w') := Hid_of fun wq bw aw cw hw => by
    have := wbyte_any bw aw cw 65536 (0, Mb.t2 s) (if s.fl then 1 else 0) wq hw
    rwa [Mb.byte_ok _ (by omega)] at this
  have HE4 : Hid (∀ (wq : World) (bw : Nat) (aw : Option Addr) (cw : Nat), WS wq bw aw cw 65536 (0, Mb.t3 s) → Calls Try.prog 36 #[.pointer (some ⟨bw, 0, none⟩), .int .i64 s.gone] wq fun x w' => x = .returned (.tuple #[]) ∧ WQ wq bw aw 65536 (0, Mb.t4 s) w') := Hid_of fun wq bw aw cw hw => by
    have := wint_any bw aw cw 65536 (0, Mb.t3 s) s.gone wq hw n3
    rwa [Mb.lay_ok (by omega)] at this
  have hnw := newWriter_any 65536 w
  have hcl : clip 65536 = 65536 := by decide
  rw [hcl] at hnw
  have c2 := (HS.out w (Below.refl _ _)).2.2.1
  clear h g hxa hxb hba hbb n1 n2 n3 n4 n5 n6 n7 t1 t2 t3 t4 t5 t6 u1 u2 u3 u4 ha hb hcl he
  go_enter Try.func18, Try.ntmps18
  go_wp2_with fail
  refine hnw.mono ?_
  rintro e w1 ⟨bw, rfl, hbw, hw1, hb1⟩
  have HBW := Hid_of hbw
  have HB1 := Hid_of hb1
  have HW1 := Hid_of hw1
  have hc := HE1.out _ _ _ _ hw1
  obtain ⟨z0, _⟩ := HS.out _ hb1
  clear hnw hb1 hw1 hbw HE1
  go_wp2_with fail
  refine hc.mono ?_
  rintro e w2 ⟨rfl, hq⟩
  obtain ⟨a2, cp2, hw2, hb2⟩ := wq_next HB1.out HBW.out HW1.out hq
  have HB2 := Hid_of hb2
  have HW2 := Hid_of hw2
  have hc2 := HE2.out _ _ _ _ hw2
  obtain ⟨_, z1, _⟩ := HS.out _ hb2
  clear hc hq hb2 hw2 HB1 HW1 HE2 z0
  go_wp2_with fail
  refine hc2.mono ?_
  rintro e w3 ⟨rfl, hq⟩
  obtain ⟨a3, cp3, hw3, hb3⟩ := wq_next HB2.out HBW.out HW2.out hq
  have HB3 := Hid_of hb3
  have HW3 := Hid_of hw3
  have hc3 := HE3.out _ _ _ _ hw3
  obtain ⟨_, _, z2, _⟩ := HS.out _ hb3
  clear hc2 hq hb3 hw3 HB2 HW2 HE3 z1 c2
  cases hfl : s.fl with
  | false =>
    rw [hfl] at hc3 z2
    simp only [Bool.false_eq_true, if_false] at hc3
    go_wp2_with fail
    refine hc3.mono ?_
    rintro e w4 ⟨rfl, hq⟩
    obtain ⟨a4, cp4, hw4, hb4⟩ := wq_next HB3.out HBW.out HW3.out hq
    have HB4 := Hid_of hb4
    have HW4 := Hid_of hw4
    have hc4 := HE4.out _ _ _ _ hw4
    obtain ⟨_, _, _, z3, _⟩ := HS.out _ hb4
    clear hc3 hq hb4 hw4 HB3 HW3 HE4 z2
    go_wp2_with fail
    refine hc4.mono ?_
    rintro e w5 ⟨rfl, hq⟩
    obtain ⟨a5, cp5, hw5, hb5⟩ := wq_next HB4.out HBW.out HW4.out hq
    have HB5 := Hid_of hb5
    have HW5 := Hid_of hw5
    have hc5 := HI1.out _ _ _ _ hb5 HBW.out hw5
    obtain ⟨_, _, _, _, z4, _⟩ := HS.out _ hb5
    clear hc4 hq hb5 hw5 HB4 HW4 HI1 z3
    go_wp2_with fail
    refine hc5.mono ?_
    rintro e w6 ⟨rfl, hq⟩
    obtain ⟨a6, cp6, hw6, hb6⟩ := wq_next HB5.out HBW.out HW5.out hq
    have HB6 := Hid_of hb6
    have HW6 := Hid_of hw6
    have hc6 := HI2.out _ _ _ _ hb6 HBW.out hw6
    obtain ⟨_, _, _, _, _, z5⟩ := HS.out _ hb6
    clear hc5 hq hb6 hw6 HB5 HW5 HI2 z4
    go_wp2_with fail
    refine hc6.mono ?_
    rintro e w7 ⟨rfl, hq⟩
    obtain ⟨a7, cp7, hw7, hb7⟩ := wq_next HB6.out HBW.out HW6.out hq
    have HB7 := Hid_of hb7
    have hc7 := wdone_any _ _ _ _ _ _ hw7
    clear hc6 hq hb7 hw7 HB6 HW6 HS z5
    go_wp2_with fail
    refine hc7.mono ?_
    rintro e w8 ⟨rfl, hb8⟩
    have HB8 := Hid_of (bel_up HB7.out hb8 (Nat.le_refl _))
    clear hc7 hb8 HB7
    go_wp2
    go_ret
    exact ⟨rfl, HB8.out⟩
  | true =>
    rw [hfl] at hc3 z2
    simp only [if_true] at hc3
    go_wp2_with fail
    refine hc3.mono ?_
    rintro e w4 ⟨rfl, hq⟩
    obtain ⟨a4, cp4, hw4, hb4⟩ := wq_next HB3.out HBW.out HW3.out hq
    have HB4 := Hid_of hb4
    have HW4 := Hid_of hw4
    have hc4 := HE4.out _ _ _ _ hw4
    obtain ⟨_, _, _, z3, _⟩ := HS.out _ hb4
    clear hc3 hq hb4 hw4 HB3 HW3 HE4 z2
    go_wp2_with fail
    refine hc4.mono ?_
    rintro e w5 ⟨rfl, hq⟩
    obtain ⟨a5, cp5, hw5, hb5⟩ := wq_next HB4.out HBW.out HW4.out hq
    have HB5 := Hid_of hb5
    have HW5 := Hid_of hw5
    have hc5 := HI1.out _ _ _ _ hb5 HBW.out hw5
    obtain ⟨_, _, _, _, z4, _⟩ := HS.out _ hb5
    clear hc4 hq hb5 hw5 HB4 HW4 HI1 z3
    go_wp2_with fail
    refine hc5.mono ?_
    rintro e w6 ⟨rfl, hq⟩
    obtain ⟨a6, cp6, hw6, hb6⟩ := wq_next HB5.out HBW.out HW5.out hq
    have HB6 := Hid_of hb6
    have HW6 := Hid_of hw6
    have hc6 := HI2.out _ _ _ _ hb6 HBW.out hw6
    obtain ⟨_, _, _, _, _, z5⟩ := HS.out _ hb6
    clear hc5 hq hb6 hw6 HB5 HW5 HI2 z4
    go_wp2_with fail
    refine hc6.mono ?_
    rintro e w7 ⟨rfl, hq⟩
    obtain ⟨a7, cp7, hw7, hb7⟩ := wq_next HB6.out HBW.out HW6.out hq
    have HB7 := Hid_of hb7
    have hc7 := wdone_any _ _ _ _ _ _ hw7
    clear hc6 hq hb7 hw7 HB6 HW6 HS z5
    go_wp2_with fail
    refine hc7.mono ?_
    rintro e w8 ⟨rfl, hb8⟩
    have HB8 := Hid_of (bel_up HB7.out hb8 (Nat.le_refl _))
    clear hc7 hb8 HB7
    go_wp2
    go_ret
    exact ⟨rfl, HB8.out⟩
end Go.Proofs.Ytacfndfkoiifhaa
