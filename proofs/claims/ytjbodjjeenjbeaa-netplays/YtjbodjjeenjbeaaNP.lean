/-
  The chapter's example.
-/
import Derived.Test.YtjbodjjeenjbeaaNO
namespace Go.Proofs.Ytjbodjjeenjbeaa
open Go.RowKit
set_option linter.unusedVariables false
open Nt (Pk)

/-- A block beside what is a net's own. -/
structure Bx (w : World) (F : Nat → Prop) (q : Nat) (o : Obj) : Prop where
  r : w.heap[q]? = some o
  o : ¬ F q
section
variable {w w' : World} {F G : Nat → Prop} {q : Nat} {o : Obj}
theorem Bx.lt (h : Bx w F q o) : q < w.heap.size := (Array.getElem?_eq_some_iff.1 h.r).1
theorem Bx.step (h : Bx w F q o) (hC : Ch w F w' G) : Bx w' G q o := ⟨(hC.block q h.lt h.o).trans h.r, hC.keepsOut h.o h.lt⟩
theorem Bx.keep (h : Bx w F q o) (hb : Below w.heap.size w w') : Bx w' F q o := ⟨bel_row h.r hb, h.o⟩
theorem Bx.new (hF : ∀ k, F k → k < w.heap.size) (o : Obj) (h0 : (w.alloc o).heap[w.heap.size]? = some o) : Bx (w.alloc o) F w.heap.size o := ⟨h0, fun e => by have := hF _ e; omega⟩
end
def aS : ByteArray := ofL (Msg.ecode 1 0 1 0 [97])
def aP : Pk := ⟨0, 1, aS⟩
def noC : Int → Int → Bool := fun _ _ => false
theorem aw_ck : Msg.chk 1 0 1 0 ([97] : List UInt8).length = 0 := by decide
theorem aw_ec : Msg.ecode 1 0 1 0 [97] = K2.sealed (Msg.bts 1 0 1 0 [97]) := by unfold Msg.ecode; rw [decide_eq_true aw_ck]; rfl
theorem aw_mc : mc (some aS) = #[.int .i64 1, .int .i64 0, .int .i64 1, .int .i64 0, .string ⟨#[97]⟩] ∧ Nt.gok (some aS) = true := by
  obtain ⟨e0, e1, e2, e3, e4, e5⟩ := Msg.back_of 1 0 1 0 [97] aw_ck
  rw [mc_some, gok_some]
  unfold aS
  rw [aw_ec, e0, e1, e2, e3, e4, e5]
  exact ⟨rfl, rfl⟩
theorem aw1 : Nt.lim 2 = 2 := by decide
theorem aw2 : Nt.may 2 [] 1 0 1 0 [97] = true := by decide
theorem aw2b : Nt.add true [] ⟨min 0 1, max 0 1, ofL (Msg.ecode 1 0 1 0 [97])⟩ = [aP] := rfl
theorem aw3 : (Nt.is [aP] && Nt.room [aP]) = true ∧ Nt.dbl [aP] 0 = [aP, aP] := ⟨rfl, rfl⟩
theorem aw4 : Nt.out [aP, aP] noC 0 = some aS ∧ Nt.drp [aP, aP] 0 = [aP] := ⟨rfl, rfl⟩
theorem aw5 (C : Int → Int → Bool) (h : C 0 1 = false) : Nt.out [aP] C 0 = some aS ∧ Nt.drp [aP] 0 = [] := by
  refine ⟨?_, rfl⟩
  show (bif C 0 1 then none else some aS) = some aS
  rw [h]
  rfl
theorem aw6 : Nt.out [] noC 0 = none ∧ Nt.drp [] 0 = [] ∧ Nt.gok none = false ∧ Nt.is [] = false := ⟨rfl, rfl, rfl, rfl⟩
def oneC : Int → Int → Bool := cutN noC 2 1 0 true
theorem aw7 : (Nt.node 2 1 && Nt.node 2 0) = true ∧ oneC 0 1 = true := ⟨by decide, by decide⟩
theorem aw8 : Nt.out [aP] oneC 0 = none := by
  show (bif oneC 0 1 then none else some aS) = none
  rw [aw7.2]
  rfl
theorem aw9 : Nt.may 2 [] 1 0 2 0 [] = false := by decide
section
variable {w0 w : World} {b : Nat} {F : Nat → Prop} {z : Nat}
theorem awSend (h : NS w0 w b F z 2 [] noC) : Calls Try.prog 12 #[.pointer (some ⟨b, 0, none⟩), .agg #[.int .i64 1, .int .i64 0, .int .i64 1, .int .i64 0, .string ⟨#[97]⟩]] w (SOut w0 w b F z 2 [aP] noC (.bool true)) := by
  have := h.send 1 0 1 0 [97] (by unfold maxLen; simp)
  rw [aw2, aw2b] at this
  exact this
theorem awNot {C : Int → Int → Bool} (h : NS w0 w b F z 2 [] C) : Calls Try.prog 12 #[.pointer (some ⟨b, 0, none⟩), .agg #[.int .i64 1, .int .i64 0, .int .i64 2, .int .i64 0, .string ⟨#[]⟩]] w (SOut w0 w b F z 2 [] C (.bool false)) := by
  have := h.send 1 0 2 0 [] (by unfold maxLen; simp)
  rw [aw9] at this
  exact this
theorem awDouble (h : NS w0 w b F z 2 [aP] noC) : Calls Try.prog 18 #[.pointer (some ⟨b, 0, none⟩), .int .i64 0] w (SOut w0 w b F z 2 [aP, aP] noC (.bool true)) := by
  have := h.double 0
  rw [aw3.1, aw3.2] at this
  exact this
theorem awFirst (h : NS w0 w b F z 2 [aP, aP] noC) : Calls Try.prog 14 #[.pointer (some ⟨b, 0, none⟩), .int .i64 0] w (SOut w0 w b F z 2 [aP] noC (.tuple #[.agg #[.int .i64 1, .int .i64 0, .int .i64 1, .int .i64 0, .string ⟨#[97]⟩], .bool true])) := by
  have := h.deliver 0
  rw [aw4.1, aw4.2, aw_mc.1, aw_mc.2] at this
  exact this
theorem awSecond (h : NS w0 w b F z 2 [aP] noC) : Calls Try.prog 14 #[.pointer (some ⟨b, 0, none⟩), .int .i64 0] w (SOut w0 w b F z 2 [] noC (.tuple #[.agg #[.int .i64 1, .int .i64 0, .int .i64 1, .int .i64 0, .string ⟨#[97]⟩], .bool true])) := by
  have := h.deliver 0
  rw [(aw5 noC rfl).1, (aw5 noC rfl).2, aw_mc.1, aw_mc.2] at this
  exact this
theorem awThird (h : NS w0 w b F z 2 [] noC) : Calls Try.prog 14 #[.pointer (some ⟨b, 0, none⟩), .int .i64 0] w (SOut w0 w b F z 2 [] noC (.tuple #[.agg #[.int .i64 0, .int .i64 0, .int .i64 0, .int .i64 0, .string ⟨#[]⟩], .bool false])) := by
  have := h.deliver 0
  rw [aw6.1, aw6.2.1, mc_none, aw6.2.2.1] at this
  exact this
theorem awCut (h : NS w0 w b F 0 2 [aP] noC) : Calls Try.prog 22 #[.pointer (some ⟨b, 0, none⟩), .int .i64 1, .int .i64 0, .bool true] w (SOut w0 w b F 1 2 [aP] oneC (.bool true)) := by
  have := h.cut (by omega) 1 0 true
  rw [aw7.1] at this
  exact this
theorem awFourth (h : NS w0 w b F z 2 [aP] oneC) : Calls Try.prog 14 #[.pointer (some ⟨b, 0, none⟩), .int .i64 0] w (SOut w0 w b F z 2 [] oneC (.tuple #[.agg #[.int .i64 0, .int .i64 0, .int .i64 0, .int .i64 0, .string ⟨#[]⟩], .bool false])) := by
  have := h.deliver 0
  rw [aw8, (aw5 noC rfl).2, mc_none, aw6.2.2.1] at this
  exact this
theorem awDrop {C : Int → Int → Bool} (h : NS w0 w b F z 2 [] C) : Calls Try.prog 16 #[.pointer (some ⟨b, 0, none⟩), .int .i64 0] w (SOut w0 w b F z 2 [] C (.bool false)) := h.drop 0
theorem awWait {C : Int → Int → Bool} (h : NS w0 w b F z 2 [] C) : Calls Try.prog 23 #[.pointer (some ⟨b, 0, none⟩)] w fun e w' => e = .returned (.int .i64 0) ∧ w' = w := h.waiting
end
set_option maxRecDepth 100000 in
set_option maxHeartbeats 1000000 in
theorem awake_any (w : World) : Calls Try.prog 8 #[] w fun e w' => e = .returned (.bool true) ∧ Below w.heap.size w w' := by
  have e1 := eq33 1 0 1 0 ⟨#[97]⟩
  have c0 := newN 2 w
  rw [aw1] at c0
  go_enter Try.func8, Try.ntmps8
  go_wp2_with fail
  refine c0.mono ?_
  rintro e w1 ⟨b, F1, rfl, hS1⟩
  obtain ⟨W2, HW2⟩ : ∃ W2, Hid (w1.alloc (.cells #[.int .i64 1, .int .i64 0, .int .i64 1, .int .i64 0, .string ⟨#[97]⟩] 33) = W2) := ⟨_, rfl⟩
  have hS2 : NS w W2 b F1 0 2 [] noC := by rw [← HW2.out]; exact hS1.keep (bel1 w1 _)
  have hX2 : Bx W2 F1 w1.heap.size (.cells #[.int .i64 1, .int .i64 0, .int .i64 1, .int .i64 0, .string ⟨#[97]⟩] 33) := by rw [← HW2.out]; exact Bx.new (fun k hk => (hS1.own k hk).2) _ (heap_alloc_last w1 _)
  clear hS1 c0
  go_upto_region 5 with fail
  rw [HW2.out]
  generalize w1.heap.size = q at *
  clear HW2
  obtain ⟨⟨m0, m1, m2, m3, m4⟩, _⟩ := row5 hX2.r
  go_wp2_with fail
  refine (awSend hS2).mono ?_
  rintro e w3 ⟨F2, rfl, hS3, hC⟩
  have hX3 := hX2.step hC
  clear hC hS2 hX2 m0 m1 m2 m3 m4
  go_wp2_with fail
  refine (awDouble hS3).mono ?_
  rintro e w4 ⟨F3, rfl, hS4, hC⟩
  have hX4 := hX3.step hC
  clear hC hS3 hX3
  go_wp2_with fail
  refine (awFirst hS4).mono ?_
  rintro e w5 ⟨F4, rfl, hS5, hC⟩
  have hX5 := hX4.step hC
  clear hC hS4 hX4
  obtain ⟨W6, HW6⟩ : ∃ W, Hid (w5.alloc (.cells #[.int .i64 1, .int .i64 0, .int .i64 1, .int .i64 0, .string ⟨#[97]⟩] 33) = W) := ⟨_, rfl⟩
  have hb : Below w5.heap.size w5 W6 := by rw [← HW6.out]; exact bel1 w5 _
  have hS6 := hS5.keep hb
  have hX6 := hX5.keep hb
  have hY6 : Bx W6 F4 w5.heap.size (.cells #[.int .i64 1, .int .i64 0, .int .i64 1, .int .i64 0, .string ⟨#[97]⟩] 33) := by rw [← HW6.out]; exact Bx.new (fun k hk => (hS5.own k hk).2) _ (heap_alloc_last w5 _)
  clear hb hS5 hX5
  go_upto_region 7 with fail
  rw [HW6.out]
  generalize w5.heap.size = q5 at *
  clear HW6
  go_wp2_with fail
  refine (awSecond hS6).mono ?_
  rintro e w7 ⟨F6, rfl, hS7, hC⟩
  have hX7 := hX6.step hC
  have hY7 := hY6.step hC
  clear hC hS6 hX6 hY6
  obtain ⟨W8, HW8⟩ : ∃ W, Hid (w7.alloc (.cells #[.int .i64 1, .int .i64 0, .int .i64 1, .int .i64 0, .string ⟨#[97]⟩] 33) = W) := ⟨_, rfl⟩
  have hb : Below w7.heap.size w7 W8 := by rw [← HW8.out]; exact bel1 w7 _
  have hS8 := hS7.keep hb
  have hX8 := hX7.keep hb
  have hY8 := hY7.keep hb
  have hZ8 : Bx W8 F6 w7.heap.size (.cells #[.int .i64 1, .int .i64 0, .int .i64 1, .int .i64 0, .string ⟨#[97]⟩] 33) := by rw [← HW8.out]; exact Bx.new (fun k hk => (hS7.own k hk).2) _ (heap_alloc_last w7 _)
  clear hb hS7 hX7 hY7
  go_upto_region 8 with fail
  rw [HW8.out]
  generalize w7.heap.size = q7 at *
  clear HW8
  go_wp2_with fail
  refine (awThird hS8).mono ?_
  rintro e w9 ⟨F8, rfl, hS9, hC⟩
  have hX9 := hX8.step hC
  have hY9 := hY8.step hC
  have hZ9 := hZ8.step hC
  clear hC hS8 hX8 hY8 hZ8
  obtain ⟨W10, HW10⟩ : ∃ W, Hid (w9.alloc (.cells #[.int .i64 0, .int .i64 0, .int .i64 0, .int .i64 0, .string ⟨#[]⟩] 33) = W) := ⟨_, rfl⟩
  have hb : Below w9.heap.size w9 W10 := by rw [← HW10.out]; exact bel1 w9 _
  have hS10 := hS9.keep hb
  have hX10 := hX9.keep hb
  have hY10 := hY9.keep hb
  have hZ10 := hZ9.keep hb
  clear hb hS9 hX9 hY9 hZ9
  go_upto_region 9 with fail
  rw [HW10.out]
  generalize w9.heap.size = q9 at *
  clear HW10
  obtain ⟨⟨m0, m1, m2, m3, m4⟩, _⟩ := row5 hX10.r
  go_wp2_with fail
  refine (awSend hS10).mono ?_
  rintro e w11 ⟨F10, rfl, hS11, hC⟩
  have hX11 := hX10.step hC
  have hY11 := hY10.step hC
  have hZ11 := hZ10.step hC
  clear hC hS10 hX10 hY10 hZ10 m0 m1 m2 m3 m4
  go_wp2_with fail
  refine (awCut hS11).mono ?_
  rintro e w12 ⟨F11, rfl, hS12, hC⟩
  have hX12 := hX11.step hC
  have hY12 := hY11.step hC
  have hZ12 := hZ11.step hC
  clear hC hS11 hX11 hY11 hZ11
  go_wp2_with fail
  refine (awFourth hS12).mono ?_
  rintro e w13 ⟨F12, rfl, hS13, hC⟩
  have hX13 := hX12.step hC
  have hY13 := hY12.step hC
  have hZ13 := hZ12.step hC
  clear hC hS12 hX12 hY12 hZ12
  obtain ⟨W14, HW14⟩ : ∃ W, Hid (w13.alloc (.cells #[.int .i64 0, .int .i64 0, .int .i64 0, .int .i64 0, .string ⟨#[]⟩] 33) = W) := ⟨_, rfl⟩
  have hb : Below w13.heap.size w13 W14 := by rw [← HW14.out]; exact bel1 w13 _
  have hS14 := hS13.keep hb
  have hX14 := hX13.keep hb
  have hY14 := hY13.keep hb
  have hZ14 := hZ13.keep hb
  clear hb hS13 hX13 hY13 hZ13
  go_upto_region 12 with fail
  rw [HW14.out]
  generalize w13.heap.size = q13 at *
  clear HW14
  obtain ⟨⟨m0, m1, m2, m3, m4⟩, _⟩ := row5 hX14.r
  obtain ⟨⟨y0, y1, y2, y3, y4⟩, _⟩ := row5 hY14.r
  obtain ⟨⟨z0, z1, z2, z3, z4⟩, _⟩ := row5 hZ14.r
  clear hX14 hY14 hZ14
  go_wp2_with fail
  refine (awWait hS14).mono ?_
  rintro e w' ⟨rfl, rfl⟩
  clear m0 m1 m2 m3 m4 y0 y1 y2 y3 y4 z0 z1 z2 z3 z4 e1
  go_wp2_with fail
  refine (awNot hS14).mono ?_
  rintro e wa ⟨Fa, rfl, hSa, _⟩
  go_wp2_with fail
  refine (awDrop hSa).mono ?_
  rintro e wb ⟨Fb, rfl, hSb, _⟩
  have HB := Hid_of hSb.bel
  clear hSa hSb hS14
  go_wp2
  go_ret
  exact ⟨rfl, HB.out⟩
end Go.Proofs.Ytjbodjjeenjbeaa
