/-
  The law of a message of whose bytes one is spoilt, walked.
-/
import Derived.Test.YtjbodjjeenjbeaaNP
namespace Go.Proofs.Ytjbodjjeenjbeaa
open Go.RowKit
set_option linter.unusedVariables false
open Nt (Pk)

theorem getD_set (l : List UInt8) (K : Nat) (c : UInt8) (h : K < l.length) : Nt.byteAt (l.set K c) K = c := by
  unfold Nt.byteAt
  rw [List.getElem?_set_self h]
  rfl
theorem byteAt_of (l : List UInt8) (K : Nat) (h : K < l.length) : l.set K (Nt.byteAt l K) = l := by
  unfold Nt.byteAt
  rw [List.getElem?_eq_getElem h]
  exact List.set_getElem_self h
theorem lob_u8 (y : UInt8) : Nt.lob (y.toNat : Int) = y := by
  apply UInt8.toNat_inj.1
  have h1 := Nt.lob_nat (y.toNat : Int)
  have h2 := y.toNat_lt
  omega
theorem spl_zero (s : ByteArray) (at' : Int) (h : 0 < s.size) : Nt.spl s at' 0 = s := by
  have hK : Nt.wr at' s.size < s.data.toList.length := by rw [len_data]; exact Nt.wr_lt at' h
  unfold Nt.spl
  have h0 : Nt.lob 0 = 0 := by decide
  rw [h0, UInt8.xor_zero, byteAt_of _ _ hK, ofL_of]
theorem spl_spl (s : ByteArray) (at' by' : Int) (h : 0 < s.size) : Nt.spl (Nt.spl s at' by') at' by' = s := by
  have hK : Nt.wr at' s.size < s.data.toList.length := by rw [len_data]; exact Nt.wr_lt at' h
  have hz := Nt.spl_size s at' by'
  unfold Nt.spl at hz ⊢
  rw [hz, ofL_data, getD_set _ _ _ hK, List.set_set, UInt8.xor_assoc, UInt8.xor_self, UInt8.xor_zero, byteAt_of _ _ hK, ofL_of]
theorem spl_one (l : List UInt8) (at' : Int) (y : UInt8) (hy : y ≠ 0) : Msg.dcode (Nt.spl (ofL (K2.sealed l)) at' (y.toNat : Int)) = 4 := by
  have hs := K2.seal_len l
  have hK : Nt.wr at' (K2.sealed l).length < (K2.sealed l).length := Nt.wr_lt at' (by omega)
  unfold Nt.spl
  rw [lob_u8, ofL_data, ofL_size]
  have hg : (K2.sealed l)[Nt.wr at' (K2.sealed l).length]? = some (Nt.byteAt (K2.sealed l) (Nt.wr at' (K2.sealed l).length)) := by
    unfold Nt.byteAt
    rw [List.getElem?_eq_getElem hK]
    rfl
  exact Msg.byte_dcode l _ _ y hg hy
theorem mc_bad (s : ByteArray) (c : Int) (h : Msg.dcode s = c) (h0 : c ≠ 0) : mc (some s) = #[.int .i64 0, .int .i64 0, .int .i64 0, .int .i64 0, .string ⟨#[]⟩] ∧ Nt.gok (some s) = false := by
  have h1 := dval_no s c h h0
  unfold dval at h1
  simp only [Value.tuple.injEq, Array.mk.injEq, List.cons.injEq, Value.agg.injEq, Value.int.injEq, Value.string.injEq, true_and, and_true] at h1
  obtain ⟨⟨e1, e2, e3, e4, e5⟩, _⟩ := h1
  rw [mc_some, gok_some, e1, e2, e3, e4, e5, h]
  exact ⟨rfl, decide_eq_false h0⟩
theorem mc_back (k f t i : Int) (b : List UInt8) (h : Msg.chk k f t i b.length = 0) : mc (some (ofL (Msg.ecode k f t i b))) = #[.int .i64 k, .int .i64 f, .int .i64 t, .int .i64 i, .string (ofL b)] ∧ Nt.gok (some (ofL (Msg.ecode k f t i b))) = true := by
  obtain ⟨e0, e1, e2, e3, e4, e5⟩ := Msg.back_of k f t i b h
  have he : Msg.ecode k f t i b = K2.sealed (Msg.bts k f t i b) := by unfold Msg.ecode; rw [decide_eq_true h]; rfl
  rw [mc_some, gok_some, he, e0, e1, e2, e3, e4, e5]
  exact ⟨rfl, rfl⟩
/-- Two nets, apart. -/
structure N2 (w0 w : World) (N : Int) (a : Nat) (F : Nat → Prop) (La : List Pk) (b : Nat) (G : Nat → Prop) (Lb : List Pk) : Prop where
  x : NS w0 w a F 0 N La noC
  y : NS w0 w b G 0 N Lb noC
  d : ∀ k, F k → ¬ G k
section
variable {w0 w w' : World} {N : Int} {a b : Nat} {F F' G G' : Nat → Prop} {La La' Lb Lb' : List Pk}
theorem N2.keep (h : N2 w0 w N a F La b G Lb) (hb : Below w.heap.size w w') : N2 w0 w' N a F La b G Lb := ⟨h.x.keep hb, h.y.keep hb, h.d⟩
theorem N2.stepX (h : N2 w0 w N a F La b G Lb) (hS : NS w0 w' a F' 0 N La' noC) (hC : Ch w F w' F') : N2 w0 w' N a F' La' b G Lb :=
  ⟨hS, h.y.keepBut (fun k hk hG => hC.block k hk (fun hF => h.d k hF hG)) hS.bel, fun k hk hG => by
    rcases hC.n k hk with h' | h'
    · exact h.d k h' hG
    · have := (h.y.own k hG).2; omega⟩
theorem N2.stepY (h : N2 w0 w N a F La b G Lb) (hS : NS w0 w' b G' 0 N Lb' noC) (hC : Ch w G w' G') : N2 w0 w' N a F La b G' Lb' :=
  ⟨h.x.keepBut (fun k hk hF => hC.block k hk (fun hG => h.d k hF hG)) hS.bel, hS, fun k hk hG => by
    rcases hC.n k hG with h' | h'
    · exact h.d k hk h'
    · have := (h.x.own k hk).2; omega⟩
/-- A block beside two nets. -/
theorem Bx.stepX {q : Nat} {o : Obj} (h : Bx w (fun k => F k ∨ G k) q o) (hC : Ch w F w' F') : Bx w' (fun k => F' k ∨ G k) q o := ⟨(hC.block q h.lt (fun e => h.o (.inl e))).trans h.r, fun e => by
  rcases e with e | e
  · exact hC.keepsOut (fun e => h.o (.inl e)) h.lt e
  · exact h.o (.inr e)⟩
theorem Bx.stepY {q : Nat} {o : Obj} (h : Bx w (fun k => F k ∨ G k) q o) (hC : Ch w G w' G') : Bx w' (fun k => F k ∨ G' k) q o := ⟨(hC.block q h.lt (fun e => h.o (.inr e))).trans h.r, fun e => by
  rcases e with e | e
  · exact h.o (.inl e)
  · exact hC.keepsOut (fun e => h.o (.inr e)) h.lt e⟩
end
theorem lim64 : Nt.lim 64 = 64 := by decide
theorem one_spo (p : Pk) (at' by' : Int) : Nt.spo [p] 0 at' by' = [⟨p.a, p.b, Nt.spl p.s at' by'⟩] := rfl
theorem one_out (p : Pk) : Nt.out [p] noC 0 = some p.s ∧ Nt.drp [p] 0 = [] := ⟨rfl, rfl⟩
section
variable {w0 w : World} {b : Nat} {F : Nat → Prop} {z : Nat}
theorem sendOne (h : NS w0 w b F z 64 [] noC) (k f t i : Int) (bd : List UInt8) (hb : bd.length ≤ maxLen) (r : Bool) (hr : Nt.may 64 [] k f t i bd = r) : Calls Try.prog 12 #[.pointer (some ⟨b, 0, none⟩), .agg #[.int .i64 k, .int .i64 f, .int .i64 t, .int .i64 i, .string (ofL bd)]] w (SOut w0 w b F z 64 (Nt.add r [] ⟨min f t, max f t, ofL (Msg.ecode k f t i bd)⟩) noC (.bool r)) := by
  have := h.send k f t i bd hb
  rw [hr] at this
  exact this
theorem spoilOne {x y : Int} {S : ByteArray} (h : NS w0 w b F z 64 [⟨x, y, S⟩] noC) (at' by' : Int) {T : ByteArray} (hT : Nt.spl S at' by' = T) : Calls Try.prog 20 #[.pointer (some ⟨b, 0, none⟩), .int .i64 0, .int .i64 at', .int .i64 by'] w (SOut w0 w b F z 64 [⟨x, y, T⟩] noC (.bool true)) := by
  have := h.spoil 0 at' by'
  rw [one_spo, hT] at this
  exact this
theorem deliverOne {x y : Int} {S : ByteArray} (h : NS w0 w b F z 64 [⟨x, y, S⟩] noC) {v : Array Value} {r : Bool} (hv : mc (some S) = v ∧ Nt.gok (some S) = r) : Calls Try.prog 14 #[.pointer (some ⟨b, 0, none⟩), .int .i64 0] w (SOut w0 w b F z 64 [] noC (.tuple #[.agg v, .bool r])) := by
  have := h.deliver 0
  rw [(one_out _).1, (one_out _).2, hv.1, hv.2] at this
  exact this
end
set_option maxRecDepth 100000 in
set_option maxHeartbeats 1000000 in
theorem byte_no (k f t i : Int) (bd : List UInt8) (at' : Int) (y : UInt8) (w : World) (hb : bd.length ≤ maxLen) (hr : Nt.may 64 [] k f t i bd = false) :
    Calls Try.prog 5 #[.agg #[.int .i64 k, .int .i64 f, .int .i64 t, .int .i64 i, .string (ofL bd)], .int .i64 at', .int .u8 (y.toNat : Int)] w fun e w' => e = .returned (.bool true) ∧ Below w.heap.size w w' := by
  obtain ⟨W1, HW1⟩ : ∃ W1, Hid (w.alloc (.cells #[.int .i64 k, .int .i64 f, .int .i64 t, .int .i64 i, .string (ofL bd)] 33) = W1) := ⟨_, rfl⟩
  have hB1 : Below w.heap.size w W1 := by rw [← HW1.out]; exact bel1 w _
  have hr1 : W1.heap[w.heap.size]? = some (.cells #[.int .i64 k, .int .i64 f, .int .i64 t, .int .i64 i, .string (ofL bd)] 33 (0, 0)) := by rw [← HW1.out]; exact heap_alloc_last w _
  have c0 := fun W => newN 64 W
  rw [lim64] at c0
  go_enter Try.func5, Try.ntmps5
  go_upto_region 1 with fail
  rw [HW1.out]
  clear HW1
  go_wp2_with fail
  refine (c0 _).mono ?_
  rintro e w2 ⟨a, F, rfl, hX⟩
  have hr2 := bel_row hr1 hX.bel
  have hql : w.heap.size < W1.heap.size := (Array.getElem?_eq_some_iff.1 hr1).1
  have hF : ∀ k, F k → W1.heap.size ≤ k ∧ k < w2.heap.size := hX.own
  clear hr1
  go_wp2_with fail
  refine (c0 _).mono ?_
  rintro e w3 ⟨b, G, rfl, hY⟩
  have hr3 := bel_row hr2 hY.bel
  have hG : ∀ k, G k → w2.heap.size ≤ k ∧ k < w3.heap.size := hY.own
  have hN3 : N2 W1 w3 64 a F [] b G [] := ⟨hX.keep hY.bel, ⟨by obtain ⟨m, v, n, q1, q2, q3⟩ := hY.x; exact ⟨m, v, n, q1, q2, ⟨q3.row, q3.own.low hX.bel.size, q3.mi, q3.ok, q3.nn, q3.ne, ⟨Nat.le_trans hX.bel.size q3.low.1, Nat.le_trans hX.bel.size q3.low.2⟩⟩⟩, bel_up hX.bel hY.bel (Nat.le_refl _)⟩, fun k h1 h2 => by have := hF k h1; have := hG k h2; omega⟩
  have hQ3 : Bx w3 (fun k => F k ∨ G k) w.heap.size (.cells #[.int .i64 k, .int .i64 f, .int .i64 t, .int .i64 i, .string (ofL bd)] 33) := ⟨hr3, fun e => by
    rcases e with e | e
    · have := hF _ e; omega
    · have := hG _ e; have := hX.bel.size; omega⟩
  clear hX hY hr2 hr3 hF hG c0 hql
  obtain ⟨⟨m0, m1, m2, m3, m4⟩, _⟩ := row5 hQ3.r
  go_wp2_with fail
  refine (sendOne hN3.x k f t i bd hb false hr).mono ?_
  rintro e w4 ⟨F4, rfl, hS, hC⟩
  have hB4 := bel_up hB1 hS.bel (Nat.le_refl _)
  clear hS hC hN3 hQ3 m0 m1 m2 m3 m4 hB1
  go_wp2_with fail
  refine (awake_any _).mono ?_
  rintro e w5 ⟨rfl, hb5⟩
  have HB := Hid_of (bel_up hB4 hb5 (Nat.le_refl _))
  clear hb5 hB4
  go_wp2
  go_ret
  exact ⟨rfl, HB.out⟩
set_option maxRecDepth 100000 in
set_option maxHeartbeats 1000000 in
theorem byte_zero (k f t i : Int) (bd : List UInt8) (at' : Int) (y : UInt8) (w : World) (hb : bd.length ≤ maxLen) (hr : Nt.may 64 [] k f t i bd = true) (hy : y = 0) :
    Calls Try.prog 5 #[.agg #[.int .i64 k, .int .i64 f, .int .i64 t, .int .i64 i, .string (ofL bd)], .int .i64 at', .int .u8 (y.toNat : Int)] w fun e w' => e = .returned (.bool true) ∧ Below w.heap.size w w' := by
  have hck : Msg.chk k f t i bd.length = 0 := ((Nt.may_iff _ _ _ _ _ _ _).1 hr).2.2.1
  have hsz := (Nt.sealed_sz k f t i bd hck).1
  have hmb := mc_back k f t i bd hck
  subst hy
  have hT : Nt.spl (ofL (Msg.ecode k f t i bd)) at' 0 = ofL (Msg.ecode k f t i bd) := spl_zero _ at' hsz
  have hT2 := hT
  have hma := hmb
  show Calls Try.prog 5 #[.agg #[.int .i64 k, .int .i64 f, .int .i64 t, .int .i64 i, .string (ofL bd)], .int .i64 at', .int .u8 0] w _
  have e1 := eq33 k f t i (ofL bd)
  obtain ⟨W1, HW1⟩ : ∃ W1, Hid (w.alloc (.cells #[.int .i64 k, .int .i64 f, .int .i64 t, .int .i64 i, .string (ofL bd)] 33) = W1) := ⟨_, rfl⟩
  have hB1 : Below w.heap.size w W1 := by rw [← HW1.out]; exact bel1 w _
  have hr1 : W1.heap[w.heap.size]? = some (.cells #[.int .i64 k, .int .i64 f, .int .i64 t, .int .i64 i, .string (ofL bd)] 33 (0, 0)) := by rw [← HW1.out]; exact heap_alloc_last w _
  have c0 := fun W => newN 64 W
  rw [lim64] at c0
  go_enter Try.func5, Try.ntmps5
  go_upto_region 1 with fail
  rw [HW1.out]
  clear HW1
  go_wp2_with fail
  refine (c0 _).mono ?_
  rintro e w2 ⟨a, F, rfl, hX⟩
  have hr2 := bel_row hr1 hX.bel
  have hql : w.heap.size < W1.heap.size := (Array.getElem?_eq_some_iff.1 hr1).1
  have hF : ∀ k, F k → W1.heap.size ≤ k ∧ k < w2.heap.size := hX.own
  clear hr1
  go_wp2_with fail
  refine (c0 _).mono ?_
  rintro e w3 ⟨b, G, rfl, hY⟩
  have hr3 := bel_row hr2 hY.bel
  have hG : ∀ k, G k → w2.heap.size ≤ k ∧ k < w3.heap.size := hY.own
  have hN3 : N2 W1 w3 64 a F [] b G [] := ⟨hX.keep hY.bel, ⟨by obtain ⟨m, v, n, q1, q2, q3⟩ := hY.x; exact ⟨m, v, n, q1, q2, ⟨q3.row, q3.own.low hX.bel.size, q3.mi, q3.ok, q3.nn, q3.ne, ⟨Nat.le_trans hX.bel.size q3.low.1, Nat.le_trans hX.bel.size q3.low.2⟩⟩⟩, bel_up hX.bel hY.bel (Nat.le_refl _)⟩, fun k h1 h2 => by have := hF k h1; have := hG k h2; omega⟩
  have hQ3 : Bx w3 (fun k => F k ∨ G k) w.heap.size (.cells #[.int .i64 k, .int .i64 f, .int .i64 t, .int .i64 i, .string (ofL bd)] 33) := ⟨hr3, fun e => by
    rcases e with e | e
    · have := hF _ e; omega
    · have := hG _ e; have := hX.bel.size; omega⟩
  clear hX hY hr2 hr3 hF hG c0 hql
  obtain ⟨⟨m0, m1, m2, m3, m4⟩, _⟩ := row5 hQ3.r
  generalize hSS : ofL (Msg.ecode k f t i bd) = S at *
  go_wp2_with fail
  refine (sendOne hN3.x k f t i bd hb true hr).mono ?_
  rintro e w4 ⟨F4, rfl, hS, hC⟩
  have hN4 := hN3.stepX hS hC
  have hQ4 := hQ3.stepX hC
  clear hS hC hN3 hQ3 m0 m1 m2 m3 m4
  obtain ⟨⟨m0, m1, m2, m3, m4⟩, _⟩ := row5 hQ4.r
  go_wp2_with fail
  refine (sendOne hN4.y k f t i bd hb true hr).mono ?_
  rintro e w5 ⟨G5, rfl, hS, hC⟩
  have hN5 := hN4.stepY hS hC
  have hQ5 := hQ4.stepY hC
  clear hS hC hN4 hQ4 m0 m1 m2 m3 m4
  rw [hSS] at hN5
  go_wp2_with fail
  refine (spoilOne hN5.x at' 0 hT).mono ?_
  rintro e w6 ⟨F6, rfl, hS, hC⟩
  have hN6 := hN5.stepX hS hC
  have hQ6 := hQ5.stepX hC
  clear hS hC hN5 hQ5
  go_wp2_with fail
  refine (spoilOne hN6.y at' 0 hT).mono ?_
  rintro e w7 ⟨G7, rfl, hS, hC⟩
  have hN7 := hN6.stepY hS hC
  have hQ7 := hQ6.stepY hC
  clear hS hC hN6 hQ6
  go_wp2_with fail
  refine (spoilOne hN7.y at' 0 hT2).mono ?_
  rintro e w8 ⟨G8, rfl, hS, hC⟩
  have hN8 := hN7.stepY hS hC
  have hQ8 := hQ7.stepY hC
  clear hS hC hN7 hQ7
  go_wp2_with fail
  refine (deliverOne hN8.x hma).mono ?_
  rintro e w9 ⟨F9, rfl, hS, hC⟩
  have hN9 := hN8.stepX hS hC
  have hQ9 := hQ8.stepX hC
  clear hS hC hN8 hQ8
  obtain ⟨W10, HW10⟩ : ∃ W, Hid (w9.alloc (.cells #[.int .i64 k, .int .i64 f, .int .i64 t, .int .i64 i, .string (ofL bd)] 33) = W) := ⟨_, rfl⟩
  have hb10 : Below w9.heap.size w9 W10 := by rw [← HW10.out]; exact bel1 w9 _
  have hN10 := hN9.keep hb10
  have hQ10 := hQ9.keep hb10
  have hZ10 : Bx W10 (fun k => F9 k ∨ G8 k) w9.heap.size (.cells #[.int .i64 k, .int .i64 f, .int .i64 t, .int .i64 i, .string (ofL bd)] 33) := by
    rw [← HW10.out]
    exact Bx.new (fun k hk => by
      rcases hk with hk | hk
      · exact (hN9.x.own k hk).2
      · exact (hN9.y.own k hk).2) _ (heap_alloc_last w9 _)
  clear hb10 hN9 hQ9
  go_upto_region 8 with fail
  rw [HW10.out]
  clear HW10
  generalize w9.heap.size = q9 at *
  go_wp2_with fail
  refine (deliverOne hN10.y hmb).mono ?_
  rintro e w11 ⟨G11, rfl, hS, hC⟩
  have hN11 := hN10.stepY hS hC
  have hQ11 := hQ10.stepY hC
  have hZ11 := hZ10.stepY hC
  clear hS hC hN10 hQ10 hZ10
  obtain ⟨W12, HW12⟩ : ∃ W, Hid (w11.alloc (.cells #[.int .i64 k, .int .i64 f, .int .i64 t, .int .i64 i, .string (ofL bd)] 33) = W) := ⟨_, rfl⟩
  have hb12 : Below w11.heap.size w11 W12 := by rw [← HW12.out]; exact bel1 w11 _
  have hN12 := hN11.keep hb12
  have hQ12 := hQ11.keep hb12
  have hZ12 := hZ11.keep hb12
  have hU12 : W12.heap[w11.heap.size]? = some (.cells #[.int .i64 k, .int .i64 f, .int .i64 t, .int .i64 i, .string (ofL bd)] 33 (0, 0)) := by rw [← HW12.out]; exact heap_alloc_last w11 _
  clear hb12 hN11 hQ11 hZ11
  go_upto_region 9 with fail
  rw [HW12.out]
  clear HW12
  generalize w11.heap.size = q11 at *
  obtain ⟨⟨m0, m1, m2, m3, m4⟩, _⟩ := row5 hQ12.r
  obtain ⟨⟨z0, z1, z2, z3, z4⟩, _⟩ := row5 hZ12.r
  obtain ⟨⟨u0, u1, u2, u3, u4⟩, _⟩ := row5 hU12
  have hB12 := bel_up hB1 hN12.x.bel (Nat.le_refl _)
  clear hQ12 hZ12 hU12 hN12 hB1
  go_wp2_with fail
  refine (awake_any _).mono ?_
  rintro e w13 ⟨rfl, hb13⟩
  have HB := Hid_of (bel_up hB12 hb13 (Nat.le_refl _))
  clear hb13 hB12 m0 m1 m2 m3 m4 z0 z1 z2 z3 z4 u0 u1 u2 u3 u4
  go_wp2
  go_ret
  exact ⟨rfl, HB.out⟩
set_option maxRecDepth 100000 in
set_option maxHeartbeats 1000000 in
theorem byte_one (k f t i : Int) (bd : List UInt8) (at' : Int) (y : UInt8) (w : World) (hb : bd.length ≤ maxLen) (hr : Nt.may 64 [] k f t i bd = true) (hy : y ≠ 0) :
    Calls Try.prog 5 #[.agg #[.int .i64 k, .int .i64 f, .int .i64 t, .int .i64 i, .string (ofL bd)], .int .i64 at', .int .u8 (y.toNat : Int)] w fun e w' => e = .returned (.bool true) ∧ Below w.heap.size w w' := by
  have hck : Msg.chk k f t i bd.length = 0 := ((Nt.may_iff _ _ _ _ _ _ _).1 hr).2.2.1
  have hsz := (Nt.sealed_sz k f t i bd hck).1
  have hmb := mc_back k f t i bd hck
  have hec : Msg.ecode k f t i bd = K2.sealed (Msg.bts k f t i bd) := by unfold Msg.ecode; rw [decide_eq_true hck]; rfl
  obtain ⟨T, hT⟩ : ∃ T, Nt.spl (ofL (Msg.ecode k f t i bd)) at' (y.toNat : Int) = T := ⟨_, rfl⟩
  have hT2 : Nt.spl T at' (y.toNat : Int) = ofL (Msg.ecode k f t i bd) := by rw [← hT]; exact spl_spl _ at' _ hsz
  have hma := mc_bad T 4 (by rw [← hT, hec]; exact spl_one _ at' y hy) (by decide)
  have hy0 : y.toNat ≠ 0 := fun h => hy (by apply UInt8.toNat_inj.1; simpa using h)
  have d1 : ((y.toNat : Int) == 0) = false := by simpa using hy0
  have d2 : ((y.toNat : Int) = 0) = False := by simpa using hy0
  have hyl := y.toNat_lt
  have dw : IntKind.i64.wrap (y.toNat : Int) = (y.toNat : Int) := by rw [IntKind.wrap_i64]; omega
  have e0 := eq33 0 0 0 0 ⟨#[]⟩
  clear hec hy hy0
  generalize (y.toNat : Int) = yy at *
  have e1 := eq33 k f t i (ofL bd)
  obtain ⟨W1, HW1⟩ : ∃ W1, Hid (w.alloc (.cells #[.int .i64 k, .int .i64 f, .int .i64 t, .int .i64 i, .string (ofL bd)] 33) = W1) := ⟨_, rfl⟩
  have hB1 : Below w.heap.size w W1 := by rw [← HW1.out]; exact bel1 w _
  have hr1 : W1.heap[w.heap.size]? = some (.cells #[.int .i64 k, .int .i64 f, .int .i64 t, .int .i64 i, .string (ofL bd)] 33 (0, 0)) := by rw [← HW1.out]; exact heap_alloc_last w _
  have c0 := fun W => newN 64 W
  rw [lim64] at c0
  go_enter Try.func5, Try.ntmps5
  go_upto_region 1 with fail
  rw [HW1.out]
  clear HW1
  go_wp2_with fail
  refine (c0 _).mono ?_
  rintro e w2 ⟨a, F, rfl, hX⟩
  have hr2 := bel_row hr1 hX.bel
  have hql : w.heap.size < W1.heap.size := (Array.getElem?_eq_some_iff.1 hr1).1
  have hF : ∀ k, F k → W1.heap.size ≤ k ∧ k < w2.heap.size := hX.own
  clear hr1
  go_wp2_with fail
  refine (c0 _).mono ?_
  rintro e w3 ⟨b, G, rfl, hY⟩
  have hr3 := bel_row hr2 hY.bel
  have hG : ∀ k, G k → w2.heap.size ≤ k ∧ k < w3.heap.size := hY.own
  have hN3 : N2 W1 w3 64 a F [] b G [] := ⟨hX.keep hY.bel, ⟨by obtain ⟨m, v, n, q1, q2, q3⟩ := hY.x; exact ⟨m, v, n, q1, q2, ⟨q3.row, q3.own.low hX.bel.size, q3.mi, q3.ok, q3.nn, q3.ne, ⟨Nat.le_trans hX.bel.size q3.low.1, Nat.le_trans hX.bel.size q3.low.2⟩⟩⟩, bel_up hX.bel hY.bel (Nat.le_refl _)⟩, fun k h1 h2 => by have := hF k h1; have := hG k h2; omega⟩
  have hQ3 : Bx w3 (fun k => F k ∨ G k) w.heap.size (.cells #[.int .i64 k, .int .i64 f, .int .i64 t, .int .i64 i, .string (ofL bd)] 33) := ⟨hr3, fun e => by
    rcases e with e | e
    · have := hF _ e; omega
    · have := hG _ e; have := hX.bel.size; omega⟩
  clear hX hY hr2 hr3 hF hG c0 hql
  obtain ⟨⟨m0, m1, m2, m3, m4⟩, _⟩ := row5 hQ3.r
  generalize hSS : ofL (Msg.ecode k f t i bd) = S at *
  go_wp2_with fail
  refine (sendOne hN3.x k f t i bd hb true hr).mono ?_
  rintro e w4 ⟨F4, rfl, hS, hC⟩
  have hN4 := hN3.stepX hS hC
  have hQ4 := hQ3.stepX hC
  clear hS hC hN3 hQ3 m0 m1 m2 m3 m4
  obtain ⟨⟨m0, m1, m2, m3, m4⟩, _⟩ := row5 hQ4.r
  go_wp2_with fail
  refine (sendOne hN4.y k f t i bd hb true hr).mono ?_
  rintro e w5 ⟨G5, rfl, hS, hC⟩
  have hN5 := hN4.stepY hS hC
  have hQ5 := hQ4.stepY hC
  clear hS hC hN4 hQ4 m0 m1 m2 m3 m4
  rw [hSS] at hN5
  go_wp2_with fail
  refine (spoilOne hN5.x at' yy hT).mono ?_
  rintro e w6 ⟨F6, rfl, hS, hC⟩
  have hN6 := hN5.stepX hS hC
  have hQ6 := hQ5.stepX hC
  clear hS hC hN5 hQ5
  go_wp2_with fail
  refine (spoilOne hN6.y at' yy hT).mono ?_
  rintro e w7 ⟨G7, rfl, hS, hC⟩
  have hN7 := hN6.stepY hS hC
  have hQ7 := hQ6.stepY hC
  clear hS hC hN6 hQ6
  go_wp2_with fail
  refine (spoilOne hN7.y at' yy hT2).mono ?_
  rintro e w8 ⟨G8, rfl, hS, hC⟩
  have hN8 := hN7.stepY hS hC
  have hQ8 := hQ7.stepY hC
  clear hS hC hN7 hQ7
  go_wp2_with fail
  refine (deliverOne hN8.x hma).mono ?_
  rintro e w9 ⟨F9, rfl, hS, hC⟩
  have hN9 := hN8.stepX hS hC
  have hQ9 := hQ8.stepX hC
  clear hS hC hN8 hQ8
  obtain ⟨W10, HW10⟩ : ∃ W, Hid (w9.alloc (.cells #[.int .i64 0, .int .i64 0, .int .i64 0, .int .i64 0, .string ⟨#[]⟩] 33) = W) := ⟨_, rfl⟩
  have hb10 : Below w9.heap.size w9 W10 := by rw [← HW10.out]; exact bel1 w9 _
  have hN10 := hN9.keep hb10
  have hQ10 := hQ9.keep hb10
  have hZ10 : Bx W10 (fun k => F9 k ∨ G8 k) w9.heap.size (.cells #[.int .i64 0, .int .i64 0, .int .i64 0, .int .i64 0, .string ⟨#[]⟩] 33) := by
    rw [← HW10.out]
    exact Bx.new (fun k hk => by
      rcases hk with hk | hk
      · exact (hN9.x.own k hk).2
      · exact (hN9.y.own k hk).2) _ (heap_alloc_last w9 _)
  clear hb10 hN9 hQ9
  go_upto_region 8 with fail
  rw [HW10.out]
  clear HW10
  generalize w9.heap.size = q9 at *
  go_wp2_with fail
  refine (deliverOne hN10.y hmb).mono ?_
  rintro e w11 ⟨G11, rfl, hS, hC⟩
  have hN11 := hN10.stepY hS hC
  have hQ11 := hQ10.stepY hC
  have hZ11 := hZ10.stepY hC
  clear hS hC hN10 hQ10 hZ10
  obtain ⟨W12, HW12⟩ : ∃ W, Hid (w11.alloc (.cells #[.int .i64 k, .int .i64 f, .int .i64 t, .int .i64 i, .string (ofL bd)] 33) = W) := ⟨_, rfl⟩
  have hb12 : Below w11.heap.size w11 W12 := by rw [← HW12.out]; exact bel1 w11 _
  have hN12 := hN11.keep hb12
  have hQ12 := hQ11.keep hb12
  have hZ12 := hZ11.keep hb12
  have hU12 : W12.heap[w11.heap.size]? = some (.cells #[.int .i64 k, .int .i64 f, .int .i64 t, .int .i64 i, .string (ofL bd)] 33 (0, 0)) := by rw [← HW12.out]; exact heap_alloc_last w11 _
  clear hb12 hN11 hQ11 hZ11
  go_upto_region 9 with fail
  rw [HW12.out]
  clear HW12
  generalize w11.heap.size = q11 at *
  obtain ⟨⟨m0, m1, m2, m3, m4⟩, _⟩ := row5 hQ12.r
  obtain ⟨⟨z0, z1, z2, z3, z4⟩, _⟩ := row5 hZ12.r
  obtain ⟨⟨u0, u1, u2, u3, u4⟩, _⟩ := row5 hU12
  have hB12 := bel_up hB1 hN12.x.bel (Nat.le_refl _)
  clear hQ12 hZ12 hU12 hN12 hB1
  go_wp2_with fail
  refine (awake_any _).mono ?_
  rintro e w13 ⟨rfl, hb13⟩
  have HB := Hid_of (bel_up hB12 hb13 (Nat.le_refl _))
  clear hb13 hB12 m0 m1 m2 m3 m4 z0 z1 z2 z3 z4 u0 u1 u2 u3 u4
  go_wp2
  go_ret
  exact ⟨rfl, HB.out⟩
theorem byte_walk (k f t i : Int) (bd : List UInt8) (at' : Int) (y : UInt8) (w : World) (hb : bd.length ≤ maxLen) :
    Calls Try.prog 5 #[.agg #[.int .i64 k, .int .i64 f, .int .i64 t, .int .i64 i, .string (ofL bd)], .int .i64 at', .int .u8 (y.toNat : Int)] w fun e w' => e = .returned (.bool true) ∧ Below w.heap.size w w' := by
  cases hr : Nt.may 64 [] k f t i bd with
  | false => exact byte_no k f t i bd at' y w hb hr
  | true =>
    by_cases hy : y = 0
    · exact byte_zero k f t i bd at' y w hb hr hy
    · exact byte_one k f t i bd at' y w hb hr hy
end Go.Proofs.Ytjbodjjeenjbeaa
