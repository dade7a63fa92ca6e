/-
  A message is sent; a link is cut, or not.
-/
import Derived.Test.YtjbodjjeenjbeaaNH
namespace Go.Proofs.Ytjbodjjeenjbeaa
open Go.RowKit
set_option linter.unusedVariables false
open Nt (Pk)

section
variable {w : World} {base b m : Nat} {v : Value} {n : Nat} {N : Int} {L : List Pk} {C : Int → Int → Bool}
theorem has_is (h : NI w base b m v n N L C) {a : Int} {r : Bool} (hr : Nt.node N a = r) : Calls Try.prog 26 #[.pointer (some ⟨b, 0, none⟩), .int .i64 a] w fun e w' => e = .returned (.bool r) ∧ w' = w := by rw [← hr]; exact has_any h a
set_option maxRecDepth 100000 in
set_option maxHeartbeats 400000 in
theorem send_any (h : NI w base b m v n N L C) (hbw : base ≤ w.heap.size) (k f t i : Int) (bd : List UInt8) (hb : bd.length ≤ maxLen) :
    Calls Try.prog 12 #[.pointer (some ⟨b, 0, none⟩), .agg #[.int .i64 k, .int .i64 f, .int .i64 t, .int .i64 i, .string (ofL bd)]] w
      (NOut w base b m v n N (Nt.add (Nt.may N L k f t i bd) L ⟨min f t, max f t, ofL (Msg.ecode k f t i bd)⟩) C (.bool (Nt.may N L k f t i bd))) := by
  obtain ⟨W1, HW1⟩ : ∃ W1, Hid (w.alloc (.cells #[.int .i64 k, .int .i64 f, .int .i64 t, .int .i64 i, .string (ofL bd)] 33) = W1) := ⟨_, rfl⟩
  have hB1 : Below w.heap.size w W1 := by rw [← HW1.out]; exact bel1 w _
  have hr1 : W1.heap[w.heap.size]? = some (.cells #[.int .i64 k, .int .i64 f, .int .i64 t, .int .i64 i, .string (ofL bd)] 33 (0, 0)) := by rw [← HW1.out]; exact heap_alloc_last w _
  have h1 := h.keep hB1
  obtain ⟨⟨p0, p1, p2, p3, p4⟩, _⟩ := row5 hr1
  have HNO : Hid (Nt.may N L k f t i bd = false → NOut w base b m v n N (Nt.add (Nt.may N L k f t i bd) L ⟨min f t, max f t, ofL (Msg.ecode k f t i bd)⟩) C (.bool (Nt.may N L k f t i bd)) (.returned (.bool false)) W1) := by
    intro hf
    rw [hf]
    exact ⟨v, rfl, h1, Ch.ofBelow hB1⟩
  cases e1 : Nt.node N f with
  | false =>
    have HK := Hid_of (HNO.out (by unfold Nt.may; rw [e1]; rfl))
    have c1 := has_is h1 e1
    clear h h1 hr1 hB1 HNO e1
    go_enter Try.func12, Try.ntmps12
    go_upto_region 1 with fail
    rw [HW1.out]
    go_wp2_with fail
    refine c1.mono ?_
    rintro e w2 ⟨rfl, rfl⟩
    go_wp2
    go_ret
    exact HK.out
  | true =>
  cases e2 : Nt.node N t with
  | false =>
    have HK := Hid_of (HNO.out (by unfold Nt.may; rw [e1, e2]; rfl))
    have c1 := has_is h1 e1
    have c2 := has_is h1 e2
    clear h h1 hr1 hB1 HNO e1 e2
    go_enter Try.func12, Try.ntmps12
    go_upto_region 1 with fail
    rw [HW1.out]
    go_wp2_with fail
    refine c1.mono ?_
    rintro e w2 ⟨rfl, rfl⟩
    go_wp2_with fail
    refine c2.mono ?_
    rintro e w2 ⟨rfl, rfl⟩
    go_wp2
    go_ret
    exact HK.out
  | true =>
  have c1 := has_is h1 e1
  have c2 := has_is h1 e2
  have c3 := encode_any k f t i bd W1 hb
  by_cases e3 : Msg.chk k f t i bd.length = 0
  · have hmay : Nt.may N L k f t i bd = Nt.room L := by unfold Nt.may Nt.room; rw [e1, e2, decide_eq_true e3]; rfl
    rw [hmay]
    rw [e3] at c3
    have hnn := h.nn
    have hf := (Nt.node_iff _ _).1 e1
    have ht := (Nt.node_iff _ _).1 e2
    have HA : Hid (∀ w4, Below W1.heap.size W1 w4 → Calls Try.prog 28 #[.pointer (some ⟨b, 0, none⟩), .agg #[.int .i64 (min f t), .int .i64 (max f t), .string (ofL (Msg.ecode k f t i bd))]] w4 (NOut w base b m v n N (Nt.add (Nt.room L) L ⟨min f t, max f t, ofL (Msg.ecode k f t i bd)⟩) C (.bool (Nt.room L)))) := by
      intro w4 hb4
      refine (add_any (h1.keep hb4) (by have := hB1.size; have := hb4.size; omega) ⟨min f t, max f t, ofL (Msg.ecode k f t i bd)⟩ (Nt.sealed_sz k f t i bd e3) ?_).mono ?_
      · show (0 ≤ min f t ∧ min f t < 64) ∧ (0 ≤ max f t ∧ max f t < 64)
        omega
      · intro e w' hq
        exact hq.from (bel_up hB1 hb4 (Nat.le_refl _))
    have HR1 := Hid_of hr1
    generalize Nt.add (Nt.room L) L ⟨min f t, max f t, ofL (Msg.ecode k f t i bd)⟩ = LL at *
    generalize ofL (Msg.ecode k f t i bd) = ec at *
    generalize Nt.room L = rm at *
    clear h h1 hr1 hB1 HNO e1 e2 e3 hmay hnn hf ht
    go_enter Try.func12, Try.ntmps12
    go_upto_region 1 with fail
    rw [HW1.out]
    go_wp2_with fail
    refine c1.mono ?_
    rintro e w2 ⟨rfl, rfl⟩
    go_wp2_with fail
    refine c2.mono ?_
    rintro e w2 ⟨rfl, rfl⟩
    clear c1 c2
    go_wp2_with fail
    refine c3.mono ?_
    rintro e w3 ⟨rfl, hb3⟩
    obtain ⟨⟨q0, q1, q2, q3, q4⟩, _⟩ := row5 (bel_row HR1.out hb3)
    have HB3 := Hid_of hb3
    clear hb3 c3 HW1 p0 p1 p2 p3 p4
    go_wp2_with fail
    refine (between_any f t w3).mono ?_
    rintro e w4 ⟨rfl, hb4⟩
    have ca := HA.out w4 (bel_up HB3.out hb4 (Nat.le_refl _))
    unfold kv
    generalize min f t = lo at *
    generalize max f t = hi at *
    clear hb4 HA
    go_wp2_with fail
    refine ca.mono ?_
    intro e w5 hq
    have hr := hq.res
    have HK := Hid_of hq
    subst hr
    clear hq ca
    go_wp2
    go_ret
    exact HK.out
  · have hmay : Nt.may N L k f t i bd = false := by unfold Nt.may; rw [e1, e2, decide_eq_false e3]; rfl
    rw [hmay]
    have HK : Hid (∀ w4, Below W1.heap.size W1 w4 → NOut w base b m v n N (Nt.add false L ⟨min f t, max f t, ofL (Msg.ecode k f t i bd)⟩) C (.bool false) (.returned (.bool false)) w4) := fun w4 hb4 => ⟨v, rfl, h1.keep hb4, Ch.ofBelow (bel_up hB1 hb4 (Nat.le_refl _))⟩
    have d3 : (Msg.chk k f t i bd.length == 0) = false := by simpa using e3
    generalize Nt.add false L ⟨min f t, max f t, ofL (Msg.ecode k f t i bd)⟩ = LL at *
    generalize ofL (Msg.ecode k f t i bd) = ec at *
    generalize Msg.chk k f t i bd.length = ck at *
    have d4 : (ck = 0) = False := by simpa using e3
    clear h h1 hr1 hB1 HNO e1 e2 e3 hmay
    go_enter Try.func12, Try.ntmps12
    go_upto_region 1 with fail
    rw [HW1.out]
    go_wp2_with fail
    refine c1.mono ?_
    rintro e w2 ⟨rfl, rfl⟩
    go_wp2_with fail
    refine c2.mono ?_
    rintro e w2 ⟨rfl, rfl⟩
    clear c1 c2
    go_wp2_with fail
    refine c3.mono ?_
    rintro e w3 ⟨rfl, hb3⟩
    have HQ := Hid_of (HK.out w3 hb3)
    clear hb3 c3 HW1 p0 p1 p2 p3 p4 HK
    go_wp2
    go_ret
    exact HQ.out
/-- The map of links has turned. -/
theorem NI.turn {w' : World} {n' : Nat} {C' : Int → Int → Bool} (h : NI w base b m v n N L C) (hm : MI w' m n' C') (ht : MT w m w') : NI w' base b m v n' N L C' ∧ Ch w (fp b m v) w' (fp b m v) := by
  have hbm := h.bm
  refine ⟨⟨(ht.block b hbm).trans h.row, h.own.keepBut (fun k _ e => ht.block k (fun e' => h.ne.2 (by rw [← e']; exact e))), hm, h.ok, h.nn, h.ne, h.low⟩, ⟨ht.os, ht.tape, ht.output, by rw [ht.size]; exact Nat.le_refl _, fun k _ hF => ht.block k (fun e => hF (.inr (.inl e))), fun k hk => .inl hk⟩⟩
/-- What Cut makes of the links. -/
def cutN (C : Int → Int → Bool) (N x y : Int) (on : Bool) : Int → Int → Bool := bif Nt.node N x && Nt.node N y then Nt.cutC C (min x y) (max x y) on else C
set_option maxRecDepth 100000 in
set_option maxHeartbeats 400000 in
theorem cut_any (h : NI w base b m v n N L C) (hn : n < 1000000) (x y : Int) (on : Bool) :
    Calls Try.prog 22 #[.pointer (some ⟨b, 0, none⟩), .int .i64 x, .int .i64 y, .bool on] w fun e w' => ∃ n', n' ≤ n + 1 ∧ e = .returned (.bool (Nt.node N x && Nt.node N y)) ∧ NI w' base b m v n' N L (cutN C N x y on) ∧ Ch w (fp b m v) w' (fp b m v) := by
  have HNO : Hid ((Nt.node N x && Nt.node N y) = false → ∃ n', n' ≤ n + 1 ∧ Ending.returned (.bool false) = .returned (.bool (Nt.node N x && Nt.node N y)) ∧ NI w base b m v n' N L (cutN C N x y on) ∧ Ch w (fp b m v) w (fp b m v)) := by
    intro hf
    unfold cutN
    rw [hf]
    exact ⟨n, by omega, rfl, h, Ch.refl _ _⟩
  cases e1 : Nt.node N x with
  | false =>
    have HK := Hid_of (HNO.out (by rw [e1]; rfl))
    rw [e1] at HK
    have c1 := has_is h e1
    clear h HNO e1
    go_enter Try.func22, Try.ntmps22
    go_wp2_with fail
    refine c1.mono ?_
    rintro e w2 ⟨rfl, rfl⟩
    go_wp2
    go_ret
    exact HK.out
  | true =>
  cases e2 : Nt.node N y with
  | false =>
    have HK := Hid_of (HNO.out (by rw [e1, e2]; rfl))
    rw [e1, e2] at HK
    have c1 := has_is h e1
    have c2 := has_is h e2
    clear h HNO e1 e2
    go_enter Try.func22, Try.ntmps22
    go_wp2_with fail
    refine c1.mono ?_
    rintro e w2 ⟨rfl, rfl⟩
    go_wp2_with fail
    refine c2.mono ?_
    rintro e w2 ⟨rfl, rfl⟩
    go_wp2
    go_ret
    exact HK.out
  | true =>
  have c1 := has_is h e1
  have c2 := has_is h e2
  have hnn := h.nn
  have hf := (Nt.node_iff _ _).1 e1
  have ht := (Nt.node_iff _ _).1 e2
  have hx : Wf (min x y) := ⟨by omega, by omega⟩
  have hy : Wf (max x y) := ⟨by omega, by omega⟩
  have hcN : cutN C N x y on = Nt.cutC C (min x y) (max x y) on := by unfold cutN; rw [e1, e2]; rfl
  rw [hcN]
  have HC : Hid (∀ w1, Below w.drew.heap.size w.drew w1 → NI w1 base b m v n N L C ∧ Ch w (fp b m v) w1 (fp b m v)) := by
    intro w1 hb1
    have hB : Below w.heap.size w w1 := Below.trans ((Below.refl _ _).drew) hb1
    exact ⟨h.keep hB, Ch.ofBelow hB⟩
  obtain ⟨⟨c0, c4, c5⟩, _⟩ := h.cells
  cases on with
  | true =>
    have HP : Hid (∀ w1, Below w.drew.heap.size w.drew w1 → w1.cell? ⟨b, 2, none⟩ = some (.map (some m)) ∧ ∃ w2, (Instr.mapUpdate 58 (.map (some m)) (.agg #[.int .i64 (min x y), .int .i64 (max x y)]) (.agg #[])).run Try.prog w1 = .ok () w2 ∧ ∃ n', n' ≤ n + 1 ∧ Ending.returned (.bool true) = .returned (.bool (true && true)) ∧ NI w2 base b m v n' N L (Nt.cutC C (min x y) (max x y) true) ∧ Ch w (fp b m v) w2 (fp b m v)) := by
      intro w1 hb1
      obtain ⟨k1, k2⟩ := HC.out w1 hb1
      obtain ⟨w2, hrun, hmi, hmt⟩ := k1.mi.put hx hy (by unfold maxLen; omega)
      obtain ⟨j1, j2⟩ := k1.turn hmi hmt
      exact ⟨k1.cells.1.2.2, w2, hrun, n + 1, Nat.le_refl _, rfl, j1, k2.trans j2⟩
    clear h HC HNO hcN hx hy hf ht hnn e1 e2
    have cb := fun W => between_any x y W
    unfold kv at cb
    generalize min x y = lo at *
    generalize max x y = hi at *
    go_enter Try.func22, Try.ntmps22
    go_wp2_with fail
    refine c1.mono ?_
    rintro e w2 ⟨rfl, rfl⟩
    go_wp2_with fail
    refine c2.mono ?_
    rintro e w2 ⟨rfl, rfl⟩
    clear c1 c2
    go_wp2_with fail
    go_region_with (go_at_call 29; refine (cb _).mono ?_; rintro e w1 ⟨rfl, hb1⟩; obtain ⟨cc, w2, hrun, hq⟩ := HP.out w1 hb1; have HQ := Hid_of hq; clear hq hb1)
    all_goals
      go_wp2
      go_ret
      exact HQ.out
  | false =>
    have HP : Hid (∀ w1, Below w.drew.heap.size w.drew w1 → w1.cell? ⟨b, 2, none⟩ = some (.map (some m)) ∧ ∃ w2, (Builtin.delete_ #[58, 70] 0 #[.map (some m), .agg #[.int .i64 (min x y), .int .i64 (max x y)]]).run Try.prog w1 = .ok (.tuple #[]) w2 ∧ ∃ n', n' ≤ n + 1 ∧ Ending.returned (.bool true) = .returned (.bool (true && true)) ∧ NI w2 base b m v n' N L (Nt.cutC C (min x y) (max x y) false) ∧ Ch w (fp b m v) w2 (fp b m v)) := by
      intro w1 hb1
      obtain ⟨k1, k2⟩ := HC.out w1 hb1
      obtain ⟨w2, hrun, hmi, hmt⟩ := k1.mi.del hx hy 0
      obtain ⟨j1, j2⟩ := k1.turn hmi hmt
      exact ⟨k1.cells.1.2.2, w2, hrun, n, by omega, rfl, j1, k2.trans j2⟩
    clear h HC HNO hcN hx hy hf ht hnn e1 e2
    have cb := fun W => between_any x y W
    unfold kv at cb
    generalize min x y = lo at *
    generalize max x y = hi at *
    go_enter Try.func22, Try.ntmps22
    go_wp2_with fail
    refine c1.mono ?_
    rintro e w2 ⟨rfl, rfl⟩
    go_wp2_with fail
    refine c2.mono ?_
    rintro e w2 ⟨rfl, rfl⟩
    clear c1 c2
    go_wp2_with fail
    go_region_with (go_at_call 29; refine (cb _).mono ?_; rintro e w1 ⟨rfl, hb1⟩; obtain ⟨cc, w2, hrun, hq⟩ := HP.out w1 hb1; have HQ := Hid_of hq; clear hq hb1)
    all_goals
      go_wp2
      go_ret
      exact HQ.out
end
end Go.Proofs.Ytjbodjjeenjbeaa
