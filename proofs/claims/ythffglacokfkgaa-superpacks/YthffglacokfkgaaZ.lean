/-
  A state is written to a device.
-/
import Derived.Test.YthffglacokfkgaaY
namespace Go.Proofs.Ythffglacokfkgaa
open Go.RowKit
open M (ofL ofL_size ofL_of)
set_option linter.unusedVariables false

set_option maxHeartbeats 1000000 in
theorem sread_nil (w : World) : Calls Try.prog 13 #[.pointer none] w fun e w' => e = .returned (.tuple #[.string { data := #[] }, .int .i64 0, .int .i64 1]) ∧ w' = w := by
  go_enter Try.func13, Try.ntmps13
  go_wp2
  go_ret3
  exact ⟨rfl, rfl⟩
/-- The device behind a Write. -/
def nxt (P : List M.Pl) (body : List UInt8) : List M.Pl := M.flush (M.wr P (((rdP P).1 + 1) % 2 * 4) (ofL (Sp.pk body ((rdP P).1 + 1))) 4)
theorem write_code (g : Nat) (b : ByteArray) (P : List M.Pl) (hb : b.size ≤ 244) :
    (ofL (Sp.pk b.data.toList g)).size = 256 ∧ M.wcode 8 false ((g % 2 * 4 : Nat) : Int) (ofL (Sp.pk b.data.toList g)) = 0 ∧ M.wrote 8 false P ((g % 2 * 4 : Nat) : Int) (ofL (Sp.pk b.data.toList g)) = M.wr P (g % 2 * 4) (ofL (Sp.pk b.data.toList g)) 4 := by
  have hs : (ofL (Sp.pk b.data.toList g)).size = 256 := by rw [ofL_size, Sp.pk_len _ _ (by rw [len_data]; exact hb)]
  have hc : M.wcode 8 false ((g % 2 * 4 : Nat) : Int) (ofL (Sp.pk b.data.toList g)) = 0 := by
    unfold M.wcode
    rw [hs]
    rcases Nat.mod_two_eq_zero_or_one g with h | h <;> rw [h] <;> rfl
  refine ⟨hs, hc, ?_⟩
  unfold M.wrote
  rw [hc, hs, Int.toNat_natCast]
  rfl
section
variable {w0 w : World} {b : Nat} {F : Nat → Prop} {P : List M.Pl}
set_option maxRecDepth 100000 in
set_option maxHeartbeats 400000 in
theorem DS.swrite_no (h : DS w0 w b F 8 P false) (body : ByteArray) (hm : body.size ≤ maxLen) (hb : 244 < body.size) :
    Calls Try.prog 11 #[.pointer (some ⟨b, 0, none⟩), .string body] w fun e w' => e = .returned (.int .i64 2) ∧ w' = w := by
  have d3 : decide ((244 : Int) < (body.size : Int)) = true := decide_eq_true (by omega)
  unfold maxLen at hm
  go_enter Try.func11, Try.ntmps11
  go_wp2
  go_ret
  exact ⟨rfl, rfl⟩
set_option maxRecDepth 100000 in
set_option maxHeartbeats 400000 in
theorem DS.swrite (h : DS w0 w b F 8 P false) (body : ByteArray) (hb : body.size ≤ 244) (hg : (rdP P).1 < 2147483647) :
    Calls Try.prog 11 #[.pointer (some ⟨b, 0, none⟩), .string body] w fun e w' => ∃ G, e = .returned (.int .i64 0) ∧ DS w0 w' b G 8 (nxt P body.data.toList) false ∧ Ch w F w' G := by
  have hr := h.sread
  have HN : Hid (nxt P body.data.toList = M.flush (M.wr P (((rdP P).1 + 1) % 2 * 4) (ofL (Sp.pk body.data.toList ((rdP P).1 + 1))) 4)) := rfl
  have hw := write_code ((rdP P).1 + 1) body P hb
  have c1 := fun W => pack_any body (((rdP P).1 + 1 : Nat) : Int) W (by unfold maxLen; omega)
  have ep : pcode body (((rdP P).1 + 1 : Nat) : Int) = 0 ∧ ptext body (((rdP P).1 + 1 : Nat) : Int) = ofL (Sp.pk body.data.toList ((rdP P).1 + 1)) := by
    rcases pcode_cases body (((rdP P).1 + 1 : Nat) : Int) with ⟨h1, e1, e2⟩ | ⟨h1, h2, e1, e2⟩ | ⟨h1, h2, e1, e2⟩
    · omega
    · omega
    · exact ⟨e1, e2⟩
  rw [ep.1, ep.2] at c1
  have c2 := fun W => placeOf_any ((rdP P).1 + 1) (by omega) W
  have hrc : (rdP P).1 = 0 ∧ rcode (rdP P) = 7 ∨ ¬ (rdP P).1 = 0 ∧ rcode (rdP P) = 0 := by
    unfold rcode
    by_cases h0 : (rdP P).1 = 0
    · left; exact ⟨h0, by rw [decide_eq_true h0]; rfl⟩
    · right; exact ⟨h0, by rw [decide_eq_false h0]; rfl⟩
  obtain ⟨hz, hc, he⟩ := hw
  have c3 : ∀ W, Below w.heap.size w W → Calls Try.prog 14 #[.pointer (some ⟨b, 0, none⟩), .int .i64 (((rdP P).1 + 1) % 2 * 4 : Nat), .string (ofL (Sp.pk body.data.toList ((rdP P).1 + 1)))] W fun e w' => ∃ G, e = .returned (.int .i64 0) ∧ DS w0 w' b G 8 (M.wr P (((rdP P).1 + 1) % 2 * 4) (ofL (Sp.pk body.data.toList ((rdP P).1 + 1))) 4) false ∧ Ch w F w' G := by
    intro W hW
    refine ((h.keep hW).write _ _ (by rw [hz]; omega)).mono ?_
    rintro e w' ⟨G, h1, h2, h3⟩
    rw [hc] at h1
    rw [he] at h2
    exact ⟨G, h1, h2, (Ch.ofBelow hW).trans h3⟩
  have HC3 := Hid_of c3
  clear ep h hz hc he c3
  generalize ofL (Sp.pk body.data.toList ((rdP P).1 + 1)) = T at *
  generalize ofL (rdP P).2 = B at *
  generalize rcode (rdP P) = rc at *
  generalize (rdP P).1 = g at *
  have d3 : decide ((244 : Int) < (body.size : Int)) = false := decide_eq_false (by omega)
  have d4 : ((g : Int) == 2147483647) = false := by rw [beq_eq_false_iff_ne]; omega
  rw [show ((g + 1 : Nat) : Int) = (g : Int) + 1 by omega] at c1 c2
  rcases hrc with ⟨-, rfl⟩ | ⟨-, rfl⟩
  all_goals
    go_enter Try.func11, Try.ntmps11
    go_wp2_with fail
    refine hr.mono ?_
    rintro e w1 ⟨rfl, hb1⟩
    have HB1 := Hid_of hb1
    clear hr hb1
    go_wp2_with fail
    refine (c1 _).mono ?_
    rintro e w2 ⟨rfl, hb2⟩
    have HB2 := Hid_of (bel_up HB1.out hb2 (Nat.le_refl _))
    clear c1 hb2 HB1
    go_wp2_with fail
    refine (c2 _).mono ?_
    rintro e w3 ⟨rfl, rfl⟩
    clear c2
    have hc3 := HC3.out _ HB2.out
    rw [show (((g + 1) % 2 * 4 : Nat) : Int) = (((g + 1) % 2 : Nat) : Int) * 4 by omega] at hc3
    clear HC3
    go_wp2_with fail
    refine hc3.mono ?_
    rintro e w4 ⟨G4, rfl, S4, C4⟩
    have hf := S4.flush
    have HC4 := Hid_of C4
    clear hc3 S4 C4 HB2
    go_wp2_with fail
    refine hf.mono ?_
    rintro e w5 ⟨G5, rfl, S5, C5⟩
    have HS5 := Hid_of S5
    have HC5 := Hid_of (HC4.out.trans C5)
    clear hf S5 C5 HC4
    go_wp2
    go_ret
    rw [HN.out]
    exact ⟨G5, rfl, HS5.out, HC5.out⟩
end
end Go.Proofs.Ythffglacokfkgaa
