/-
  Get, and how many slots are free.
-/
import Derived.Test.YticjilpomdahbaaFP
namespace Go.Proofs.Yticjilpomdahbaa
open Go.RowKit
open M (ofL ofL_size ofL_of)
set_option linter.unusedVariables false

theorem read_in (n a k : Nat) (P : List M.Pl) (hk : 1 ≤ k) (ha : a + k ≤ n) : M.refused n false (a : Int) (k : Int) = 0 ∧ M.rtext n false P (a : Int) (k : Int) = Fr.tx P a k := by
  have h0 : M.refused n false (a : Int) (k : Int) = 0 := by
    unfold M.refused
    rw [decide_eq_false (show ¬ (a : Int) < 0 by omega), decide_eq_false (show ¬ ((k : Nat) : Int) < 1 by omega), decide_eq_false (show ¬ (a : Int) > n - (k : Nat) by omega)]
    rfl
  refine ⟨h0, ?_⟩
  unfold M.rtext
  rw [h0, Int.toNat_natCast, Int.toNat_natCast]
  rfl
set_option maxRecDepth 100000 in
set_option maxHeartbeats 400000 in
theorem get_no {w : World} {b s d : Nat} {L : List Fr.Sl} {cut : Bool} {p q : Int} (h : FO w b s d L cut) (hr : Fst L (Fr.isAt p q) (-1)) :
    Calls Try.prog 4 #[.pointer (some ⟨b, 0, none⟩), .agg #[.int .i64 p, .int .i64 q]] w fun e w' => e = .returned (.tuple #[.string { data := #[] }, .int .i64 7]) ∧ Below w.heap.size w w' := by
  have hB := bel1 w (.cells #[.int .i64 p, .int .i64 q] 23)
  have hc := find_no (h.keep hB) hr
  have HB := Hid_of hB
  clear h hr hB
  go_enter Try.func4, Try.ntmps4
  go_wp2_with fail
  refine hc.mono ?_
  rintro e w1 ⟨rfl, hb⟩
  have HB1 := Hid_of (bel_up HB.out hb (Nat.le_refl _))
  clear hc hb
  go_wp2
  go_ret2
  exact ⟨rfl, HB1.out⟩
set_option maxRecDepth 100000 in
set_option maxHeartbeats 400000 in
theorem get_yes {w0 w : World} {b s d : Nat} {F : Nat → Prop} {n : Nat} {P : List M.Pl} {L : List Fr.Sl} {p q : Int} {i a c : Nat} {t : ByteArray} (h : Sto w0 w b s d F n P L false) (hr : Fst L (Fr.isAt p q) i) (hi : L[i]? = some (some ((a, c), t))) (hin : 9 * i + 9 ≤ n) (ht : t.size ≤ 512) (hx : Fr.tx P (9 * i + 1) 8 = Fr.bb t) :
    Calls Try.prog 4 #[.pointer (some ⟨b, 0, none⟩), .agg #[.int .i64 p, .int .i64 q]] w fun e w' => e = .returned (.tuple #[.string t, .int .i64 0]) ∧ Below w.heap.size w w' := by
  have hB := bel1 w (.cells #[.int .i64 p, .int .i64 q] 23)
  have hlt := lt_of_some hi
  have hle := h.o.len
  have hc := find_yes (h.o.keep hB) hr hlt
  have HB := Hid_of hB
  have HH := Hid_of h
  have HI := Hid_of hi
  obtain ⟨e1, e2⟩ := read_in n (9 * i + 1) 8 P (by omega) (by omega)
  have HE : Hid (M.refused n false ((9 * i + 1 : Nat) : Int) 8 = 0 ∧ M.rtext n false P ((9 * i + 1 : Nat) : Int) 8 = Fr.bb t) := ⟨e1, e2.trans hx⟩
  have hbs : (Fr.bb t).size = 512 := Fr.bb_size t ht
  have HCUT : Hid ((Fr.bb t).extract 0 t.size = t) := Fr.bb_cut t
  clear h hr hB hi e1 e2 hx
  go_enter Try.func4, Try.ntmps4
  go_wp2_with fail
  refine hc.mono ?_
  rintro e w1 ⟨rfl, hb⟩
  have HB1 := Hid_of (bel_up HB.out hb (Nat.le_refl _))
  clear hc hb HB
  have HS1 := Hid_of (HH.out.keep HB1.out)
  have HS1d := Hid_of (HS1.out.keep (Below.drew (Below.refl w1.heap.size w1)))
  have S0 : w1.drew.cell? ⟨b, 0, none⟩ = some (.pointer (some ⟨d, 0, none⟩)) := HS1d.out.row.1
  have HRD : Hid (∀ W, Below w1.heap.size w1 W → Calls Try.prog 12 #[.pointer (some ⟨d, 0, none⟩), .int .i64 ((9 * i + 1 : Nat) : Int), .int .i64 8] W fun e w' => e = .returned (.tuple #[.string (Fr.bb t), .int .i64 0]) ∧ Below W.heap.size W w') := fun W hW => by
    have := (HS1.out.keep hW).dev.read ((9 * i + 1 : Nat) : Int) 8 (by omega)
    rw [HE.out.1, HE.out.2] at this
    exact this.mono fun e w' h => ⟨h.1, h.2.1⟩
  have hrd := HRD.out _ (Below.drew (Below.refl w1.heap.size w1))
  have c26 := bodyAt_any i (by omega) w1.drew
  go_wp2_with fail
  go_region_held3 (fun wq => wq.cell? ⟨b, 0, none⟩ = some (.pointer (some ⟨d, 0, none⟩))) (first | assumption) (first | (go_at_call 13; refine c26.mono ?_; rintro e w2 ⟨rfl, rfl⟩; clear c26) | (go_at_call 12; refine hrd.mono ?_; rintro e w3 ⟨rfl, hb3⟩; have HB3 := Hid_of ((Below.drew (Below.refl w1.heap.size w1)).trans hb3); have S3 : w3.cell? ⟨b, 0, none⟩ = some (.pointer (some ⟨d, 0, none⟩)) := (HS1.out.keep HB3.out).row.1; clear hrd hb3))
  have hS3 := HS1.out.keep HB3.out
  obtain ⟨x0, x1, x2⟩ := hS3.row
  obtain ⟨y0, y1, y2, y3⟩ := hS3.o.sl.some HI.out
  have HB4 := Hid_of (bel_up HB1.out HB3.out (Nat.le_refl _))
  clear hS3 HS1 HS1d S0 S3 HRD HB1 HB3
  have p1 : (t.size : Int) ≤ ((Fr.bb t).size : Int) := by omega
  have p2 : (0 : Int) ≤ (t.size : Int) := by omega
  have hcl := clone_any t
  go_wp2_with fail
  rw [HCUT.out]
  refine (hcl _ (by omega)).mono ?_
  rintro e w4 ⟨rfl, hb⟩
  have HB5 := Hid_of (bel_up HB4.out hb (Nat.le_refl _))
  clear hcl hb
  go_wp2
  go_ret2
  exact ⟨rfl, HB5.out⟩
theorem fre_step (L : List Fr.Sl) (k : Nat) (x : Fr.Sl) (h : L[k]? = some x) : Fr.fre (L.take (k + 1)) = Fr.fre (L.take k) + if x.isNone then 1 else 0 := by
  unfold Fr.fre
  rw [List.take_add_one, h, List.countP_append]
  cases x <;> simp
set_option maxRecDepth 100000 in
set_option maxHeartbeats 400000 in
theorem free_any (b s d : Nat) (L : List Fr.Sl) (cut : Bool) (w : World) (h : FO w b s d L cut) :
    Calls Try.prog 9 #[.pointer (some ⟨b, 0, none⟩)] w fun e w' => e = .returned (.int .i64 (Fr.fre L)) ∧ Below w.heap.size w w' := by
  obtain ⟨⟨c0, c1, c2⟩, _⟩ := row3f h.row
  have hle := h.len
  have HH := Hid_of h
  have HA : Hid (Fr.fre (L.take L.length) = Fr.fre L) := by rw [List.take_length]; rfl
  clear h
  go_enter Try.func9, Try.ntmps9
  go_wp2
  go_loopw [3, 13] (fun f i wr => ∃ (k z : Nat), k ≤ L.length ∧ z ≤ k ∧ f = .int .i64 z ∧ i = .int .i64 k ∧ Below w.heap.size w wr ∧ Hid (Fr.fre (L.take k) = z)) (fun _ i _ => L.length - (intOf i).toNat)
  case atStart => exact ⟨0, 0, by omega, by omega, rfl, rfl, Below.refl _ _, rfl⟩
  case round =>
    obtain ⟨k, z, hk, hz, rfl, rfl, hbel, HZ⟩ := hrel
    by_cases hlt : k < L.length
    · obtain ⟨x, hx⟩ : ∃ x, L[k]? = some x := ⟨_, List.getElem?_eq_getElem hlt⟩
      have hR := (HH.out.keep hbel).sl
      have hst := fre_step L k x hx
      cases x with
      | none =>
        obtain ⟨k0, k1, k2, k3⟩ := hR.none hx
        have HN : Hid (Fr.fre (L.take (k + 1)) = z + 1) := by rw [hst, HZ.out]; rfl
        have HB : Hid (Below w.heap.size w (wr.alloc (.cells #[.bool false, .int .i64 0, .int .i64 0, .int .i64 0] 50))) := bel_up hbel (bel1 wr _) (Nat.le_refl _)
        clear hR hx hst HZ hbel
        go_wp2
        go_roundw
        case rel => exact ⟨k + 1, z + 1, by omega, by omega, by go_num, by go_num, HB.out, HN⟩
        case measure => simp [intOf]; omega
      | some y =>
        obtain ⟨⟨a, c⟩, t⟩ := y
        obtain ⟨k0, k1, k2, k3⟩ := hR.some hx
        have HN : Hid (Fr.fre (L.take (k + 1)) = z) := by rw [hst, HZ.out]; rfl
        generalize t.size = m at *
        have HB : Hid (Below w.heap.size w (wr.alloc (.cells #[.bool true, .int .i64 a, .int .i64 c, .int .i64 m] 50))) := bel_up hbel (bel1 wr _) (Nat.le_refl _)
        clear hR hx hst HZ hbel
        go_wp2
        go_roundw
        case rel => exact ⟨k + 1, z, by omega, by omega, by go_num, by go_num, HB.out, HN⟩
        case measure => simp [intOf]; omega
    · obtain rfl : k = L.length := by omega
      have HE : Hid (Fr.fre L = z) := HA.out.symm.trans HZ.out
      clear HZ HA
      go_wp2
      go_ret
      exact ⟨by rw [HE.out]; rfl, hbel⟩
end Go.Proofs.Yticjilpomdahbaa
