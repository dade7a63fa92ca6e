/-
  The chapter's example; a fragment there and back.
-/
import Derived.Test.YticjilpomdahbaaFW
namespace Go.Proofs.Yticjilpomdahbaa
open Go.RowKit
open M (ofL ofL_size ofL_of)
set_option linter.unusedVariables false

section
variable {w0 w w' : World} {b s d : Nat} {F G : Nat → Prop} {n : Nat} {P : List M.Pl} {L : List Fr.Sl}
theorem FO.step {cut : Bool} {X Y : Nat → Prop} (h : FO w b s d L cut) (hc : Ch w X w' Y) (h1 : ¬ X b) (h2 : ¬ X s) : FO w' b s d L cut :=
  h.keepBut fun k hk e => hc.block k hk (e.elim (fun e => e ▸ h1) (fun e => e ▸ h2))
theorem GS.putAt (h : GS w0 w b s d F n P L) {i a c : Nat} {t : ByteArray} (h1 : a < 2147483648) (h2 : c < 8) (h3 : t.size ≤ 512) (h4 : L[i]? = some none) (h5 : Fst L isFr i) (h6 : Ab L a c) :
    Calls Try.prog 6 #[.pointer (some ⟨b, 0, none⟩), .agg #[.int .i64 a, .int .i64 c], .string t, .int .i64 (-1)] w fun e w' => ∃ G P', e = .returned (.int .i64 0) ∧ GS w0 w' b s d G n P' (L.set i (some ((a, c), t))) ∧ Ch w (FP F b s) w' (FP G b s) := by
  refine (put_all t (-1) h.f h1 h2 h3 h5 h4 h6.fst (h.room (lt_of_some h4)) (fun j _ => by omega)).mono ?_
  rintro e w' ⟨G, he, hf, hc⟩
  rw [(d4_0 n P i a c t (h.room (lt_of_some h4)) h3).2.2.2] at hf
  have hg := (may_of h h4 h6 h1 h2 h3).good4
  exact ⟨G, _, he, ⟨hf, hg.1, hg.2⟩, hc⟩
theorem GS.delAt (h : GS w0 w b s d F n P L) {i a c : Nat} {t : ByteArray} (hi : L[i]? = some (some ((a, c), t))) :
    Calls Try.prog 7 #[.pointer (some ⟨b, 0, none⟩), .agg #[.int .i64 a, .int .i64 c], .int .i64 (-1)] w fun e w' => ∃ G P', e = .returned (.int .i64 0) ∧ GS w0 w' b s d G n P' (L.set i none) ∧ Ch w (FP F b s) w' (FP G b s) := by
  have hl := h.room (lt_of_some hi)
  refine (delete_all (-1) h.f (Good.fst h.g hi) hi (by omega) (fun j _ => by omega)).mono ?_
  rintro e w' ⟨G, he, hf, hc⟩
  rw [(d2_0 n P i hl).2] at hf
  have hg := h.g.q2 (lt_of_some hi)
  exact ⟨G, _, he, ⟨hf, hg.1, hg.2⟩, hc⟩
theorem GS.twice (h : GS w0 w b s d F n P L) {k j a c : Nat} {t t' : ByteArray} (hm : Fr.mayBe a c = true) (ht : t.size ≤ 512) (hr : Fst L isFr k) (hk : k < L.length) (hj : L[j]? = some (some ((a, c), t'))) :
    Calls Try.prog 6 #[.pointer (some ⟨b, 0, none⟩), .agg #[.int .i64 a, .int .i64 c], .string t, .int .i64 (-1)] w fun e w' => e = .returned (.int .i64 6) ∧ Below w.heap.size w w' :=
  put_twice t (-1) h.f.o hm ht hr hk (Good.fst h.g hj) (lt_of_some hj)
end
def tabc : ByteArray := { data := #[97, 98, 99] }
def tx1 : ByteArray := { data := #[120] }
def LA : List Fr.Sl := [some ((3, 1), tabc), none]
theorem cnt20 : cntOf 20 = 20 := by decide
theorem fstA : Fst [none, none] isFr 0 := ⟨.inr ⟨0, none, rfl, rfl, rfl, fun j y hj => by omega⟩⟩
theorem fstB : Fst LA isFr 1 := ⟨.inr ⟨1, none, rfl, rfl, rfl, fun j y hj hy => by
  obtain rfl : j = 0 := by omega
  cases hy
  rfl⟩⟩
theorem abA : Ab [none, none] (3 : Nat) (1 : Nat) := fun i x hx => by
  match i with
  | 0 => cases hx; rfl
  | 1 => cases hx; rfl
  | i + 2 => simp at hx
theorem abB : Ab LA 0 0 := fun i x hx => by
  match i with
  | 0 => cases hx; rfl
  | 1 => cases hx; rfl
  | i + 2 => simp [LA] at hx
theorem pllA : pll LA = [(3, 1)] := rfl
theorem freA : Fr.fre [none, none] = 2 := rfl
theorem bel_ch {w w' : World} {X Y : Nat → Prop} {B : Nat} {v0 v1 : Value} (hc : Ch w X w' Y) (hr : w.heap[B]? = some (.cells #[v0, v1] 23 (0, 0))) (hX : ¬ X B) : w'.heap[B]? = some (.cells #[v0, v1] 23 (0, 0)) := (hc.block B (Array.getElem?_eq_some_iff.1 hr).1 hX).trans hr
set_option maxRecDepth 100000 in
set_option maxHeartbeats 400000 in
theorem awake_any (w : World) : Calls Try.prog 10 #[] w fun e w' => e = .returned (.bool true) ∧ Below w.heap.size w w' := by
  have hN := newD 20 w
  rw [cnt20] at hN
  have hg00 := new_good 20 (by omega)
  have hg0 : Fr.Good (new 20) [none, none] ∧ Fr.Cl (new 20) := hg00
  clear hg00
  generalize hP0 : new 20 = P0 at *
  clear hP0
  go_enter Try.func10, Try.ntmps10
  go_wp2_with fail
  refine hN.mono ?_
  rintro e w1 ⟨d, F1, rfl, S1⟩
  have c1 := openG S1 hg0.1 hg0.2
  clear hN S1 hg0
  go_wp2_with fail
  refine c1.mono ?_
  rintro e w2 ⟨b, s, rfl, G2, -, -⟩
  have c2 := G2.free
  rw [freA] at c2
  have HG2 := Hid_of G2
  clear c1 G2
  go_wp2_with fail
  refine c2.mono ?_
  rintro e w3 ⟨rfl, b3⟩
  obtain ⟨W4, hW4⟩ : ∃ W4, w3.alloc (.cells #[.int .i64 3, .int .i64 1] 23) = W4 := ⟨_, rfl⟩
  have hb4 : Below w3.heap.size w3 W4 := by rw [← hW4]; exact bel1 w3 _
  have hr4 : W4.heap[w3.heap.size]? = some (.cells #[.int .i64 3, .int .i64 1] 23 (0, 0)) := by rw [← hW4]; exact heap_alloc_last w3 _
  have HG3 := Hid_of (HG2.out.keep b3)
  have HG4 := Hid_of (HG3.out.keep hb4)
  have HG4d := Hid_of (HG4.out.keep (Below.drew (Below.refl _ _)))
  have HNB : Hid (¬ FP F1 b s w3.heap.size) := fun hF => by have := (HG3.out.f.own _ hF).2; omega
  have HW4 := Hid_of hW4
  have HR4 := Hid_of hr4
  obtain ⟨B, hB⟩ : ∃ B, w3.heap.size = B := ⟨_, rfl⟩
  have S0 : W4.drew.cell? ⟨w3.heap.size, 0, none⟩ = some (.int .i64 3) ∧ W4.drew.cell? ⟨w3.heap.size, 1, none⟩ = some (.int .i64 1) := (row2 hr4).1
  have cA : Calls Try.prog 6 #[.pointer (some ⟨b, 0, none⟩), .agg #[.int .i64 3, .int .i64 1], .string { data := #[97, 98, 99] }, .int .i64 (-1)] W4.drew fun e w' => ∃ G P', e = .returned (.int .i64 0) ∧ GS w w' b s d G 20 P' LA ∧ Ch W4.drew (FP F1 b s) w' (FP G b s) := HG4d.out.putAt (i := 0) (a := 3) (c := 1) (t := tabc) (by omega) (by omega) (by decide) rfl fstA abA
  have HTW : Hid (∀ W G P', GS w W b s d G 20 P' LA → Calls Try.prog 6 #[.pointer (some ⟨b, 0, none⟩), .agg #[.int .i64 3, .int .i64 1], .string { data := #[120] }, .int .i64 (-1)] W fun e w' => e = .returned (.int .i64 6) ∧ Below W.heap.size W w') := fun W G P' h => h.twice (a := 3) (c := 1) (t := tx1) (t' := tabc) (j := 0) rfl (by decide) fstB (by decide) rfl
  clear c2 hW4 hb4 hr4 b3 HG2 HG3 HG4 HG4d
  go_upto_region 7 with fail
  rw [HW4.out]
  rw [hB] at S0 HNB HR4
  clear HW4 hB
  go_wp2_with fail
  go_region_held3 (fun wq => wq.cell? ⟨B, 0, none⟩ = some (.int .i64 3) ∧ wq.cell? ⟨B, 1, none⟩ = some (.int .i64 1)) (first | assumption) (first | (go_at_call 6; refine cA.mono ?_; rintro e w5 ⟨F5, P5, rfl, G5, C5⟩; have HG5 := Hid_of G5; have HR5 := Hid_of (bel_ch C5 (show W4.drew.heap[B]? = _ from HR4.out) HNB.out); have HN5 := Hid_of (not_G C5 (Array.getElem?_eq_some_iff.1 (show W4.drew.heap[B]? = _ from HR4.out)).1 HNB.out); have S5 : w5.cell? ⟨B, 0, none⟩ = some (.int .i64 3) ∧ w5.cell? ⟨B, 1, none⟩ = some (.int .i64 1) := (row2 HR5.out).1; have cB := HTW.out w5 F5 P5 G5; clear cA G5 C5) | (go_at_call 6; refine cB.mono ?_; rintro e w6 ⟨rfl, b6⟩; have HR6 := Hid_of (bel_row HR5.out b6); have HG6 := Hid_of (HG5.out.keep b6); have S6 : w6.cell? ⟨B, 0, none⟩ = some (.int .i64 3) ∧ w6.cell? ⟨B, 1, none⟩ = some (.int .i64 1) := (row2 HR6.out).1; clear cB b6))
  obtain ⟨k0, k1⟩ := S6
  clear HTW S0 HNB HR4 S5 HR5 HG5
  have c3 : Calls Try.prog 4 #[.pointer (some ⟨b, 0, none⟩), .agg #[.int .i64 3, .int .i64 1]] w6 fun e w' => e = .returned (.tuple #[.string { data := #[97, 98, 99] }, .int .i64 0]) ∧ Below w6.heap.size w6 w' := HG6.out.get_yes (i := 0) (a := 3) (c := 1) (t := tabc) rfl
  go_wp2_with fail
  refine c3.mono ?_
  rintro e w7 ⟨rfl, b7⟩
  have HR7 := Hid_of (bel_row HR6.out b7)
  have HG7 := Hid_of (HG6.out.keep b7)
  clear c3 b7 HR6 HG6 k0 k1
  have c4 := HG7.out.get_no abB
  go_wp2_with fail
  refine c4.mono ?_
  rintro e w8 ⟨rfl, b8⟩
  have HR8 := Hid_of (bel_row HR7.out b8)
  have HG8 := Hid_of (HG7.out.keep b8)
  clear c4 b8 HR7 HG7
  have c5 : Calls Try.prog 29 #[.pointer (some ⟨d, 0, none⟩), .int .u64 0, .int .i64 0] w8 _ := HG8.out.f.dev.crash 0 0 (by decide)
  go_wp2_with fail
  refine c5.mono ?_
  rintro e w9 ⟨F9, rfl, S9, C9⟩
  have HN9 : Hid (¬ F9 B) := not_G C9 (Array.getElem?_eq_some_iff.1 HR8.out).1 (fun h => HN5.out (.inl h))
  have HR9 := Hid_of (bel_ch C9 HR8.out (fun h => HN5.out (.inl h)))
  have HO9 := Hid_of (HG8.out.f.o.step C9 HG8.out.f.ap.1 HG8.out.f.ap.2)
  have HN9b : Hid (¬ F9 b ∧ ¬ F9 s) := ⟨not_G C9 HG8.out.f.o.lt.1 HG8.out.f.ap.1, not_G C9 HG8.out.f.o.lt.2 HG8.out.f.ap.2⟩
  have c6 := openG S9 (HG8.out.g.crash HG8.out.c 0) (cl_lse (M.crash_spec HG8.out.g.ok 0 0).2.2)
  clear c5 S9 C9 HR8 HG8
  go_wp2_with fail
  refine c6.mono ?_
  rintro e w10 ⟨b', s', rfl, G10, ⟨l1, l2⟩, b10⟩
  have HR10 := Hid_of (bel_row HR9.out b10)
  have HO10 := Hid_of (HO9.out.keep b10)
  have HNX : Hid (¬ FP F9 b' s' B ∧ ¬ FP F9 b' s' b ∧ ¬ FP F9 b' s' s) := by
    have z1 := (Array.getElem?_eq_some_iff.1 HR9.out).1
    have z2 := HO9.out.lt
    refine ⟨?_, ?_, ?_⟩
    · rintro (h | h | h)
      · exact HN9.out h
      · omega
      · omega
    · rintro (h | h | h)
      · exact HN9b.out.1 h
      · omega
      · omega
    · rintro (h | h | h)
      · exact HN9b.out.2 h
      · omega
      · omega
  have HG10 := Hid_of G10
  clear c6 G10 l1 l2 b10 HR9 HO9 HN9 HN9b
  obtain ⟨k0, k1⟩ := (row2 HR10.out).1
  have c7 : Calls Try.prog 4 #[.pointer (some ⟨b', 0, none⟩), .agg #[.int .i64 3, .int .i64 1]] w10 fun e w' => e = .returned (.tuple #[.string { data := #[97, 98, 99] }, .int .i64 0]) ∧ Below w10.heap.size w10 w' := HG10.out.get_yes (i := 0) (a := 3) (c := 1) (t := tabc) rfl
  go_wp2_with fail
  refine c7.mono ?_
  rintro e w11 ⟨rfl, b11⟩
  have HR11 := Hid_of (bel_row HR10.out b11)
  have HG11 := Hid_of (HG10.out.keep b11)
  have HO11 := Hid_of (HO10.out.keep b11)
  clear c7 b11 HR10 HG10 HO10 k0 k1
  obtain ⟨k0, k1⟩ := (row2 HR11.out).1
  have c8 : Calls Try.prog 7 #[.pointer (some ⟨b', 0, none⟩), .agg #[.int .i64 3, .int .i64 1], .int .i64 (-1)] w11 fun e w' => ∃ G P', e = .returned (.int .i64 0) ∧ GS w w' b' s' d G 20 P' [none, none] ∧ Ch w11 (FP F9 b' s') w' (FP G b' s') := HG11.out.delAt (i := 0) (a := 3) (c := 1) (t := tabc) rfl
  go_wp2_with fail
  refine c8.mono ?_
  rintro e w12 ⟨F12, P12, rfl, G12, C12⟩
  have HO12 := Hid_of (HO11.out.step C12 HNX.out.2.1 HNX.out.2.2)
  have HG12 := Hid_of G12
  have c9 := G12.free
  rw [freA] at c9
  clear c8 G12 C12 HR11 HG11 HO11 k0 k1
  go_wp2_with fail
  refine c9.mono ?_
  rintro e w13 ⟨rfl, b13⟩
  have HO13 := Hid_of (HO12.out.keep b13)
  have HG13 := Hid_of (HG12.out.keep b13)
  clear c9 b13 HO12 HG12
  have c10 := list_any b s d LA false w13 HO13.out
  go_wp2_with fail
  refine c10.mono ?_
  rintro e w14 ⟨a, cap, l, rfl, hp, -, -, b14⟩
  have hl : l.length = 1 := by rw [hp.length_eq, pllA]; rfl
  rw [hl]
  have HB14 := Hid_of (bel_up HG13.out.f.dev.bel b14 (Nat.le_refl _))
  clear c10 hp b14 hl
  go_wp2
  go_ret
  exact ⟨rfl, HB14.out⟩
end Go.Proofs.Yticjilpomdahbaa
