/-
  The slot of a place, the lowest one that is free.
-/
import Derived.Test.YticjilpomdahbaaFB
namespace Go.Proofs.Yticjilpomdahbaa
open Go.RowKit
open M (ofL ofL_size ofL_of)
set_option linter.unusedVariables false

/-- The first place at which f holds, or -1. -/
structure Fst (L : List Fr.Sl) (f : Fr.Sl → Bool) (r : Int) : Prop where
  x : (r = -1 ∧ ∀ (i : Nat) (x : Fr.Sl), L[i]? = some x → f x = false) ∨ ∃ (i : Nat) (x : Fr.Sl), r = i ∧ L[i]? = some x ∧ f x = true ∧ ∀ (j : Nat) (y : Fr.Sl), j < i → L[j]? = some y → f y = false
theorem Fst.all (L : List Fr.Sl) (f : Fr.Sl → Bool) : ∃ r, Fst L f r := by
  rcases Fr.first L f with h | ⟨i, x, h1, h2, h3⟩
  · exact ⟨-1, ⟨.inl ⟨rfl, h⟩⟩⟩
  · exact ⟨i, ⟨.inr ⟨i, x, rfl, h1, h2, h3⟩⟩⟩
theorem Fst.hit {L : List Fr.Sl} {f : Fr.Sl → Bool} {r : Int} (h : Fst L f r) {i : Nat} {x : Fr.Sl} (hx : L[i]? = some x) (hf : f x = true) (hb : ∀ (j : Nat) (y : Fr.Sl), j < i → L[j]? = some y → f y = false) : r = i := by
  rcases h.x with ⟨_, h'⟩ | ⟨k, y, rfl, h1, h2, h3⟩
  · rw [h' i x hx] at hf; cases hf
  · rcases Nat.lt_trichotomy i k with hl | hl | hl
    · rw [h3 i x hl hx] at hf; cases hf
    · rw [hl]
    · rw [hb k y hl h1] at h2; cases h2
theorem Fst.miss {L : List Fr.Sl} {f : Fr.Sl → Bool} {r : Int} (h : Fst L f r) (hb : ∀ (j : Nat) (y : Fr.Sl), L[j]? = some y → f y = false) : r = -1 := by
  rcases h.x with ⟨e, _⟩ | ⟨k, y, rfl, h1, h2, h3⟩
  · exact e
  · rw [hb k y h1] at h2; cases h2
theorem more {L : List Fr.Sl} {f : Fr.Sl → Bool} {q : Nat} {x : Fr.Sl} (h : ∀ (j : Nat) (y : Fr.Sl), j < q → L[j]? = some y → f y = false) (hx : L[q]? = some x) (hf : f x = false) : ∀ (j : Nat) (y : Fr.Sl), j < q + 1 → L[j]? = some y → f y = false := by
  intro j y hj hy
  rcases Nat.lt_or_ge j q with h' | h'
  · exact h j y h' hy
  · obtain rfl : j = q := by omega
    rw [hx] at hy
    cases hy
    exact hf
theorem lt_of_some {L : List Fr.Sl} {j : Nat} {y : Fr.Sl} (h : L[j]? = some y) : j < L.length := (List.getElem?_eq_some_iff.1 h).1
set_option maxRecDepth 100000 in
set_option maxHeartbeats 400000 in
theorem indexFunc_any (g : Nat) (L : List Fr.Sl) (p q : Int) (B : Nat) (r : Int) (w : World) (hl : L.length ≤ 256) (ha : LR w g L) (hB : PB w B p q) (hr : Fst L (Fr.isAt p q) r) :
    Calls Try.prog 53 #[.slice (some ⟨g, 0, none⟩) L.length L.length, .func (.func 54) #[] #[.pointer (some ⟨B, 0, none⟩)]] w fun e w' => e = .returned (.int .i64 r) ∧ Below w.heap.size w w' := by
  have hlt : B < w.heap.size := (Array.getElem?_eq_some_iff.1 hB).1
  go_enter Try.func53, Try.ntmps53
  go_wp2
  go_loopw [8] (fun i wr => ∃ k : Nat, k ≤ L.length ∧ i = .int .i64 k ∧ Below w.heap.size w wr ∧ Hid (∀ (j : Nat) (y : Fr.Sl), j < k → L[j]? = some y → Fr.isAt p q y = false)) (fun i _ => L.length - (intOf i).toNat)
  case atStart => exact ⟨0, by omega, rfl, Below.refl _ _, fun i h h' => by omega⟩
  case round =>
    obtain ⟨k, hk, rfl, hbel, HI⟩ := hrel
    by_cases hlt2 : k < L.length
    · obtain ⟨x, hx⟩ : ∃ x, L[k]? = some x := ⟨_, List.getElem?_eq_getElem hlt2⟩
      have hc := pred_any p q x B wr ((hbel.block B hlt).trans hB)
      have hR : LR wr g L := ha.keep hbel
      have HM : Hid (Fr.isAt p q x = false → ∀ (j : Nat) (y : Fr.Sl), j < k + 1 → L[j]? = some y → Fr.isAt p q y = false) := fun hf => more HI.out hx hf
      have HT : Hid (Fr.isAt p q x = true → r = k) := fun hf => hr.hit hx hf HI.out
      generalize Fr.isAt p q x = t at *
      cases x with
      | none =>
        obtain ⟨k0, k1, k2, k3⟩ := hR.none hx
        have hc : Calls Try.prog 54 #[.agg #[.bool false, .int .i64 0, .int .i64 0, .int .i64 0], .pointer (some ⟨B, 0, none⟩)] wr fun e w' => e = .returned (.bool t) ∧ Below wr.heap.size wr w' := hc
        clear ha hB hR hx hr HI
        cases t with
        | true =>
          have HT2 := Hid_of (HT.out rfl)
          clear HM HT
          go_wp2_with fail
          refine hc.mono ?_
          rintro e w1 ⟨rfl, hb⟩
          have HB := Hid_of (bel_up hbel hb (Nat.le_refl _))
          clear hb hbel hc
          go_wp2
          go_ret
          exact ⟨by rw [HT2.out]; rfl, HB.out⟩
        | false =>
          have HM2 := Hid_of (HM.out rfl)
          clear HT HM
          go_wp2_with fail
          refine hc.mono ?_
          rintro e w1 ⟨rfl, hb⟩
          have HB := Hid_of (bel_up hbel hb (Nat.le_refl _))
          clear hb hbel hc
          go_wp2
          go_roundw
          case rel => exact ⟨k + 1, by omega, by go_num, HB.out, HM2⟩
          case measure => simp [intOf]; omega
      | some y =>
        obtain ⟨⟨a, b⟩, s⟩ := y
        obtain ⟨k0, k1, k2, k3⟩ := hR.some hx
        have hc : Calls Try.prog 54 #[.agg #[.bool true, .int .i64 a, .int .i64 b, .int .i64 s.size], .pointer (some ⟨B, 0, none⟩)] wr fun e w' => e = .returned (.bool t) ∧ Below wr.heap.size wr w' := hc
        generalize s.size = n at *
        clear ha hB hR hx hr HI
        cases t with
        | true =>
          have HT2 := Hid_of (HT.out rfl)
          clear HM HT
          go_wp2_with fail
          refine hc.mono ?_
          rintro e w1 ⟨rfl, hb⟩
          have HB := Hid_of (bel_up hbel hb (Nat.le_refl _))
          clear hb hbel hc
          go_wp2
          go_ret
          exact ⟨by rw [HT2.out]; rfl, HB.out⟩
        | false =>
          have HM2 := Hid_of (HM.out rfl)
          clear HT HM
          go_wp2_with fail
          refine hc.mono ?_
          rintro e w1 ⟨rfl, hb⟩
          have HB := Hid_of (bel_up hbel hb (Nat.le_refl _))
          clear hb hbel hc
          go_wp2
          go_roundw
          case rel => exact ⟨k + 1, by omega, by go_num, HB.out, HM2⟩
          case measure => simp [intOf]; omega
    · have HP : Hid (r = -1) := hr.miss fun j y hy => HI.out j y (by have := lt_of_some hy; omega) hy
      clear HI hr ha hB
      go_wp2
      go_ret
      exact ⟨by rw [HP.out]; rfl, hbel⟩
/-- Is a slot free? -/
def isFr (x : Fr.Sl) : Bool := x.isNone
set_option maxRecDepth 100000 in
set_option maxHeartbeats 400000 in
theorem sliceIndex_any (g : Nat) (L : List Fr.Sl) (r : Int) (w : World) (hl : L.length ≤ 256) (ha : LR w g L) (hr : Fst L isFr r) :
    Calls Try.prog 39 #[.slice (some ⟨g, 0, none⟩) L.length L.length, .agg #[.bool false, .int .i64 0, .int .i64 0, .int .i64 0]] w fun e w' => e = .returned (.int .i64 r) ∧ Below w.heap.size w w' := by
  have HB0 : Hid (Below w.heap.size w (w.alloc (.cells #[.bool false, .int .i64 0, .int .i64 0, .int .i64 0] 50))) := bel1 w _
  have HR0 : Hid ((w.alloc (.cells #[.bool false, .int .i64 0, .int .i64 0, .int .i64 0] 50)).heap[w.heap.size]? = some (.cells #[.bool false, .int .i64 0, .int .i64 0, .int .i64 0] 50 (0, 0))) := heap_alloc_last w _
  obtain ⟨W, hW⟩ : ∃ W, w.alloc (.cells #[.bool false, .int .i64 0, .int .i64 0, .int .i64 0] 50) = W := ⟨_, rfl⟩
  rw [hW] at HB0 HR0
  have HW := Hid_of hW
  clear hW
  go_enter Try.func39, Try.ntmps39
  go_upto_region 1 with fail
  rw [HW.out]
  go_wp2_with fail
  go_loopw [8] (fun i wr => ∃ k : Nat, k ≤ L.length ∧ i = .int .i64 k ∧ Below W.heap.size W wr ∧ Hid (∀ (j : Nat) (y : Fr.Sl), j < k → L[j]? = some y → isFr y = false)) (fun i _ => L.length - (intOf i).toNat)
  case atStart => exact ⟨0, by omega, rfl, Below.refl _ _, fun i h h' => by omega⟩
  case round =>
    obtain ⟨k, hk, rfl, hbel, HI⟩ := hrel
    by_cases hlt2 : k < L.length
    · obtain ⟨x, hx⟩ : ∃ x, L[k]? = some x := ⟨_, List.getElem?_eq_getElem hlt2⟩
      have hR : LR wr g L := (ha.keep HB0.out).keep hbel
      obtain ⟨⟨b0, b1, b2, b3⟩, _⟩ := row4 (bel_row HR0.out hbel)
      cases x with
      | none =>
        obtain ⟨k0, k1, k2, k3⟩ := hR.none hx
        have HT : Hid (r = k) := hr.hit hx rfl HI.out
        have heq := eq60_yes
        clear ha hR hx hr HI
        go_wp2_with fail
        go_region
        all_goals
          go_wp2
          go_ret
          exact ⟨by rw [HT.out]; rfl, HB0.out.trans ((Below.drew hbel).mono HB0.out.size)⟩
      | some y =>
        obtain ⟨⟨a, b⟩, s⟩ := y
        obtain ⟨k0, k1, k2, k3⟩ := hR.some hx
        have HM : Hid (∀ (j : Nat) (y : Fr.Sl), j < k + 1 → L[j]? = some y → isFr y = false) := more HI.out hx rfl
        generalize s.size = n at *
        have heq := eq60_no 0 0 0 a b n
        clear ha hR hx hr HI
        go_wp2_with fail
        go_region
        all_goals
          go_wp2
          go_roundw
          case rel => exact ⟨k + 1, by omega, by go_num, Below.drew hbel, HM⟩
          case measure => simp [intOf]; omega
    · have HP : Hid (r = -1) := hr.miss fun j y hy => HI.out j y (by have := lt_of_some hy; omega) hy
      clear HI hr ha
      go_wp2
      go_ret
      exact ⟨by rw [HP.out]; rfl, HB0.out.trans (hbel.mono HB0.out.size)⟩
end Go.Proofs.Yticjilpomdahbaa
