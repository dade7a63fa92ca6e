/-
  The place of a call among those that are kept.
-/
import Derived.Test.YtjbcchipbdkplaaLA
namespace Go.Proofs.Ytjbcchipbdkplaa
open Go.RowKit
set_option linter.unusedVariables false
open Rp (C)

namespace Rp
/-- The sign of the order. -/
def cmp (a b : Int) : Int := if a < b then -1 else if b < a then 1 else 0
theorem cmp_lt {a b : Int} (h : a < b) : cmp a b = -1 := by unfold cmp; rw [if_pos h]
theorem cmp_gt {a b : Int} (h : b < a) : cmp a b = 1 := by unfold cmp; rw [if_neg (by omega), if_pos h]
theorem cmp_eq (a : Int) : cmp a a = 0 := by unfold cmp; rw [if_neg (by omega), if_neg (by omega)]
theorem cmp_three (a b : Int) : (a < b ∧ cmp a b = -1) ∨ (a = b ∧ cmp a b = 0) ∨ (b < a ∧ cmp a b = 1) := by
  rcases Int.lt_trichotomy a b with h | h | h
  · exact .inl ⟨h, cmp_lt h⟩
  · subst h; exact .inr (.inl ⟨rfl, cmp_eq a⟩)
  · exact .inr (.inr ⟨h, cmp_gt h⟩)
end Rp
theorem isnan_any (a : Int) (w : World) : Calls Try.prog 65 #[.int .i64 a] w fun e w' => e = .returned (.bool false) ∧ w' = w := by
  go_enter Try.func65, Try.ntmps65
  go_wp2
  go_ret
  exact ⟨rfl, rfl⟩
set_option maxHeartbeats 400000 in
theorem compare_any (a b : Int) (w : World) : Calls Try.prog 47 #[.int .i64 a, .int .i64 b] w fun e w' => e = .returned (.int .i64 (Rp.cmp a b)) ∧ w' = w := by
  rcases Rp.cmp_three a b with ⟨h, e⟩ | ⟨h, e⟩ | ⟨h, e⟩
  · rw [e]
    clear e
    go_enter Try.func47, Try.ntmps47
    go_wp2_with fail
    refine (isnan_any _ _).mono ?_
    rintro e w1 ⟨rfl, rfl⟩
    go_wp2_with fail
    refine (isnan_any _ _).mono ?_
    rintro e w2 ⟨rfl, rfl⟩
    go_wp2
    go_ret
    exact ⟨rfl, rfl⟩
  · rw [e]
    clear e
    subst h
    go_enter Try.func47, Try.ntmps47
    go_wp2_with fail
    refine (isnan_any _ _).mono ?_
    rintro e w1 ⟨rfl, rfl⟩
    go_wp2_with fail
    refine (isnan_any _ _).mono ?_
    rintro e w2 ⟨rfl, rfl⟩
    go_wp2
    go_ret
    exact ⟨rfl, rfl⟩
  · rw [e]
    clear e
    have h' : ¬ a < b := by omega
    go_enter Try.func47, Try.ntmps47
    go_wp2_with fail
    refine (isnan_any _ _).mono ?_
    rintro e w1 ⟨rfl, rfl⟩
    go_wp2_with fail
    refine (isnan_any _ _).mono ?_
    rintro e w2 ⟨rfl, rfl⟩
    go_wp2
    go_ret
    exact ⟨rfl, rfl⟩
set_option maxHeartbeats 400000 in
theorem key_any (id : Int) (b : Bool) (r : List UInt8) (k : Int) (w : World) :
    Calls Try.prog 46 #[.agg #[.int .i64 id, .bool b, .string (ofL r)], .int .i64 k] w fun e w' => e = .returned (.int .i64 (Rp.cmp id k)) ∧ Below w.heap.size w w' := by
  have HB : Hid (Below w.heap.size w (w.alloc (.cells #[.int .i64 id, .bool b, .string (ofL r)] 66))) := bel1 w _
  go_enter Try.func46, Try.ntmps46
  go_wp2_with fail
  refine (compare_any _ _ _).mono ?_
  rintro e w1 ⟨rfl, rfl⟩
  go_wp2
  go_ret
  exact ⟨rfl, HB.out⟩
def SrOut (w : World) (l : List C) (k : Int) (e : Ending) (w' : World) : Prop := ∃ (r : Nat) (b : Bool), e = .returned (.tuple #[.int .i64 r, .bool b]) ∧ Rp.Sr l k r b ∧ Below w.heap.size w w'
set_option maxRecDepth 100000 in
set_option maxHeartbeats 2000000 in
theorem search_any (a : Option Addr) (cap : Nat) (l : List C) (k : Int) (w : World) (hl : l.length ≤ 1000) (ha : AtL cl w a l) (hu : Rp.Up l) :
    Calls Try.prog 45 #[.slice a l.length cap, .int .i64 k, .func (.func 46) #[] #[]] w (SrOut w l k) := by
  have hm : ∀ i j (hi : i < l.length) (hj : j < l.length), i ≤ j → l[i].id ≤ l[j].id := fun i j hi hj hij => by
    rcases Nat.eq_or_lt_of_le hij with rfl | h
    · exact Int.le_refl _
    · have := List.pairwise_iff_getElem.1 hu i j hi hj h; omega
  go_enter Try.func45, Try.ntmps45
  go_wp2
  go_loopw [9, 10] (fun u v wr => ∃ p q : Nat, p ≤ q ∧ q ≤ l.length ∧ u = .int .i64 p ∧ v = .int .i64 q ∧ Below w.heap.size w wr ∧ Hid ((∀ j (h : j < l.length), j < p → l[j].id < k) ∧ (∀ j (h : j < l.length), q ≤ j → k ≤ l[j].id))) (fun u v _ => (intOf v).toNat - (intOf u).toNat)
  case atStart => exact ⟨0, l.length, by omega, by omega, rfl, rfl, Below.refl _ _, fun j h h' => by omega, fun j h h' => by omega⟩
  case round =>
    obtain ⟨p, q, hpq, hq, rfl, rfl, hbel, HI⟩ := hrel
    by_cases hlt : p < q
    · obtain ⟨m, hmm⟩ : ∃ m : Nat, m = (p + q) / 2 := ⟨_, rfl⟩
      have hml : m < l.length := by omega
      obtain ⟨b, off, rfl, c0, c1, c2⟩ := (ha.keep hbel).getC m hml
      have H1 : Hid (l[m].id < k → ∀ j (h : j < l.length), j < m + 1 → l[j].id < k) := fun h j hj hj' => by have := hm j m hj hml (by omega); omega
      have H2 : Hid (k ≤ l[m].id → ∀ j (h : j < l.length), m ≤ j → k ≤ l[j].id) := fun h j hj hj' => by have := hm m j hml hj hj'; omega
      have HX : Hid (Below w.heap.size w wr) := hbel
      have hc := fun W => key_any l[m].id l[m].busy l[m].reply k W
      generalize l[m].id = x2 at *
      generalize l[m].busy = x3 at *
      generalize l[m].reply = x4 at *
      have hsub : ((p : Int) + (q : Int)) / 2 = (m : Int) := by omega
      have hsub2 : IntKind.i64.wrap ((p : Int) + q) = (p : Int) + q := by rw [IntKind.wrap_i64]; omega
      have HM : Hid (p ≤ m ∧ m < q) := ⟨by omega, by omega⟩
      clear hm hmm hbel ha hu
      rcases Rp.cmp_three x2 k with ⟨hk, he⟩ | hk
      · have H1' := Hid_of (H1.out hk)
        rw [he] at hc
        clear hk H1 H2 he
        go_wp2_with fail
        refine (hc _).mono ?_
        rintro e w2 ⟨rfl, hb2⟩
        have HB2 : Hid (Below w.heap.size w w2) := bel_up HX.out hb2 (Nat.le_refl _)
        clear hb2 c0 c1 c2 HX hc
        go_wp2
        go_roundw
        case rel => exact ⟨m + 1, q, by have := HM.out; omega, hq, by go_num, rfl, HB2.out, H1'.out, HI.out.2⟩
        case measure => have := HM.out; simp [intOf]; omega
      · have hx : k ≤ x2 ∧ ¬ Rp.cmp x2 k < 0 := by
          rcases hk with ⟨h1, h2⟩ | ⟨h1, h2⟩
          · exact ⟨by omega, by omega⟩
          · exact ⟨by omega, by omega⟩
        have H2' := Hid_of (H2.out hx.1)
        have hx2 := hx.2
        clear hk H1 H2 hx
        generalize Rp.cmp x2 k = cc at *
        go_wp2_with fail
        refine (hc _).mono ?_
        rintro e w2 ⟨rfl, hb2⟩
        have HB2 : Hid (Below w.heap.size w w2) := bel_up HX.out hb2 (Nat.le_refl _)
        clear hb2 c0 c1 c2 HX hc
        go_wp2
        go_roundw
        case rel => exact ⟨p, m, by have := HM.out; omega, by have := HM.out; omega, rfl, rfl, HB2.out, HI.out.1, H2'.out⟩
        case measure => have := HM.out; simp [intOf]; omega
    · have hpq' : p = q := by omega
      subst hpq'
      have HX : Hid (Below w.heap.size w wr) := hbel
      have HSr := Hid_of (fun b hb => Rp.sr_of hq HI.out.1 HI.out.2 hu b hb)
      by_cases hpl : p < l.length
      · obtain ⟨b, off, rfl, c0, c1, c2⟩ := (ha.keep hbel).getC p hpl
        have hc := fun W => key_any l[p].id l[p].busy l[p].reply k W
        have HE : Hid ((Rp.cmp l[p].id k == 0) = true ↔ ∃ h : p < l.length, l[p].id = k) := by
          rcases Rp.cmp_three l[p].id k with ⟨h1, h2⟩ | ⟨h1, h2⟩ | ⟨h1, h2⟩
          · exact ⟨fun h => by rw [h2] at h; simp at h, fun ⟨_, h⟩ => by omega⟩
          · exact ⟨fun h => ⟨hpl, h1⟩, fun _ => by rw [h2]; rfl⟩
          · exact ⟨fun h => by rw [h2] at h; simp at h, fun ⟨_, h⟩ => by omega⟩
        have HS2 := Hid_of (HSr.out _ HE.out)
        generalize Rp.cmp l[p].id k = cc at *
        generalize l[p].id = x2 at *
        generalize l[p].busy = x3 at *
        generalize l[p].reply = x4 at *
        clear hm hbel hlt hpq HI ha hu HSr HE
        go_wp2_with fail
        refine (hc _).mono ?_
        rintro e w2 ⟨rfl, hb2⟩
        have HB2 : Hid (Below w.heap.size w w2) := bel_up HX.out hb2 (Nat.le_refl _)
        clear hb2 c0 c1 c2 HX hc
        go_wp2
        go_ret2
        exact ⟨p, _, rfl, HS2.out, HB2.out⟩
      · have hd : decide ((p : Int) < (l.length : Int)) = false := by simp; omega
        have HS2 := Hid_of (HSr.out false ⟨fun h => (by cases h), fun ⟨h, _⟩ => (by omega)⟩)
        clear hm hbel hlt hpq HI ha hu HSr
        go_wp2
        go_ret2
        exact ⟨p, _, rfl, HS2.out, HX.out⟩
set_option maxHeartbeats 1000000 in
theorem place_any (a : Option Addr) (cap : Nat) (l : List C) (k : Int) (w : World) (hl : l.length ≤ 1000) (ha : AtL cl w a l) (hu : Rp.Up l) :
    Calls Try.prog 25 #[.slice a l.length cap, .int .i64 k] w (SrOut w l k) := by
  have hc := search_any a cap l k w hl ha hu
  clear ha hu
  go_enter Try.func25, Try.ntmps25
  go_wp2_with fail
  refine hc.mono ?_
  rintro e w1 ⟨r, bb, rfl, hs, hb⟩
  have HQ := Hid_of (show SrOut w l k (.returned (.tuple #[.int .i64 r, .bool bb])) w1 from ⟨r, bb, rfl, hs, hb⟩)
  clear hs hb hc
  go_wp2
  go_ret2
  exact HQ.out
end Go.Proofs.Ytjbcchipbdkplaa
