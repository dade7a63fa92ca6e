/-
  The place of an open call among those in order.
-/
import Derived.Test.YtbgbdiiinggjnaaB
import Derived.Test.YtbgbdiiinggjnaaWA
namespace Go.Proofs.Ytbgbdiiinggjnaa
open Go.RowKit
set_option linter.unusedVariables false
open Cl (K W Ms)

theorem key_any (fr whom id sent k : Int) (s : ByteArray) (w : World) :
    Calls Try.prog 44 #[.agg #[.int .i64 fr, .int .i64 whom, .int .i64 id, .int .i64 sent, .string s], .int .i64 k] w fun e w' => e = .returned (.int .i64 (M.cmp id k)) ∧ Below w.heap.size w w' := by
  have HB : Hid (Below w.heap.size w (w.alloc (.cells #[.int .i64 fr, .int .i64 whom, .int .i64 id, .int .i64 sent, .string s] 74))) := bel1 w _
  go_enter Try.func44, Try.ntmps44
  go_wp2_with fail
  refine (compare_any _ _ _).mono ?_
  rintro e w1 ⟨rfl, rfl⟩
  go_wp2
  go_ret
  exact ⟨rfl, HB.out⟩
/-- Where a search ends. -/
structure SrW (l : List W) (k : Int) (r : Nat) (b : Bool) : Prop where
  le : r ≤ l.length
  lo : ∀ j (h : j < l.length), j < r → l[j].id < k
  hi : ∀ j (h : j < l.length), r ≤ j → k ≤ l[j].id
  yes : b = true → ∃ h : r < l.length, l[r].id = k
  no : b = false → ∀ x ∈ l, x.id ≠ k
theorem srw_of {l : List W} {k : Int} {r : Nat} (hle : r ≤ l.length) (hlo : ∀ j (h : j < l.length), j < r → l[j].id < k) (hhi : ∀ j (h : j < l.length), r ≤ j → k ≤ l[j].id) (hu : l.Pairwise (fun a b => a.id < b.id)) (b : Bool) (hb : b = true ↔ ∃ h : r < l.length, l[r].id = k) : SrW l k r b := by
  refine ⟨hle, hlo, hhi, hb.1, fun h x hx e => ?_⟩
  obtain ⟨j, hj, rfl⟩ := List.getElem_of_mem hx
  rcases Nat.lt_or_ge j r with h1 | h1
  · have := hlo j hj h1; omega
  · have hr : r < l.length := by omega
    have h2 := hhi r hr (Nat.le_refl _)
    have : l[r].id = k := by
      rcases Nat.eq_or_lt_of_le h1 with h3 | h3
      · subst h3; exact e
      · have := List.pairwise_iff_getElem.1 hu r j hr hj h3; omega
    rw [hb.2 ⟨hr, this⟩] at h
    cases h
def SrOut (w : World) (l : List W) (k : Int) (e : Ending) (w' : World) : Prop := ∃ (r : Nat) (b : Bool), e = .returned (.tuple #[.int .i64 r, .bool b]) ∧ SrW l k r b ∧ Below w.heap.size w w'
set_option maxRecDepth 100000 in
set_option maxHeartbeats 2000000 in
theorem searchW_any (a : Option Addr) (cap : Nat) (l : List W) (k : Int) (w : World) (hl : l.length ≤ 1000) (ha : AtL wl w a l) (hu : l.Pairwise (fun a b => a.id < b.id)) :
    Calls Try.prog 43 #[.slice a l.length cap, .int .i64 k, .func (.func 44) #[] #[]] w (SrOut w l k) := by
  have hm : ∀ i j (hi : i < l.length) (hj : j < l.length), i ≤ j → l[i].id ≤ l[j].id := fun i j hi hj hij => by
    rcases Nat.eq_or_lt_of_le hij with rfl | h
    · exact Int.le_refl _
    · have := List.pairwise_iff_getElem.1 hu i j hi hj h; omega
  go_enter Try.func43, Try.ntmps43
  go_wp2
  go_loopw [9, 10] (fun u v wr => ∃ p q : Nat, p ≤ q ∧ q ≤ l.length ∧ u = .int .i64 p ∧ v = .int .i64 q ∧ Below w.heap.size w wr ∧ Hid ((∀ j (h : j < l.length), j < p → l[j].id < k) ∧ (∀ j (h : j < l.length), q ≤ j → k ≤ l[j].id))) (fun u v _ => (intOf v).toNat - (intOf u).toNat)
  case atStart => exact ⟨0, l.length, by omega, by omega, rfl, rfl, Below.refl _ _, fun j h h' => by omega, fun j h h' => by omega⟩
  case round =>
    obtain ⟨p, q, hpq, hq, rfl, rfl, hbel, HI⟩ := hrel
    by_cases hlt : p < q
    · obtain ⟨m, hmm⟩ : ∃ m : Nat, m = (p + q) / 2 := ⟨_, rfl⟩
      have hml : m < l.length := by omega
      obtain ⟨b, off, rfl, c0, c1, c2, c3, c4⟩ := (ha.keep hbel).getW m hml
      have H1 : Hid (l[m].id < k → ∀ j (h : j < l.length), j < m + 1 → l[j].id < k) := fun h j hj hj' => by have := hm j m hj hml (by omega); omega
      have H2 : Hid (k ≤ l[m].id → ∀ j (h : j < l.length), m ≤ j → k ≤ l[j].id) := fun h j hj hj' => by have := hm m j hml hj hj'; omega
      have HX : Hid (Below w.heap.size w wr) := hbel
      have hc := fun W => key_any l[m].fr l[m].whom l[m].id l[m].sent k l[m].body W
      generalize l[m].fr = x0 at *
      generalize l[m].whom = x1 at *
      generalize l[m].id = x2 at *
      generalize l[m].sent = x3 at *
      generalize l[m].body = x4 at *
      have hsub : ((p : Int) + (q : Int)) / 2 = (m : Int) := by omega
      have hsub2 : IntKind.i64.wrap ((p : Int) + q) = (p : Int) + q := by rw [IntKind.wrap_i64]; omega
      have HM : Hid (p ≤ m ∧ m < q) := ⟨by omega, by omega⟩
      clear hm hmm hbel ha hu
      rcases M.cmp_three x2 k with ⟨hk, he⟩ | hk
      · have H1' := Hid_of (H1.out hk)
        rw [he] at hc
        clear hk H1 H2 he
        go_wp2_with fail
        refine (hc _).mono ?_
        rintro e w2 ⟨rfl, hb2⟩
        have HB2 : Hid (Below w.heap.size w w2) := bel_up HX.out hb2 (Nat.le_refl _)
        clear hb2 c0 c1 c2 c3 c4 HX hc
        go_wp2
        go_roundw
        case rel => exact ⟨m + 1, q, by have := HM.out; omega, hq, by go_num, rfl, HB2.out, H1'.out, HI.out.2⟩
        case measure => have := HM.out; simp [intOf]; omega
      · have hx : k ≤ x2 ∧ ¬ M.cmp x2 k < 0 := by
          rcases hk with ⟨h1, h2⟩ | ⟨h1, h2⟩
          · exact ⟨by omega, by omega⟩
          · exact ⟨by omega, by omega⟩
        have H2' := Hid_of (H2.out hx.1)
        have hx2 := hx.2
        clear hk H1 H2 hx
        generalize M.cmp x2 k = cc at *
        go_wp2_with fail
        refine (hc _).mono ?_
        rintro e w2 ⟨rfl, hb2⟩
        have HB2 : Hid (Below w.heap.size w w2) := bel_up HX.out hb2 (Nat.le_refl _)
        clear hb2 c0 c1 c2 c3 c4 HX hc
        go_wp2
        go_roundw
        case rel => exact ⟨p, m, by have := HM.out; omega, by have := HM.out; omega, rfl, rfl, HB2.out, HI.out.1, H2'.out⟩
        case measure => have := HM.out; simp [intOf]; omega
    · have hpq' : p = q := by omega
      subst hpq'
      have HX : Hid (Below w.heap.size w wr) := hbel
      have HSr := Hid_of (fun b hb => srw_of hq HI.out.1 HI.out.2 hu b hb)
      by_cases hpl : p < l.length
      · obtain ⟨b, off, rfl, c0, c1, c2, c3, c4⟩ := (ha.keep hbel).getW p hpl
        have hc := fun W => key_any l[p].fr l[p].whom l[p].id l[p].sent k l[p].body W
        have HE : Hid ((M.cmp l[p].id k == 0) = true ↔ ∃ h : p < l.length, l[p].id = k) := by
          rcases M.cmp_three l[p].id k with ⟨h1, h2⟩ | ⟨h1, h2⟩ | ⟨h1, h2⟩
          · exact ⟨fun h => by rw [h2] at h; simp at h, fun ⟨_, h⟩ => by omega⟩
          · exact ⟨fun h => ⟨hpl, h1⟩, fun _ => by rw [h2]; rfl⟩
          · exact ⟨fun h => by rw [h2] at h; simp at h, fun ⟨_, h⟩ => by omega⟩
        have HS2 := Hid_of (HSr.out _ HE.out)
        generalize M.cmp l[p].id k = cc at *
        generalize l[p].fr = x0 at *
        generalize l[p].whom = x1 at *
        generalize l[p].id = x2 at *
        generalize l[p].sent = x3 at *
        generalize l[p].body = x4 at *
        clear hm hbel hlt hpq HI ha hu HSr HE
        go_wp2_with fail
        refine (hc _).mono ?_
        rintro e w2 ⟨rfl, hb2⟩
        have HB2 : Hid (Below w.heap.size w w2) := bel_up HX.out hb2 (Nat.le_refl _)
        clear hb2 c0 c1 c2 c3 c4 HX hc
        go_wp2
        go_ret2
        exact ⟨p, _, rfl, HS2.out, HB2.out⟩
      · have hd : decide ((p : Int) < (l.length : Int)) = false := by simp; omega
        have HS2 := Hid_of (HSr.out false ⟨fun h => (by cases h), fun ⟨h, _⟩ => (by omega)⟩)
        clear hm hbel hlt hpq HI ha hu HSr
        go_wp2
        go_ret2
        exact ⟨p, _, rfl, HS2.out, HX.out⟩
end Go.Proofs.Ytbgbdiiinggjnaa
