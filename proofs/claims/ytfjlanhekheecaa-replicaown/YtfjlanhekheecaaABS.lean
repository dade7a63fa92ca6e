/-
  The place of a slot among votes.
-/
import Derived.Test.YtfjlanhekheecaaB
import Derived.Test.YtfjlanhekheecaaAM
namespace Go.Proofs.Ytfjlanhekheecaa.Na
open Go.RowKit
set_option linter.unusedVariables false
open Go.Proofs.Ytfjlanhekheecaa.M (E V)

set_option maxHeartbeats 400000 in
theorem key_any (id b0 b1 : Int) (r : ByteArray) (k : Int) (w : World) :
    Calls Try.prog 72 #[.agg #[.int .i64 id, .int .i64 b0, .int .i64 b1, .string r], .int .i64 k] w fun e w' => e = .returned (.int .i64 (M.cmp id k)) ∧ Below w.heap.size w w' := by
  have HB : Hid (Below w.heap.size w (w.alloc (.cells #[.int .i64 id, .int .i64 b0, .int .i64 b1, .string r] 42))) := bel1 w _
  go_enter Try.func72, Try.ntmps72
  go_wp2_with fail
  refine (compare_any _ _ _).mono ?_
  rintro e w1 ⟨rfl, rfl⟩
  go_wp2
  go_ret
  exact ⟨rfl, HB.out⟩
def SrOut (w : World) (l : List V) (k : Int) (e : Ending) (w' : World) : Prop := ∃ (r : Nat) (b : Bool), e = .returned (.tuple #[.int .i64 r, .bool b]) ∧ M.Sr l k r b ∧ Below w.heap.size w w'
set_option maxRecDepth 100000 in
set_option maxHeartbeats 2000000 in
theorem search_any (a : Option Addr) (cap : Nat) (l : List V) (k : Int) (w : World) (hl : l.length ≤ 1000000) (ha : AtL vl w a l) (hu : M.Up l) :
    Calls Try.prog 71 #[.slice a l.length cap, .int .i64 k, .func (.func 72) #[] #[]] w (SrOut w l k) := by
  have hm : ∀ i j (hi : i < l.length) (hj : j < l.length), i ≤ j → l[i].s ≤ l[j].s := fun i j hi hj hij => by
    rcases Nat.eq_or_lt_of_le hij with rfl | h
    · exact Int.le_refl _
    · have := List.pairwise_iff_getElem.1 hu i j hi hj h; omega
  go_enter Try.func71, Try.ntmps71
  go_wp2
  go_loopw [9, 10] (fun u v wr => ∃ p q : Nat, p ≤ q ∧ q ≤ l.length ∧ u = .int .i64 p ∧ v = .int .i64 q ∧ Below w.heap.size w wr ∧ Hid ((∀ j (h : j < l.length), j < p → l[j].s < k) ∧ (∀ j (h : j < l.length), q ≤ j → k ≤ l[j].s))) (fun u v _ => (intOf v).toNat - (intOf u).toNat)
  case atStart => exact ⟨0, l.length, by omega, by omega, rfl, rfl, Below.refl _ _, fun j h h' => by omega, fun j h h' => by omega⟩
  case round =>
    obtain ⟨p, q, hpq, hq, rfl, rfl, hbel, HI⟩ := hrel
    by_cases hlt : p < q
    · obtain ⟨m, hmm⟩ : ∃ m : Nat, m = (p + q) / 2 := ⟨_, rfl⟩
      have hml : m < l.length := by omega
      obtain ⟨b, off, rfl, c0, c1, c2, c3⟩ := (ha.keep hbel).getV m hml
      have H1 : Hid (l[m].s < k → ∀ j (h : j < l.length), j < m + 1 → l[j].s < k) := fun h j hj hj' => by have := hm j m hj hml (by omega); omega
      have H2 : Hid (k ≤ l[m].s → ∀ j (h : j < l.length), m ≤ j → k ≤ l[j].s) := fun h j hj hj' => by have := hm m j hml hj hj'; omega
      have HX : Hid (Below w.heap.size w wr) := hbel
      have hc := fun W => key_any l[m].s l[m].b.i l[m].b.t l[m].v k W
      generalize l[m].s = x2 at *
      generalize l[m].b.i = x3 at *
      generalize l[m].b.t = x5 at *
      generalize l[m].v = x4 at *
      have hsub : ((p : Int) + (q : Int)) / 2 = (m : Int) := by omega
      have hsub2 : IntKind.i64.wrap ((p : Int) + q) = (p : Int) + q := by rw [IntKind.wrap_i64]; omega
      have HM : Hid (p ≤ m ∧ m < q) := ⟨by omega, by omega⟩
      clear hm hmm hbel ha hu
      rcases M.cmp_three x2 k with ⟨hk, he⟩ | hk
      · have H1' := Hid_of (H1.out hk)
        rw [he] at hc
        clear hk H1 H2 he
        go_wp2_with fail
        refine (hc _).mono ?_
        rintro e w2 ⟨rfl, hb2⟩
        have HB2 : Hid (Below w.heap.size w w2) := bel_up HX.out hb2 (Nat.le_refl _)
        clear hb2 c0 c1 c2 c3 HX hc
        go_wp2
        go_roundw
        case rel => exact ⟨m + 1, q, by have := HM.out; omega, hq, by go_num, rfl, HB2.out, H1'.out, HI.out.2⟩
        case measure => have := HM.out; simp [intOf]; omega
      · have hx : k ≤ x2 ∧ ¬ M.cmp x2 k < 0 := by
          rcases hk with ⟨h1, h2⟩ | ⟨h1, h2⟩
          · exact ⟨by omega, by omega⟩
          · exact ⟨by omega, by omega⟩
        have H2' := Hid_of (H2.out hx.1)
        have hx2 := hx.2
        clear hk H1 H2 hx
        generalize M.cmp x2 k = cc at *
        go_wp2_with fail
        refine (hc _).mono ?_
        rintro e w2 ⟨rfl, hb2⟩
        have HB2 : Hid (Below w.heap.size w w2) := bel_up HX.out hb2 (Nat.le_refl _)
        clear hb2 c0 c1 c2 c3 HX hc
        go_wp2
        go_roundw
        case rel => exact ⟨p, m, by have := HM.out; omega, by have := HM.out; omega, rfl, rfl, HB2.out, HI.out.1, H2'.out⟩
        case measure => have := HM.out; simp [intOf]; omega
    · have hpq' : p = q := by omega
      subst hpq'
      have HX : Hid (Below w.heap.size w wr) := hbel
      have HSr := Hid_of (fun b hb => M.sr_of hq HI.out.1 HI.out.2 hu b hb)
      by_cases hpl : p < l.length
      · obtain ⟨b, off, rfl, c0, c1, c2, c3⟩ := (ha.keep hbel).getV p hpl
        have hc := fun W => key_any l[p].s l[p].b.i l[p].b.t l[p].v k W
        have HE : Hid ((M.cmp l[p].s k == 0) = true ↔ ∃ h : p < l.length, l[p].s = k) := by
          rcases M.cmp_three l[p].s k with ⟨h1, h2⟩ | ⟨h1, h2⟩ | ⟨h1, h2⟩
          · exact ⟨fun h => by rw [h2] at h; simp at h, fun ⟨_, h⟩ => by omega⟩
          · exact ⟨fun h => ⟨hpl, h1⟩, fun _ => by rw [h2]; rfl⟩
          · exact ⟨fun h => by rw [h2] at h; simp at h, fun ⟨_, h⟩ => by omega⟩
        have HS2 := Hid_of (HSr.out _ HE.out)
        generalize M.cmp l[p].s k = cc at *
        generalize l[p].s = x2 at *
        generalize l[p].b.i = x3 at *
        generalize l[p].b.t = x5 at *
        generalize l[p].v = x4 at *
        clear hm hbel hlt hpq HI ha hu HSr HE
        go_wp2_with fail
        refine (hc _).mono ?_
        rintro e w2 ⟨rfl, hb2⟩
        have HB2 : Hid (Below w.heap.size w w2) := bel_up HX.out hb2 (Nat.le_refl _)
        clear hb2 c0 c1 c2 c3 HX hc
        go_wp2
        go_ret2
        exact ⟨p, _, rfl, HS2.out, HB2.out⟩
      · have hd : decide ((p : Int) < (l.length : Int)) = false := by simp; omega
        have HS2 := Hid_of (HSr.out false ⟨fun h => (by cases h), fun ⟨h, _⟩ => (by omega)⟩)
        clear hm hbel hlt hpq HI ha hu HSr
        go_wp2
        go_ret2
        exact ⟨p, _, rfl, HS2.out, HX.out⟩
set_option maxHeartbeats 1000000 in
theorem place_any (a : Option Addr) (cap : Nat) (l : List V) (k : Int) (w : World) (hl : l.length ≤ 1000000) (ha : AtL vl w a l) (hu : M.Up l) :
    Calls Try.prog 59 #[.slice a l.length cap, .int .i64 k] w (SrOut w l k) := by
  have hc := search_any a cap l k w hl ha hu
  clear ha hu
  go_enter Try.func59, Try.ntmps59
  go_wp2_with fail
  refine hc.mono ?_
  rintro e w1 ⟨r, bb, rfl, hs, hb⟩
  have HQ := Hid_of (show SrOut w l k (.returned (.tuple #[.int .i64 r, .bool bb])) w1 from ⟨r, bb, rfl, hs, hb⟩)
  clear hs hb hc
  go_wp2
  go_ret2
  exact HQ.out
end Go.Proofs.Ytfjlanhekheecaa.Na
