/-
  The place of a timer among those in order.
-/
import Derived.Test.YtbgbdiiinggjnaaB
namespace Go.Proofs.Ytbgbdiiinggjnaa
open Go.RowKit
set_option linter.unusedVariables false
open M (E)

/-- Where a search ends. -/
structure Srch (l : List E) (x : E) (r : Nat) : Prop where
  le : r ≤ l.length
  lo : ∀ j (h : j < l.length), j < r → M.cmpE l[j] x < 0
  hi : ∀ j (h : j < l.length), r ≤ j → 0 ≤ M.cmpE l[j] x
def SrchOut (w : World) (l : List E) (x : E) (e : Ending) (w' : World) : Prop := ∃ (r : Nat) (b : Bool), e = .returned (.tuple #[.int .i64 r, .bool b]) ∧ Srch l x r ∧ Below w.heap.size w w'
theorem mono_cmp {l : List E} (hs : l.Pairwise M.lt) (x : E) : ∀ i j (hi : i < l.length) (hj : j < l.length), i ≤ j → M.cmpE l[j] x < 0 → M.cmpE l[i] x < 0 := by
  intro i j hi hj hij h
  rcases Nat.eq_or_lt_of_le hij with rfl | hlt
  · exact h
  · exact (M.cmpE_neg _ _).2 (M.lt_trans ((List.pairwise_iff_getElem.1 hs) i j hi hj hlt) ((M.cmpE_neg _ _).1 h))
set_option maxRecDepth 100000 in
set_option maxHeartbeats 2000000 in
theorem search_any (a : Option Addr) (cap : Nat) (l : List E) (x : E) (w : World) (hl : l.length ≤ 1000) (ha : AtE w a l) (hs : l.Pairwise M.lt) :
    Calls Try.prog 50 #[.slice a l.length cap, .agg #[.int .i64 x.i, .int .i64 x.t], .func (.func 51) #[] #[]] w (SrchOut w l x) := by
  have hm := mono_cmp hs x
  obtain ⟨W1, HW1⟩ : ∃ W1, Hid (w.alloc (.cells #[.int .i64 x.i, .int .i64 x.t] 93) = W1) := ⟨_, rfl⟩
  have HB1 : Hid (Below w.heap.size w W1) := by rw [← HW1.out]; exact bel1 w _
  have hs1 : W1.heap.size = w.heap.size + 1 := by rw [← HW1.out]; simp
  have HR : Hid (∀ w', Below W1.heap.size W1 w' → (w'.cell? ⟨w.heap.size, 0, none⟩ = some (.int .i64 x.i) ∧ w'.cell? ⟨w.heap.size, 1, none⟩ = some (.int .i64 x.t)) ∧ AtE w' a l) := by
    intro w' hb
    have h1 : W1.heap[w.heap.size]? = some (.cells #[.int .i64 x.i, .int .i64 x.t] 93 (0, 0)) := by rw [← HW1.out]; exact heap_alloc_last w _
    exact ⟨(row2 ((hb.block _ (by omega)).trans h1)).1, (ha.keep HB1.out).keep hb⟩
  clear ha hs
  go_enter Try.func50, Try.ntmps50
  go_wp2
  rw [HW1.out]
  clear HW1
  go_loopw [9, 10] (fun u v wr => ∃ p q : Nat, p ≤ q ∧ q ≤ l.length ∧ u = .int .i64 p ∧ v = .int .i64 q ∧ Below W1.heap.size W1 wr ∧ Hid ((∀ j (h : j < l.length), j < p → M.cmpE l[j] x < 0) ∧ (∀ j (h : j < l.length), q ≤ j → 0 ≤ M.cmpE l[j] x))) (fun u v _ => (intOf v).toNat - (intOf u).toNat)
  case atStart => exact ⟨0, l.length, by omega, by omega, rfl, rfl, Below.refl _ _, fun j h h' => by omega, fun j h h' => by omega⟩
  case round =>
    obtain ⟨p, q, hpq, hq, rfl, rfl, hbel, HI⟩ := hrel
    by_cases hlt : p < q
    · obtain ⟨m, hmm⟩ : ∃ m : Nat, m = (p + q) / 2 := ⟨_, rfl⟩
      have hml : m < l.length := by omega
      obtain ⟨⟨d0, d1⟩, hat⟩ := HR.out wr hbel
      obtain ⟨b, off, rfl, c0, c1⟩ := hat m hml
      have HS : Hid (∀ w', Below wr.heap.size wr w' → (w'.cell? ⟨w.heap.size, 0, none⟩ = some (.int .i64 x.i) ∧ w'.cell? ⟨w.heap.size, 1, none⟩ = some (.int .i64 x.t)) ∧ (w'.cell? ⟨b, off + m * 2, none⟩ = some (.int .i64 l[m].i) ∧ w'.cell? ⟨b, off + m * 2 + 1, none⟩ = some (.int .i64 l[m].t))) := by
        intro w' hb
        obtain ⟨h1, h2⟩ := HR.out w' (bel_up hbel hb (Nat.le_refl _))
        obtain ⟨b', off', e', h3⟩ := h2 m hml
        cases e'
        exact ⟨h1, h3⟩
      have hk := fun w => cmp_any l[m] x w
      have H1 : Hid (M.cmpE l[m] x < 0 → ∀ j (h : j < l.length), j < m + 1 → M.cmpE l[j] x < 0) := fun h j hj hj' => hm j m hj hml (by omega) h
      have H2 : Hid (0 ≤ M.cmpE l[m] x → ∀ j (h : j < l.length), m ≤ j → 0 ≤ M.cmpE l[j] x) := fun h j hj hj' => by
        by_cases h' : M.cmpE l[j] x < 0
        · have := hm m j hml hj hj' h'
          omega
        · omega
      have HX : Hid (Below W1.heap.size W1 wr) := hbel
      generalize M.cmpE l[m] x = kv at *
      generalize l[m].i = ei at *
      generalize l[m].t = et at *
      have hsub : ((p : Int) + (q : Int)) / 2 = (m : Int) := by omega
      have hsub2 : IntKind.i64.wrap ((p : Int) + q) = (p : Int) + q := by rw [IntKind.wrap_i64]; omega
      have HM : Hid (p ≤ m ∧ m < q) := ⟨by omega, by omega⟩
      clear hm hmm hat hbel
      by_cases hkc : kv < 0
      · have hd : decide (kv < 0) = true := by simpa using hkc
        have H1' := Hid_of (H1.out hkc)
        clear hkc H1 H2
        go_wp2_with fail
        go_region_held3 (fun wq => (wq.cell? ⟨w.heap.size, 0, none⟩ = some (.int .i64 x.i) ∧ wq.cell? ⟨w.heap.size, 1, none⟩ = some (.int .i64 x.t)) ∧ (wq.cell? ⟨b, off + m * 2, none⟩ = some (.int .i64 ei) ∧ wq.cell? ⟨b, off + m * 2 + 1, none⟩ = some (.int .i64 et))) (first | exact HS.out _ (Below.refl _ _) | exact HS.out _ (Below.drew (Below.refl _ _)) | exact HS.out _ (by assumption)) (first
          | (go_at_call 51; refine (hk _).mono ?_; rintro e w2 ⟨rfl, hb2⟩; have B2 : Below wr.heap.size wr w2 := Below.trans (Below.drew (Below.refl _ _)) hb2; clear hb2))
        have HB2 : Hid (Below W1.heap.size W1 w2) := bel_up HX.out B2 (Nat.le_refl _)
        clear B2 HS d0 d1 c0 c1 HX
        go_wp2
        go_roundw
        case rel => exact ⟨m + 1, q, by have := HM.out; omega, hq, by go_num, rfl, HB2.out, H1'.out, HI.out.2⟩
        case measure => have := HM.out; simp [intOf]; omega
      · have hd : decide (kv < 0) = false := by simpa using hkc
        have H2' := Hid_of (H2.out (by omega))
        clear hkc H1 H2
        go_wp2_with fail
        go_region_held3 (fun wq => (wq.cell? ⟨w.heap.size, 0, none⟩ = some (.int .i64 x.i) ∧ wq.cell? ⟨w.heap.size, 1, none⟩ = some (.int .i64 x.t)) ∧ (wq.cell? ⟨b, off + m * 2, none⟩ = some (.int .i64 ei) ∧ wq.cell? ⟨b, off + m * 2 + 1, none⟩ = some (.int .i64 et))) (first | exact HS.out _ (Below.refl _ _) | exact HS.out _ (Below.drew (Below.refl _ _)) | exact HS.out _ (by assumption)) (first
          | (go_at_call 51; refine (hk _).mono ?_; rintro e w2 ⟨rfl, hb2⟩; have B2 : Below wr.heap.size wr w2 := Below.trans (Below.drew (Below.refl _ _)) hb2; clear hb2))
        have HB2 : Hid (Below W1.heap.size W1 w2) := bel_up HX.out B2 (Nat.le_refl _)
        clear B2 HS d0 d1 c0 c1 HX
        go_wp2
        go_roundw
        case rel => exact ⟨p, m, by have := HM.out; omega, by have := HM.out; omega, rfl, rfl, HB2.out, HI.out.1, H2'.out⟩
        case measure => have := HM.out; simp [intOf]; omega
    · have hpq' : p = q := by omega
      subst hpq'
      have HX : Hid (Below W1.heap.size W1 wr) := hbel
      have HSr : Hid (Srch l x p) := ⟨hq, HI.out.1, HI.out.2⟩
      obtain ⟨⟨d0, d1⟩, hat⟩ := HR.out wr hbel
      by_cases hpl : p < l.length
      · obtain ⟨b, off, rfl, c0, c1⟩ := hat p hpl
        have HS : Hid (∀ w', Below wr.heap.size wr w' → (w'.cell? ⟨w.heap.size, 0, none⟩ = some (.int .i64 x.i) ∧ w'.cell? ⟨w.heap.size, 1, none⟩ = some (.int .i64 x.t)) ∧ (w'.cell? ⟨b, off + p * 2, none⟩ = some (.int .i64 l[p].i) ∧ w'.cell? ⟨b, off + p * 2 + 1, none⟩ = some (.int .i64 l[p].t))) := by
          intro w' hb
          obtain ⟨h1, h2⟩ := HR.out w' (bel_up hbel hb (Nat.le_refl _))
          obtain ⟨b', off', e', h3⟩ := h2 p hpl
          cases e'
          exact ⟨h1, h3⟩
        have hk := fun w => cmp_any l[p] x w
        generalize M.cmpE l[p] x = kv at *
        generalize l[p].i = ei at *
        generalize l[p].t = et at *
        clear hm hat hbel HR hlt hpq HI
        go_wp2_with fail
        go_region_held3 (fun wq => (wq.cell? ⟨w.heap.size, 0, none⟩ = some (.int .i64 x.i) ∧ wq.cell? ⟨w.heap.size, 1, none⟩ = some (.int .i64 x.t)) ∧ (wq.cell? ⟨b, off + p * 2, none⟩ = some (.int .i64 ei) ∧ wq.cell? ⟨b, off + p * 2 + 1, none⟩ = some (.int .i64 et))) (first | exact HS.out _ (Below.refl _ _) | exact HS.out _ (Below.drew (Below.refl _ _)) | exact HS.out _ (by assumption)) (first
          | (go_at_call 51; refine (hk _).mono ?_; rintro e w2 ⟨rfl, hb2⟩; have B2 : Below wr.heap.size wr w2 := Below.trans (Below.drew (Below.refl _ _)) hb2; clear hb2))
        have HB2 : Hid (Below w.heap.size w w2) := bel_up HB1.out (bel_up HX.out B2 (Nat.le_refl _)) (Nat.le_refl _)
        clear B2 HS d0 d1 c0 c1 HX
        go_wp2
        go_ret2
        exact ⟨p, _, rfl, HSr.out, HB2.out⟩
      · have hd : decide ((p : Int) < (l.length : Int)) = false := by simp; omega
        clear hm hat hbel HR hlt hpq HI d0 d1
        go_wp2_with fail
        go_quiet (fail)
        go_wp2
        go_ret2
        exact ⟨p, _, rfl, HSr.out, bel_up HB1.out (below_drewN HX.out nq) (Nat.le_refl _)⟩
end Go.Proofs.Ytbgbdiiinggjnaa
