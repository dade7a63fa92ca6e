/-
  One is set at its place; one is stopped; one is set.
-/
import Derived.Test.YtbgbdiiinggjnaaN
namespace Go.Proofs.Ytbgbdiiinggjnaa
open Go.RowKit
set_option linter.unusedVariables false
open M (E)

theorem Row.one {w : World} {g : Nat} (x : E) (h : w.heap[g]? = some (.cells #[.int .i64 x.i, .int .i64 x.t] 93 (0, 0))) : Row w g 1 [.int .i64 x.i, .int .i64 x.t] [x] :=
  ⟨h, by simp, by decide, by simp, rfl⟩
set_option maxRecDepth 100000 in
set_option maxHeartbeats 2000000 in
theorem put_any (base b : Nat) (v : Value) (P : List E) (x : E) (w : World) (hb : base ≤ w.heap.size) (h : XI w base b v P) (hg : M.G (M.ins P x)) :
    Calls Try.prog 41 #[.pointer (some ⟨b, 0, none⟩), .agg #[.int .i64 x.i, .int .i64 x.t]] w (ChOut w base b v (M.ins P x) (.tuple #[])) := by
  obtain ⟨W1, HW1⟩ : ∃ W1, Hid (w.alloc (.cells #[.int .i64 x.i, .int .i64 x.t] 93) = W1) := ⟨_, rfl⟩
  have HB1 : Hid (Below w.heap.size w W1) := by rw [← HW1.out]; exact bel1 w _
  have hs1 : W1.heap.size = w.heap.size + 1 := by rw [← HW1.out]; simp
  have HR : Hid (∀ w', Below W1.heap.size W1 w' → w'.heap[w.heap.size]? = some (.cells #[.int .i64 x.i, .int .i64 x.t] 93 (0, 0)) ∧ XI w' base b v P ∧ Below w.heap.size w w') := by
    intro w' hb'
    have h1 : W1.heap[w.heap.size]? = some (.cells #[.int .i64 x.i, .int .i64 x.t] 93 (0, 0)) := by rw [← HW1.out]; exact heap_alloc_last w _
    exact ⟨(hb'.block _ (by omega)).trans h1, (h.keep HB1.out).keep hb', bel_up HB1.out hb' (Nat.le_refl _)⟩
  have HS : Hid (∀ w', Below W1.heap.size W1 w' → w'.cell? ⟨b, 0, none⟩ = some v ∧ (w'.cell? ⟨w.heap.size, 0, none⟩ = some (.int .i64 x.i) ∧ w'.cell? ⟨w.heap.size, 1, none⟩ = some (.int .i64 x.t))) := by
    intro w' hb'
    obtain ⟨h1, h2, _⟩ := HR.out w' hb'
    exact ⟨h2.c0, (row2 h1).1⟩
  obtain ⟨a, cap, rfl, hat, _, _, hnc⟩ := h.own.at
  have hsr := search_any a cap P x W1.drew (by have := h.len; omega) ((hat.keep HB1.out).keep (Below.drew (Below.refl _ _))) h.g.s
  have HG := Hid_of hg
  have hlen := h.len
  obtain ⟨c0, d0, d1⟩ := HS.out W1 (Below.refl _ _)
  clear h hat hg hnc
  go_enter Try.func41, Try.ntmps41
  go_wp2_with fail
  rw [HW1.out]
  clear HW1
  go_region_held3 (fun wq => wq.cell? ⟨b, 0, none⟩ = some (.slice a P.length cap) ∧ (wq.cell? ⟨w.heap.size, 0, none⟩ = some (.int .i64 x.i) ∧ wq.cell? ⟨w.heap.size, 1, none⟩ = some (.int .i64 x.t))) (first | exact HS.out _ (Below.refl _ _) | exact HS.out _ (Below.drew (Below.refl _ _)) | exact HS.out _ (by assumption)) (first
    | (go_at_call 50; refine hsr.mono ?_; rintro e w2 ⟨r, bb, rfl, hr, hb2⟩; have B2 : Below W1.heap.size W1 w2 := Below.trans (Below.drew (Below.refl _ _)) hb2; clear hb2))
  obtain ⟨hrow, hX, hBw⟩ := HR.out w2 B2
  obtain ⟨c2, e0, e1⟩ := HS.out w2 B2
  obtain ⟨W3, HW3⟩ : ∃ W3, Hid ((w2.alloc (.cells #[.int .i64 x.i, .int .i64 x.t] 93)).drew = W3) := ⟨_, rfl⟩
  have B3 : Below w2.heap.size w2 W3 := by rw [← HW3.out]; exact (bel1 w2 _).drew
  have hX3 := hX.keep B3
  have hrow3 : W3.heap[w2.heap.size]? = some (.cells #[.int .i64 x.i, .int .i64 x.t] 93 (0, 0)) := by rw [← HW3.out]; exact heap_alloc_last w2 _
  have hbw3 : base ≤ W3.heap.size := by have := hBw.size; have := B3.size; omega
  have hc : Calls Try.prog 52 #[.slice a P.length cap, .int .i64 r, .slice (some ⟨w2.heap.size, 0, none⟩) 1 1] W3 (InsOut W3 base (.slice a P.length cap) (M.ins P x)) := by
    have := insert_any (Q := [x]) (u := .slice (some ⟨w2.heap.size, 0, none⟩) 1 1) r hbw3 hX3.own (.inr ⟨w2.heap.size, 1, _, rfl, Row.one x hrow3, (fun e => by have := (hX.low _ e).2; omega), by simp⟩) hr.le (by omega) (by simp)
    rw [← M.ins_at hr.le hr.lo (fun h => by have := hr.hi r h (Nat.le_refl _); omega)] at this
    exact this
  have HX3 := Hid_of hX3
  have HBw3 : Hid (Below w.heap.size w W3) := bel_up hBw B3 (Nat.le_refl _)
  have HFIN : Hid (∀ v' w4, Own w4 base v' (M.ins P x) → Rw W3 (.slice a P.length cap) w4 v' → (w4.cell? ⟨b, 0, none⟩ = some (.slice a P.length cap) ∧ w4.frozen? ⟨b, 0, none⟩ = false) ∧ ChOut w base b (.slice a P.length cap) (M.ins P x) (.tuple #[]) (.returned (.tuple #[])) (w4.setCell ⟨b, 0, none⟩ v')) := by
    intro v' w4 o r
    obtain ⟨h1, h2⟩ := HX3.out.put r o HG.out
    exact ⟨HX3.out.c1 r, v', rfl, h1, (Ch.ofBelow HBw3.out).trans h2⟩
  have c3 : (w2.alloc (.cells #[.int .i64 x.i, .int .i64 x.t] 93)).cell? ⟨b, 0, none⟩ = some (.slice a P.length cap) := (hX.keep (bel1 w2 _)).c0
  rw [← HW3.out] at hc
  clear hsr HR HS HB1 B2 hrow hX hX3 hrow3 hbw3 HX3 HBw3 B3 HG hr hBw
  go_wp2_with fail
  go_region_with (go_at_call 52; refine hc.mono ?_; rintro e w4 ⟨v', rfl, o4, r4⟩; rw [HW3.out] at r4; obtain ⟨⟨k0, k1⟩, HQ⟩ := HFIN.out v' w4 o4 r4; obtain ⟨a', cap', rfl, _⟩ := o4.at; clear o4 r4)
  all_goals
    go_end0
    exact HQ
set_option maxHeartbeats 1000000 in
theorem stop_any (base b : Nat) (v : Value) (P : List E) (k : Int) (w : World) (hb : base ≤ w.heap.size) (h : XI w base b v P) :
    Calls Try.prog 40 #[.pointer (some ⟨b, 0, none⟩), .int .i64 k] w (ChOut w base b v (M.stop P k) (.bool (decide (M.fnd P k < P.length)))) := by
  have hlen := h.len
  have c0 := h.c0
  by_cases hf : M.fnd P k < P.length
  · rw [decide_eq_true hf]
    have HX := Hid_of h
    have HG : Hid (M.G (M.stop P k)) := h.g.stopped k
    have HP := Hid_of (M.stop_yes h.g.u hf)
    obtain ⟨a, cap, rfl, hat, _⟩ := h.own.at
    have hp := place_any a cap P k w (by omega) hat
    rw [M.plc_yes hf] at hp
    generalize M.fnd P k = f at *
    clear h hat
    have hw : IntKind.i64.wrap ((f : Int) + 1) = (f : Int) + 1 := by rw [IntKind.wrap_i64]; omega
    go_enter Try.func40, Try.ntmps40
    go_wp2_with fail
    refine hp.mono ?_
    rintro e w1 ⟨rfl, hb1⟩
    have hX1 := HX.out.keep hb1
    have c1 := hX1.c0
    rcases hX1.own.row with ⟨_, h0⟩ | ⟨g, cap', cur, hv, hbg, hr⟩
    · subst h0; simp at hf
    · obtain ⟨ha', hcap'⟩ : a = some ⟨g, 0, none⟩ ∧ cap = cap' := by simpa using hv
      subst ha' hcap'
      have hd := delete_row f hbg hr hf (by omega)
      rw [← HP.out] at hd
      have HFIN : Hid (∀ v' w4, Own w4 base v' (M.stop P k) → Rw w1 (.slice (some ⟨g, 0, none⟩) P.length cap) w4 v' → (w4.cell? ⟨b, 0, none⟩ = some (.slice (some ⟨g, 0, none⟩) P.length cap) ∧ w4.frozen? ⟨b, 0, none⟩ = false) ∧ ChOut w base b (.slice (some ⟨g, 0, none⟩) P.length cap) (M.stop P k) (.bool true) (.returned (.bool true)) (w4.setCell ⟨b, 0, none⟩ v')) := by
        intro v' w4 o r
        obtain ⟨h1, h2⟩ := hX1.put r o HG.out
        exact ⟨hX1.c1 r, v', rfl, h1, (Ch.ofBelow hb1).trans h2⟩
      clear hX1 hr hb1 HX HP HG hp hv
      go_wp2_with fail
      refine hd.mono ?_
      rintro e w4 ⟨v', rfl, o4, r4⟩
      obtain ⟨⟨k0, k1⟩, HQ⟩ := HFIN.out v' w4 o4 r4
      obtain ⟨a', cp', rfl, _⟩ := o4.at
      have HQ' := Hid_of HQ
      clear o4 r4 HFIN HQ hd
      go_wp2
      go_ret
      exact HQ'.out
  · rw [decide_eq_false hf, M.stop_no hf]
    have HX := Hid_of h
    obtain ⟨a, cap, rfl, hat, _⟩ := h.own.at
    have hp := place_any a cap P k w (by omega) hat
    rw [M.plc_no hf] at hp
    clear h hat hf
    go_enter Try.func40, Try.ntmps40
    go_wp2_with fail
    refine hp.mono ?_
    rintro e w1 ⟨rfl, hb1⟩
    have HK : Hid (ChOut w base b (.slice a P.length cap) P (.bool false) (.returned (.bool false)) w1) := ⟨_, rfl, HX.out.keep hb1, Ch.ofBelow hb1⟩
    clear hb1 hp
    go_wp2
    go_ret
    exact HK.out
set_option maxHeartbeats 1000000 in
theorem set_bad (base b : Nat) (v : Value) (P : List E) (k a : Int) (w : World) (h : XI w base b v P) (hbad : M.bad k a = true) :
    Calls Try.prog 29 #[.pointer (some ⟨b, 0, none⟩), .int .i64 k, .int .i64 a] w (ChOut w base b v P (.int .i64 1)) := by
  have HK : Hid (ChOut w base b v P (.int .i64 1) (.returned (.int .i64 1)) w) := ⟨_, rfl, h, Ch.refl _ _ _⟩
  clear h
  unfold M.bad at hbad
  by_cases h1 : k < 0
  · clear hbad
    go_enter Try.func29, Try.ntmps29
    go_wp2
    go_ret
    exact HK.out
  · by_cases h2 : a < 0
    · clear hbad
      go_enter Try.func29, Try.ntmps29
      go_wp2
      go_ret
      exact HK.out
    · have h3 : 1099511627776 < a := by simpa [h1, h2] using hbad
      clear hbad
      go_enter Try.func29, Try.ntmps29
      go_wp2
      go_ret
      exact HK.out
set_option maxHeartbeats 1000000 in
theorem set_good (base b : Nat) (v : Value) (P : List E) (k a : Int) (w : World) (hb : base ≤ w.heap.size) (h : XI w base b v P) (hbad : M.bad k a = false) :
    Calls Try.prog 29 #[.pointer (some ⟨b, 0, none⟩), .int .i64 k, .int .i64 a] w (ChOut w base b v (M.setL P k a) (.int .i64 (M.setE P k a))) := by
  obtain ⟨hk0, ha0, ha1⟩ := M.bad_no hbad
  have h1 : ¬ k < 0 := by omega
  have h2 : ¬ a < 0 := by omega
  have h3 : ¬ 1099511627776 < a := by omega
  have hlen := h.len
  have c0 := h.c0
  have HX := Hid_of h
  have HF := Hid_of (M.full_iff h.g k)
  have HB := Hid_of hbad
  obtain ⟨aa, cap, rfl, hat, _⟩ := h.own.at
  have hp := place_any aa cap P k w (by omega) hat
  clear h hat hbad hk0 ha0 ha1
  by_cases hfull : 64 ≤ (M.stop P k).length
  · obtain ⟨hno, hn⟩ := HF.out.1 hfull
    rw [M.plc_no hno] at hp
    rw [(M.set_full HB.out hfull).1, (M.set_full HB.out hfull).2]
    have hn' : (64 : Int) ≤ (P.length : Int) := by omega
    clear hfull hno hn
    go_enter Try.func29, Try.ntmps29
    go_wp2_with fail
    refine hp.mono ?_
    rintro e w1 ⟨rfl, hb1⟩
    have c1 := (HX.out.keep hb1).c0
    have HK : Hid (ChOut w base b (.slice aa P.length cap) P (.int .i64 5) (.returned (.int .i64 5)) w1) := ⟨_, rfl, HX.out.keep hb1, Ch.ofBelow hb1⟩
    clear hb1 hp
    go_wp2
    go_ret
    exact HK.out
  · have hlt : (M.stop P k).length < 64 := by omega
    have hst := fun w1 (hb1 : Below w.heap.size w w1) => stop_any base b (.slice aa P.length cap) P k w1 (by have := hb1.size; omega) (HX.out.keep hb1)
    have HST := Hid_of hst
    have HGI : Hid (M.G (M.ins (M.stop P k) ⟨k, a⟩)) := by
      have := HX.out.g.setted k a
      rw [(M.set_ok HB.out hlt).1] at this
      exact this
    have hput := fun w2 v2 (hb2 : base ≤ w2.heap.size) (hx2 : XI w2 base b v2 (M.stop P k)) => put_any base b v2 (M.stop P k) ⟨k, a⟩ w2 hb2 hx2 HGI.out
    have HPUT := Hid_of hput
    have HFIN : Hid (∀ w1 v2 w2 v3 w3, Below w.heap.size w w1 → Ch w1 b (.slice aa P.length cap) w2 v2 → XI w3 base b v3 (M.ins (M.stop P k) ⟨k, a⟩) → Ch w2 b v2 w3 v3 → ChOut w base b (.slice aa P.length cap) (M.setL P k a) (.int .i64 (M.setE P k a)) (.returned (.int .i64 0)) w3) := by
      intro w1 v2 w2 v3 w3 g1 g2 g3 g4
      rw [(M.set_ok HB.out hlt).1, (M.set_ok HB.out hlt).2]
      exact ⟨v3, rfl, g3, ((Ch.ofBelow g1).trans g2).trans g4⟩
    clear hst hput HGI
    by_cases hf : M.fnd P k < P.length
    · rw [M.plc_yes hf] at hp
      clear hfull HF
      generalize M.fnd P k = f at *
      go_enter Try.func29, Try.ntmps29
      go_wp2_with fail
      refine hp.mono ?_
      rintro e w1 ⟨rfl, hb1⟩
      have c1 := (HX.out.keep hb1).c0
      have hst := HST.out w1 hb1
      have HB1 := Hid_of hb1
      clear hb1 hp HST HX
      go_wp2_with fail
      refine hst.mono ?_
      rintro e w2 ⟨v2, rfl, x2, ch2⟩
      have hpu := HPUT.out w2 v2 (by have := HB1.out.size; have := ch2.size; omega) x2
      have HC2 := Hid_of ch2
      clear ch2 x2 HPUT hst
      go_wp2_with fail
      refine hpu.mono ?_
      rintro e w3 ⟨v3, rfl, x3, ch3⟩
      have HQ := Hid_of (HFIN.out w1 v2 w2 v3 w3 HB1.out HC2.out x3 ch3)
      clear HFIN x3 ch3 hpu HC2 HB1
      go_wp2
      go_ret
      exact HQ.out
    · rw [M.plc_no hf] at hp
      have hn' : ¬ ((64 : Int) ≤ (P.length : Int)) := by
        intro h'
        exact hfull (HF.out.2 ⟨hf, by omega⟩)
      clear hfull HF
      go_enter Try.func29, Try.ntmps29
      go_wp2_with fail
      refine hp.mono ?_
      rintro e w1 ⟨rfl, hb1⟩
      have c1 := (HX.out.keep hb1).c0
      have hst := HST.out w1 hb1
      have HB1 := Hid_of hb1
      clear hb1 hp HST HX
      go_wp2_with fail
      refine hst.mono ?_
      rintro e w2 ⟨v2, rfl, x2, ch2⟩
      have hpu := HPUT.out w2 v2 (by have := HB1.out.size; have := ch2.size; omega) x2
      have HC2 := Hid_of ch2
      clear ch2 x2 HPUT hst
      go_wp2_with fail
      refine hpu.mono ?_
      rintro e w3 ⟨v3, rfl, x3, ch3⟩
      have HQ := Hid_of (HFIN.out w1 v2 w2 v3 w3 HB1.out HC2.out x3 ch3)
      clear HFIN x3 ch3 hpu HC2 HB1
      go_wp2
      go_ret
      exact HQ.out
theorem set_any (base b : Nat) (v : Value) (P : List E) (k a : Int) (w : World) (hb : base ≤ w.heap.size) (h : XI w base b v P) :
    Calls Try.prog 29 #[.pointer (some ⟨b, 0, none⟩), .int .i64 k, .int .i64 a] w (ChOut w base b v (M.setL P k a) (.int .i64 (M.setE P k a))) := by
  cases hbad : M.bad k a
  · exact set_good base b v P k a w hb h hbad
  · rw [(M.set_bad hbad).1, (M.set_bad hbad).2]
    exact set_bad base b v P k a w h hbad
end Go.Proofs.Ytbgbdiiinggjnaa
