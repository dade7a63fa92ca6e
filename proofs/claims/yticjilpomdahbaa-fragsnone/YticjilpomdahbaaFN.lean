/-
  All places: List.
-/
import Derived.Test.YticjilpomdahbaaFL
namespace Go.Proofs.Yticjilpomdahbaa
open Go.RowKit
open M (ofL ofL_size ofL_of)
set_option linter.unusedVariables false

set_option maxRecDepth 100000 in
set_option maxHeartbeats 400000 in
theorem list_any (b s d : Nat) (L : List Fr.Sl) (cut : Bool) (w : World) (h : FO w b s d L cut) :
    Calls Try.prog 8 #[.pointer (some ⟨b, 0, none⟩)] w fun e w' => LsOut w L e w' := by
  obtain ⟨⟨c0, c1, c2⟩, _⟩ := row3f h.row
  have hle := h.len
  have HH := Hid_of h
  have HA : Hid (pll (L.take L.length) = pll L) := by rw [List.take_length]; rfl
  have HL : Hid (∀ k, (pll (L.take k)).length ≤ L.length) := pll_take_len L
  clear h
  go_enter Try.func8, Try.ntmps8
  go_wp2
  go_loopw [3, 13] (fun v i wr => ∃ (k m : Nat) (a : Option Addr) (cap : Nat), k ≤ L.length ∧ m ≤ 256 ∧ v = .slice a m cap ∧ i = .int .i64 k ∧ Hid (wr.ownsRow w.heap.size 23 2 (.slice a m cap) m (QC (pll (L.take k))) ∧ m = (pll (L.take k)).length) ∧ Below w.heap.size w wr) (fun _ i _ => L.length - (intOf i).toNat)
  case atStart => exact ⟨0, 0, none, 0, by omega, by omega, rfl, rfl, ⟨World.ownsRow_nil _ _ _ _, rfl⟩, Below.refl _ _⟩
  case round =>
    obtain ⟨k, m, a, cap, hk, hm, rfl, rfl, HO, hbel⟩ := hrel
    by_cases hlt : k < L.length
    · obtain ⟨x, hx⟩ : ∃ x, L[k]? = some x := ⟨_, List.getElem?_eq_getElem hlt⟩
      have hR := (HH.out.keep hbel).sl
      cases x with
      | none =>
        obtain ⟨k0, k1, k2, k3⟩ := hR.none hx
        have hb1 := bel1 wr (.cells #[.bool false, .int .i64 0, .int .i64 0, .int .i64 0] 50)
        have HB := Hid_of (bel_up hbel hb1 (Nat.le_refl _))
        have HN := Hid_of (owns_keep HO.out.1 hb1)
        have HE : Hid (pll (L.take (k + 1)) = pll (L.take k)) := pll_step_none L k hx
        clear hR hx hbel hb1
        go_wp2
        go_roundw
        case rel => exact ⟨k + 1, m, a, cap, by omega, by omega, rfl, by go_num, by rw [HE.out]; exact ⟨HN.out, HO.out.2⟩, HB.out⟩
        case measure => simp [intOf]; omega
      | some y =>
        obtain ⟨⟨p, q⟩, t⟩ := y
        obtain ⟨k0, k1, k2, k3⟩ := hR.some hx
        have HE : Hid (pll (L.take (k + 1)) = pll (L.take k) ++ [((p : Int), (q : Int))]) := pll_step_some L k p q t hx
        generalize t.size = z at *
        obtain ⟨W1, hW1⟩ : ∃ W1, (wr.alloc (.cells #[.bool true, .int .i64 p, .int .i64 q, .int .i64 z] 50)).alloc (.cells #[.int .i64 p, .int .i64 q] 23) = W1 := ⟨_, rfl⟩
        have hb1 : Below wr.heap.size wr W1 := by rw [← hW1]; exact (bel1 wr _).alloc (by simp) _
        have hr1 : W1.heap[wr.heap.size + 1]? = some (.cells #[.int .i64 p, .int .i64 q] 23 (0, 0)) := by rw [← hW1]; exact heap_alloc2_new wr _ _
        have hB1 := bel_up hbel hb1 (Nat.le_refl _)
        have hO := owns_keep HO.out.1 hb1
        have hm' := HO.out.2
        have hlen := HL.out k
        generalize pll (L.take k) = l at *
        subst hm'
        obtain ⟨gg, cp, w3, hrun, ho, hrw⟩ := run_app_pl W1 w.heap.size _ l ((p : Int), (q : Int)) (wr.heap.size + 1) 1 35 hO hr1 (by omega) hB1.size
        have HW1 := Hid_of hW1
        have HN := Hid_of ho
        have HB := Hid_of (hB1.trans (hrw.below (fun k hk => (World.ownsRow.lt hO k hk).1) hB1.size))
        have hml : l.length + 1 ≤ 256 := by
          have := HL.out (k + 1)
          rw [HE.out, List.length_append] at this
          simp at this
          omega
        clear hR hx hbel hb1 hr1 hB1 hO ho hrw hW1
        obtain ⟨ll, hll⟩ : ∃ ll, l.length = ll := ⟨_, rfl⟩
        rw [hll] at hrun HN hml ⊢
        have HLL := Hid_of hll
        clear hll
        go_wp2_with (at_builtin; rw [HW1.out]; refine wpList_append_known rfl (.tmp 19) (.tmp 22) 35 rfl _ _ (by simp [Act.eval]) (by simp [Act.eval]) _ _ hrun ?_; clear hrun)
        go_roundw
        case rel =>
          refine ⟨k + 1, ll + 1, some ⟨gg, 0, none⟩, cp, by omega, by omega, rfl, by go_num, ?_, HB.out⟩
          rw [HE.out]
          refine ⟨?_, by rw [List.length_append, HLL.out]; rfl⟩
          have := HN.out
          rw [List.length_append, HLL.out] at this
          exact this
        case measure => simp [intOf]; omega
    · obtain rfl : k = L.length := by omega
      rw [HA.out] at HO
      obtain ⟨hO, hm'⟩ := HO.out
      rcases owns_slice hO with ⟨e, e0⟩ | ⟨g, cp, e⟩
      · cases e
        have HL0 : Hid (pll L = []) := List.length_eq_zero_iff.1 (by omega)
        have HB := Hid_of hbel
        clear e0
        clear hO hm' HO HA HL hbel
        have hc := sort_none none 0 (.func (.func 25) #[] #[]) wr
        go_wp2_with fail
        refine hc.mono ?_
        rintro x w2 ⟨rfl, rfl⟩
        clear hc
        go_wp2
        go_ret
        exact ⟨none, 0, [], rfl, by rw [HL0.out], (fun j h => by simp at h), (fun k hk => by obtain ⟨_, _, h⟩ := hk; cases h), HB.out⟩
      · cases e
        obtain ⟨hH, hg, hbg⟩ := owns_holds hm'.symm hO
        have hsz : (pll L).toArray.size = m := by simp; omega
        have hc := sort_any g cap (pll L).toArray wr hH hg (by omega)
        rw [hsz] at hc
        have HB := Hid_of hbel
        have HM : Hid (m = (pll L).length) := hm'
        have HG : Hid (w.heap.size ≤ g ∧ g < wr.heap.size) := ⟨hbg, hg⟩
        have HT : Hid ((pll L).toArray.toList = pll L) := (rfl : (pll L).toArray.toList = pll L)
        generalize (pll L).toArray = D at *
        clear hO hm' HO HA HL hbel hH hg hbg hsz
        go_wp2_with fail
        refine hc.mono ?_
        rintro x w2 ⟨d', rfl, h1, h2, h3, h4⟩
        have HF : Hid (LsOut w L (.returned (.slice (some ⟨g, 0, none⟩) m cap)) w2) := by
          refine ⟨some ⟨g, 0, none⟩, cap, d'.toList, by rw [Array.length_toList, h1], by rw [← HT.out]; exact h2, ?_, fun k hk => ?_, HB.out.grown h4 HB.out.size (fun j hj => by cases hj; exact HG.out.1)⟩
          · exact holds_at (l := d'.toList) (by simpa using h3)
          · obtain ⟨_, _, e⟩ := hk
            simp at e
            obtain ⟨rfl, _⟩ := e
            exact ⟨HG.out.1, Nat.lt_of_lt_of_le HG.out.2 h4.size⟩
        clear h1 h2 h3 h4 hc
        go_wp2
        go_ret
        exact HF.out
end Go.Proofs.Yticjilpomdahbaa
