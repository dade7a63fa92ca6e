/-
  What is done to the message that is picked: it is dropped, it is doubled.
-/
import Derived.Test.YtjbodjjeenjbeaaND
namespace Go.Proofs.Ytjbodjjeenjbeaa
open Go.RowKit
set_option linter.unusedVariables false
open Nt (Pk)

theorem NOut.from {w w1 : World} {base b m : Nat} {v : Value} {n : Nat} {N : Int} {L' : List Pk} {C : Int → Int → Bool} {r : Value} {e : Ending} {w' : World} (hb : Below w.heap.size w w1) (h : NOut w1 base b m v n N L' C r e w') : NOut w base b m v n N L' C r e w' := by
  obtain ⟨v', h1, h2, h3⟩ := h
  exact ⟨v', h1, h2, (Ch.ofBelow hb).trans h3⟩
theorem NOut.res {w w' : World} {base b m : Nat} {v : Value} {n : Nat} {N : Int} {L' : List Pk} {C : Int → Int → Bool} {r : Value} {e : Ending} (h : NOut w base b m v n N L' C r e w') : e = .returned r := by obtain ⟨v', h1, _⟩ := h; exact h1
theorem NOut.with {w w' : World} {base b m : Nat} {v : Value} {n : Nat} {N : Int} {L' : List Pk} {C : Int → Int → Bool} {r : Value} {e : Ending} (h : NOut w base b m v n N L' C r e w') (r' : Value) : NOut w base b m v n N L' C r' (.returned r') w' := by
  obtain ⟨v', h1, h2, h3⟩ := h
  exact ⟨v', rfl, h2, h3⟩
set_option maxHeartbeats 400000 in
theorem drop1_any {w : World} {base b m : Nat} {v : Value} {n : Nat} {N : Int} {L : List Pk} {C : Int → Int → Bool} (h : NI w base b m v n N L C) (hbw : base ≤ w.heap.size) (i : Nat) (hi : i < L.length) (x : Nat) (hx : w.cell? ⟨x, 0, none⟩ = some (.pointer (some ⟨b, 0, none⟩))) :
    Calls Try.prog 37 #[.int .i64 i, .pointer (some ⟨x, 0, none⟩)] w (NOut w base b m v n N (L.eraseIdx i) C (.bool true)) := by
  have c := take_one h hbw i hi
  generalize pv L[i] = r at *
  clear h
  go_enter Try.func37, Try.ntmps37
  go_wp2_with fail
  refine c.mono ?_
  intro e w1 h1
  have hr := h1.res
  have HK := Hid_of (h1.with (.bool true))
  subst hr
  clear h1
  go_wp2
  go_ret
  exact HK.out
/-- One more under way, if there is room. -/
theorem add_any {w : World} {base b m : Nat} {v : Value} {n : Nat} {N : Int} {L : List Pk} {C : Int → Int → Bool} (h : NI w base b m v n N L C) (hbw : base ≤ w.heap.size) (p : Pk) (hs : 0 < p.s.size ∧ p.s.size ≤ 1000000) (hl : (0 ≤ p.a ∧ p.a < 64) ∧ (0 ≤ p.b ∧ p.b < 64)) :
    Calls Try.prog 28 #[.pointer (some ⟨b, 0, none⟩), pv p] w (NOut w base b m v n N (Nt.add (Nt.room L) L p) C (.bool (Nt.room L))) := by
  unfold Nt.add Nt.room
  by_cases hr : L.length < 1024
  · rw [decide_eq_true hr]
    exact add_yes h hbw p.a p.b p.s hr (h.ok.app hr hs hl)
  · rw [decide_eq_false hr]
    exact add_no h p.a p.b p.s hr
set_option maxRecDepth 100000 in
set_option maxHeartbeats 400000 in
theorem double1_any {w : World} {base b m : Nat} {v : Value} {n : Nat} {N : Int} {L : List Pk} {C : Int → Int → Bool} (h : NI w base b m v n N L C) (hbw : base ≤ w.heap.size) (i : Nat) (hi : i < L.length) (x : Nat) (hx : w.cell? ⟨x, 0, none⟩ = some (.pointer (some ⟨b, 0, none⟩))) :
    Calls Try.prog 38 #[.int .i64 i, .pointer (some ⟨x, 0, none⟩)] w (NOut w base b m v n N (Nt.add (Nt.room L) L L[i]) C (.bool (Nt.room L))) := by
  have hm : L[i] ∈ L := List.getElem_mem hi
  have hB : Below w.heap.size w w.drew := (Below.refl _ _).drew
  have c := add_any (h.keep hB) hbw L[i] (h.ok.s _ hm) (h.ok.l _ hm)
  obtain ⟨a, cap, rfl, hX, _⟩ := h.own.at
  obtain ⟨g, off, rfl, q0, q1, q2⟩ := hX.at' i hi
  obtain ⟨⟨c0, c1, c2⟩, _⟩ := h.cells
  have hil : (i : Int) < (L.length : Int) := by omega
  have HK := Hid_of (fun e w' (k : NOut w.drew base b m (.slice (some ⟨g, off, none⟩) L.length cap) n N (Nt.add (Nt.room L) L L[i]) C (.bool (Nt.room L)) e w') => k.from hB)
  unfold pv at c
  generalize Nt.add (Nt.room L) L L[i] = LL at *
  generalize Nt.room L = rm at *
  generalize L[i].a = pa at *
  generalize L[i].b = pb at *
  generalize L[i].s = ps at *
  clear h hX hB hm
  go_enter Try.func38, Try.ntmps38
  go_wp2_with fail
  go_region_with (go_at_call 28; refine c.mono ?_; intro e w1 h1; have hr := h1.res; have HQ := Hid_of (HK.out e w1 h1); subst hr; clear h1)
  all_goals
    go_wp2
    go_ret
    exact HQ.out
end Go.Proofs.Ytjbodjjeenjbeaa
