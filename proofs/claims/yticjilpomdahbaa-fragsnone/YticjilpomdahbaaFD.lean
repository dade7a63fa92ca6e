/-
  A store and its device in memory; the steps of a Put and of a Delete.
-/
import Derived.Test.YticjilpomdahbaaFF
import Derived.Test.YticjilpomdahbaaG
namespace Go.Proofs.Yticjilpomdahbaa
open Go.RowKit
open M (ofL ofL_size ofL_of)
set_option linter.unusedVariables false

/-- What is a store's own. -/
def FP (F : Nat → Prop) (b s : Nat) (k : Nat) : Prop := F k ∨ k = b ∨ k = s
/-- A store and its device, new since w0. -/
structure Sto (w0 w : World) (b s d : Nat) (F : Nat → Prop) (n : Nat) (P : List M.Pl) (L : List Fr.Sl) (cut : Bool) : Prop where
  dev : DS w0 w d F n P false
  o : FO w b s d L cut
  ap : ¬ F b ∧ ¬ F s
  low : w0.heap.size ≤ b ∧ w0.heap.size ≤ s
section
variable {w0 w w' : World} {b s d : Nat} {F G : Nat → Prop} {n : Nat} {P Q : List M.Pl} {L : List Fr.Sl} {cut : Bool}
theorem not_G {k : Nat} (hc : Ch w F w' G) (hk : k < w.heap.size) (hF : ¬ F k) : ¬ G k := fun hG => by
  rcases hc.n k hG with h | h
  · exact hF h
  · omega
/-- The device alone has changed. -/
theorem Sto.step (h : Sto w0 w b s d F n P L cut) (hd : DS w0 w' d G n Q false) (hc : Ch w F w' G) : Sto w0 w' b s d G n Q L cut :=
  ⟨hd, h.o.keepBut (fun k hk e => hc.block k hk (e.elim (fun e => e ▸ h.ap.1) (fun e => e ▸ h.ap.2))), ⟨not_G hc h.o.lt.1 h.ap.1, not_G hc h.o.lt.2 h.ap.2⟩, h.low⟩
theorem Sto.keep (h : Sto w0 w b s d F n P L cut) (hb : Below w.heap.size w w') : Sto w0 w' b s d F n P L cut := ⟨h.dev.keep hb, h.o.keep hb, h.ap, h.low⟩
theorem Ch.wide (hc : Ch w F w' G) : Ch w (FP F b s) w' (FP G b s) :=
  ⟨hc.os, hc.tape, hc.output, hc.size, fun k hk hF => hc.block k hk (fun e => hF (.inl e)), fun k hk => by
    rcases hk with hk | hk
    · rcases hc.n k hk with h | h
      · exact .inl (.inl h)
      · exact .inr h
    · exact .inl (.inr hk)⟩
theorem Sto.own (h : Sto w0 w b s d F n P L cut) : ∀ k, FP F b s k → w0.heap.size ≤ k ∧ k < w.heap.size := by
  rintro k (hk | rfl | rfl)
  · exact h.dev.own k hk
  · exact ⟨h.low.1, h.o.lt.1⟩
  · exact ⟨h.low.2, h.o.lt.2⟩
/-- The store is cut. -/
theorem Sto.cut_it (h : Sto w0 w b s d F n P L false) : Sto w0 (w.setCell ⟨b, 2, none⟩ (.bool true)) b s d F n P L true ∧ Ch w (FP F b s) (w.setCell ⟨b, 2, none⟩ (.bool true)) (FP F b s) := by
  have hb : ∀ k, k ≠ b → (w.setCell ⟨b, 2, none⟩ (.bool true)).heap[k]? = w.heap[k]? := fun k hk => heap_setCell_other w ⟨b, 2, none⟩ k _ hk
  refine ⟨⟨h.dev.keepBut (fun k hk hF => hb k (fun e => h.ap.1 (by rw [← e]; exact hF))) (h.dev.bel.setCell (p := ⟨b, 2, none⟩) h.low.1 _), ⟨heap_setCell_same w b 2 _ _ _ h.o.row, (hb s (fun e => h.o.ne e.symm)).trans h.o.sl, h.o.ne, h.o.len⟩, h.ap, h.low⟩, Ch.cell b 2 _ (.inr (.inl rfl))⟩
end
/-- The boxes of a step that writes. -/
structure WB (w : World) (F : Nat → Prop) (k b : Nat) (at' : Int) (t : ByteArray) : Prop where
  c0 : w.heap[k]? = some (.cells #[.pointer (some ⟨b, 0, none⟩)] 27 (0, 0))
  c1 : w.heap[k + 1]? = some (.cells #[.int .i64 at'] 3 (0, 0))
  c2 : w.heap[k + 2]? = some (.cells #[.string t] 9 (0, 0))
  nf : ¬ F k ∧ ¬ F (k + 1) ∧ ¬ F (k + 2)
theorem WB.lt {w : World} {F : Nat → Prop} {k b : Nat} {at' : Int} {t : ByteArray} (h : WB w F k b at' t) : k + 2 < w.heap.size := (Array.getElem?_eq_some_iff.1 h.c2).1
theorem WB.step {w w' : World} {F G : Nat → Prop} {k b : Nat} {at' : Int} {t : ByteArray} (h : WB w F k b at' t) (hc : Ch w F w' G) : WB w' G k b at' t := by
  have hl := h.lt
  exact ⟨(hc.block k (by omega) h.nf.1).trans h.c0, (hc.block _ (by omega) h.nf.2.1).trans h.c1, (hc.block _ (by omega) h.nf.2.2).trans h.c2, not_G hc (by omega) h.nf.1, not_G hc (by omega) h.nf.2.1, not_G hc (by omega) h.nf.2.2⟩
theorem WB.keep {w w' : World} {F : Nat → Prop} {k b : Nat} {at' : Int} {t : ByteArray} (h : WB w F k b at' t) (hb : Below w.heap.size w w') : WB w' F k b at' t := h.step (Ch.ofBelow hb)
/-- The steps as values. -/
def fw (k : Nat) : Value := .func (.func 41) #[] #[.pointer (some ⟨k, 0, none⟩), .pointer (some ⟨k + 1, 0, none⟩), .pointer (some ⟨k + 2, 0, none⟩)]
def ff (b : Nat) : Value := .func (.func 22) #[.pointer (some ⟨b, 0, none⟩)] #[]
theorem row1 {w : World} {k : Nat} {v0 : Value} {t : TypeId} (h : w.heap[k]? = some (.cells #[v0] t (0, 0))) : w.cell? ⟨k, 0, none⟩ = some v0 := by rw [cell_of_row w k 0 _ _ _ h]; rfl
set_option maxRecDepth 100000 in
set_option maxHeartbeats 400000 in
theorem writing_any (b : Nat) (at' : Int) (t : ByteArray) (F : Nat → Prop) (w : World) (hF : ∀ k, F k → k < w.heap.size) :
    Calls Try.prog 21 #[.pointer (some ⟨b, 0, none⟩), .int .i64 at', .string t] w fun e w' => ∃ k, e = .returned (fw k) ∧ WB w' F k b at' t ∧ w.heap.size ≤ k ∧ Below w.heap.size w w' := by
  have HB : Hid (Below w.heap.size w (((w.alloc (.cells #[.pointer (some ⟨b, 0, none⟩)] 27)).alloc (.cells #[.int .i64 at'] 3)).alloc (.cells #[.string t] 9))) := ((bel1 w _).alloc (by simp) _).alloc (by simp; omega) _
  have HW : Hid (WB (((w.alloc (.cells #[.pointer (some ⟨b, 0, none⟩)] 27)).alloc (.cells #[.int .i64 at'] 3)).alloc (.cells #[.string t] 9)) F w.heap.size b at' t) := by
    obtain ⟨w1, h1⟩ : ∃ w1, w.alloc (.cells #[.pointer (some ⟨b, 0, none⟩)] 27) = w1 := ⟨_, rfl⟩
    obtain ⟨w2, h2⟩ : ∃ w2, w1.alloc (.cells #[.int .i64 at'] 3) = w2 := ⟨_, rfl⟩
    have z1 : w1.heap.size = w.heap.size + 1 := by rw [← h1]; simp
    have z2 : w2.heap.size = w.heap.size + 2 := by rw [← h2]; simp [z1]
    have r0 : w1.heap[w.heap.size]? = some (.cells #[.pointer (some ⟨b, 0, none⟩)] 27 (0, 0)) := by rw [← h1]; exact heap_alloc_last w _
    have r1 : w2.heap[w.heap.size + 1]? = some (.cells #[.int .i64 at'] 3 (0, 0)) := by rw [← h2, ← z1]; exact heap_alloc_last w1 _
    have b1 : Below w1.heap.size w1 w2 := by rw [← h2]; exact bel1 w1 _
    have b2 := bel1 w2 (.cells #[.string t] 9)
    rw [h1, h2]
    refine ⟨bel_row (bel_row r0 b1) b2, bel_row r1 b2, ?_, fun h => ?_, fun h => ?_, fun h => ?_⟩
    · rw [← z2]; exact heap_alloc_last w2 _
    · have := hF _ h; omega
    · have := hF _ h; omega
    · have := hF _ h; omega
  go_enter Try.func21, Try.ntmps21
  go_wp2
  go_ret
  exact ⟨w.heap.size, rfl, HW.out, Nat.le_refl _, HB.out⟩
set_option maxRecDepth 100000 in
set_option maxHeartbeats 400000 in
theorem write_step {w0 w : World} {b s d : Nat} {F : Nat → Prop} {n : Nat} {P : List M.Pl} {L : List Fr.Sl} {cut : Bool} {k : Nat} {at' : Int} {t : ByteArray} (h : Sto w0 w b s d F n P L cut) (hw : WB w F k b at' t) (ht : t.size ≤ 131072) :
    Calls Try.prog 41 #[.pointer (some ⟨k, 0, none⟩), .pointer (some ⟨k + 1, 0, none⟩), .pointer (some ⟨k + 2, 0, none⟩)] w fun e w' => ∃ G, e = .returned (.int .i64 (M.wcode n false at' t)) ∧ Sto w0 w' b s d G n (M.wrote n false P at' t) L cut ∧ Ch w F w' G := by
  have hs : Below w.heap.size w w.drew := Below.drew (Below.refl _ _)
  have hd := h.keep hs
  have hc := hd.dev.write at' t ht
  have q0 := row1 hw.c0
  have q1 := row1 hw.c1
  have q2 := row1 hw.c2
  obtain ⟨⟨c0, c1, c2⟩, _⟩ := row3f h.o.row
  have HH := Hid_of h
  have HWB := Hid_of hw
  clear h hw hd
  go_enter Try.func41, Try.ntmps41
  go_wp2_with fail
  have S0 : w.drew.cell? ⟨k, 0, none⟩ = some (.pointer (some ⟨b, 0, none⟩)) ∧ w.drew.cell? ⟨k + 1, 0, none⟩ = some (.int .i64 at') ∧ w.drew.cell? ⟨k + 2, 0, none⟩ = some (.string t) ∧ w.drew.cell? ⟨b, 0, none⟩ = some (.pointer (some ⟨d, 0, none⟩)) := ⟨q0, q1, q2, c0⟩
  clear q0 q1 q2 c0 c1 c2
  go_region_held3 (fun wq => wq.cell? ⟨k, 0, none⟩ = some (.pointer (some ⟨b, 0, none⟩)) ∧ wq.cell? ⟨k + 1, 0, none⟩ = some (.int .i64 at') ∧ wq.cell? ⟨k + 2, 0, none⟩ = some (.string t) ∧ wq.cell? ⟨b, 0, none⟩ = some (.pointer (some ⟨d, 0, none⟩))) (first | assumption) (first | (go_at_call 42; refine hc.mono ?_; rintro e w1 ⟨G, rfl, hd1, hch⟩; have HS := Hid_of (And.intro (HH.out.step (G := G) (w' := w1) hd1 ((Ch.ofBelow hs).trans hch)) ((Ch.ofBelow (F := F) hs).trans hch)); have hw1 := HWB.out.step HS.out.2; have S1 : w1.cell? ⟨k, 0, none⟩ = some (.pointer (some ⟨b, 0, none⟩)) ∧ w1.cell? ⟨k + 1, 0, none⟩ = some (.int .i64 at') ∧ w1.cell? ⟨k + 2, 0, none⟩ = some (.string t) ∧ w1.cell? ⟨b, 0, none⟩ = some (.pointer (some ⟨d, 0, none⟩)) := ⟨row1 hw1.c0, row1 hw1.c1, row1 hw1.c2, (row3f HS.out.1.o.row).1.1⟩; clear hch hd1 hc hw1))
  all_goals
    go_wp2
    go_ret
    exact ⟨_, rfl, HS.out.1, HS.out.2⟩
set_option maxRecDepth 100000 in
set_option maxHeartbeats 400000 in
theorem flush_step {w0 w : World} {b s d : Nat} {F : Nat → Prop} {n : Nat} {P : List M.Pl} {L : List Fr.Sl} {cut : Bool} (h : Sto w0 w b s d F n P L cut) :
    Calls Try.prog 22 #[.pointer (some ⟨b, 0, none⟩)] w fun e w' => ∃ G, e = .returned (.int .i64 0) ∧ Sto w0 w' b s d G n (M.flush P) L cut ∧ Ch w F w' G := by
  have hc := h.dev.flush
  obtain ⟨⟨c0, c1, c2⟩, _⟩ := row3f h.o.row
  have HH := Hid_of h
  clear h
  go_enter Try.func22, Try.ntmps22
  go_wp2_with fail
  refine hc.mono ?_
  rintro e w1 ⟨G, rfl, hd1, hch⟩
  have HS := Hid_of (And.intro (HH.out.step hd1 hch) hch)
  clear hch hd1 hc c0 c1 c2
  go_wp2
  go_ret
  exact ⟨_, rfl, HS.out.1, HS.out.2⟩

end Go.Proofs.Yticjilpomdahbaa
