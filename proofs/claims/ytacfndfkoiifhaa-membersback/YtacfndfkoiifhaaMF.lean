/-
  What a reader tells of a group's bytes, step by step.
-/
import Derived.Test.YtacfndfkoiifhaaME
namespace Go.Proofs.Ytacfndfkoiifhaa
namespace Mb
open Go.Proofs.Ytacfndfkoiifhaa (nx lft)

def rd1 (b : List UInt8) := M.int b
def rd2 (b : List UInt8) := M.int (lft (nx (rd1 b)))
def rd3 (b : List UInt8) := M.byte (lft (nx (rd2 b)))
def rd4 (b : List UInt8) := M.int (lft (nx (rd3 b)))
def rd5 (b : List UInt8) := M.ints (lft (nx (rd4 b)))
def rd6 (b : List UInt8) := M.ints (lft (nx (rd5 b)))
theorem int_none : M.int [] = none := by decide
theorem byte_none : M.byte [] = none := rfl
theorem ints_none : M.ints [] = none := by decide
/-- What was read, as a group. -/
def rs (b : List UInt8) : S := ⟨vl [] (rd5 b), vl [] (rd6 b), vl 0 (rd1 b), vl 0 (rd2 b), decide (vl 0 (rd3 b) = 1), vl 0 (rd4 b)⟩
theorem some_nx {α : Type} {o : Option (α × List UInt8)} {r : List UInt8} (h : nx o = some r) : ∃ x, o = some (x, r) := by
  cases o with
  | none => cases h
  | some p => obtain ⟨x, q⟩ := p; simp [nx] at h; exact ⟨x, by rw [h]⟩
theorem rd_ok {b : List UInt8} (h : nx (rd6 b) = some []) : prt b = some (vl 0 (rd1 b), vl 0 (rd2 b), vl 0 (rd3 b), vl 0 (rd4 b), vl [] (rd5 b), vl [] (rd6 b), []) := by
  obtain ⟨sp, h6⟩ := some_nx h
  have g5 : rd5 b ≠ none := fun e => by unfold rd6 at h6; rw [e] at h6; exact absurd h6 (by rw [show lft (nx (none : Option (List Int × List UInt8))) = [] from rfl, ints_none]; simp)
  obtain ⟨⟨l, r5⟩, h5⟩ := Option.ne_none_iff_exists'.1 g5
  have g4 : rd4 b ≠ none := fun e => by unfold rd5 at h5; rw [e] at h5; exact absurd h5 (by rw [show lft (nx (none : Option (Int × List UInt8))) = [] from rfl, ints_none]; simp)
  obtain ⟨⟨gone, r4⟩, h4⟩ := Option.ne_none_iff_exists'.1 g4
  have g3 : rd3 b ≠ none := fun e => by unfold rd4 at h4; rw [e] at h4; exact absurd h4 (by rw [show lft (nx (none : Option (Int × List UInt8))) = [] from rfl, int_none]; simp)
  obtain ⟨⟨f, r3⟩, h3⟩ := Option.ne_none_iff_exists'.1 g3
  have g2 : rd2 b ≠ none := fun e => by unfold rd3 at h3; rw [e] at h3; exact absurd h3 (by rw [show lft (nx (none : Option (Int × List UInt8))) = [] from rfl, byte_none]; simp)
  obtain ⟨⟨hole, r2⟩, h2⟩ := Option.ne_none_iff_exists'.1 g2
  have g1 : rd1 b ≠ none := fun e => by unfold rd2 at h2; rw [e] at h2; exact absurd h2 (by rw [show lft (nx (none : Option (Int × List UInt8))) = [] from rfl, int_none]; simp)
  obtain ⟨⟨ep, r1⟩, h1⟩ := Option.ne_none_iff_exists'.1 g1
  have k1 : M.int b = some (ep, r1) := h1
  have k2 : M.int r1 = some (hole, r2) := by have := h2; unfold rd2 at this; rw [h1] at this; exact this
  have k3 : M.byte r2 = some (f, r3) := by have := h3; unfold rd3 at this; rw [h2] at this; exact this
  have k4 : M.int r3 = some (gone, r4) := by have := h4; unfold rd4 at this; rw [h3] at this; exact this
  have k5 : M.ints r4 = some (l, r5) := by have := h5; unfold rd5 at this; rw [h4] at this; exact this
  have k6 : M.ints r5 = some (sp, []) := by have := h6; unfold rd6 at this; rw [h5] at this; exact this
  unfold prt
  rw [h1, h2, h3, h4, h5, h6]
  simp only [k1, k2, k3, k4, k5, k6, vl]
theorem rd_of {b : List UInt8} {ep hole f gone : Int} {l sp : List Int} (h : prt b = some (ep, hole, f, gone, l, sp, [])) : nx (rd6 b) = some [] ∧ vl 0 (rd1 b) = ep ∧ vl 0 (rd2 b) = hole ∧ vl 0 (rd3 b) = f ∧ vl 0 (rd4 b) = gone ∧ vl [] (rd5 b) = l ∧ vl [] (rd6 b) = sp := by
  have h6 : nx (rd6 b) = some [] := by
    unfold prt at h
    split at h
    · cases h
    · rename_i ep r1 h1
      split at h
      · cases h
      · rename_i hole r2 h2
        split at h
        · cases h
        · rename_i f' r3 h3
          split at h
          · cases h
          · rename_i gone r4 h4
            split at h
            · cases h
            · rename_i l r5 h5
              split at h
              · cases h
              · rename_i sp r6 h6
                simp only [Option.some.injEq, Prod.mk.injEq] at h
                obtain ⟨-, -, -, -, -, -, rfl⟩ := h
                have k1 : rd1 b = some (ep, r1) := h1
                have k2 : rd2 b = some (hole, r2) := by unfold rd2; rw [k1]; exact h2
                have k3 : rd3 b = some (f', r3) := by unfold rd3; rw [k2]; exact h3
                have k4 : rd4 b = some (gone, r4) := by unfold rd4; rw [k3]; exact h4
                have k5 : rd5 b = some (l, r5) := by unfold rd5; rw [k4]; exact h5
                have k6 : rd6 b = some (sp, []) := by unfold rd6; rw [k5]; exact h6
                rw [k6]
                rfl
  have := rd_ok h6
  rw [h] at this
  simp only [Option.some.injEq, Prod.mk.injEq] at this
  obtain ⟨e1, e2, e3, e4, e5, e6, -⟩ := this
  exact ⟨h6, e1.symm, e2.symm, e3.symm, e4.symm, e5.symm, e6.symm⟩
theorem G.nw {s : S} (g : G s) : nw s.l s.sp := ⟨g.g, g.ap⟩
/-- Bytes tell a group just when the reader comes to their end, the byte is 0 or 1, and it may be one. -/
theorem tell_rs {b : List UInt8} : (∃ s, Tell b s) ↔ nx (rd6 b) = some [] ∧ (vl 0 (rd3 b) = 0 ∨ vl 0 (rd3 b) = 1) ∧ Mb.nw (rs b).l (rs b).sp ∧ mb (rs b) = true := by
  constructor
  · rintro ⟨s, f, hp, hf, hfl, hG⟩
    obtain ⟨h6, e1, e2, e3, e4, e5, e6⟩ := rd_of hp
    have es : rs b = s := by
      unfold rs
      rw [e1, e2, e3, e4, e5, e6, ← hfl]
    rw [es, e3]
    exact ⟨h6, hf, hG.nw, (mb_G hG.nw).2 hG⟩
  · rintro ⟨h6, hf, hn, hm⟩
    exact ⟨rs b, _, rd_ok h6, hf, rfl, (mb_G hn).1 hm⟩
theorem tell_is {b : List UInt8} (h6 : nx (rd6 b) = some []) (hf : vl 0 (rd3 b) = 0 ∨ vl 0 (rd3 b) = 1) (hn : Mb.nw (rs b).l (rs b).sp) (hm : mb (rs b) = true) : Tell b (rs b) := ⟨_, rd_ok h6, hf, rfl, (mb_G hn).1 hm⟩
end Mb
end Go.Proofs.Ytacfndfkoiifhaa
