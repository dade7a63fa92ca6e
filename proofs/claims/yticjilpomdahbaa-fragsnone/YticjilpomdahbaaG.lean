/-
  A device in memory that is new, lost or not; the chapter's example.
-/
import Derived.Test.YticjilpomdahbaaK
import Derived.Test.YticjilpomdahbaaJ
namespace Go.Proofs.Yticjilpomdahbaa
open Go.RowKit
open M (ofL ofL_size ofL_of)
set_option linter.unusedVariables false

/-- A device that is new since w0; F: what is its own. -/
structure DS (w0 w : World) (b : Nat) (F : Nat → Prop) (n : Nat) (P : List M.Pl) (lost : Bool) : Prop where
  x : (lost = false ∧ ∃ g vl ls, F = fp b g vl ∧ DI w w0.heap.size b g vl n P ls) ∨ (lost = true ∧ P = [] ∧ F = (· = b) ∧ LI w w0.heap.size b n)
  bel : Below w0.heap.size w0 w
/-- A slice that is not the device's own. -/
structure AtO (w : World) (F : Nat → Prop) (a : Option Addr) (cs : List Value) : Prop where
  v : AtV w a cs
  o : ∀ k, blk a k → ¬ F k ∧ k < w.heap.size
theorem AtO.step {w w' : World} {F G : Nat → Prop} {a : Option Addr} {cs : List Value} (h : AtO w F a cs) (hc : Ch w F w' G) : AtO w' G a cs :=
  ⟨h.v.keepBut (fun k hk hb => hc.block k hk (h.o k hb).1), fun k hb => ⟨fun hG => by
    rcases hc.n k hG with h' | h'
    · exact (h.o k hb).1 h'
    · have := (h.o k hb).2; omega, Nat.lt_of_lt_of_le (h.o k hb).2 hc.size⟩⟩
theorem AtO.keep {w w' : World} {F : Nat → Prop} {a : Option Addr} {cs : List Value} (h : AtO w F a cs) (hb : Below w.heap.size w w') : AtO w' F a cs := h.step (Ch.ofBelow hb)
section
variable {w0 w w' : World} {b : Nat} {F G : Nat → Prop} {n : Nat} {P P' : List M.Pl} {lost : Bool}
theorem DS.own (h : DS w0 w b F n P lost) : ∀ k, F k → w0.heap.size ≤ k ∧ k < w.heap.size := by
  intro k hk
  rcases h.x with ⟨_, g, vl, ls, rfl, hd⟩ | ⟨_, _, rfl, hl⟩
  · exact hd.mine k hk
  · subst hk
    exact ⟨hl.low, hl.lt⟩
theorem DS.keepBut (h : DS w0 w b F n P lost) (hb : ∀ k, k < w.heap.size → F k → w'.heap[k]? = w.heap[k]?) (hB : Below w0.heap.size w0 w') : DS w0 w' b F n P lost := by
  refine ⟨?_, hB⟩
  rcases h.x with ⟨hl, g, vl, ls, rfl, hd⟩ | ⟨hl, hP, rfl, hi⟩
  · exact .inl ⟨hl, g, vl, ls, rfl, hd.keepBut hb⟩
  · exact .inr ⟨hl, hP, rfl, ⟨(hb b hi.lt rfl).trans hi.row, hi.n1, hi.low⟩⟩
theorem DS.keep (h : DS w0 w b F n P lost) (hb : Below w.heap.size w w') : DS w0 w' b F n P lost := h.keepBut (fun k hk _ => hb.block k hk) (bel_up h.bel hb (Nat.le_refl _))
theorem DS.n1 (h : DS w0 w b F n P lost) : 1 ≤ n ∧ n ≤ 4096 := by
  rcases h.x with ⟨_, g, vl, ls, rfl, hd⟩ | ⟨_, _, rfl, hl⟩
  · exact hd.n1
  · exact hl.n1
theorem DS.row (h : DS w0 w b F n P lost) : ∃ v1 v2, w.heap[b]? = some (.cells #[.int .i64 n, v1, v2, .bool lost] 74 (0, 0)) := by
  rcases h.x with ⟨rfl, g, vl, ls, rfl, hd⟩ | ⟨rfl, _, rfl, hl⟩
  · exact ⟨_, _, hd.row⟩
  · exact ⟨_, _, hl.row⟩
theorem DS.fb (h : DS w0 w b F n P lost) : F b := by
  rcases h.x with ⟨_, g, vl, ls, rfl, hd⟩ | ⟨_, _, rfl, hl⟩
  · exact .inl rfl
  · rfl
theorem DS.ok (h : DS w0 w b F n P lost) : M.Ok P ∧ P.length ≤ 4096 := by
  rcases h.x with ⟨_, g, vl, ls, rfl, hd⟩ | ⟨_, rfl, rfl, hl⟩
  · exact ⟨hd.ok, by rw [hd.len]; exact hd.n1.2⟩
  · exact ⟨fun p hp => by simp at hp, by simp⟩
theorem DS.len (h : DS w0 w b F n P false) : P.length = n := by
  rcases h.x with ⟨_, g, vl, ls, rfl, hd⟩ | ⟨hl, _⟩
  · exact hd.len
  · cases hl
theorem DS.ch (h : DS w0 w b F n P lost) (hc : Ch w F w' G) : Below w0.heap.size w0 w' := h.bel.trans (hc.below (fun k hk => (h.own k hk).1) h.bel.size)
theorem newD (n : Int) (w : World) : Calls Try.prog 28 #[.int .i64 n] w fun e w' => ∃ b F, e = .returned (.pointer (some ⟨b, 0, none⟩)) ∧ DS w w' b F (cntOf n) (new (cntOf n)) false :=
  (new_any n w).mono fun e w' ⟨b, g, h1, h2, h3⟩ => ⟨b, _, h1, .inl ⟨rfl, g, _, _, rfl, h2⟩, h3⟩
theorem DS.write (h : DS w0 w b F n P lost) (at' : Int) (s : ByteArray) (hs : s.size ≤ 131072) :
    Calls Try.prog 42 #[.pointer (some ⟨b, 0, none⟩), .int .i64 at', .string s] w fun e w' => ∃ G, e = .returned (.int .i64 (M.wcode n lost at' s)) ∧ DS w0 w' b G n (M.wrote n lost P at' s) lost ∧ Ch w F w' G := by
  rcases h.x with ⟨rfl, g, vl, ls, rfl, hd⟩ | ⟨rfl, rfl, rfl, hl⟩
  · refine (write_any _ b g vl n P ls at' s w h.bel.size hd hs).mono ?_
    rintro e w' ⟨vl', ls', h1, h2, h3⟩
    exact ⟨_, h1, ⟨.inl ⟨rfl, g, vl', ls', rfl, h2⟩, h.ch h3⟩, h3⟩
  · refine (write_no b n _ _ true at' s w hl.row hl.n1.2 (by unfold maxLen; omega) (wcode_lost n at' s)).mono ?_
    rintro e w' ⟨h1, rfl⟩
    refine ⟨_, h1, ?_, Ch.refl _ _⟩
    unfold M.wrote
    rw [decide_eq_false (wcode_lost n at' s)]
    exact h
theorem DS.read (h : DS w0 w b F n P lost) (at' m : Int) (hm : m ≤ 9223372036854775807) :
    Calls Try.prog 12 #[.pointer (some ⟨b, 0, none⟩), .int .i64 at', .int .i64 m] w fun e w' => e = .returned (.tuple #[.string (M.rtext n lost P at' m), .int .i64 (M.refused n lost at' m)]) ∧ Below w.heap.size w w' ∧ DS w0 w' b F n P lost := by
  rcases h.x with ⟨rfl, g, vl, ls, rfl, hd⟩ | ⟨rfl, rfl, rfl, hl⟩
  · refine (read_any _ b g vl n P ls at' m w hd hm).mono ?_
    rintro e w' ⟨h1, h2⟩
    exact ⟨h1, h2, h.keep h2⟩
  · refine (read_no b n _ _ true [] at' m w hl.row hl.n1.2 hm (ref_lost n at' m)).mono ?_
    rintro e w' ⟨h1, h2⟩
    exact ⟨h1, h2, h.keep h2⟩
theorem DS.flush (h : DS w0 w b F n P lost) : Calls Try.prog 43 #[.pointer (some ⟨b, 0, none⟩)] w fun e w' => ∃ G, e = .returned (.tuple #[]) ∧ DS w0 w' b G n (M.flush P) lost ∧ Ch w F w' G := by
  rcases h.x with ⟨rfl, g, vl, ls, rfl, hd⟩ | ⟨rfl, rfl, rfl, hl⟩
  · refine (flush_any _ b g vl n P ls w hd).mono ?_
    rintro e w' ⟨vl', ls', h1, h2, h3⟩
    exact ⟨_, h1, ⟨.inl ⟨rfl, g, vl', ls', rfl, h2⟩, h.ch h3⟩, h3⟩
  · refine (flush_lost _ b n w hl).mono ?_
    rintro e w' ⟨h1, h2, h3⟩
    exact ⟨_, h1, ⟨.inr ⟨rfl, rfl, rfl, h2⟩, h.ch h3⟩, h3⟩
theorem DS.crash (h : DS w0 w b F n P lost) (keep : Nat) (tear : Int) (hk : keep < 18446744073709551616) : Calls Try.prog 29 #[.pointer (some ⟨b, 0, none⟩), .int .u64 keep, .int .i64 tear] w fun e w' => ∃ G, e = .returned (.tuple #[]) ∧ DS w0 w' b G n (M.crash P keep tear) lost ∧ Ch w F w' G := by
  rcases h.x with ⟨rfl, g, vl, ls, rfl, hd⟩ | ⟨rfl, rfl, rfl, hl⟩
  · refine (crash_any _ b g vl n P ls keep tear w hd hk).mono ?_
    rintro e w' ⟨vl', ls', h1, h2, h3⟩
    exact ⟨_, h1, ⟨.inl ⟨rfl, g, vl', ls', rfl, h2⟩, h.ch h3⟩, h3⟩
  · refine (crash_lost _ b n keep tear w hl).mono ?_
    rintro e w' ⟨h1, h2, h3⟩
    exact ⟨_, h1, ⟨.inr ⟨rfl, rfl, rfl, h2⟩, h.ch h3⟩, h3⟩
theorem DS.loose (h : DS w0 w b F n P lost) : Calls Try.prog 51 #[.pointer (some ⟨b, 0, none⟩)] w fun e w' => ∃ a cap, e = .returned (.slice a (M.lo P).length cap) ∧ AtO w' F a (IC (M.zs (M.lo P))) ∧ (∀ k, blk a k → w.heap.size ≤ k) ∧ Below w.heap.size w w' ∧ DS w0 w' b F n P lost := by
  rcases h.x with ⟨rfl, g, vl, ls, rfl, hd⟩ | ⟨rfl, rfl, rfl, hl⟩
  · refine (loose_any _ b g vl n P ls w hd).mono ?_
    rintro e w' ⟨v, h1, h2, h3⟩
    obtain ⟨a, cap, rfl, hat, hbl, _⟩ := owns_at h2
    exact ⟨a, cap, h1, ⟨hat, fun k hk => ⟨fun hF => by have := (h.own k hF).2; have := (hbl k hk).1; omega, (hbl k hk).2.2⟩⟩, fun k hk => (hbl k hk).1, h3, h.keep h3⟩
  · refine (loose_lost _ b n w hl).mono ?_
    rintro e w' ⟨v, h1, h2, h3⟩
    obtain ⟨a, cap, rfl, hat, hbl, _⟩ := owns_at h2
    exact ⟨a, cap, h1, ⟨hat, fun k hk => ⟨fun hF => by have := (h.own k hF).2; have := (hbl k hk).1; omega, (hbl k hk).2.2⟩⟩, fun k hk => (hbl k hk).1, h3, h.keep h3⟩
end
end Go.Proofs.Yticjilpomdahbaa
