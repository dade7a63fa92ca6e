/-
  A node's calls in memory that is new, with what each call of the package leaves of them.
-/
import Derived.Test.YtbgbdiiinggjnaaCD
import Derived.Test.YtbgbdiiinggjnaaCE
import Derived.Test.YtbgbdiiinggjnaaCF
import Derived.Test.YtbgbdiiinggjnaaCH
namespace Go.Proofs.Ytbgbdiiinggjnaa
open Go.RowKit
set_option linter.unusedVariables false
open M (E)
open Cl (K W Ms fup Rel)

namespace Cl
/-- Those that are due, in order. -/
def Dues (L : List K) (now : Int) (ids : List Int) : Prop := ∃ Q : List E, Q.Pairwise M.lt ∧ (∀ e : E, e ∈ Q ↔ ∃ k ∈ opn L, (⟨k.id, k.due⟩ : E) = e ∧ k.due ≤ now) ∧ ids = Q.map (·.i)
def callN (n : Nat) (next x len now : Int) : Int := if ccode n next x len now = 0 then next else 0
def callX (n : Nat) (next x len now : Int) : Int := if ccode n next x len now = 0 then next + 1 else next
def callL (L : List K) (next x now : Int) (s : ByteArray) : List K := if ccode (opn L).length next x s.size now = 0 then L ++ [newK next x now s] else L
section
variable {me next : Int} {O : List W} {P : List E} {f : Int → Option (Int × ByteArray)} {n : Nat} {L : List K}
theorem Rel.dues (h : Rel me next O P f n L []) (hg : M.G P) (now : Int) : Dues L now (M.dueI P now) := by
  refine ⟨P.filter (fun e => decide (e.t ≤ now)), List.Pairwise.filter _ hg.s, fun e => ?_, rfl⟩
  rw [List.mem_filter, h.p]
  constructor
  · rintro ⟨⟨k, hk, rfl, _⟩, hd⟩
    exact ⟨k, hk, rfl, by simpa using hd⟩
  · rintro ⟨k, hk, rfl, hd⟩
    exact ⟨⟨k, hk, rfl, by simp⟩, by simpa using hd⟩
theorem Rel.isA_yes (h : Rel me next O P f n L []) {m : Ms} {r : Nat} (hr : r < O.length) (h1 : O[r].id = m.i) (h2 : m.k = 2) (h3 : O[r].fr = m.t) (h4 : O[r].whom = m.f) : ∃ k, get L m.i = some k ∧ KOk next k ∧ isA me L m = true := by
  obtain ⟨k, hk, _, _, hw, hok, hst, _⟩ := h.found hr h1
  refine ⟨k, hk, hok, ?_⟩
  rw [hw] at h3 h4
  unfold isA
  rw [hk]
  simp only [wt] at h3 h4
  simp [h2, ← h3, h4, op, hst]
theorem Rel.isA_no (h : Rel me next O P f n L []) {m : Ms} (hno : ∀ r (hr : r < O.length), ¬ (O[r].id = m.i ∧ m.k = 2 ∧ O[r].fr = m.t ∧ O[r].whom = m.f)) : isA me L m = false := by
  cases hi : isA me L m with
  | false => rfl
  | true =>
    unfold isA at hi
    cases hk : get L m.i with
    | none => rw [hk] at hi; simp at hi
    | some k =>
      rw [hk] at hi
      simp only [Bool.and_eq_true, decide_eq_true_eq] at hi
      obtain ⟨⟨h1, h2⟩, h3, h4⟩ := hi
      obtain ⟨h5, h6⟩ := get_some hk
      have hop : k ∈ opn L := by unfold opn; rw [List.mem_filter]; exact ⟨h5, h3⟩
      obtain ⟨r, hr, he⟩ := h.place hop
      obtain ⟨k', hk', _, _, hw, _⟩ := h.found hr he
      rw [h6, hk] at hk'
      cases hk'
      exact absurd ⟨he.trans h6, h1, by rw [hw]; exact h2.symm, by rw [hw]; exact h4⟩ (hno r hr)
theorem Rel.st_open (h : Rel me next O P f n L []) {i : Int} {r : Nat} (hr : r < O.length) (e : O[r].id = i) : stS L i = 1 ∧ stR L i = ⟨#[]⟩ := by
  obtain ⟨k, hk, _, _, _, hok, hst, _⟩ := h.found hr e
  unfold stS stR
  rw [hk]
  exact ⟨hst, hok.e (by omega)⟩
theorem Rel.st_shut (h : Rel me next O P f n L []) {i : Int} (ho : ∀ w ∈ O, w.id ≠ i) : stS L i = ((f i).getD zo).1 ∧ stR L i = ((f i).getD zo).2 := by
  rw [h.f i]
  unfold stS stR en
  cases hk : get L i with
  | none => exact ⟨rfl, rfl⟩
  | some k =>
    have := h.shutOf ho hk
    simp [this]
theorem Rel.re (h : Rel me next O P f n L []) (i : Int) : ((f i).getD zo).2.size ≤ 140737488351232 := by
  rw [h.f i]
  unfold en
  cases hk : get L i with
  | none => exact Nat.zero_le _
  | some k =>
    cases ho : op k with
    | true => simp [ho]; exact Nat.zero_le _
    | false => simp [ho]; exact (h.l.k k (get_some hk).1).r
theorem Rel.n0 (h : Rel me next O P f n L []) : n < maxLen := by
  have h1 := h.n
  have h2 := h.nx
  unfold maxLen
  omega
end
end Cl
/-- A node's calls at block b, in memory that is new since w0; F: what is theirs. -/
structure KS (w0 w : World) (b : Nat) (F : Nat → Prop) (me next : Int) (L : List K) : Prop where
  ex : ∃ bt m vt vo n O P f, F = fpc b bt m vt vo ∧ CI w w0.heap.size b bt m vt vo n me next O P f ∧ Rel me next O P f n L []
  bel : Below w0.heap.size w0 w
section
variable {w0 w w' : World} {b : Nat} {F : Nat → Prop} {me next : Int} {L : List K}
theorem KS.keep (h : KS w0 w b F me next L) (hb : Below w.heap.size w w') : KS w0 w' b F me next L := by
  obtain ⟨bt, m, vt, vo, n, O, P, f, hF, hX, hR⟩ := h.ex
  exact ⟨⟨bt, m, vt, vo, n, O, P, f, hF, hX.keep hb, hR⟩, bel_up h.bel hb (Nat.le_refl _)⟩
theorem KS.keepBut (h : KS w0 w b F me next L) (hk : ∀ k, k < w.heap.size → F k → w'.heap[k]? = w.heap[k]?) (hb : Below w0.heap.size w0 w') : KS w0 w' b F me next L := by
  obtain ⟨bt, m, vt, vo, n, O, P, f, rfl, hX, hR⟩ := h.ex
  exact ⟨⟨bt, m, vt, vo, n, O, P, f, rfl, hX.keepBut hk, hR⟩, hb⟩
theorem KS.mine (h : KS w0 w b F me next L) : ∀ k, F k → w0.heap.size ≤ k ∧ k < w.heap.size := by
  obtain ⟨bt, m, vt, vo, n, O, P, f, rfl, hX, hR⟩ := h.ex
  exact hX.mine
theorem KS.gd (h : KS w0 w b F me next L) : Cl.Gd next L ∧ (0 ≤ me ∧ me ≤ 63) ∧ (0 ≤ next ∧ next ≤ 2147483647) := by
  obtain ⟨bt, m, vt, vo, n, O, P, f, rfl, hX, hR⟩ := h.ex
  exact ⟨hR.l, hR.me, hR.nx⟩
theorem KS.bel' {G : Nat → Prop} (h : KS w0 w b F me next L) (hF : Fr w F w' G) : Below w0.heap.size w0 w' := h.bel.trans (hF.below (fun k hk => (h.mine k hk).1) h.bel.size)
theorem newK_any (x y : Int) (w : World) : Calls Try.prog 9 #[.int .i64 x, .int .i64 y] w fun e w' => ∃ b F, e = .returned (.pointer (some ⟨b, 0, none⟩)) ∧ KS w w' b F (Cl.node x) (Cl.start y) [] :=
  (newC_any x y w).mono fun e w' ⟨b, bt, m, h1, h2, h3⟩ => ⟨b, _, h1, ⟨⟨bt, m, _, _, _, _, _, _, rfl, h2, Cl.Rel.new x y⟩, h3⟩⟩
theorem KS.call (h : KS w0 w b F me next L) (x : Int) (s : ByteArray) (hs : s.size ≤ maxLen) (now : Int) :
    Calls Try.prog 12 #[.pointer (some ⟨b, 0, none⟩), .int .i64 x, .string s, .int .i64 now] w fun e w' => ∃ G, e = .returned (.tuple #[.int .i64 (Cl.callN (Cl.opn L).length next x s.size now), .int .i64 (Cl.ccode (Cl.opn L).length next x s.size now)]) ∧ KS w0 w' b G me (Cl.callX (Cl.opn L).length next x s.size now) (Cl.callL L next x now s) ∧ Fr w F w' G := by
  obtain ⟨bt, m, vt, vo, n, O, P, f, rfl, hX, hR⟩ := h.ex
  have hl := hR.len
  by_cases hc : Cl.ccode (Cl.opn L).length next x s.size now = 0
  · have hc' := hc
    rw [← hl] at hc'
    unfold Cl.callN Cl.callX Cl.callL
    rw [if_pos hc, if_pos hc, if_pos hc, hc]
    refine (call_yes hX h.bel.size hR.len64 hR.nx.1 hR.nx.2 x s hs now hc').mono fun e w' ⟨vt', vo', h1, h2, h3⟩ => ⟨_, h1, ⟨⟨bt, m, vt', vo', n, _, _, _, rfl, h2, hR.call hX.tm.g hc'⟩, h.bel' h3⟩, h3⟩
  · have hc' := hc
    rw [← hl] at hc'
    unfold Cl.callN Cl.callX Cl.callL
    rw [if_neg hc, if_neg hc, if_neg hc, ← hl]
    exact (call_no hX hR.len64 x s hs now hc').mono fun e w' ⟨h1, h2⟩ => by
      subst h2
      exact ⟨_, h1, h, Fr.refl _ _⟩
theorem KS.due (h : KS w0 w b F me next L) (now : Int) (hn : Cl.moment now = true) :
    Calls Try.prog 15 #[.pointer (some ⟨b, 0, none⟩), .int .i64 now] w fun e w' => ∃ ids a cap G, Cl.Dues L now ids ∧ e = .returned (.slice a (Cl.run me now ids L []).2.length cap) ∧ AtL ml w' a (Cl.run me now ids L []).2 ∧ (∀ k, blk a k → w.heap.size ≤ k ∧ k < w'.heap.size ∧ ¬ G k) ∧ KS w0 w' b G me next (Cl.run me now ids L []).1 ∧ Fr w F w' G := by
  obtain ⟨bt, m, vt, vo, n, O, P, f, rfl, hX, hR⟩ := h.ex
  refine (due_yes hX h.bel.size hR now hn).mono fun e w' ⟨u, vt', vo', n', O', P', f', h1, h2, h3, h4, h5, h6⟩ => ?_
  obtain ⟨a, cap, rfl, hx, hbl⟩ := h2.at
  exact ⟨M.dueI P now, a, cap, _, hR.dues hX.tm.g now, h1, hx.at', fun k hk => ⟨(hbl k hk).1, (hbl k hk).2.2, h6 k (hbl k hk).2.1⟩, ⟨⟨bt, m, vt', vo', n', O', P', f', rfl, h3, h4⟩, h.bel' h5⟩, h5⟩
theorem KS.dueNo (h : KS w0 w b F me next L) (now : Int) (hn : Cl.moment now = false) :
    Calls Try.prog 15 #[.pointer (some ⟨b, 0, none⟩), .int .i64 now] w fun e w' => e = .returned (.slice none 0 0) ∧ w' = w := due_no b now hn w
theorem KS.answer (h : KS w0 w b F me next L) (x : Ms) (hx : x.b.size ≤ 140737488351232) :
    Calls Try.prog 17 #[.pointer (some ⟨b, 0, none⟩), .agg #[.int .i64 x.k, .int .i64 x.f, .int .i64 x.t, .int .i64 x.i, .string x.b]] w fun e w' => ∃ G, e = .returned (.bool (Cl.isA me L x)) ∧ KS w0 w' b G me next (Cl.ans me L x) ∧ Fr w F w' G := by
  obtain ⟨bt, m, vt, vo, n, O, P, f, rfl, hX, hR⟩ := h.ex
  refine (answer_any hX h.bel.size hR.len64 hR.up (fun y hy => by have := Cl.ids_in hR y hy; omega) hR.n0 x hx).mono fun e w' hA => ?_
  rcases hA with ⟨r, hr, h1, h2, h3, h4, vt', vo', h5, h6, h7⟩ | ⟨hno, h5, h6⟩
  · obtain ⟨k, hk, hok, hi⟩ := hR.isA_yes hr h1 h2 h3 h4
    unfold Cl.ans
    rw [hi]
    have hsh := hR.shut hr h1 [] (fun j => by simp) (g := Cl.ansK x.b) (fun _ => rfl) (fun _ => by simp [Cl.ansK]) (fun k' hk' => by rw [hk] at hk'; cases hk'; exact Cl.ansK_ok hok hx) hk
    exact ⟨_, h5, ⟨⟨bt, m, vt', vo', n + 1, _, _, _, rfl, h6, hsh⟩, h.bel' h7⟩, h7⟩
  · have hi := hR.isA_no hno
    unfold Cl.ans
    rw [hi]
    exact ⟨_, h5, h.keep h6, Fr.ofBelow h6⟩
theorem KS.state (h : KS w0 w b F me next L) (i : Int) (hi : (Lit.int .i64 i).wf = true) :
    Calls Try.prog 20 #[.pointer (some ⟨b, 0, none⟩), .int .i64 i] w fun e w' => e = .returned (.tuple #[.int .i64 (Cl.stS L i), .string (Cl.stR L i)]) ∧ Below w.heap.size w w' := by
  obtain ⟨bt, m, vt, vo, n, O, P, f, rfl, hX, hR⟩ := h.ex
  refine (state_any hX hR.len64 hR.up i hi (hR.re i)).mono fun e w' ⟨r, bb, hs, h1, h2⟩ => ⟨?_, h2⟩
  cases bb with
  | true =>
    obtain ⟨hr, he⟩ := hs.yes rfl
    obtain ⟨e1, e2⟩ := hR.st_open hr he
    rw [h1, e1, e2]
    rfl
  | false =>
    obtain ⟨e1, e2⟩ := hR.st_shut (hs.no rfl)
    rw [h1, e1, e2]
    rfl
theorem KS.forget (h : KS w0 w b F me next L) (i : Int) (hi : (Lit.int .i64 i).wf = true) :
    Calls Try.prog 19 #[.pointer (some ⟨b, 0, none⟩), .int .i64 i] w fun e w' => ∃ G, e = .returned (.bool (Cl.en L i).isSome) ∧ KS w0 w' b G me next (Cl.fgt L i) ∧ Fr w F w' G := by
  obtain ⟨bt, m, vt, vo, n, O, P, f, rfl, hX, hR⟩ := h.ex
  refine (forget_any hX i hi).mono fun e w' ⟨vt', vo', h1, h2, h3⟩ => ⟨_, ?_, ⟨⟨bt, m, vt', vo', n, O, P, _, rfl, h2, hR.forget i⟩, h.bel' h3⟩, h3⟩
  rw [h1, hR.f i]
theorem KS.opens (h : KS w0 w b F me next L) :
    Calls Try.prog 23 #[.pointer (some ⟨b, 0, none⟩)] w fun e w' => ∃ a cap, e = .returned (.slice a (Cl.nums L).length cap) ∧ AtI w' a (Cl.nums L) ∧ (∀ k, blk a k → w.heap.size ≤ k ∧ k < w'.heap.size) ∧ Below w.heap.size w w' := by
  obtain ⟨bt, m, vt, vo, n, O, P, f, rfl, hX, hR⟩ := h.ex
  have he : O.map (·.id) = Cl.nums L := by rw [hR.o, List.map_map]; rfl
  have hl : O.length = (Cl.nums L).length := by rw [← he, List.length_map]
  refine (open_any hX hR.len64).mono fun e w' ⟨a, cap, h1, h2, h3, h4⟩ => ⟨a, cap, by rw [h1, hl], by rw [← he]; exact h2, h3, h4⟩
end
end Go.Proofs.Ytbgbdiiinggjnaa
