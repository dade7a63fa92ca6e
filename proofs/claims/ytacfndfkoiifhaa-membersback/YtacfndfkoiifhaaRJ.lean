/-
  A group that is new since a world; none's methods; rows that are the same.
-/
import Derived.Test.YtacfndfkoiifhaaRI
namespace Go.Proofs.Ytacfndfkoiifhaa
open Go.RowKit
set_option linter.unusedVariables false
open Mb (S)

/-- A group that is new since w0. -/
structure GS (w0 w : World) (b : Nat) (va vb : Value) (s : S) : Prop where
  mi : MI w w0.heap.size b va vb s
  bel : Below w0.heap.size w0 w
  g : Mb.G s
section
variable {w0 w w' : World} {b : Nat} {va vb : Value} {s s' : S}
theorem GS.keep (h : GS w0 w b va vb s) (hb : Below w.heap.size w w') : GS w0 w' b va vb s := ⟨h.mi.keep hb, bel_up h.bel hb (Nat.le_refl _), h.g⟩
theorem GS.keepBut (h : GS w0 w b va vb s) (hb : Below w0.heap.size w0 w') (hk : ∀ k, k < w.heap.size → fpm b va vb k → w'.heap[k]? = w.heap[k]?) : GS w0 w' b va vb s := ⟨h.mi.keepBut hk, hb, h.g⟩
theorem GS.mine (h : GS w0 w b va vb s) : ∀ k, fpm b va vb k → w0.heap.size ≤ k ∧ k < w.heap.size := h.mi.mine
/-- What a deed leaves of it. -/
def GOut (w0 w : World) (b : Nat) (va vb u : Value) (s' : S) (e : Ending) (w' : World) : Prop := e = .returned u ∧ ∃ vb', GS w0 w' b va vb' s' ∧ Fr w (fpm b va vb) w' (fpm b va vb')
theorem GS.step (h : GS w0 w b va vb s) (g : Mb.G s') {u : Value} {e : Ending} (hd : DdOut w w0.heap.size b va vb u s' e w') : GOut w0 w b va vb u s' e w' := by
  obtain ⟨he, vb', hm, hf⟩ := hd
  exact ⟨he, vb', ⟨hm, h.bel.trans (hf.below (fun k hk => (h.mine k hk).1) h.bel.size), g⟩, hf⟩
theorem GS.fail (h : GS w0 w b va vb s) (he : s.ep ≤ 1000000) (a k : Int) : Calls Try.prog 20 #[.pointer (some ⟨b, 0, none⟩), .int .i64 a, .int .i64 k] w (GOut w0 w b va vb (.int .i64 (Mb.fc s a k)) (Mb.fs s a k)) :=
  (failM_any h.mi h.g he a k).mono fun e w' hd => h.step (h.g.fail a k) hd
theorem GS.done (h : GS w0 w b va vb s) (he : s.ep ≤ 1000000) (a : Int) : Calls Try.prog 22 #[.pointer (some ⟨b, 0, none⟩), .int .i64 a] w (GOut w0 w b va vb (.int .i64 (Mb.dc s a)) (Mb.ds s a)) :=
  (doneM_any h.mi h.g he a).mono fun e w' hd => h.step (h.g.done a) hd
theorem GS.swap (h : GS w0 w b va vb s) (he : s.ep ≤ 1000000) (a : Int) : Calls Try.prog 21 #[.pointer (some ⟨b, 0, none⟩), .int .i64 a] w (GOut w0 w b va vb (.tuple #[.int .i64 (Mb.wv s a), .int .i64 (Mb.wc s a)]) (Mb.ws s a)) := by
  by_cases hc : Mb.wc s a = 0
  · exact (swap_yes h.mi h.g he h.bel.size a hc).mono fun e w' hd => h.step (h.g.swap a) hd
  · exact (swap_no h.mi h.g a hc).mono fun e w' hd => h.step (h.g.swap a) hd
theorem GS.add (h : GS w0 w b va vb s) (a : Int) : Calls Try.prog 23 #[.pointer (some ⟨b, 0, none⟩), .int .i64 a] w (GOut w0 w b va vb (.int .i64 (Mb.ac s a)) (Mb.as' s a)) :=
  (addM_any h.mi h.g h.bel.size a).mono fun e w' hd => h.step (h.g.add a) hd
theorem GS.epoch (h : GS w0 w b va vb s) : Calls Try.prog 13 #[.pointer (some ⟨b, 0, none⟩)] w fun e w' => e = .returned (.int .i64 s.ep) ∧ w' = w := epoch_any h.mi
theorem GS.hole (h : GS w0 w b va vb s) : Calls Try.prog 14 #[.pointer (some ⟨b, 0, none⟩)] w fun e w' => e = .returned (.int .i64 s.hole) ∧ w' = w := hole_any h.mi
theorem GS.servers (h : GS w0 w b va vb s) : Calls Try.prog 16 #[.pointer (some ⟨b, 0, none⟩)] w (CpOut w s.l) := servers_any h.mi (by have := h.g.g.2.1; omega)
theorem GS.spares (h : GS w0 w b va vb s) : Calls Try.prog 17 #[.pointer (some ⟨b, 0, none⟩)] w (CpOut w s.sp) := spares_any h.mi (by have := h.g.ap.right.len; omega)
theorem GS.text (h : GS w0 w b va vb s) (he : s.ep ≤ 9223372036854775807) : Calls Try.prog 18 #[.pointer (some ⟨b, 0, none⟩)] w fun e w' => e = .returned (.string (ofL (Mb.txt s))) ∧ Below w.heap.size w w' := text_any h.mi h.g he
end
/-- A new group. -/
theorem newG_any {w0 w : World} (hb0 : Below w0.heap.size w0 w) (a1 : Option Addr) (c1 : Nat) (l : List Int) (a2 : Option Addr) (c2 : Nat) (sp : List Int) (m1 : l.length ≤ 1000000) (m2 : sp.length ≤ 1000000) (h1 : AtL il w a1 l) (h2 : AtL il w a2 sp) :
    Calls Try.prog 10 #[.slice a1 l.length c1, .slice a2 sp.length c2] w fun e w' => Below w.heap.size w w' ∧ ((Mb.nw l sp ∧ ∃ b va vb, e = .returned (.pointer (some ⟨b, 0, none⟩)) ∧ GS w0 w' b va vb (Mb.s0 l sp) ∧ ∀ k, fpm b va vb k → w.heap.size ≤ k) ∨ (¬ Mb.nw l sp ∧ e = .returned (.pointer none))) :=
  (newM_any a1 c1 l a2 c2 sp w m1 m2 h1 h2).mono fun e w' ⟨hb, hc⟩ => ⟨hb, by
    rcases hc with ⟨hn, b, va, vb, he, hm⟩ | hc
    · exact .inl ⟨hn, b, va, vb, he, ⟨⟨hm.row, hm.ol.low hb0.size, hm.os.low hb0.size, hm.nl, hm.ns, hm.ne, Nat.le_trans hb0.size hm.lo⟩, bel_up hb0 hb (Nat.le_refl _), Mb.G.zero hn⟩, fun k hk => (hm.mine k hk).1⟩
    · exact .inr hc⟩
/-- A group that was read. -/
theorem readG_any {w0 w : World} (hb0 : Below w0.heap.size w0 w) (l : List UInt8) (hl : l.length ≤ 1000000) :
    Calls Try.prog 25 #[.string (ofL l)] w fun e w' => Below w.heap.size w w' ∧ ((∃ b va vb, Mb.Tell l (Mb.rs l) ∧ e = .returned (.tuple #[.pointer (some ⟨b, 0, none⟩), .int .i64 0]) ∧ GS w0 w' b va vb (Mb.rs l) ∧ ∀ k, fpm b va vb k → w.heap.size ≤ k) ∨ ((¬ ∃ s, Mb.Tell l s) ∧ e = .returned (.tuple #[.pointer none, .int .i64 3]))) :=
  (readM_any l w hl).mono fun e w' ⟨hb, hc⟩ => ⟨hb, by
    rcases hc with ⟨b, va, vb, ht, he, hm⟩ | hc
    · refine .inl ⟨b, va, vb, ht, he, ⟨⟨hm.row, hm.ol.low hb0.size, hm.os.low hb0.size, hm.nl, hm.ns, hm.ne, Nat.le_trans hb0.size hm.lo⟩, bel_up hb0 hb (Nat.le_refl _), ?_⟩, fun k hk => (hm.mine k hk).1⟩
      obtain ⟨_, _, _, _, g⟩ := ht
      exact g
    · exact .inr hc⟩
/-! None's methods. -/
theorem failN (w : World) (a k : Int) : Calls Try.prog 20 #[.pointer none, .int .i64 a, .int .i64 k] w fun e w' => e = .returned (.int .i64 1) ∧ w' = w := by
  go_enter Try.func20, Try.ntmps20
  go_wp2
  go_ret
  exact ⟨rfl, rfl⟩
theorem swapN (w : World) (a : Int) : Calls Try.prog 21 #[.pointer none, .int .i64 a] w fun e w' => e = .returned (.tuple #[.int .i64 0, .int .i64 1]) ∧ w' = w := by
  go_enter Try.func21, Try.ntmps21
  go_wp2
  go_ret2
  exact ⟨rfl, rfl⟩
theorem doneN (w : World) (a : Int) : Calls Try.prog 22 #[.pointer none, .int .i64 a] w fun e w' => e = .returned (.int .i64 1) ∧ w' = w := by
  go_enter Try.func22, Try.ntmps22
  go_wp2
  go_ret
  exact ⟨rfl, rfl⟩
theorem addN (w : World) (a : Int) : Calls Try.prog 23 #[.pointer none, .int .i64 a] w fun e w' => e = .returned (.int .i64 1) ∧ w' = w := by
  go_enter Try.func23, Try.ntmps23
  go_wp2
  go_ret
  exact ⟨rfl, rfl⟩
theorem epochN (w : World) : Calls Try.prog 13 #[.pointer none] w fun e w' => e = .returned (.int .i64 0) ∧ w' = w := by
  go_enter Try.func13, Try.ntmps13
  go_wp2
  go_ret
  exact ⟨rfl, rfl⟩
theorem holeN (w : World) : Calls Try.prog 14 #[.pointer none] w fun e w' => e = .returned (.int .i64 (-1)) ∧ w' = w := by
  go_enter Try.func14, Try.ntmps14
  go_wp2
  go_ret
  exact ⟨rfl, rfl⟩
theorem serversN (w : World) : Calls Try.prog 16 #[.pointer none] w fun e w' => e = .returned (.slice none 0 0) ∧ w' = w := by
  go_enter Try.func16, Try.ntmps16
  go_wp2
  go_ret
  exact ⟨rfl, rfl⟩
theorem sparesN (w : World) : Calls Try.prog 17 #[.pointer none] w fun e w' => e = .returned (.slice none 0 0) ∧ w' = w := by
  go_enter Try.func17, Try.ntmps17
  go_wp2
  go_ret
  exact ⟨rfl, rfl⟩
theorem textN (w : World) : Calls Try.prog 18 #[.pointer none] w fun e w' => e = .returned (.string ⟨#[]⟩) ∧ w' = w := by
  go_enter Try.func18, Try.ntmps18
  go_wp2
  go_ret
  exact ⟨rfl, rfl⟩
/-- Rows that are the same. -/
theorem same_any {w : World} {a1 a2 : Option Addr} {c1 c2 : Nat} {l : List Int} (hl : l.length ≤ 1000000) (h1 : AtL il w a1 l) (h2 : AtL il w a2 l) : Calls Try.prog 15 #[.slice a1 l.length c1, .slice a2 l.length c2] w fun e w' => e = .returned (.bool true) ∧ Below w.heap.size w w' :=
  (sameInts_any a1 c1 a2 c2 l w (by omega) (at_of h1) (at_of h2)).mono fun e w' h => by
    first | exact h | exact ⟨h.1, by rw [h.2]; exact Below.refl _ _⟩
end Go.Proofs.Ytacfndfkoiifhaa
