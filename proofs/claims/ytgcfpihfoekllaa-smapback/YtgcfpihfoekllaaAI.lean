/- A map beside what stays. -/
import Derived.Test.YtgcfpihfoekllaaRQ
import Derived.Test.YtgcfpihfoekllaaRH
import Derived.Test.YtgcfpihfoekllaaRI

namespace Go.Proofs.Ytgcfpihfoekllaa

open Go.RowKit

set_option linter.unusedVariables false

open Sm (S)

/-- What stays as it is. -/
def Sk (K : Nat → Prop) (w w' : World) : Prop := w.heap.size ≤ w'.heap.size ∧ ∀ k, K k → w'.heap[k]? = w.heap[k]?
/-- A map made since a world; what else stands beside it. -/
def AwI (w0 w : World) (b : Nat) (K : Nat → Prop) (m : List S) : Prop := Below w0.heap.size w0 w ∧ ∃ F, MM w w0.heap.size b F m ∧ ∀ k, K k → k < w.heap.size ∧ ¬ F k
section
variable {w0 w w' w'' : World} {b : Nat} {K K' : Nat → Prop} {m m' : List S} {u : Value} {e : Ending}
theorem Sk.refl (K : Nat → Prop) (w : World) : Sk K w w := ⟨Nat.le_refl _, fun _ _ => rfl⟩
theorem Sk.trans (h : Sk K w w') (k : Sk K w' w'') : Sk K w w'' := ⟨Nat.le_trans h.1 k.1, fun j hj => (k.2 j hj).trans (h.2 j hj)⟩
theorem Sk.sub (h : Sk K w w') (hs : ∀ k, K' k → K k) : Sk K' w w' := ⟨h.1, fun k hk => h.2 k (hs k hk)⟩
theorem AwI.bel (h : AwI w0 w b K m) : Below w0.heap.size w0 w := h.1
theorem AwI.lt (h : AwI w0 w b K m) {k : Nat} (hk : K k) : k < w.heap.size := by
  obtain ⟨_, F, _, h3⟩ := h
  exact (h3 k hk).1
theorem AwI.sub (h : AwI w0 w b K m) (hs : ∀ k, K' k → K k) : AwI w0 w b K' m := by
  obtain ⟨h1, F, h2, h3⟩ := h
  exact ⟨h1, F, h2, fun k hk => h3 k (hs k hk)⟩
theorem AwI.keep (h : AwI w0 w b K m) (hb : Below w.heap.size w w') : AwI w0 w' b K m := by
  obtain ⟨h1, F, h2, h3⟩ := h
  exact ⟨bel_up h1 hb (Nat.le_refl _), F, h2.keep hb, fun k hk => ⟨Nat.lt_of_lt_of_le (h3 k hk).1 hb.size, (h3 k hk).2⟩⟩
theorem AwI.sk (h : AwI w0 w b K m) (hb : Below w.heap.size w w') : Sk K w w' := ⟨hb.size, fun k hk => hb.block k (h.lt hk)⟩
/-- What is new stands beside it too. -/
theorem AwI.more (h : AwI w0 w b K m) (hb : Below w.heap.size w w') : AwI w0 w' b (fun k => K k ∨ (w.heap.size ≤ k ∧ k < w'.heap.size)) m := by
  obtain ⟨h1, F, h2, h3⟩ := h
  refine ⟨bel_up h1 hb (Nat.le_refl _), F, h2.keep hb, fun k hk => ?_⟩
  rcases hk with hk | ⟨hk, hk2⟩
  · exact ⟨Nat.lt_of_lt_of_le (h3 k hk).1 hb.size, (h3 k hk).2⟩
  · exact ⟨hk2, fun hF => by have := (h2.mine k hF).2; omega⟩
theorem AwI.fr (h : Below w0.heap.size w0 w) {F F' : Nat → Prop} (h1 : MM w w0.heap.size b F m) (h0 : ∀ k, K k → k < w.heap.size ∧ ¬ F k) (h2 : MM w' w0.heap.size b F' m') (h3 : Fr w F w' F') : AwI w0 w' b K m' ∧ Sk K w w' :=
  ⟨⟨h.trans (h3.below (fun k hk => (h1.mine k hk).1) h.size), F', h2, fun k hk => ⟨Nat.lt_of_lt_of_le (h0 k hk).1 h3.size, fun hF => by
    rcases h3.n k hF with q | q
    · exact (h0 k hk).2 q
    · have := (h0 k hk).1; omega⟩⟩, h3.size, fun k hk => h3.block k (h0 k hk).1 (h0 k hk).2⟩
theorem AwI.dd (h : AwI w0 w b K m) {f : Nat} {ar : Array Value} (hc : ∀ F, MM w w0.heap.size b F m → Calls Try.prog f ar w (DdOut w w0.heap.size b F u m')) : Calls Try.prog f ar w fun e w' => e = .returned u ∧ AwI w0 w' b K m' ∧ Sk K w w' := by
  obtain ⟨h1, F, h2, h0⟩ := h
  refine (hc F h2).mono ?_
  rintro e w' ⟨rfl, F', h3, h4⟩
  exact ⟨rfl, AwI.fr h1 h2 h0 h3 h4⟩
theorem AwI.begin (h : AwI w0 w b K m) (ow ep ln : Int) (a : Option Addr) (c : Nat) (l : List Int) (hep : ep ≤ 9223372036854775807) (hl : l.length ≤ 1000000) (ha : AtL il w a l) : Calls Try.prog 26 #[.pointer (some ⟨b, 0, none⟩), .int .i64 ow, .int .i64 ep, .int .i64 ln, .slice a l.length c] w fun e w' => e = .returned (.tuple #[.int .i64 (Sm.bv m ⟨1, ow, ep, ln, l⟩), .int .i64 (Sm.bc m ⟨1, ow, ep, ln, l⟩)]) ∧ AwI w0 w' b K (Sm.bm m ⟨1, ow, ep, ln, l⟩) ∧ Sk K w w' := h.dd fun F hF => begin_any hF h.1.size ow ep ln a c l hep hl ha
theorem AwI.commit (h : AwI w0 w b K m) (i o : Int) : Calls Try.prog 27 #[.pointer (some ⟨b, 0, none⟩), .int .i64 i, .int .i64 o] w fun e w' => e = .returned (.int .i64 (Sm.cc m i o)) ∧ AwI w0 w' b K (Sm.cm m i o) ∧ Sk K w w' := h.dd fun F hF => commit_any hF i o
theorem AwI.free (h : AwI w0 w b K m) (i : Int) : Calls Try.prog 28 #[.pointer (some ⟨b, 0, none⟩), .int .i64 i] w fun e w' => e = .returned (.int .i64 (Sm.fc m i)) ∧ AwI w0 w' b K (Sm.fm m i) ∧ Sk K w w' := h.dd fun F hF => free_any hF i
theorem AwI.move (h : AwI w0 w b K m) (i x y : Int) : Calls Try.prog 29 #[.pointer (some ⟨b, 0, none⟩), .int .i64 i, .int .i64 x, .int .i64 y] w fun e w' => e = .returned (.int .i64 (Sm.mc m i x y)) ∧ AwI w0 w' b K (Sm.mm m i x y) ∧ Sk K w w' := h.dd fun F hF => move_any hF i x y
theorem AwI.drop (h : AwI w0 w b K m) (o : Int) : Calls Try.prog 25 #[.pointer (some ⟨b, 0, none⟩), .int .i64 o] w fun e w' => ∃ u, e = .returned u ∧ OwnL il 3 w' w.heap.size u (Sm.ofOw m o) ∧ AwI w0 w' b K (Sm.dm m o) ∧ Sk K w w' := by
  obtain ⟨h1, F, h2, h0⟩ := h
  refine (drop_any h2 o).mono ?_
  rintro e w' ⟨u, rfl, ho, F', h3, h4⟩
  exact ⟨u, rfl, ho, AwI.fr h1 h2 h0 h3 h4⟩
theorem AwI.get (h : AwI w0 w b K m) (i : Int) : Calls Try.prog 12 #[.pointer (some ⟨b, 0, none⟩), .int .i64 i] w (GetOut w m i) := by
  obtain ⟨h1, F, h2, _⟩ := h
  exact get_any h2 i
theorem AwI.text (h : AwI w0 w b K m) : Calls Try.prog 20 #[.pointer (some ⟨b, 0, none⟩)] w fun e w' => e = .returned (.string (ofL (Sm.txt m))) ∧ Below w.heap.size w w' := by
  obtain ⟨h1, F, h2, _⟩ := h
  exact text_any h2
theorem AwI.list (h : AwI w0 w b K m) (z : Int) : Calls Try.prog 16 #[.pointer (some ⟨b, 0, none⟩), .int .i64 z] w (IdsOut w (Sm.ofSt m z)) := by
  obtain ⟨h1, F, ⟨v, es, rfl, hM, rfl, hG⟩, _⟩ := h
  exact list_any hM (by have := hG.ln; rw [List.length_map] at this; omega) z
theorem AwI.on (h : AwI w0 w b K m) (z : Int) : Calls Try.prog 18 #[.pointer (some ⟨b, 0, none⟩), .int .i64 z] w (IdsOut w (Sm.onSv m z)) := by
  obtain ⟨h1, F, ⟨v, es, rfl, hM, rfl, hG⟩, _⟩ := h
  exact on_any hM (by have := hG.ln; rw [List.length_map] at this; omega) (fun x hx => by have := (hG.st x.s (List.mem_map_of_mem hx)).2.2.2.2.2.2.1; omega) z
theorem AwI.new {bm : Nat} {F : Nat → Prop} (hb : Below w0.heap.size w0 w) (hb2 : Below w.heap.size w w') (h : MM w' w.heap.size bm F m) (hK : ∀ k, K k → k < w.heap.size) : AwI w0 w' bm K m :=
  ⟨bel_up hb hb2 (Nat.le_refl _), F, h.low hb.size, fun k hk => ⟨Nat.lt_of_lt_of_le (hK k hk) hb2.size, fun hF => by have := (h.mine k hF).1; have := hK k hk; omega⟩⟩
theorem AwI.g (h : AwI w0 w b K m) : Sm.G m := by
  obtain ⟨h1, F, h2, _⟩ := h
  exact h2.g
end
theorem ids_one {w : World} {u : Value} {x : Int} {base : Nat} (h : OwnL il 3 w base u [x]) : ∃ a c, u = .slice a 1 c ∧ AtL il w a [x] := by
  obtain ⟨a, c, hv, hx, _⟩ := h.at
  exact ⟨a, c, hv, hx.at'⟩
theorem AtL.sk {α : Type} {Y : Ly α} {w w' : World} {a : Option Addr} {l : List α} {K : Nat → Prop} (h : AtL Y w a l) (hk : ∀ k, blk a k → K k) (hs : Sk K w w') : AtL Y w' a l := h.keepBut fun k _ hb => hs.2 k (hk k hb)
theorem ints_one {w : World} {a : Option Addr} {c k : Nat} {x : Int} (h1 : AtL il w a [x]) (h2 : w.heap[k]? = some (.cells #[.int .i64 x] 3 (0, 0))) : Calls Try.prog 15 #[.slice a 1 c, .slice (some ⟨k, 0, none⟩) 1 1] w fun e w' => e = .returned (.bool true) ∧ Below w.heap.size w w' :=
  ints_same (l := [x]) (by simp) h1 (atL_one (Y := il) h2)

end Go.Proofs.Ytgcfpihfoekllaa
