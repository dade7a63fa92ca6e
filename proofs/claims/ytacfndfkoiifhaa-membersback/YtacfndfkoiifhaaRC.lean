/-
  A group in memory; what tells of it, and what changes its row alone.
-/
import Derived.Test.YtacfndfkoiifhaaRB
import Derived.Test.YtacfndfkoiifhaaMD
namespace Go.Proofs.Ytacfndfkoiifhaa
open Go.RowKit
set_option linter.unusedVariables false
open Mb (S)

/-- A group's own blocks. -/
def fpm (b : Nat) (vl vs : Value) (k : Nat) : Prop := k = b ∨ vl.ownBlock = some k ∨ vs.ownBlock = some k
abbrev mrow (s : S) (vl vs : Value) : Obj := .cells #[.int .i64 s.ep, .int .i64 s.hole, .bool s.fl, .int .i64 s.gone, vl, vs] 60 (0, 0)
/-- A group at block b. -/
structure MI (w : World) (base b : Nat) (vl vs : Value) (s : S) : Prop where
  row : w.heap[b]? = some (mrow s vl vs)
  ol : OwnL il 3 w base vl s.l
  os : OwnL il 3 w base vs s.sp
  nl : vl.ownBlock ≠ some b
  ns : vs.ownBlock ≠ some b
  ne : ∀ k, vl.ownBlock = some k → vs.ownBlock ≠ some k
  lo : base ≤ b
section
variable {w w' : World} {base b : Nat} {vl vs : Value} {s : S}
theorem MI.keepBut (h : MI w base b vl vs s) (hb : ∀ k, k < w.heap.size → fpm b vl vs k → w'.heap[k]? = w.heap[k]?) : MI w' base b vl vs s :=
  ⟨(hb b (Array.getElem?_eq_some_iff.1 h.row).1 (.inl rfl)).trans h.row, h.ol.keepBut (fun k hk e => hb k hk (.inr (.inl e))), h.os.keepBut (fun k hk e => hb k hk (.inr (.inr e))), h.nl, h.ns, h.ne, h.lo⟩
theorem MI.keep (h : MI w base b vl vs s) (hb : Below w.heap.size w w') : MI w' base b vl vs s := h.keepBut fun k hk _ => hb.block k hk
theorem MI.lt (h : MI w base b vl vs s) : b < w.heap.size := (Array.getElem?_eq_some_iff.1 h.row).1
theorem MI.mine (h : MI w base b vl vs s) : ∀ k, fpm b vl vs k → base ≤ k ∧ k < w.heap.size := by
  rintro k (rfl | hk | hk)
  · exact ⟨h.lo, h.lt⟩
  · exact h.ol.lt hk
  · exact h.os.lt hk
/-- Its row alone has changed. -/
theorem MI.setb (h : MI w base b vl vs s) {s' : S} (hl : s'.l = s.l) (hs : s'.sp = s.sp) (hr : w'.heap[b]? = some (mrow s' vl vs)) (ho : ∀ k, k ≠ b → w'.heap[k]? = w.heap[k]?) : MI w' base b vl vs s' := by
  refine ⟨hr, ?_, ?_, h.nl, h.ns, h.ne, h.lo⟩
  · rw [hl]; exact h.ol.keepBut fun k _ e => ho k (fun e' => h.nl (by rw [← e']; exact e))
  · rw [hs]; exact h.os.keepBut fun k _ e => ho k (fun e' => h.ns (by rw [← e']; exact e))
theorem fr_set {w w1 : World} {F G : Nat → Prop} {b : Nat} (h : Fr w F w1 G) (hb : F b) (o : Nat) (x : Value) : Fr w F (w1.setCell ⟨b, o, none⟩ x) G :=
  ⟨h.os, h.tape, h.output, by simpa using h.size, fun k hk hF => by rw [heap_setCell_other w1 ⟨b, o, none⟩ k _ (fun e => hF (by subst e; exact hb))]; exact h.block k hk hF, h.n⟩
theorem epoch_any (h : MI w base b vl vs s) : Calls Try.prog 13 #[.pointer (some ⟨b, 0, none⟩)] w fun e w' => e = .returned (.int .i64 s.ep) ∧ w' = w := by
  obtain ⟨⟨c0, c1, c2, c3, c4, c5⟩, _⟩ := row6 h.row
  clear h
  go_enter Try.func13, Try.ntmps13
  go_wp2
  go_ret
  exact ⟨rfl, rfl⟩
theorem hole_any (h : MI w base b vl vs s) : Calls Try.prog 14 #[.pointer (some ⟨b, 0, none⟩)] w fun e w' => e = .returned (.int .i64 s.hole) ∧ w' = w := by
  obtain ⟨⟨c0, c1, c2, c3, c4, c5⟩, _⟩ := row6 h.row
  clear h
  go_enter Try.func14, Try.ntmps14
  go_wp2
  go_ret
  exact ⟨rfl, rfl⟩
/-- What a copied row leaves. -/
def CpOut (w : World) (l : List Int) (e : Ending) (w' : World) : Prop := e = .returned (.slice (some ⟨w.heap.size, 0, none⟩) l.length l.length) ∧ OwnL il 3 w' w.heap.size (.slice (some ⟨w.heap.size, 0, none⟩) l.length l.length) l ∧ Below w.heap.size w w'
theorem copied_out (a : Option Addr) (cap : Nat) (l : List Int) (w : World) (hl : l.length ≤ 1000000) (h : AtL il w a l) : Calls Try.prog 29 #[.slice a l.length cap] w (CpOut w l) :=
  (copied_any a cap l w hl h).mono fun e w' ⟨v, h1, h2, h3, h4⟩ => by subst h3; exact ⟨h1, h2, h4⟩
theorem servers_any (h : MI w base b vl vs s) (hn : s.l.length ≤ 1000000) : Calls Try.prog 16 #[.pointer (some ⟨b, 0, none⟩)] w (CpOut w s.l) := by
  obtain ⟨a, cap, hv, hx, _⟩ := h.ol.at
  subst hv
  have hc := copied_out a cap s.l w hn hx.at'
  obtain ⟨⟨c0, c1, c2, c3, c4, c5⟩, _⟩ := row6 h.row
  clear h hx
  go_enter Try.func16, Try.ntmps16
  go_wp2_with fail
  refine hc.mono ?_
  rintro e w1 ⟨rfl, h1, h2⟩
  have H1 := Hid_of h1
  have H2 := Hid_of h2
  clear hc h1 h2
  go_wp2
  go_ret
  exact ⟨rfl, H1.out, H2.out⟩
theorem spares_any (h : MI w base b vl vs s) (hn : s.sp.length ≤ 1000000) : Calls Try.prog 17 #[.pointer (some ⟨b, 0, none⟩)] w (CpOut w s.sp) := by
  obtain ⟨a, cap, hv, hx, _⟩ := h.os.at
  subst hv
  have hc := copied_out a cap s.sp w hn hx.at'
  obtain ⟨⟨c0, c1, c2, c3, c4, c5⟩, _⟩ := row6 h.row
  clear h hx
  go_enter Try.func17, Try.ntmps17
  go_wp2_with fail
  refine hc.mono ?_
  rintro e w1 ⟨rfl, h1, h2⟩
  have H1 := Hid_of h1
  have H2 := Hid_of h2
  clear hc h1 h2
  go_wp2
  go_ret
  exact ⟨rfl, H1.out, H2.out⟩
theorem rise_any {ep : Int} {v1 v2 v3 v4 v5 : Value} (hr : w.heap[b]? = some (.cells #[.int .i64 ep, v1, v2, v3, v4, v5] 60 (0, 0))) (he : 0 ≤ ep ∧ ep ≤ 1000000) : Calls Try.prog 43 #[.pointer (some ⟨b, 0, none⟩)] w fun e w' => e = .returned (.tuple #[]) ∧ w' = w.setCell ⟨b, 0, none⟩ (.int .i64 (ep + 1)) := by
  obtain ⟨⟨c0, c1, c2, c3, c4, c5⟩, cf⟩ := row6 hr
  have f0 := cf 0
  have hm : min ep 9223372036854775806 = ep := by omega
  have hw : IntKind.i64.wrap (ep + 1) = ep + 1 := by rw [IntKind.wrap_i64]; omega
  clear hr cf
  go_enter Try.func43, Try.ntmps43
  go_wp2
  go_end0
  exact ⟨rfl, rfl⟩
end
end Go.Proofs.Ytacfndfkoiifhaa
