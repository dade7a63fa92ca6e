/-
  Timers and the document's row, side by side.
-/
import Derived.Test.YtcjibgpbfcedlaaS
import Derived.Test.YtcjibgpbfcedlaaT
import Derived.Test.YtcjibgpbfcedlaaV
namespace Go.Proofs.Ytcjibgpbfcedlaa
open Go.RowKit
set_option linter.unusedVariables false
open M (E)

/-- The document's row, apart from timers. -/
structure PY (w wr : World) (b : Nat) (v : Value) (P : List E) (a : Option Addr) : Prop where
  at' : AtE wr a P
  ap : ∀ j, blk a j → w.heap.size ≤ j ∧ j ≠ b ∧ v.ownBlock ≠ some j ∧ j < wr.heap.size
/-- Both hold the same. -/
structure PX (w wr : World) (b : Nat) (v : Value) (P : List E) (a : Option Addr) : Prop where
  ts : TS w wr b v P
  y : PY w wr b v P a
theorem PY.step {w wr w' : World} {b : Nat} {v v' : Value} {P : List E} {a : Option Addr} (h : PY w wr b v P a) (hc : Ch wr b v w' v') : PY w w' b v' P a := by
  refine ⟨h.at'.keepBut fun j hj hb => hc.block j hj (h.ap j hb).2.1 (h.ap j hb).2.2.1, fun j hb => ⟨(h.ap j hb).1, (h.ap j hb).2.1, fun e => ?_, by have := (h.ap j hb).2.2.2; have := hc.size; omega⟩⟩
  rcases hc.n j e with h' | h'
  · exact (h.ap j hb).2.2.1 h'
  · have := (h.ap j hb).2.2.2; omega
theorem PY.keep {w wr w' : World} {b : Nat} {v : Value} {P : List E} {a : Option Addr} (h : PY w wr b v P a) (hb : Below wr.heap.size wr w') : PY w w' b v P a := h.step (Ch.ofBelow hb)
theorem PX.keep {w wr w' : World} {b : Nat} {v : Value} {P : List E} {a : Option Addr} (h : PX w wr b v P a) (hb : Below wr.heap.size wr w') : PX w w' b v P a := ⟨h.ts.keep hb, h.y.keep hb⟩
theorem PX.nil {w wr : World} {b : Nat} {v : Value} (h : TS w wr b v []) : PX w wr b v [] none := ⟨h, (fun j h => by simp at h), (fun j hb => by obtain ⟨_, _, h⟩ := hb; cases h)⟩
/-- A new row of the document's. -/
theorem PX.res {w wr w1 : World} {b : Nat} {v : Value} {P P' : List E} {a : Option Addr} {cap : Nat} {y : Value} (h : PX w wr b v P a) (hb : Below wr.heap.size wr w1) (hres : ERes wr w1 a cap y P P') : ∃ ay cy, y = .slice ay P'.length cy ∧ PY w w1 b v P' ay := by
  rcases hres with ⟨rfl, rfl⟩ | ho
  · exact ⟨a, cap, rfl, h.y.keep hb⟩
  · obtain ⟨ay, cy, rfl, hat, hbl, _⟩ := ho.at
    have h1 := h.ts.x.lt
    have h2 := h.ts.bel.size
    exact ⟨ay, cy, rfl, hat, fun j hj => ⟨by have := (hbl j hj).1; omega, by have := (hbl j hj).1; omega, fun e => by have := (hbl j hj).1; have := (h.ts.x.low j e).2; omega, (hbl j hj).2.2⟩⟩
theorem PX.resI {w wr w1 : World} {b : Nat} {v : Value} {P : List E} {l : List Int} {a : Option Addr} {u : Value} (h : PX w wr b v P a) (hb : Below wr.heap.size wr w1) (ho : OwnI w1 wr.heap.size u l) : ∃ au cu, u = .slice au l.length cu ∧ ∀ w2 v2, Ch w1 b v w2 v2 → AtI w2 au l := by
  obtain ⟨au, cu, rfl, hat, hbl, _⟩ := ho.at
  have h1 := h.ts.x.lt
  refine ⟨au, cu, rfl, fun w2 v2 hc => hat.keepBut fun j hj hb => hc.block j hj (by have := (hbl j hb).1; omega) (fun e => by have := (hbl j hb).1; have := (h.ts.x.low j e).2; omega)⟩
theorem TS.setC {w0 w : World} {b : Nat} {v : Value} {P : List E} (h : TS w0 w b v P) (k a : Int) : Calls Try.prog 10 #[.pointer (some ⟨b, 0, none⟩), .int .i64 k, .int .i64 a] w fun e w' => ∃ v', e = .returned (.int .i64 (M.setE P k a)) ∧ TS w0 w' b v' (M.setL P k a) ∧ Ch w b v w' v' :=
  (set_any _ b v P k a w h.bel.size h.x).mono fun e w' ⟨v', h1, h2, h3⟩ => ⟨v', h1, h.step h2 h3, h3⟩
theorem TS.stopC {w0 w : World} {b : Nat} {v : Value} {P : List E} (h : TS w0 w b v P) (k : Int) : Calls Try.prog 12 #[.pointer (some ⟨b, 0, none⟩), .int .i64 k] w fun e w' => ∃ v', e = .returned (.bool (decide ((M.stop P k).length < P.length))) ∧ TS w0 w' b v' (M.stop P k) ∧ Ch w b v w' v' :=
  (stop_any _ b v P k w h.bel.size h.x).mono fun e w' ⟨v', h1, h2, h3⟩ => ⟨v', by rw [M.stop_lt_iff h.x.g.u]; exact h1, h.step h2 h3, h3⟩
theorem hd_get (P : List E) (h : 0 < P.length) : P[0].i = hdI P ∧ P[0].t = hdT P ∧ hdB P = true := by
  cases P with
  | nil => simp at h
  | cons p r => exact ⟨rfl, rfl, rfl⟩
end Go.Proofs.Ytcjibgpbfcedlaa
