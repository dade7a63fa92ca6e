/-
  What is due first, told behind an interface; all that is due.
-/
import Derived.Test.YtbgbdiiinggjnaaN
namespace Go.Proofs.Ytbgbdiiinggjnaa
open Go.RowKit
set_option linter.unusedVariables false
open M (E)

theorem m_first (b : Nat) (w : World) : (method 233 95 (.pointer (some ⟨b, 0, none⟩)) "hurdle/timers.first").run Try.prog w = .ok (75, .pointer (some ⟨b, 0, none⟩)) w := by kernel_rfl
theorem m_take (b : Nat) (w : World) : (method 233 95 (.pointer (some ⟨b, 0, none⟩)) "hurdle/timers.takeFirst").run Try.prog w = .ok (76, .pointer (some ⟨b, 0, none⟩)) w := by kernel_rfl
theorem laid2 {w0 w : World} {g : Nat} {u0 u1 v0 v1 : Value} (h : w.heap[g]? = some (.cells #[u0, u1] 93 (0, 0))) (hb : Below w0.heap.size w0 w) (hg : w0.heap.size ≤ g) :
    ((w.setCell ⟨g, 0, none⟩ v0).setCell ⟨g, 1, none⟩ v1).heap[g]? = some (.cells #[v0, v1] 93 (0, 0)) ∧ Below w0.heap.size w0 ((w.setCell ⟨g, 0, none⟩ v0).setCell ⟨g, 1, none⟩ v1) ∧ ∀ k, k ≠ g → ((w.setCell ⟨g, 0, none⟩ v0).setCell ⟨g, 1, none⟩ v1).heap[k]? = w.heap[k]? :=
  ⟨heap_setCell_same _ g 1 _ _ _ (heap_setCell_same w g 0 _ _ _ h), (hb.setCell hg _).setCell hg _, fun k hk => (heap_setCell_other _ ⟨g, 1, none⟩ k _ hk).trans (heap_setCell_other _ ⟨g, 0, none⟩ k _ hk)⟩
theorem hdV_agg (P : List E) : ∃ x y : Int, hdV P = .agg #[.int .i64 x, .int .i64 y] := by
  cases P with
  | nil => exact ⟨0, 0, rfl⟩
  | cons p r => exact ⟨p.i, p.t, rfl⟩
/-- Those due at 'now', told in a new row. -/
def DueOut (w : World) (base b : Nat) (v : Value) (P : List E) (now : Int) (e : Ending) (w' : World) : Prop :=
  ∃ u v', e = .returned u ∧ OwnI w' w.heap.size u (M.dueI P now) ∧ XI w' base b v' (M.dueL P now) ∧ Ch w b v w' v' ∧ ∀ k, u.ownBlock = some k → v'.ownBlock ≠ some k
def hdI : List E → Int
  | [] => 0
  | p :: _ => p.i
def hdT : List E → Int
  | [] => 0
  | p :: _ => p.t
theorem hdV_eq (P : List E) : hdV P = .agg #[.int .i64 (hdI P), .int .i64 (hdT P)] := by cases P <;> rfl
/-- Half done: R is left, the first of it lies at g. -/
structure DR (w : World) (base b : Nat) (v : Value) (P : List E) (now : Int) (wr : World) (u : Value) (R : List E) (v' : Value) (g : Nat) (ids : List Int) : Prop where
  x : XI wr base b v' R
  ch : Ch w b v wr v'
  o : OwnI wr w.heap.size u ids
  e : M.dueI P now = ids ++ M.dueI R now
  n : ids.length + R.length ≤ 64
  l : M.dueL P now = M.dueL R now
  a : ∀ k, u.ownBlock = some k → v'.ownBlock ≠ some k
  row : wr.heap[g]? = some (.cells #[.int .i64 (hdI R), .int .i64 (hdT R)] 93 (0, 0))
  gw : w.heap.size ≤ g
  gu : u.ownBlock ≠ some g
  gv : v'.ownBlock ≠ some g
  bw : b < w.heap.size
/-- One more told; not yet taken. -/
structure DA (w : World) (base b : Nat) (v : Value) (P : List E) (now : Int) (wr : World) (u : Value) (p : E) (r : List E) (v' : Value) (g : Nat) (ids : List Int) : Prop where
  x : XI wr base b v' (p :: r)
  ch : Ch w b v wr v'
  o : OwnI wr w.heap.size u ids
  e : M.dueI P now = ids ++ M.dueI r now
  n : ids.length + r.length ≤ 64
  l : M.dueL P now = M.dueL r now
  a : ∀ k, u.ownBlock = some k → v'.ownBlock ≠ some k
  row : wr.heap[g]? = some (.cells #[.int .i64 p.i, .int .i64 p.t] 93 (0, 0))
  gw : w.heap.size ≤ g
  gv : v'.ownBlock ≠ some g
  bw : b < w.heap.size
theorem DR.app {w : World} {base b : Nat} {v : Value} {P : List E} {now : Int} {wr : World} {u : Value} {p : E} {r : List E} {v' : Value} {g : Nat} {ids : List Int} {w3 : World} {g3 cp : Nat}
    (h : DR w base b v P now wr u (p :: r) v' g ids) (hp : p.t ≤ now) (ho : w3.ownsRow w.heap.size 3 1 (.slice (some ⟨g3, 0, none⟩) (ids.length + 1) cp) (ids.length + 1) (ids.map (Value.int .i64) ++ [.int .i64 p.i]))
    (hg : (wr.alloc (.cells #[.int .i64 p.i] 3)).grownBy w3 u.ownBlock) (hat : u.ownBlock = some g3 ∨ g3 = (wr.alloc (.cells #[.int .i64 p.i] 3)).heap.size) : DA w base b v P now w3 (.slice (some ⟨g3, 0, none⟩) (ids.length + 1) cp) p r v' g (ids ++ [p.i]) := by
  have hsz : wr.heap.size < (wr.alloc (.cells #[.int .i64 p.i] 3)).heap.size := by simp
  have hk : ∀ k, k < wr.heap.size → u.ownBlock ≠ some k → w3.heap[k]? = wr.heap[k]? := fun k hk hu => by
    rw [hg.block k (by omega) (fun e => hu e.symm)]
    exact Below.heap_alloc wr _ _ hk
  have hgl : g < wr.heap.size := (Array.getElem?_eq_some_iff.1 h.row).1
  have hub : ∀ k, u.ownBlock = some k → w.heap.size ≤ k := fun k e => (World.ownsRow.lt h.o k e).1
  refine ⟨h.x.keepBut (fun k hkk hor => hk k hkk (fun e => ?_)), ⟨?_, ?_, ?_, ?_, fun k hkk hb hv => ?_, h.ch.n⟩, ?_, ?_, ?_, ?_, fun k e => ?_, ?_, h.gw, h.gv, h.bw⟩
  · rcases hor with rfl | hv
    · have := hub _ e; have := h.bw; omega
    · exact h.a k e hv
  · rw [hg.os]; exact h.ch.os
  · rw [hg.tape]; exact h.ch.tape
  · rw [hg.output]; exact h.ch.output
  · have := h.ch.size; have := hg.size; omega
  · have := h.ch.size
    rw [hk k (by omega) (fun e => by have := hub _ e; omega)]
    exact h.ch.block k hkk hb hv
  · unfold OwnI
    rw [List.map_append, List.length_append, List.length_singleton]
    exact ho
  · rw [h.e, (M.due_head hp).1]; simp
  · have := h.n; simp at this ⊢; omega
  · rw [h.l, (M.due_head hp).2]
  · simp only [Value.ownBlock, Option.some.injEq] at e
    subst e
    rcases hat with h' | h'
    · exact h.a _ h'
    · intro e'
      have := (h.x.low _ e').2
      omega
  · rw [hk g hgl h.gu]; exact h.row
theorem DA.took {w : World} {base b : Nat} {v : Value} {P : List E} {now : Int} {w3 : World} {u : Value} {p : E} {r : List E} {v' : Value} {g : Nat} {ids : List Int} {w4 : World} {v4 : Value}
    (h : DA w base b v P now w3 u p r v' g ids) (hx : XI w4 base b v4 r) (hc : Ch w3 b v' w4 v4) : w4.heap[g]? = some (.cells #[.int .i64 p.i, .int .i64 p.t] 93 (0, 0)) ∧ ∀ (w6 : World) (x y : Value), Below (w4.alloc (.cells #[x, y] 93)).heap.size (w4.alloc (.cells #[x, y] 93)) w6 →
      w6.heap[w4.heap.size]? = some (.cells #[x, y] 93 (0, 0)) ∧ DR w base b v P now ((w6.setCell ⟨w4.heap.size, 0, none⟩ (.int .i64 (hdI r))).setCell ⟨w4.heap.size, 1, none⟩ (.int .i64 (hdT r))) u r v4 w4.heap.size ids := by
  have hgl : g < w3.heap.size := (Array.getElem?_eq_some_iff.1 h.row).1
  have hbw := h.bw
  have hws := h.ch.size
  have hcs := hc.size
  refine ⟨by rw [hc.block g hgl (by have := h.gw; omega) h.gv]; exact h.row, fun w6 x y hb6 => ?_⟩
  have hb46 : Below w4.heap.size w4 w6 := bel_up (bel1 w4 _) hb6 (Nat.le_refl _)
  have h6 := hb46.size
  have hrow : w6.heap[w4.heap.size]? = some (.cells #[x, y] 93 (0, 0)) := (hb6.block _ (by simp)).trans (heap_alloc_last w4 _)
  obtain ⟨q1, q2, q3⟩ := laid2 (v0 := .int .i64 (hdI r)) (v1 := .int .i64 (hdT r)) hrow hb46 (Nat.le_refl _)
  have hk : ∀ k, k < w4.heap.size → ((w6.setCell ⟨w4.heap.size, 0, none⟩ (.int .i64 (hdI r))).setCell ⟨w4.heap.size, 1, none⟩ (.int .i64 (hdT r))).heap[k]? = w4.heap[k]? := fun k hk => q2.block k hk
  have hu3 : ∀ k, u.ownBlock = some k → k < w3.heap.size := fun k e => (World.ownsRow.lt h.o k e).2
  have hub : ∀ k, u.ownBlock = some k → w.heap.size ≤ k := fun k e => (World.ownsRow.lt h.o k e).1
  refine ⟨hrow, ⟨hx.keepBut (fun k hkk _ => hk k hkk), ⟨?_, ?_, ?_, ?_, fun k hkk hb hv => ?_, fun k e => ?_⟩, ?_, h.e, h.n, h.l, fun k e e' => ?_, q1, by omega, fun e => ?_, fun e => ?_, hbw⟩⟩
  · rw [q2.os, hc.os]; exact h.ch.os
  · rw [q2.tape, hc.tape]; exact h.ch.tape
  · rw [q2.output, hc.output]; exact h.ch.output
  · have := q2.size; omega
  · rw [hk k (by omega), hc.block k (by omega) hb (fun e => ?_)]
    · exact h.ch.block k hkk hb hv
    · rcases h.ch.n k e with h' | h'
      · exact hv h'
      · omega
  · rcases hc.n k e with h' | h'
    · exact h.ch.n k h'
    · exact .inr (by omega)
  · refine (h.o.keepBut (w1 := w4) fun k hkk e => hc.block k hkk (by have := hub k e; omega) (h.a k e)).keepBut fun k hkk _ => hk k hkk
  · rcases hc.n k e' with h' | h'
    · exact h.a k e h'
    · have := hu3 k e; omega
  · have := hu3 _ e; omega
  · have := (hx.low _ e).2; omega
theorem DR.start {w w1 : World} {base b : Nat} {v : Value} {P : List E} {now : Int} (h : XI w base b v P) (hb : Below w.heap.size w w1) : DR w base b v P now (w1.alloc (.cells #[.int .i64 (hdI P), .int .i64 (hdT P)] 93)) (.slice none 0 0) P v w1.heap.size [] := by
  have hb2 : Below w.heap.size w (w1.alloc (.cells #[.int .i64 (hdI P), .int .i64 (hdT P)] 93)) := hb.alloc hb.size _
  have := hb.size
  refine ⟨h.keep hb2, Ch.ofBelow hb2, OwnI.nil _ _, by simp, by have := h.len; simp; omega, rfl, by simp [Value.ownBlock], heap_alloc_last w1 _, by omega, by simp [Value.ownBlock], fun e => ?_, h.lt⟩
  have := (h.low _ e).2
  omega
/-- How long a slice is. -/
def sl : Value → Nat
  | .slice _ n _ => n
  | _ => 0
set_option maxRecDepth 100000 in
set_option maxHeartbeats 4000000 in
theorem takeDue_any (base b : Nat) (v : Value) (P : List E) (now : Int) (w : World) (hb : base ≤ w.heap.size) (h : XI w base b v P) :
    Calls Try.prog 42 #[.iface 95 (.pointer (some ⟨b, 0, none⟩)), .int .i64 now] w (DueOut w base b v P now) := by
  have hm := m_first b
  have hm2 := m_take b
  have hf := first_any base b v P w h
  rw [hdV_eq] at hf
  have H0 : Hid (∀ w1, Below w.heap.size w w1 → DR w base b v P now (w1.alloc (.cells #[.int .i64 (hdI P), .int .i64 (hdT P)] 93)) (.slice none 0 0) P v w1.heap.size []) := fun w1 h1 => DR.start h h1
  clear h
  go_enter Try.func42, Try.ntmps42
  go_wp2_with fail
  refine hf.mono ?_
  rintro e w1 ⟨rfl, hb1⟩
  have H1 := Hid_of (H0.out w1 hb1)
  clear hf hb1 H0
  generalize hbP : hdB P = bP at *
  generalize hdI P = iP at *
  generalize hdT P = tP at *
  have HBP := Hid_of hbP
  clear hbP
  go_wp2_with fail
  go_loopw [5, 6, 7] (fun u d o wr => ∃ R v' g ids, Hid (DR w base b v P now wr u R v' g ids) ∧ d = .pointer (some ⟨g, 0, none⟩) ∧ o = .bool (hdB R)) (fun u _ _ _ => 65 - sl u)
  case atStart => exact ⟨P, v, w1.heap.size, [], H1, rfl, by rw [HBP.out]⟩
  case round =>
    obtain ⟨R, v', g, ids, HD, rfl, rfl⟩ := hrel
    clear H1 HBP
    have HEND : Hid (M.dueI R now = [] → M.dueL R now = R → DueOut w base b v P now (.returned u5) wr) := fun h1 h2 => ⟨u5, v', rfl, by have := HD.out.o; rw [HD.out.e, h1, List.append_nil]; exact this, by rw [HD.out.l, h2]; exact HD.out.x, HD.out.ch, HD.out.a⟩
    obtain ⟨⟨c0, c1⟩, cf⟩ := row2 HD.out.row
    cases R with
    | nil =>
      have HK := Hid_of (HEND.out rfl rfl)
      simp only [hdB]
      clear HEND HD c0 c1 cf
      go_wp2
      go_ret
      exact HK.out
    | cons p r =>
      simp only [hdB, hdI, hdT] at c0 c1 ⊢
      by_cases hp : p.t ≤ now
      · obtain ⟨a5, cap5, rfl, _⟩ := HD.out.o.at
        have HO : Hid (wr.ownsRow w.heap.size 3 1 (.slice a5 ids.length cap5) ids.length (ids.map (Value.int .i64))) := HD.out.o
        have hn : ids.length ≤ 64 := by have := HD.out.n; omega
        have hsz := HD.out.ch.size
        have HAPP : Hid (∀ w3 g3 cp, w3.ownsRow w.heap.size 3 1 (.slice (some ⟨g3, 0, none⟩) (ids.length + 1) cp) (ids.length + 1) (ids.map (Value.int .i64) ++ [.int .i64 p.i]) → (wr.alloc (.cells #[.int .i64 p.i] 3)).grownBy w3 (Value.slice a5 ids.length cap5).ownBlock → ((Value.slice a5 ids.length cap5).ownBlock = some g3 ∨ g3 = (wr.alloc (.cells #[.int .i64 p.i] 3)).heap.size) → DA w base b v P now w3 (.slice (some ⟨g3, 0, none⟩) (ids.length + 1) cp) p r v' g (ids ++ [p.i])) := fun w3 g3 cp h1 h2 h3 => HD.out.app hp h1 h2 h3
        have HLN := Hid_of HD.out.n
        clear HEND HD cf
        generalize hlen : ids.length = n at *
        generalize ids.map (Value.int .i64) = xs at *
        go_wp2_with (at_builtin; refine wpList_append_lies _ rfl _ _ 54 rfl w.heap.size 3 Try.t3 _ 1 8 Try.underlying54 hi3 hz3 hs3 hb3 rfl (by decide) _ _ _ rfl (HO.out.alloc _) ⟨wr.heap.size, 0, none⟩ 1 1 [.int .i64 p.i] rfl rfl (cell_one _ _ _ _ (heap_alloc_last _ _)) (by simp; rfl) (by decide) (by unfold maxLen; omega) (by omega) (by simp; omega) _ rfl ?_; intro g3 cp w3 hown3 hgrow hat hlt3; have HA : Hid (DA w base b v P now w3 (.slice (some ⟨g3, 0, none⟩) (n + 1) cp) p r v' g (ids ++ [p.i])) := HAPP.out w3 g3 cp hown3 hgrow hat; clear hown3 hgrow hat hlt3 HAPP HO)
        refine (take_any base b v' p r w3 (by have := HA.out.ch.size; omega) HA.out.x).mono ?_
        rintro e w4 ⟨v4, rfl, x4, ch4⟩
        obtain ⟨hrow4, hnext⟩ := HA.out.took x4 ch4
        obtain ⟨⟨d0, d1⟩, _⟩ := row2 hrow4
        have hf4 := first_any base b v4 r (w4.alloc (.cells #[.int .i64 p.i, .int .i64 p.t] 93)) (x4.keep (bel1 w4 _))
        rw [hdV_eq] at hf4
        have HN : Hid (∀ w6, Below (w4.alloc (.cells #[.int .i64 p.i, .int .i64 p.t] 93)).heap.size (w4.alloc (.cells #[.int .i64 p.i, .int .i64 p.t] 93)) w6 → _) := fun w6 hb6 => hnext w6 (.int .i64 p.i) (.int .i64 p.t) hb6
        clear hnext x4 ch4 hrow4 HA c0 c1
        go_wp2_with fail
        refine hf4.mono ?_
        rintro e w6 ⟨rfl, hb6⟩
        obtain ⟨hr6, D6⟩ := HN.out w6 hb6
        obtain ⟨⟨e0, e1⟩, ef⟩ := row2 hr6
        have ef0 := ef 0
        have ef1 := ef 1
        have HD6 := Hid_of D6
        clear HN hb6 hr6 ef D6 hf4 d0 d1
        generalize hdI r = iR at *
        generalize hdT r = tR at *
        go_wp2
        go_roundw
        case rel => exact ⟨r, v4, w4.heap.size, ids ++ [p.i], HD6, rfl, rfl⟩
        case measure => simp [sl]; omega
      · have hl := M.due_later (M.later_of_head HD.out.x.g.s (by omega : now < p.t))
        have HK := Hid_of (HEND.out hl.1 hl.2)
        clear HEND HD hl cf
        go_wp2
        go_ret
        exact HK.out
set_option maxHeartbeats 1000000 in
theorem due_any (base b : Nat) (v : Value) (P : List E) (now : Int) (w : World) (hb : base ≤ w.heap.size) (h : XI w base b v P) :
    Calls Try.prog 32 #[.pointer (some ⟨b, 0, none⟩), .int .i64 now] w (DueOut w base b v P now) := by
  have hc := takeDue_any base b v P now w hb h
  clear h
  go_enter Try.func32, Try.ntmps32
  go_wp2_with fail
  refine hc.mono ?_
  rintro e w1 ⟨u, v', rfl, o, x, ch, ap⟩
  have HK : Hid (DueOut w base b v P now (.returned u) w1) := ⟨u, v', rfl, o, x, ch, ap⟩
  clear o x ch ap hc
  go_wp2
  go_ret
  exact HK.out
end Go.Proofs.Ytbgbdiiinggjnaa
