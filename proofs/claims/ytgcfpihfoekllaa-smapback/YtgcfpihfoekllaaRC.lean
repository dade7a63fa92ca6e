/-
  Stripes in memory; one of them found.
-/
import Derived.Test.YtgcfpihfoekllaaRK
import Derived.Test.YtgcfpihfoekllaaST
namespace Go.Proofs.Ytgcfpihfoekllaa
open Go.RowKit
set_option linter.unusedVariables false
open Sm (S)

/-- A stripe in memory: its number, what it is, where its servers lie. -/
structure E where
  id : Int
  s : S
  a : Option Addr
  c : Nat
abbrev eC (x : E) : List Value := [.int .i64 x.id, .int .i64 x.s.st, .int .i64 x.s.ow, .int .i64 x.s.ep, .int .i64 x.s.ln, .slice x.a x.s.l.length x.c]
abbrev eV (x : E) : Value := .agg #[.int .i64 x.id, .int .i64 x.s.st, .int .i64 x.s.ow, .int .i64 x.s.ep, .int .i64 x.s.ln, .slice x.a x.s.l.length x.c]
abbrev eO (x : E) : Obj := .cells #[.int .i64 x.id, .int .i64 x.s.st, .int .i64 x.s.ow, .int .i64 x.s.ep, .int .i64 x.s.ln, .slice x.a x.s.l.length x.c] 34 (0, 0)
def stl : Ly E := ⟨6, eC, fun _ => rfl, fun x v h => by simp at h; rcases h with rfl | rfl | rfl | rfl | rfl | rfl <;> rfl, by decide⟩
theorem tiE : Ti stl 27 34 := ⟨Try.underlying27, by
  have h : (Try.prog.info? 34).map (fun i => (i.zero.map (fun z => z.cells.size), i.size, decide (i.bytes ≤ 100))) = some (some 6, 6, true) := by kernel_rfl
  cases hi : Try.prog.info? 34 with
  | none => rw [hi] at h; cases h
  | some inf =>
    rw [hi] at h
    simp only [Option.map_some, Option.some.injEq, Prod.mk.injEq, decide_eq_true_eq] at h
    obtain ⟨h1, h2, h3⟩ := h
    cases hz : inf.zero with
    | none => rw [hz] at h1; cases h1
    | some z =>
      rw [hz] at h1
      simp only [Option.map_some, Option.some.injEq] at h1
      exact ⟨inf, z, rfl, hz, h2, h3, h1⟩⟩
/-- What lies at the place of one of them. -/
def EAt (w : World) (b o : Nat) (x : E) : Prop := w.cell? ⟨b, o, none⟩ = some (.int .i64 x.id) ∧ w.cell? ⟨b, o + 1, none⟩ = some (.int .i64 x.s.st) ∧ w.cell? ⟨b, o + 2, none⟩ = some (.int .i64 x.s.ow) ∧ w.cell? ⟨b, o + 3, none⟩ = some (.int .i64 x.s.ep) ∧ w.cell? ⟨b, o + 4, none⟩ = some (.int .i64 x.s.ln) ∧ w.cell? ⟨b, o + 5, none⟩ = some (.slice x.a x.s.l.length x.c)
theorem AtL.getE {w : World} {a : Option Addr} {l : List E} (h : AtL stl w a l) (j : Nat) (hj : j < l.length) : ∃ b off, a = some ⟨b, off, none⟩ ∧ EAt w b (off + j * 6) (l[j]'hj) := by
  obtain ⟨b, off, e, h0⟩ := h j hj
  exact ⟨b, off, e, h0 0 (by decide), h0 1 (by decide), h0 2 (by decide), h0 3 (by decide), h0 4 (by decide), h0 5 (by decide)⟩
/-- What stripes own. -/
def as' (es : List E) : List (Option Addr) := es.map (·.a)
def fpm (b : Nat) (v : Value) (es : List E) (k : Nat) : Prop := k = b ∨ v.ownBlock = some k ∨ ∃ a ∈ as' es, blk a k
abbrev mrow (v : Value) (n : Int) : Obj := .cells #[v, .int .i64 n] 60 (0, 0)
/-- Its servers lie in memory of their own. -/
def Sv (w : World) (base : Nat) (e : E) : Prop := (∃ g, e.a = some ⟨g, 0, none⟩) ∧ OwnL il 3 w base (.slice e.a e.s.l.length e.c) e.s.l
/-- Stripes at block b: their row, how many are not freed. -/
structure MI (w : World) (base b : Nat) (v : Value) (es : List E) (n : Int) : Prop where
  row : w.heap[b]? = some (mrow v n)
  own : OwnL stl 34 w base v es
  sv : ∀ e ∈ es, Sv w base e
  nd : (as' es).Nodup
  nb : v.ownBlock ≠ some b
  ne : ∀ e ∈ es, ¬ blk e.a b ∧ ∀ k, v.ownBlock = some k → ¬ blk e.a k
  lo : base ≤ b
  id : ∀ j (h : j < es.length), es[j].id = j
section
variable {w w' : World} {base b : Nat} {v : Value} {es : List E} {n : Int} {e : E}
theorem own_blk {a : Option Addr} {k n c : Nat} (h : blk a k) : (Value.slice a n c).ownBlock = some k := by
  obtain ⟨o, s, rfl⟩ := h; rfl
theorem Sv.keepBut (h : Sv w base e) (hb : ∀ k, k < w.heap.size → blk e.a k → w'.heap[k]? = w.heap[k]?) : Sv w' base e := ⟨h.1, h.2.keepBut fun k hk ho => hb k hk (blk_own.1 ho)⟩
theorem Sv.keep (h : Sv w base e) (hb : Below w.heap.size w w') : Sv w' base e := ⟨h.1, h.2.keep hb⟩
theorem Sv.low {base' : Nat} (h : Sv w base e) (hb : base' ≤ base) : Sv w base' e := ⟨h.1, h.2.low hb⟩
theorem Sv.lt (h : Sv w base e) {k : Nat} (hk : blk e.a k) : base ≤ k ∧ k < w.heap.size := h.2.lt (own_blk hk)
theorem Sv.at (h : Sv w base e) : AtL il w e.a e.s.l := by
  obtain ⟨a, c, hv, hx, _⟩ := h.2.at
  simp only [Value.slice.injEq] at hv
  rw [hv.1]; exact hx.at'
theorem Sv.xl (h : Sv w base e) : XL il w e.a e.c e.s.l := by
  obtain ⟨a, c, hv, hx, _⟩ := h.2.at
  simp only [Value.slice.injEq] at hv
  rw [hv.1, hv.2.2]; exact hx
theorem MI.keepBut (h : MI w base b v es n) (hb : ∀ k, k < w.heap.size → fpm b v es k → w'.heap[k]? = w.heap[k]?) : MI w' base b v es n :=
  ⟨(hb b (Array.getElem?_eq_some_iff.1 h.row).1 (.inl rfl)).trans h.row, h.own.keepBut (fun k hk e => hb k hk (.inr (.inl e))), fun x hx => (h.sv x hx).keepBut fun k hk e => hb k hk (.inr (.inr ⟨_, List.mem_map_of_mem hx, e⟩)), h.nd, h.nb, h.ne, h.lo, h.id⟩
theorem MI.keep (h : MI w base b v es n) (hb : Below w.heap.size w w') : MI w' base b v es n := h.keepBut fun k hk _ => hb.block k hk
theorem MI.lt (h : MI w base b v es n) : b < w.heap.size := (Array.getElem?_eq_some_iff.1 h.row).1
theorem MI.mine (h : MI w base b v es n) : ∀ k, fpm b v es k → base ≤ k ∧ k < w.heap.size := by
  rintro k (rfl | hk | ⟨x, hx, hk⟩)
  · exact ⟨h.lo, h.lt⟩
  · exact h.own.lt hk
  · obtain ⟨e, he, rfl⟩ := List.mem_map.1 hx
    exact (h.sv e he).lt hk
theorem MI.cells (h : MI w base b v es n) : w.cell? ⟨b, 0, none⟩ = some v ∧ w.cell? ⟨b, 1, none⟩ = some (.int .i64 n) ∧ w.frozen? ⟨b, 0, none⟩ = false ∧ w.frozen? ⟨b, 1, none⟩ = false := row2 h.row
/-- The row of which one is found. -/
theorem MI.get (h : MI w base b v es n) (i : Nat) (hi : i < es.length) : ∃ g cap, v = .slice (some ⟨g, 0, none⟩) es.length cap ∧ EAt w g (i * 6) es[i] ∧ (∀ j, w.frozen? ⟨g, j, none⟩ = false) ∧ g ≠ b := by
  obtain ⟨g, cap, hv, _, _, _, hf, _⟩ := h.own.set1 i hi 0 (by decide)
  obtain ⟨a, c, hv2, hx, _⟩ := h.own.at
  rw [hv] at hv2
  simp only [Value.slice.injEq] at hv2
  obtain ⟨b', off, e, c0⟩ := hx.at'.getE i hi
  rw [← hv2.1] at e
  simp only [Option.some.injEq, Addr.mk.injEq] at e
  obtain ⟨rfl, rfl, _⟩ := e
  rw [Nat.zero_add] at c0
  exact ⟨_, cap, hv, c0, hf, fun e => h.nb (by rw [hv, e]; rfl)⟩
theorem MI.len (h : MI w base b v es n) : ∃ a cap, v = .slice a es.length cap ∧ XL stl w a cap es := by
  obtain ⟨a, c, hv, hx, _⟩ := h.own.at
  exact ⟨a, c, hv, hx⟩
theorem find_in (h : MI w base b v es n) (i : Nat) (hi : i < es.length) {g cap : Nat} (hv : v = .slice (some ⟨g, 0, none⟩) es.length cap) : Calls Try.prog 35 #[.pointer (some ⟨b, 0, none⟩), .int .i64 i] w fun e w' => e = .returned (.pointer (some ⟨g, i * 6, none⟩)) ∧ w' = w := by
  obtain ⟨c0, c1, _, _⟩ := h.cells
  subst hv
  have d0 : decide ((i : Int) < 0) = false := decide_eq_false (by omega)
  have d1 : decide ((es.length : Int) ≤ (i : Int)) = false := decide_eq_false (by omega)
  have hi2 : (i : Int) < (es.length : Int) := by omega
  clear h
  go_enter Try.func35, Try.ntmps35
  go_wp2
  go_ret
  exact ⟨by simp, rfl⟩
theorem find_out (h : MI w base b v es n) (i : Int) (hi : i < 0 ∨ (es.length : Int) ≤ i) : Calls Try.prog 35 #[.pointer (some ⟨b, 0, none⟩), .int .i64 i] w fun e w' => e = .returned (.pointer none) ∧ w' = w := by
  obtain ⟨a, cap, rfl, _⟩ := h.len
  obtain ⟨c0, c1, _, _⟩ := h.cells
  clear h
  by_cases h0 : i < 0
  · have d0 : decide (i < 0) = true := decide_eq_true h0
    go_enter Try.func35, Try.ntmps35
    go_wp2
    go_ret
    exact ⟨rfl, rfl⟩
  · have d0 : decide (i < 0) = false := decide_eq_false h0
    have d1 : decide ((es.length : Int) ≤ i) = true := decide_eq_true (by omega)
    go_enter Try.func35, Try.ntmps35
    go_wp2
    go_ret
    exact ⟨rfl, rfl⟩
theorem findN (i : Int) (w : World) : Calls Try.prog 35 #[.pointer none, .int .i64 i] w fun e w' => e = .returned (.pointer none) ∧ w' = w := by
  go_enter Try.func35, Try.ntmps35
  go_wp2
  go_ret
  exact ⟨rfl, rfl⟩
theorem width_in {g o : Nat} {x : E} (h : EAt w g o x) : Calls Try.prog 64 #[.pointer (some ⟨g, o, none⟩)] w fun e w' => e = .returned (.int .i64 x.s.l.length) ∧ w' = w := by
  obtain ⟨c0, c1, c2, c3, c4, c5⟩ := h
  go_enter Try.func64, Try.ntmps64
  go_wp2
  go_ret
  exact ⟨rfl, rfl⟩
theorem widthN (w : World) : Calls Try.prog 64 #[.pointer none] w fun e w' => e = .returned (.int .i64 8) ∧ w' = w := by
  go_enter Try.func64, Try.ntmps64
  go_wp2
  go_ret
  exact ⟨rfl, rfl⟩
/-- What a row of numbers leaves. -/
def IdsOut (w : World) (l : List Int) (e : Ending) (w' : World) : Prop := ∃ u, e = .returned u ∧ OwnL il 3 w' w.heap.size u l ∧ Below w.heap.size w w'
theorem own_new {w w1 w2 : World} {u : Value} {l : List Int} (h : OwnL il 3 w1 w.heap.size u l) (hb : Below w.heap.size w w1) (hr : Rw w1 u w2 u) : Below w.heap.size w w2 := hb.trans (hr.below (fun k hk => (h.lt hk).1) hb.size)
/-- A number behind a row of one's own. -/
theorem append_one {w0 wr : World} {u : Value} {l : List Int} (hown : OwnL il 3 wr w0.heap.size u l) (hb : Below w0.heap.size w0 wr) (x : Int) (hl : l.length ≤ 100000) :
    ∃ a' c' w', (∀ ty, (Builtin.append_ #[30, 30] ty #[u, .slice (some ⟨wr.heap.size, 0, none⟩) 1 1]).run Try.prog (wr.alloc (.cells #[.int .i64 x] 3)) = .ok (.slice a' (l.length + 1) c') w') ∧ OwnL il 3 w' w0.heap.size (.slice a' (l.length + 1) c') (l ++ [x]) ∧ Below w0.heap.size w0 w' := by
  have hb1 := bel1 wr (.cells #[.int .i64 x] 3)
  obtain ⟨a', c', w', h1, h2, h3⟩ := run_appL_ty tiI (wr.alloc (.cells #[.int .i64 x] 3)) w0.heap.size u l [x] wr.heap.size 0 1 1 (hown.keep hb1) (atL_one (heap_alloc_last wr _)) rfl (bel_up hb hb1 (Nat.le_refl _)).size (by simp; omega)
  exact ⟨a', c', w', h1, h2, (bel_up hb hb1 (Nat.le_refl _)).trans (h3.below (fun k hk => ((hown.keep hb1).lt hk).1) (bel_up hb hb1 (Nat.le_refl _)).size)⟩
set_option maxRecDepth 100000 in
set_option maxHeartbeats 1000000 in
theorem which_any (h : MI w base b v es n) (f : Nat) (hrun : ∀ args W, (callFunc f args).run Try.prog W = .ok (.enter f args) W) (cp : Value) (p : S → Bool) (hn : es.length ≤ 100000)
    (hc : ∀ W x, Below w.heap.size w W → x ∈ es → Calls Try.prog f #[eV x, cp] W fun e w' => e = .returned (.bool (p x.s)) ∧ Below W.heap.size W w') :
    Calls Try.prog 38 #[.pointer (some ⟨b, 0, none⟩), .func (.func f) #[] #[cp]] w (IdsOut w (Sm.ids p (es.map (·.s)) es.length)) := by
  have HM := Hid_of h
  have HC := Hid_of hc
  obtain ⟨a, cap, rfl, hx⟩ := h.len
  obtain ⟨c0, c1, _, _⟩ := h.cells
  clear h hc hx
  go_enter Try.func38, Try.ntmps38
  go_wp2
  go_loopw [5, 15] (fun u i wr => ∃ k : Nat, k ≤ es.length ∧ i = .int .i64 k ∧ OwnL il 3 wr w.heap.size u (Sm.ids p (es.map (·.s)) k) ∧ Hid (Below w.heap.size w wr)) (fun _ i _ => es.length - (intOf i).toNat)
  case atStart => exact ⟨0, by omega, rfl, OwnL.nil _ _ _, Hid_of (Below.refl _ _)⟩
  case round =>
    obtain ⟨k, hk, rfl, hown, hb⟩ := hrel
    obtain ⟨u, hu⟩ : ∃ u, u = u5 := ⟨_, rfl⟩
    subst hu
    clear c0 c1
    by_cases hlt : k < es.length
    · obtain ⟨a2, cap2, hv2, hx⟩ := HM.out.len
      simp only [Value.slice.injEq] at hv2
      obtain ⟨rfl, _, rfl⟩ := hv2
      obtain ⟨b', off, rfl, c0, c1, c2, c3, c4, c5⟩ := (hx.keep hb.out).at'.getE k hlt
      have hcl := HC.out (wr.alloc (eO es[k])) es[k] (bel_up hb.out (bel1 _ _) (Nat.le_refl _)) (List.getElem_mem hlt)
      have hki : (k : Int) < (es.length : Int) := by omega
      have HO : Hid (OwnL il 3 wr w.heap.size u (Sm.ids p (es.map (·.s)) k)) := Hid_of hown
      have hml : k < (es.map (·.s)).length := by simpa using hlt
      have hgk : (es.map (·.s))[k] = es[k].s := by simp
      have HY : Hid (p es[k].s = true → Sm.ids p (es.map (·.s)) (k + 1) = Sm.ids p (es.map (·.s)) k ++ [(k : Int)]) := Hid_of fun hp => Sm.ids_yes hml (by rw [hgk]; exact hp)
      have HNn : Hid (p es[k].s = false → Sm.ids p (es.map (·.s)) (k + 1) = Sm.ids p (es.map (·.s)) k) := Hid_of fun hp => Sm.ids_no hml (by rw [hgk]; exact hp)
      have hil := Sm.ids_len p (es.map (·.s)) k
      clear hx hml hgk hown
      generalize es[k] = x at *
      go_wp2_with fail
      refine hcl.mono ?_
      rintro e w2 ⟨rfl, hb2⟩
      have hb3 := bel_up hb.out (bel_up (bel1 _ _) hb2 (Nat.le_refl _)) (Nat.le_refl _)
      have HB3 := Hid_of hb3
      have ho2 := HO.out.keep (bel_up (bel1 wr (eO x)) hb2 (Nat.le_refl _))
      clear c0 c1 c2 c3 c4 c5 hcl
      cases hp : p x.s with
      | true =>
        obtain ⟨a', c', w3, hr, ho3, hb4⟩ := append_one ho2 hb3 k (by omega)
        have HR := Hid_of hr
        have HB4 := Hid_of hb4
        rw [← HY.out hp] at ho3
        clear hr hb2 hb3 ho2 hb4 HY HNn hp HO
        go_wp2_with (at_builtin; refine wpList_append_known rfl _ _ 30 rfl _ _ rfl rfl _ _ (HR.out _) ?_)
        go_roundw
        case rel => exact ⟨k + 1, by omega, by go_num, ho3, HB4⟩
        case measure => simp [intOf]; omega
      | false =>
        rw [← HNn.out hp] at ho2
        clear hb2 hb3 HY HNn hp HO
        go_wp2
        go_roundw
        case rel => exact ⟨k + 1, by omega, by go_num, ho2, HB3⟩
        case measure => simp [intOf]; omega
    · have hkn : k = es.length := by omega
      subst hkn
      have HQ : Hid (IdsOut w (Sm.ids p (es.map (·.s)) es.length) (.returned u) wr) := Hid_of ⟨u, rfl, hown, hb.out⟩
      clear hown hb HC HM
      go_wp2
      go_ret
      exact HQ.out
theorem fr_set {w w1 : World} {F G : Nat → Prop} {b : Nat} (h : Fr w F w1 G) (hb : F b) (o : Nat) (x : Value) : Fr w F (w1.setCell ⟨b, o, none⟩ x) G :=
  ⟨h.os, h.tape, h.output, by simpa using h.size, fun k hk hF => by rw [heap_setCell_other w1 ⟨b, o, none⟩ k _ (fun e => hF (by subst e; exact hb))]; exact h.block k hk hF, h.n⟩
end
end Go.Proofs.Ytgcfpihfoekllaa
