/-
  The document's bytes: what is done to them.
-/
import Derived.Test.YtajgjkkggppbiaaT
namespace Go.Proofs.Ytajgjkkggppbiaa
open Go.RowKit
set_option linter.unusedVariables false
open M (E)

/-- Bytes of one's own. -/
def OwnB (w : World) (base : Nat) (v : Value) (l : List (Int × Int)) : Prop := w.ownsRow base 62 2 v l.length (BC l)
theorem hi62 : Try.prog.info? 62 = some Try.t62 := rfl
theorem hz62 : Try.t62.zero = some (.agg #[.int .i64 0, .int .i64 0]) := rfl
theorem hs62 : Try.t62.size = 2 := rfl
theorem hb62 : Try.t62.bytes = 16 := rfl
theorem OwnB.keep {w w1 : World} {base : Nat} {v : Value} {l : List (Int × Int)} (h : OwnB w base v l) (hb : Below w.heap.size w w1) : OwnB w1 base v l :=
  World.ownsRow.kept (row := none) h ⟨hb.os, hb.tape, hb.output, hb.size, fun k hk _ => hb.block k hk⟩ (by cases hv : v.ownBlock <;> simp)
theorem OwnB.low {w : World} {base base' : Nat} {v : Value} {l : List (Int × Int)} (h : OwnB w base v l) (hb : base' ≤ base) : OwnB w base' v l := by
  refine ⟨h.1, ?_⟩
  rcases h.2 with h' | ⟨g, cap, cur, hv, hg, rest⟩
  · exact .inl h'
  · exact .inr ⟨g, cap, cur, hv, Nat.le_trans hb hg, rest⟩
/-- The document's file: its bytes lie somewhere. -/
structure XB (w : World) (a : Option Addr) (cap : Nat) (L : List (Int × Int)) : Prop where
  at' : AtB w a L
  le : L.length ≤ cap
  mx : cap ≤ maxLen
  nil : a = none → cap = 0
theorem XB.keep {w w' : World} {a : Option Addr} {cap : Nat} {L : List (Int × Int)} (h : XB w a cap L) (hb : Below w.heap.size w w') : XB w' a cap L := ⟨h.at'.keep hb, h.le, h.mx, h.nil⟩
theorem ownB_at {w : World} {base : Nat} {v : Value} {l : List (Int × Int)} (h : OwnB w base v l) :
    ∃ a cap, v = .slice a l.length cap ∧ XB w a cap l ∧ (∀ k, blk a k → base ≤ k ∧ v.ownBlock = some k) := by
  rcases h.2 with ⟨rfl, h0⟩ | ⟨g, cap, cur, rfl, hb', hh, hc, hm, hs, ht⟩
  · have e : l = [] := List.length_eq_zero_iff.1 h0
    subst e
    exact ⟨none, 0, rfl, ⟨(fun j h => by simp at h), by simp, by decide, fun _ => rfl⟩, (fun k hk => by obtain ⟨_, _, h⟩ := hk; cases h)⟩
  · refine ⟨some ⟨g, 0, none⟩, cap, rfl, ⟨fun j hj => ⟨g, 0, rfl, ?_⟩, hc, hm, fun e => by cases e⟩, (fun k hk => by obtain ⟨_, _, h⟩ := hk; simp at h; exact ⟨by omega, by simp [Value.ownBlock]; omega⟩)⟩
    have hr := BC_get l j hj
    have key : ∀ (i : Nat) (u : Value), (BC l)[i]? = some u → w.cell? ⟨g, 0 + i, none⟩ = some u := fun i u hu => by
      have := h.cells (g := g) rfl i u hu
      rwa [show ((⟨g, 0, none⟩ : Addr).add i) = ⟨g, 0 + i, none⟩ by unfold Addr.add; split <;> simp_all] at this
    exact ⟨key _ _ hr.1, key _ _ hr.2⟩
theorem BC_set : ∀ (l : List (Int × Int)) (k : Nat) (x : Int × Int), ((BC l).set (k * 2) (.int .i64 x.1)).set (k * 2 + 1) (.int .i64 x.2) = BC (l.set k x)
  | [], k, x => by simp [BC]
  | p :: r, 0, x => by simp [BC]
  | p :: r, k + 1, x => by
    have := BC_set r k x
    rw [BC, show (k + 1) * 2 = k * 2 + 1 + 1 by omega]
    simp only [List.set_cons_succ, BC, this]
theorem BC_set0 : ∀ (l : List (Int × Int)) (k : Nat) (h : k < l.length) (y : Int), (BC l).set (k * 2) (.int .i64 y) = BC (l.set k (y, l[k].2))
  | [], k, h, y => by simp at h
  | p :: r, 0, h, y => by simp [BC]
  | p :: r, k + 1, h, y => by
    have := BC_set0 r k (by simpa using h) y
    rw [BC, show (k + 1) * 2 = k * 2 + 1 + 1 by omega]
    simp only [List.set_cons_succ, BC, this, List.getElem_cons_succ]
/-- One of one's own bytes, and how it is set. -/
theorem ownB_set {w : World} {base : Nat} {v : Value} {l : List (Int × Int)} (h : OwnB w base v l) (k : Nat) (hk : k < l.length) :
    ∃ g cap, v = .slice (some ⟨g, 0, none⟩) l.length cap ∧ base ≤ g ∧ g < w.heap.size ∧ (w.cell? ⟨g, k * 2, none⟩ = some (.int .i64 l[k].1) ∧ w.cell? ⟨g, k * 2 + 1, none⟩ = some (.int .i64 l[k].2)) ∧ (∀ j, w.frozen? ⟨g, j, none⟩ = false) ∧
      (∀ x : Int × Int, OwnB ((w.setCell ⟨g, k * 2, none⟩ (.int .i64 x.1)).setCell ⟨g, k * 2 + 1, none⟩ (.int .i64 x.2)) base v (l.set k x)) ∧ (∀ y : Int, OwnB (w.setCell ⟨g, k * 2, none⟩ (.int .i64 y)) base v (l.set k (y, l[k].2))) := by
  have hlt := h.lt
  unfold OwnB at h
  rcases h.2 with ⟨rfl, h0⟩ | ⟨g, cap, cur, hv, hb', hh, hc, hm, hs, ht⟩
  · omega
  · have key : ∀ (i : Nat) (u : Value), (BC l)[i]? = some u → w.cell? ⟨g, i, none⟩ = some u := fun i u hu => by
      have := h.cells (g := g) (by rw [hv]; rfl) i u hu
      rwa [show ((⟨g, 0, none⟩ : Addr).add i) = ⟨g, i, none⟩ by unfold Addr.add; split <;> simp_all] at this
    have hr := BC_get l k hk
    refine ⟨g, cap, hv, hb', (hlt g (by rw [hv]; rfl)).2, ⟨key _ _ hr.1, key _ _ hr.2⟩, fun j => frozen_of_row w g j _ _ hh, fun x => ?_, fun y => ?_⟩
    · have h1 := heap_setCell_same w g (k * 2) _ _ (.int .i64 x.1) hh
      have h2 := heap_setCell_same _ g (k * 2 + 1) _ _ (.int .i64 x.2) h1
      refine ⟨by rw [BC_len], .inr ⟨g, cap, _, by rw [hv]; simp, hb', h2, by simp; omega, hm, by simp; omega, ?_⟩⟩
      rw [Array.toList_setIfInBounds, Array.toList_setIfInBounds, List.take_set, List.take_set, show (l.set k x).length * 2 = l.length * 2 by simp, ht, BC_set]
    · have h1 := heap_setCell_same w g (k * 2) _ _ (.int .i64 y) hh
      refine ⟨by rw [BC_len], .inr ⟨g, cap, _, by rw [hv]; simp, hb', h1, by simp; omega, hm, by simp; omega, ?_⟩⟩
      rw [Array.toList_setIfInBounds, List.take_set, show (l.set k (y, l[k].2)).length * 2 = l.length * 2 by simp, ht, BC_set0]
theorem atB_cells {w : World} {b off : Nat} {l : List (Int × Int)} (h : AtB w (some ⟨b, off, none⟩) l) : ∀ (j : Nat) (u : Value), (BC l)[j]? = some u → w.cell? ((⟨b, off, none⟩ : Addr).add j) = some u := by
  intro j u hu
  have hj : j < l.length * 2 := by
    rcases Nat.lt_or_ge j (l.length * 2) with h' | h'
    · exact h'
    · rw [List.getElem?_eq_none (by rw [BC_len]; exact h')] at hu; cases hu
  obtain ⟨b', off', e, h0, h1⟩ := h (j / 2) (by omega)
  cases e
  have hg := BC_get l (j / 2) (by omega)
  rw [show ((⟨b, off, none⟩ : Addr).add j) = ⟨b, off + j, none⟩ by unfold Addr.add; split <;> simp_all]
  rcases Nat.mod_two_eq_zero_or_one j with hm | hm
  · rw [show j / 2 * 2 = j by omega] at hg h0
    rw [hg.1] at hu
    rw [h0, ← hu]
  · rw [show j / 2 * 2 + 1 = j by omega] at hg
    rw [show off + j / 2 * 2 + 1 = off + j by omega] at h1
    rw [hg.2] at hu
    rw [h1, ← hu]
theorem run_append_nil0 (w : World) (ty : TypeId) (a : Option Addr) (c : Nat) : (Builtin.append_ #[26, 26] ty #[.slice none 0 0, .slice a 0 c]).run Try.prog w = .ok (.slice none 0 0) w := by
  cases a with
  | none => simp [Builtin.append_, run_underlying Try.underlying26, sizeOf, typeInfo, hi62, Builtin.lenOf, Builtin.firstCells]
  | some ad =>
    have hl := run_loadCells_list (P := Try.prog) w ad [] (by simp)
    simp at hl
    simp [Builtin.append_, run_underlying Try.underlying26, sizeOf, typeInfo, hi62, Builtin.lenOf, Builtin.firstCells, hl]
/-- Where a row of bytes lies behind an append. -/
theorem rwB_lies {w w3 : World} {v : Value} {g n cp H : Nat} (hgrow : w.grownBy w3 v.ownBlock) (hat : v.ownBlock = some g ∨ g = H) (hH : w.heap.size = H) : Rw w v w3 (.slice (some ⟨g, 0, none⟩) n cp) := rw_lies hgrow hat hH

/-- Bytes, as many at least. -/
def grw (L : List (Int × Int)) (n : Nat) : List (Int × Int) := L ++ List.replicate (n - L.length) (-1, 0)
theorem grw_len (L : List (Int × Int)) (n : Nat) : (grw L n).length = max L.length n := by unfold grw; simp; omega
theorem grw_get (L : List (Int × Int)) (n i : Nat) : (grw L n).getD i (-1, 0) = L.getD i (-1, 0) := by
  unfold grw
  rw [List.getD_eq_getElem?_getD, List.getD_eq_getElem?_getD]
  rcases Nat.lt_or_ge i L.length with h | h
  · rw [List.getElem?_append_left h]
  · rw [List.getElem?_append_right h, List.getElem?_eq_none h, List.getElem?_replicate]
    split <;> rfl
theorem Try.size28 : (Try.prog.info? 28).map (·.size) = some 1 := by kernel_rfl
theorem cell_two (w : World) (B : Nat) (v0 v1 : Value) (t : TypeId) (h : w.heap[B]? = some (.cells #[v0, v1] t (0, 0))) : ∀ (j : Nat) (x : Value), [v0, v1][j]? = some x → w.cell? ((⟨B, 0, none⟩ : Addr).add j) = some x := by
  intro j x hx
  have hadd : (⟨B, 0, none⟩ : Addr).add j = ⟨B, j, none⟩ := by unfold Addr.add; split <;> simp_all
  rw [hadd, cell_of_row _ _ j _ _ _ h]
  simpa using hx
theorem row1 {w : World} {k : Nat} {v0 : Value} {t : TypeId} (h : w.heap[k]? = some (.cells #[v0] t (0, 0))) : w.cell? ⟨k, 0, none⟩ = some v0 ∧ w.frozen? ⟨k, 0, none⟩ = false :=
  ⟨by rw [cell_of_row w k 0 _ _ _ h]; rfl, frozen_of_row w k 0 _ _ h⟩
def sl (v : Value) : Nat := match v with | .slice _ n _ => n | _ => 0
/-- A new file of the document's. -/
def GrowR (w : World) (L : List (Int × Int)) (x : Ending) (w' : World) : Prop := ∃ v', x = .returned (.agg #[v']) ∧ OwnB w' w.heap.size v' L ∧ Below w.heap.size w w'
theorem f35_res : Try.f35.results = #[.cell 4 28] := rfl
set_option maxRecDepth 100000 in
set_option maxHeartbeats 4000000 in
theorem grown_any (L : List (Int × Int)) (a : Option Addr) (cap : Nat) (n : Nat) (w : World) (hl : L.length ≤ 16384) (hn : n ≤ 16384) (ha : XB w a cap L) :
    Calls Try.prog 35 #[.agg #[.slice a L.length cap], .int .i64 n] w (GrowR w (grw L n)) := by
  obtain ⟨W1, HW1⟩ : ∃ W1, Hid ((w.alloc (.cells #[.slice a L.length cap] 28)).alloc (.cells #[.slice none 0 0] 28) = W1) := ⟨_, rfl⟩
  have HB1 : Hid (Below w.heap.size w W1) := by rw [← HW1.out]; exact (bel1 w _).alloc (by simp) _
  have hs1 : W1.heap.size = w.heap.size + 2 := by rw [← HW1.out]; simp
  have hA1 := (ha.keep HB1.out).at'
  have hr0 : W1.heap[w.heap.size]? = some (.cells #[.slice a L.length cap] 28 (0, 0)) := by rw [← HW1.out]; exact heap_alloc2_old w _ _
  have hr1 : W1.heap[w.heap.size + 1]? = some (.cells #[.slice none 0 0] 28 (0, 0)) := by rw [← HW1.out]; exact heap_alloc2_new w _ _
  have HR1 : Hid (∀ w', Below W1.heap.size W1 w' → w'.heap[w.heap.size + 1]? = some (.cells #[.slice none 0 0] 28 (0, 0))) := fun w' hb' => (hb'.block _ (by omega)).trans hr1
  have c0 : ((w.alloc (.cells #[.slice a L.length cap] 28)).alloc (.cells #[.slice none 0 0] 28)).cell? ⟨w.heap.size, 0, none⟩ = some (.slice a L.length cap) := by rw [HW1.out]; exact (row1 hr0).1
  have c1 : W1.cell? ⟨w.heap.size, 0, none⟩ = some (.slice a L.length cap) := (row1 hr0).1
  -- behind the first append: the bytes, in new memory
  have HFIN : Hid (∀ w2 v2, OwnB w2 W1.heap.size v2 L → Below W1.heap.size W1 w2 → True) := fun _ _ _ _ => trivial
  clear HFIN
  obtain ⟨w0, hw0⟩ : ∃ w0, w0 = w := ⟨_, rfl⟩
  go_enter Try.func35, Try.ntmps35
  go_upto_region 1 with fail
  rw [HW1.out]
  go_cut [5] from 6 to 8 (fun s wx => OwnB wx W1.heap.size s L ∧ Below W1.heap.size W1 wx)
  case first =>
    by_cases h0 : L.length = 0
    · have hL : L = [] := List.eq_nil_of_length_eq_zero h0
      subst hL
      have hap := fun ty => run_append_nil0 W1 ty a cap
      clear HR1 HB1 HW1 hr0 hr1 hA1 ha
      simp only [List.length_nil] at c0 c1 ⊢
      go_wp2_with (at_builtin; refine Lib.wpList_append_run _ rfl _ _ _ _ rfl _ _ rfl rfl _ _ (hap _) ?_)
      go_meet
      case rel => exact ⟨World.ownsRow_nil _ _ _ _, Below.refl _ _⟩
    · obtain ⟨b, off, rfl, _, _⟩ := hA1 0 (by omega)
      have HN : Hid (∀ j u, (BC L)[j]? = some u → W1.cell? ((⟨b, off, none⟩ : Addr).add j) = some u) := atB_cells hA1
      have HL : Hid ((BC L).length = L.length * 2) := BC_len L
      have H1 : Hid (∀ u ∈ BC L, u.oneCell' = true) := BC_one L
      clear HR1 HB1 HW1 hr0 hr1 hA1 ha
      go_wp2_with (at_builtin; refine wpList_append_lies _ rfl _ _ 26 rfl W1.heap.size 62 Try.t62 _ 2 16 Try.underlying26 hi62 hz62 hs62 hb62 rfl (by decide) _ 0 [] rfl (World.ownsRow_nil _ _ _ _) ⟨b, off, none⟩ L.length cap (BC L) rfl HL.out HN.out H1.out (by omega) (by unfold maxLen; omega) (by omega) (Nat.le_refl _) _ rfl ?_; intro g3 cp w3 hown3 hgrow hat hlt)
      have hrw := rw_lies (v := .slice none 0 0) (n := 0 + L.length) (cp := cp) hgrow hat rfl
      have hbel := hrw.below (B := W1.heap.size) (fun k hk => by simp [Value.ownBlock] at hk) (Nat.le_refl _)
      clear hgrow hat hrw
      go_meet
      case rel =>
        refine ⟨?_, hbel⟩
        unfold OwnB
        have h3 := hown3
        rw [Nat.zero_add, List.nil_append] at h3
        exact h3
  case rest =>
    obtain ⟨hown, hbel⟩ := hcut
    have HO : Hid (OwnB wc W1.heap.size u5 (L ++ List.replicate 0 (-1, 0))) := by
      show OwnB _ _ _ _
      simpa using hown
    have HB : Hid (Below W1.heap.size W1 wc) := hbel
    clear hown hbel HW1 hr0 hr1 hA1 ha c0 c1 hw0
    go_wp2
    go_loopw [5] (fun x wr => ∃ j : Nat, (L.length + j ≤ n ∨ j = 0) ∧ OwnB wr W1.heap.size x (L ++ List.replicate j (-1, 0)) ∧ Below W1.heap.size W1 wr) (fun x _ => n - sl x)
    case atStart => exact ⟨0, .inr rfl, HO.out, HB.out⟩
    case round =>
      obtain ⟨j, hj, hown, hbel⟩ := hrel
      clear HO HB
      have hlj : (L ++ List.replicate j ((-1, 0) : Int × Int)).length = L.length + j := by simp
      obtain ⟨ax, cx, rfl, hxb, _⟩ := ownB_at hown
      rw [hlj] at hown ⊢
      by_cases hlt : L.length + j < n
      · have HO : Hid (wr.ownsRow W1.heap.size 62 2 (.slice ax (L.length + j) cx) (L.length + j) (BC (L ++ List.replicate j (-1, 0)))) := by
          have := hown
          unfold OwnB at this
          rw [hlj] at this
          exact this
        have HE : Hid (BC (L ++ List.replicate (j + 1) (-1, 0)) = BC (L ++ List.replicate j (-1, 0)) ++ [.int .i64 (-1), .int .i64 0] ∧ (L ++ List.replicate (j + 1) ((-1, 0) : Int × Int)).length = L.length + j + 1) := by
          refine ⟨?_, by simp; omega⟩
          rw [List.replicate_succ', ← List.append_assoc, BC_app]
          rfl
        have hsz := hbel.size
        have HBb : Hid (Below W1.heap.size W1 wr) := hbel
        have hltz : ((L.length + j : Nat) : Int) < (n : Int) := by omega
        have hltz2 : (L.length : Int) + (j : Int) < (n : Int) := by omega
        have HSL : Hid (sl (.slice ax (L.length + j) cx) = L.length + j) := rfl
        clear hown hbel hlj hxb
        generalize hq : L.length + j = q at *
        have HQ := Hid_of hq
        clear hq
        go_wp2_with (at_builtin; refine wpList_append_lies _ rfl _ _ 26 rfl W1.heap.size 62 Try.t62 _ 2 16 Try.underlying26 hi62 hz62 hs62 hb62 rfl (by decide) _ _ _ rfl (HO.out.alloc _) ⟨wr.heap.size, 0, none⟩ 1 1 [.int .i64 (-1), .int .i64 0] rfl rfl (cell_two _ _ _ _ _ (heap_alloc_last _ _)) (by simp; exact ⟨rfl, rfl⟩) (by decide) (by unfold maxLen; omega) (by omega) (by simp; omega) _ rfl ?_; intro g3 cp w3 hown3 hgrow hat hlt3)
        have hrw := rw_lies (v := .slice ax q cx) (n := q + 1) (cp := cp) hgrow hat rfl
        have HB5 : Hid (Below W1.heap.size W1 w3) := by
          have b0 : Below W1.heap.size W1 (wr.alloc (.cells #[.int .i64 (-1), .int .i64 0] 62)) := HBb.out.alloc hsz _
          exact b0.trans (hrw.below (fun k hk => (World.ownsRow.lt HO.out k hk).1) (by simp; omega))
        clear hrw hgrow hat HO HBb
        go_roundw
        case rel =>
          refine ⟨j + 1, .inl (by have := HQ.out; omega), ?_, HB5.out⟩
          unfold OwnB
          rw [HE.out.1, HE.out.2]
          exact hown3
        case measure => simp [sl]; omega
      · have hfin : L ++ List.replicate j ((-1, 0) : Int × Int) = grw L n := by
          unfold grw
          rcases hj with hj | rfl
          · rw [show n - L.length = j by omega]
          · rw [show n - L.length = 0 by omega]
        have hnlt : ¬ (((L.length + j : Nat) : Int) < (n : Int)) := by omega
        have hnlt2 : ¬ ((L.length : Int) + (j : Int) < (n : Int)) := by omega
        have hrow := HR1.out wr hbel
        obtain ⟨q0, q1⟩ := row1 hrow
        have HRR := Hid_of (heap_setCell_same wr (w.heap.size + 1) 0 _ _ (.slice ax (L.length + j) cx) hrow)
        have HOF : Hid (OwnB (wr.setCell ⟨w.heap.size + 1, 0, none⟩ (.slice ax (L.length + j) cx)) w.heap.size (.slice ax (L.length + j) cx) (grw L n)) := by
          rw [← hfin]
          have hgr : wr.grownBy (wr.setCell ⟨w.heap.size + 1, 0, none⟩ (.slice ax (L.length + j) cx)) (some (w.heap.size + 1)) := ⟨rfl, rfl, rfl, by simp, fun k hk hne => heap_setCell_other wr ⟨w.heap.size + 1, 0, none⟩ k _ (fun e => hne (by rw [e]))⟩
          have h2 := World.ownsRow.kept hown hgr (by
            cases hv : (Value.slice ax (L.length + j) cx).ownBlock with
            | none => exact .inl rfl
            | some k =>
              right
              intro e
              have := (World.ownsRow.lt hown k hv).1
              simp at e
              omega)
          exact OwnB.low h2 (by omega)
        have HBF : Hid (Below w.heap.size w (wr.setCell ⟨w.heap.size + 1, 0, none⟩ (.slice ax (L.length + j) cx))) := (bel_up HB1.out hbel (Nat.le_refl _)).setCell (by simp) _
        clear hown hbel hrow HR1 HB1 hxb hfin hlj
        generalize L.length + j = q at *
        go_wp2
        refine bodyPost_ret (v := .agg #[.slice ax q cx]) ?_ rfl ⟨_, rfl, HOF.out, HBF.out⟩
        exact results_cell_row f35_res _ _ (w.heap.size + 1) 28 _ (0, 0) _ rfl HRR.out Try.underlying28 rfl Try.size28
end Go.Proofs.Ytajgjkkggppbiaa
