/-
  The document's device in memory: all stays, it is lost, the loose ones, sectors are read.
-/
import Derived.Test.YtjbdicnenkganaaD
import Derived.Test.YtjbdicnenkganaaQ
import Derived.Laws.ResultCell
import Derived.Laws.MakeOwn
import Derived.Laws.OwnMore
namespace Go.Proofs.Ytjbdicnenkganaa
open Go.RowKit
open M (ofL ofL_size ofL_of DD)
set_option linter.unusedVariables false

/-- Where the document's three rows lie. -/
structure Hd where
  aN : Option Addr
  cN : Nat
  aS : Option Addr
  cS : Nat
  aL : Option Addr
  cL : Nat
def Hd.vals (h : Hd) (D : DD) : Array Value := #[.slice h.aN D.now.length h.cN, .slice h.aS D.sure.length h.cS, .slice h.aL D.loo.length h.cL, .bool D.lost]
def Hd.blk (h : Hd) (k : Nat) : Prop := Ytjbdicnenkganaa.blk h.aN k ∨ Ytjbdicnenkganaa.blk h.aS k ∨ Ytjbdicnenkganaa.blk h.aL k
/-- The document's rows in memory. -/
structure XD (w : World) (h : Hd) (D : DD) : Prop where
  n : AtV w h.aN (SC D.now)
  s : AtV w h.aS (SC D.sure)
  l : AtV w h.aL (BC D.loo)
  lt : ∀ k, h.blk k → k < w.heap.size
theorem XD.keepBut {w w' : World} {h : Hd} {D : DD} (x : XD w h D) (hb : ∀ k, k < w.heap.size → h.blk k → w'.heap[k]? = w.heap[k]?) (hs : w.heap.size ≤ w'.heap.size) : XD w' h D :=
  ⟨x.n.keepBut (fun k hk e => hb k hk (.inl e)), x.s.keepBut (fun k hk e => hb k hk (.inr (.inl e))), x.l.keepBut (fun k hk e => hb k hk (.inr (.inr e))), fun k hk => Nat.lt_of_lt_of_le (x.lt k hk) hs⟩
theorem XD.keep {w w' : World} {h : Hd} {D : DD} (x : XD w h D) (hb : Below w.heap.size w w') : XD w' h D := x.keepBut (fun k hk _ => hb.block k hk) hb.size
/-- What a call leaves. -/
def DOut (w : World) (h : Hd) (D' : DD) (v : Array Value → Value) (e : Ending) (w' : World) : Prop := ∃ h' : Hd, e = .returned (v (h'.vals D')) ∧ XD w' h' D' ∧ (∀ k, h'.blk k → h.blk k ∨ w.heap.size ≤ k) ∧ Below w.heap.size w w'
theorem Try.size30 : (Try.prog.info? 30).map (·.size) = some 4 := by kernel_rfl
section
variable {w w0 : World} {B : Nat} {u0 u1 u2 u3 v0 v1 v2 v3 : Value}
/-- Four cells stored. -/
def st4 (w : World) (B : Nat) (v0 v1 v2 v3 : Value) : World := (((w.setCell ⟨B, 0, none⟩ v0).setCell ⟨B, 1, none⟩ v1).setCell ⟨B, 2, none⟩ v2).setCell ⟨B, 3, none⟩ v3
theorem put4 (h : w.heap[B]? = some (.cells #[u0, u1, u2, u3] 30 (0, 0))) :
    (st4 w B v0 v1 v2 v3).heap[B]? = some (.cells #[v0, v1, v2, v3] 30 (0, 0)) ∧ (∀ k, k ≠ B → (st4 w B v0 v1 v2 v3).heap[k]? = w.heap[k]?) ∧ (st4 w B v0 v1 v2 v3).heap.size = w.heap.size := by
  have h1 : (w.setCell ⟨B, 0, none⟩ v0).heap[B]? = some (.cells #[v0, u1, u2, u3] 30 (0, 0)) := heap_setCell_same w B 0 _ _ _ h
  have h2 : ((w.setCell ⟨B, 0, none⟩ v0).setCell ⟨B, 1, none⟩ v1).heap[B]? = some (.cells #[v0, v1, u2, u3] 30 (0, 0)) := heap_setCell_same _ B 1 _ _ _ h1
  have h3 : (((w.setCell ⟨B, 0, none⟩ v0).setCell ⟨B, 1, none⟩ v1).setCell ⟨B, 2, none⟩ v2).heap[B]? = some (.cells #[v0, v1, v2, u3] 30 (0, 0)) := heap_setCell_same _ B 2 _ _ _ h2
  refine ⟨heap_setCell_same _ B 3 _ _ _ h3, fun k hk => ?_, by simp [st4]⟩
  unfold st4
  rw [heap_setCell_other _ ⟨B, 3, none⟩ k _ hk, heap_setCell_other _ ⟨B, 2, none⟩ k _ hk, heap_setCell_other _ ⟨B, 1, none⟩ k _ hk, heap_setCell_other _ ⟨B, 0, none⟩ k _ hk]
theorem below4 {B' : Nat} (h : Below B' w0 w) (hB : B' ≤ B) : Below B' w0 (st4 w B v0 v1 v2 v3) := (((h.setCell hB _).setCell hB _).setCell hB _).setCell hB _
end
/-- The result's box is laid. -/
theorem ret4 {w W : World} {h h' : Hd} {D' : DD} {u0 u1 u2 u3 : Value} (hB : Below w.heap.size w W) (hr : W.heap[w.heap.size + 1]? = some (.cells #[u0, u1, u2, u3] 30 (0, 0))) (hx : XD W h' D') (hb : ∀ k, h'.blk k → k ≠ w.heap.size + 1 ∧ (h.blk k ∨ w.heap.size ≤ k)) (v : Array Value → Value) :
    (st4 W (w.heap.size + 1) (.slice h'.aN D'.now.length h'.cN) (.slice h'.aS D'.sure.length h'.cS) (.slice h'.aL D'.loo.length h'.cL) (.bool D'.lost)).heap[w.heap.size + 1]? = some (.cells (h'.vals D') 30 (0, 0)) ∧
      DOut w h D' v (.returned (v (h'.vals D'))) (st4 W (w.heap.size + 1) (.slice h'.aN D'.now.length h'.cN) (.slice h'.aS D'.sure.length h'.cS) (.slice h'.aL D'.loo.length h'.cL) (.bool D'.lost)) := by
  obtain ⟨p1, p2, p3⟩ := put4 (v0 := .slice h'.aN D'.now.length h'.cN) (v1 := .slice h'.aS D'.sure.length h'.cS) (v2 := .slice h'.aL D'.loo.length h'.cL) (v3 := .bool D'.lost) hr
  exact ⟨p1, h', rfl, hx.keepBut (fun k _ hk => p2 k (hb k hk).1) (by rw [p3]; exact Nat.le_refl _), fun k hk => (hb k hk).2, below4 hB (by omega)⟩
/-- A box and a result's box. -/
theorem box2 (w : World) (v0 v1 v2 v3 : Value) : ∃ W1, (w.alloc (.cells #[v0, v1, v2, v3] 30)).alloc (.cells #[.slice none 0 0, .slice none 0 0, .slice none 0 0, .bool false] 30) = W1 ∧ W1.heap.size = w.heap.size + 2 ∧ Below w.heap.size w W1 ∧ W1.heap[w.heap.size]? = some (.cells #[v0, v1, v2, v3] 30 (0, 0)) ∧ W1.heap[w.heap.size + 1]? = some (.cells #[.slice none 0 0, .slice none 0 0, .slice none 0 0, .bool false] 30 (0, 0)) := by
  refine ⟨_, rfl, by simp, bel_up (bel1 w _) (bel1 _ _) (Nat.le_refl _), (Below.heap_alloc _ _ _ (by simp)).trans (heap_alloc_last w _), ?_⟩
  have := heap_alloc_last (w.alloc (.cells #[v0, v1, v2, v3] 30)) (.cells #[.slice none 0 0, .slice none 0 0, .slice none 0 0, .bool false] 30)
  rwa [World.size_alloc] at this
/-- A new row of loose ones, and then the result's box. -/
theorem fin3 {w W1 w2 : World} {h : Hd} {D D' : DD} {aS : Option Addr} {cS : Nat} {lost : Bool} {u2 : Value} (hx : XD w h D) (hB : Below w.heap.size w W1) (hs : W1.heap.size = w.heap.size + 2)
    (hr0 : W1.heap[w.heap.size]? = some (.cells #[.slice h.aN D.now.length h.cN, .slice aS D'.sure.length cS, u2, .bool lost] 30 (0, 0)))
    (hr1 : W1.heap[w.heap.size + 1]? = some (.cells #[.slice none 0 0, .slice none 0 0, .slice none 0 0, .bool false] 30 (0, 0)))
    (hS : (aS = h.aN ∧ D'.sure = D.now) ∨ (aS = h.aS ∧ D'.sure = D.sure)) (hD : D' = { D' with now := D.now, loo := List.replicate D.now.length false, lost := lost })
    (ho : w2.ownsRow W1.heap.size 4 1 (.slice (some ⟨W1.heap.size, 0, none⟩) D.now.length D.now.length) D.now.length (BC (List.replicate D.now.length false))) (hg : W1.grownBy w2 none) (v : Array Value → Value) :
    ∃ W3, w2.setCell ⟨w.heap.size, 2, none⟩ (.slice (some ⟨W1.heap.size, 0, none⟩) D.now.length D.now.length) = W3 ∧ W3.heap[w.heap.size]? = some (.cells #[.slice h.aN D.now.length h.cN, .slice aS D'.sure.length cS, .slice (some ⟨W1.heap.size, 0, none⟩) D.now.length D.now.length, .bool lost] 30 (0, 0)) ∧ W3.heap[w.heap.size + 1]? = some (.cells #[.slice none 0 0, .slice none 0 0, .slice none 0 0, .bool false] 30 (0, 0)) ∧
      (st4 W3 (w.heap.size + 1) (.slice h.aN D.now.length h.cN) (.slice aS D'.sure.length cS) (.slice (some ⟨W1.heap.size, 0, none⟩) D.now.length D.now.length) (.bool lost)).heap[w.heap.size + 1]? = some (.cells #[.slice h.aN D.now.length h.cN, .slice aS D'.sure.length cS, .slice (some ⟨W1.heap.size, 0, none⟩) D.now.length D.now.length, .bool lost] 30 (0, 0)) ∧
      DOut w h D' v (.returned (v #[.slice h.aN D.now.length h.cN, .slice aS D'.sure.length cS, .slice (some ⟨W1.heap.size, 0, none⟩) D.now.length D.now.length, .bool lost])) (st4 W3 (w.heap.size + 1) (.slice h.aN D.now.length h.cN) (.slice aS D'.sure.length cS) (.slice (some ⟨W1.heap.size, 0, none⟩) D.now.length D.now.length) (.bool lost)) := by
  have e1 : D'.now = D.now := by rw [hD]
  have e2 : D'.loo = List.replicate D.now.length false := by rw [hD]
  have e3 : D'.lost = lost := by rw [hD]
  have e2l : D'.loo.length = D.now.length := by rw [e2, List.length_replicate]
  have q0 := (hg.block _ (by omega) (by simp)).trans hr0
  have q1 := (hg.block _ (by omega) (by simp)).trans hr1
  have hgs := hg.size
  have hb2 : Below w.heap.size w w2 := hB.grown hg hB.size (by simp)
  obtain ⟨a, cap, ev, hat, hbl, _⟩ := owns_at ho
  simp only [Value.slice.injEq, true_and] at ev
  obtain ⟨rfl, rfl⟩ := ev
  refine ⟨_, rfl, heap_setCell_same w2 w.heap.size 2 _ _ _ q0, (heap_setCell_other w2 ⟨w.heap.size, 2, none⟩ _ _ (by simp)).trans q1, ?_⟩
  have hB3 : Below w.heap.size w (w2.setCell ⟨w.heap.size, 2, none⟩ (.slice (some ⟨W1.heap.size, 0, none⟩) D.now.length D.now.length)) := hb2.setCell (Nat.le_refl _) _
  have hx3 := hx.keep hB3
  have hsub : ∀ k, (blk aS k → h.blk k) := fun k hk => by
    rcases hS with ⟨e, _⟩ | ⟨e, _⟩
    · rw [e] at hk; exact .inl hk
    · rw [e] at hk; exact .inr (.inl hk)
  have hX : XD (w2.setCell ⟨w.heap.size, 2, none⟩ (.slice (some ⟨W1.heap.size, 0, none⟩) D.now.length D.now.length)) ⟨h.aN, h.cN, aS, cS, some ⟨W1.heap.size, 0, none⟩, D.now.length⟩ D' := by
    refine ⟨by rw [e1]; exact hx3.n, ?_, ?_, ?_⟩
    · rcases hS with ⟨rfl, e⟩ | ⟨rfl, e⟩
      · rw [e]; exact hx3.n
      · rw [e]; exact hx3.s
    · rw [e2]
      refine hat.keepBut fun k hk hb' => heap_setCell_other w2 ⟨w.heap.size, 2, none⟩ k _ ?_
      have := (hbl k hb').1
      show k ≠ w.heap.size
      omega
    · rintro k (hk | hk | hk)
      · exact hx3.lt k (.inl hk)
      · exact hx3.lt k (hsub k hk)
      · have := (hbl k hk).2.2
        simp
        exact this
  have hr := ret4 (h := h) (h' := ⟨h.aN, h.cN, aS, cS, some ⟨W1.heap.size, 0, none⟩, D.now.length⟩) (D' := D') hB3 ((heap_setCell_other w2 ⟨w.heap.size, 2, none⟩ _ _ (by simp)).trans q1) hX (by
    rintro k (hk | hk | hk)
    · have := hx.lt k (.inl hk)
      exact ⟨by omega, .inl (.inl hk)⟩
    · have := hx.lt k (hsub k hk)
      exact ⟨by omega, .inl (hsub k hk)⟩
    · have := (hbl k hk).1
      exact ⟨by omega, .inr (by omega)⟩) v
  unfold Hd.vals at hr
  simp only [e1, e3, e2l] at hr
  exact hr
theorem made_bools (n : Nat) : (madeCells (Value.bool false).cells (n * 1)).toList = BC (List.replicate n false) := by
  rw [Nat.mul_one]
  show (madeCells #[Value.bool false] n).toList = _
  rw [toList_madeCells_one]
  simp [BC]
theorem f15_res : Try.f15.results = #[.cell 2 30] := rfl
theorem f21_res : Try.f21.results = #[.cell 2 30] := rfl
set_option maxRecDepth 100000 in
set_option maxHeartbeats 1000000 in
theorem rflush_any (h : Hd) (D : DD) (w : World) (hn : D.now.length ≤ 4096) (hx : XD w h D) : Calls Try.prog 15 #[.agg (h.vals D)] w (DOut w h (M.dflush D) .agg) := by
  obtain ⟨i0, hi, hz0, hz1, hz2⟩ := info_parts Try.info4
  unfold Hd.vals
  obtain ⟨W1, hW1, hs1, hB1, hr0, hr1⟩ := box2 w (.slice h.aN D.now.length h.cN) (.slice h.aN D.now.length h.cN) (.slice h.aL D.loo.length h.cL) (.bool D.lost)
  have HW1 := Hid_of hW1
  have HF := Hid_of (fun w2 ho hg => fin3 (w2 := w2) (D' := M.dflush D) hx hB1 hs1 hr0 hr1 (.inl ⟨rfl, rfl⟩) rfl ho hg .agg)
  obtain ⟨⟨k0, k1, k2, k3⟩, _⟩ := row4 hr0
  have HR0 := Hid_of hr0
  have hlt0 : w.heap.size < W1.heap.size := by omega
  clear hx hW1 hB1 hs1 hr0 hr1
  go_enter Try.func15, Try.ntmps15
  go_upto_region 2 with fail
  rw [HW1.out]
  go_upto_region 3 with (at_make; refine wpList_make_full _ rfl (.tmp 8) (.tmp 8) 28 rfl W1.heap.size 4 i0 (.bool false) 1 Try.underlying28 hi hz0 hz1 .i64 .i64 _ _ D.now.length rfl rfl rfl rfl (by rw [hz2]; omega) (by unfold maxLen; omega) (Nat.le_refl _) ?_; intro w2 ho hg; obtain ⟨⟨q0, q1, q2, q3⟩, qf⟩ := row4 ((hg.block _ hlt0 (by simp)).trans HR0.out); have qf2 := qf 2; clear qf; rw [made_bools] at ho)
  obtain ⟨W3, hW3, m0, m1, m2, m3⟩ := HF.out w2 ho hg
  rw [hW3]
  obtain ⟨⟨t0, t1, t2, t3⟩, _⟩ := row4 m0
  obtain ⟨⟨s0, s1, s2, s3⟩, sf⟩ := row4 m1
  have sf0 := sf 0
  have sf1 := sf 1
  have sf2 := sf 2
  have sf3 := sf 3
  have HM2 := Hid_of m2
  have HM3 := Hid_of m3
  clear HF HW1 HR0 ho hg q0 q1 q2 q3 qf2 k0 k1 k2 k3 hW3 m0 m1 m2 m3 sf hi hz0 hz1 hz2
  generalize M.dflush D = D' at *
  go_wp2
  refine bodyPost_ret (v := .agg #[.slice h.aN D.now.length h.cN, .slice h.aN D'.sure.length h.cN, .slice (some ⟨W1.heap.size, 0, none⟩) D.now.length D.now.length, .bool D.lost]) ?_ rfl HM3.out
  exact results_cell_row f15_res _ _ (w.heap.size + 1) 30 _ (0, 0) _ rfl HM2.out Try.underlying30 rfl Try.size30
set_option maxRecDepth 100000 in
set_option maxHeartbeats 1000000 in
theorem rlose_any (h : Hd) (D : DD) (w : World) (hn : D.now.length ≤ 4096) (hx : XD w h D) : Calls Try.prog 21 #[.agg (h.vals D)] w (DOut w h (M.dlose D) .agg) := by
  obtain ⟨i0, hi, hz0, hz1, hz2⟩ := info_parts Try.info4
  unfold Hd.vals
  obtain ⟨W1, hW1, hs1, hB1, hr0, hr1⟩ := box2 w (.slice h.aN D.now.length h.cN) (.slice h.aS D.sure.length h.cS) (.slice h.aL D.loo.length h.cL) (.bool true)
  have HW1 := Hid_of hW1
  have HF := Hid_of (fun w2 ho hg => fin3 (w2 := w2) (D' := M.dlose D) hx hB1 hs1 hr0 hr1 (.inr ⟨rfl, rfl⟩) rfl ho hg .agg)
  obtain ⟨⟨k0, k1, k2, k3⟩, _⟩ := row4 hr0
  have HR0 := Hid_of hr0
  have hlt0 : w.heap.size < W1.heap.size := by omega
  clear hx hW1 hB1 hs1 hr0 hr1
  go_enter Try.func21, Try.ntmps21
  go_upto_region 2 with fail
  rw [HW1.out]
  go_upto_region 3 with (at_make; refine wpList_make_full _ rfl (.tmp 6) (.tmp 6) 28 rfl W1.heap.size 4 i0 (.bool false) 1 Try.underlying28 hi hz0 hz1 .i64 .i64 _ _ D.now.length rfl rfl rfl rfl (by rw [hz2]; omega) (by unfold maxLen; omega) (Nat.le_refl _) ?_; intro w2 ho hg; obtain ⟨⟨q0, q1, q2, q3⟩, qf⟩ := row4 ((hg.block _ hlt0 (by simp)).trans HR0.out); have qf2 := qf 2; clear qf; rw [made_bools] at ho)
  obtain ⟨W3, hW3, m0, m1, m2, m3⟩ := HF.out w2 ho hg
  rw [hW3]
  obtain ⟨⟨t0, t1, t2, t3⟩, _⟩ := row4 m0
  obtain ⟨⟨s0, s1, s2, s3⟩, sf⟩ := row4 m1
  have sf0 := sf 0
  have sf1 := sf 1
  have sf2 := sf 2
  have sf3 := sf 3
  have HM2 := Hid_of m2
  have HM3 := Hid_of m3
  clear HF HW1 HR0 ho hg q0 q1 q2 q3 qf2 k0 k1 k2 k3 hW3 m0 m1 m2 m3 sf hi hz0 hz1 hz2
  generalize M.dlose D = D' at *
  go_wp2
  refine bodyPost_ret (v := .agg #[.slice h.aN D.now.length h.cN, .slice h.aS D'.sure.length h.cS, .slice (some ⟨W1.heap.size, 0, none⟩) D.now.length D.now.length, .bool true]) ?_ rfl HM3.out
  exact results_cell_row f21_res _ _ (w.heap.size + 1) 30 _ (0, 0) _ rfl HM2.out Try.underlying30 rfl Try.size30
/-- The loose ones so far. -/
def dlk (loo : List Bool) (k : Nat) : List Nat := (List.range k).filter fun i => (loo[i]?).getD false
theorem dlk_step (loo : List Bool) (k : Nat) (h : k < loo.length) : dlk loo (k + 1) = dlk loo k ++ (bif loo[k] then [k] else []) := by
  unfold dlk
  rw [List.range_succ, List.filter_append, List.filter_cons, List.getElem?_eq_getElem h, Option.getD_some]
  cases loo[k] <;> simp
theorem dlk_len (loo : List Bool) (k : Nat) : (dlk loo k).length ≤ k := by
  have := List.length_filter_le (fun i => (loo[i]?).getD false) (List.range k)
  rw [List.length_range] at this
  exact this
set_option maxRecDepth 100000 in
set_option maxHeartbeats 1000000 in
theorem rloose_any (h : Hd) (D : DD) (w : World) (hn : D.loo.length ≤ 4096) (hx : XD w h D) :
    Calls Try.prog 24 #[.agg (h.vals D)] w fun e w' => ∃ v : Value, e = .returned v ∧ w'.ownsRow w.heap.size 3 1 v (M.zs (M.dl D.loo)).length (IC (M.zs (M.dl D.loo))) ∧ Below w.heap.size w w' := by
  obtain ⟨aN, cN, aS, cS, aL, cL⟩ := h
  have HX : Hid (∀ W, Below w.heap.size w W → AtV W aL (BC D.loo)) := fun W hW => (hx.keep hW).l
  unfold Hd.vals
  dsimp only
  obtain ⟨W1, HW1⟩ : ∃ W1, Hid (w.alloc (.cells #[.slice aN D.now.length cN, .slice aS D.sure.length cS, .slice aL D.loo.length cL, .bool D.lost] 30) = W1) := ⟨_, Hid_of rfl⟩
  have HB1 : Hid (Below w.heap.size w W1) := by rw [← HW1.out]; exact bel1 w _
  have HR1 : Hid (W1.heap[w.heap.size]? = some (.cells #[.slice aN D.now.length cN, .slice aS D.sure.length cS, .slice aL D.loo.length cL, .bool D.lost] 30 (0, 0))) := by rw [← HW1.out]; exact heap_alloc_last w _
  have hlt : w.heap.size < W1.heap.size := (Array.getElem?_eq_some_iff.1 HR1.out).1
  clear hx
  go_enter Try.func24, Try.ntmps24
  go_upto_region 1 with fail
  rw [HW1.out]
  clear HW1
  go_wp2
  go_loopw [3, 4] (fun v i wr => ∃ k : Nat, k ≤ D.loo.length ∧ i = .int .i64 k ∧ wr.ownsRow W1.heap.size 3 1 v (M.zs (dlk D.loo k)).length (IC (M.zs (dlk D.loo k))) ∧ Below W1.heap.size W1 wr) (fun _ i _ => D.loo.length - (intOf i).toNat)
  case atStart => exact ⟨0, Nat.zero_le _, rfl, World.ownsRow_nil _ _ _ _, Below.refl _ _⟩
  case round =>
    obtain ⟨k, hk, rfl, ho, hb⟩ := hrel
    obtain ⟨⟨_, _, c2, _⟩, _⟩ := row4 ((hb.block _ hlt).trans HR1.out)
    obtain ⟨a, cap, rfl, _, _⟩ := owns_at ho
    by_cases hlt2 : k < D.loo.length
    · obtain ⟨b, off, rfl, d0⟩ := (HX.out _ (bel_up HB1.out hb (Nat.le_refl _))).bool k hlt2
      have hst := dlk_step D.loo k hlt2
      have hll := dlk_len D.loo k
      have HB := Hid_of hb
      cases hbk : D.loo[k] with
      | false =>
        rw [hbk, cond_false, List.append_nil] at hst
        rw [hbk] at d0
        have HO : Hid (wr.ownsRow W1.heap.size 3 1 (.slice a (M.zs (dlk D.loo k)).length cap) (M.zs (dlk D.loo (k + 1))).length (IC (M.zs (dlk D.loo (k + 1))))) := by rw [hst]; exact ho
        clear ho hb hst hbk HX
        generalize (M.zs (dlk D.loo k)).length = ll at *
        go_wp2
        go_roundw
        case rel => exact ⟨k + 1, by omega, by go_num, HO.out, HB.out⟩
        case measure => simp [intOf]; omega
      | true =>
        rw [hbk, cond_true] at hst
        rw [hbk] at d0
        obtain ⟨gg, cp, w3, hrun, ho3, hrw⟩ := run_app_int (wr.alloc (.cells #[.int .i64 (k : Int)] 3)) W1.heap.size _ (M.zs (dlk D.loo k)) k wr.heap.size 1 47 (owns_keep ho (bel1 wr _)) (heap_alloc_last wr _) (by rw [M.zs_len]; omega) (by have := hb.size; simp; omega)
        have ez : M.zs (dlk D.loo k) ++ [(k : Int)] = M.zs (dlk D.loo (k + 1)) := by rw [hst]; simp [M.zs]
        rw [ez] at ho3
        have HO := Hid_of (And.intro ho3 ((bel_up hb (bel1 wr _) (Nat.le_refl _)).trans (hrw.below (fun j hj => (World.ownsRow.lt ho j hj).1) (by have := hb.size; simp; omega))))
        clear ho hb hst hbk HX ho3 hrw ez
        generalize (M.zs (dlk D.loo k)).length = ll at *
        go_wp2_with (at_builtin; refine wpList_append_known rfl (.tmp 17) (.tmp 19) 47 rfl _ _ (by simp [Act.eval]) (by simp [Act.eval]) _ _ hrun ?_)
        go_roundw
        case rel => exact ⟨k + 1, by omega, by go_num, HO.out⟩
        case measure => simp [intOf]; omega
    · obtain rfl : k = D.loo.length := by omega
      have HO : Hid (wr.ownsRow w.heap.size 3 1 (.slice a (M.zs (dlk D.loo D.loo.length)).length cap) (M.zs (M.dl D.loo)).length (IC (M.zs (M.dl D.loo))) ∧ Below w.heap.size w wr) := ⟨owns_low ho (by omega), bel_up HB1.out hb (Nat.le_refl _)⟩
      clear ho hb HX
      generalize (M.zs (dlk D.loo D.loo.length)).length = ll at *
      go_wp2
      go_ret
      exact ⟨_, rfl, HO.out⟩
/-- A read's answer. -/
def RdD (w : World) (D : DD) (at' m : Int) (e : Ending) (w' : World) : Prop := e = .returned (.tuple #[.string (M.dread D at' m), .int .i64 (M.refused D.now.length D.lost at' m)]) ∧ Below w.heap.size w w'
theorem cat_step (L : List ByteArray) (a k : Nat) (h : a + k < L.length) : M.cat ((L.drop a).take k) ++ L[a + k] = M.cat ((L.drop a).take (k + 1)) := by
  have hl : k < (L.drop a).length := by simp; omega
  rw [List.take_succ_eq_append_getElem hl, M.cat_app]
  simp
end Go.Proofs.Ytjbdicnenkganaa
