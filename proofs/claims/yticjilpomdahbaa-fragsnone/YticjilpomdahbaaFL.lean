/-
  All places, by stripe, then index.
-/
import Derived.Test.YticjilpomdahbaaFC
import Derived.Shelf.SlSortCmp.NoneTotal
namespace Go.Proofs.Yticjilpomdahbaa
open Go.RowKit
open M (ofL ofL_size ofL_of)
set_option linter.unusedVariables false

/-- A place's cells. -/
def encP (x : Int × Int) : List Value := [.int .i64 x.1, .int .i64 x.2]
theorem orI_neg (x1 x2 y1 y2 : Int) : decide (orI (cmpI x1 y1) (cmpI x2 y2) < 0) = (decide (x1 < y1) || (decide (x1 = y1) && decide (x2 < y2))) := by
  unfold orI
  rcases cmp_three x1 y1 with ⟨h, e⟩ | ⟨h, e⟩ | ⟨h, e⟩
  · rw [e, if_neg (by decide), decide_eq_true h]; rfl
  · rw [e, if_pos rfl, decide_eq_false (show ¬ x1 < y1 by omega), decide_eq_true h, Bool.false_or, Bool.true_and]
    rcases cmp_three x2 y2 with ⟨h, e⟩ | ⟨h, e⟩ | ⟨h, e⟩
    · rw [e, decide_eq_true h]; rfl
    · rw [e, decide_eq_false (show ¬ x2 < y2 by omega)]; rfl
    · rw [e, decide_eq_false (show ¬ x2 < y2 by omega)]; rfl
  · rw [e, if_neg (by decide), decide_eq_false (show ¬ x1 < y1 by omega), decide_eq_false (show ¬ x1 = y1 by omega)]; rfl
theorem ltP (x y : Int × Int) : Go.Proofs.ltOf cmpP x y = (decide (x.1 < y.1) || (decide (x.1 = y.1) && decide (x.2 < y.2))) := orI_neg _ _ _ _
theorem swoP : Go.Sort.SWO (Go.Proofs.ltOf cmpP) := by
  refine ⟨fun x => ?_, fun x y z h1 h2 => ?_, fun x y z h1 h2 => ?_⟩
  · rw [ltP]; simp
  · rw [ltP] at *
    simp only [Bool.or_eq_true, Bool.and_eq_true, decide_eq_true_eq] at *
    omega
  · rw [ltP] at *
    simp only [Bool.or_eq_false_iff, Bool.and_eq_false_iff, decide_eq_false_iff_not] at *
    omega
theorem cmpLays (blk off size : Nat) (w : World) : Go.Proofs.CmpLays Try.prog 25 #[] encP 2 cmpP blk off size w := fun _ _ _ _ x y => cmp_any x y _
theorem grown_sorted {w : World} {g off n : Nat} {os : Array Obj} (d : Array (Int × Int)) : w.grownBy (Go.Proofs.sortWorldK encP 2 w g off n d os) (some g) := by
  refine ⟨rfl, rfl, rfl, by simp [Go.Proofs.sortWorldK, Go.Sort.putRowK, Go.Sort.grow, Go.Sort.putRow, Go.Sort.mapBlock, Go.Sort.ahead], fun k hk hne => ?_⟩
  unfold Go.Proofs.sortWorldK
  rw [Go.Sort.heap_grow_old _ _ (by simpa [Go.Sort.putRowK, Go.Sort.putRow, Go.Sort.mapBlock, Go.Sort.ahead] using hk)]
  have : g ≠ k := fun e => hne (by rw [e])
  simp [Go.Sort.putRowK, Go.Sort.putRow, Go.Sort.mapBlock, Go.Sort.ahead, Array.getElem?_modify, this]
theorem sort_any (g cap : Nat) (d : Array (Int × Int)) (w : World) (hH : Go.Sort.HoldsK encP 2 w g 0 d) (hg : g < w.heap.size) (hsz : d.size ≤ 256) :
    Calls Try.prog 24 #[.slice (some ⟨g, 0, none⟩) d.size cap, .func (.func 25) #[] #[]] w fun e w' => ∃ d' : Array (Int × Int), e = .returned (.tuple #[]) ∧ d'.size = d.size ∧ d'.toList.Perm d.toList ∧ Go.Sort.HoldsK encP 2 w' g 0 d' ∧ w.grownBy w' (some g) := by
  have eg : ∀ args w, (callFunc 25 args).run Try.prog w = .ok (.enter 25 args) w := enters_of Try.func25 (by kernel_rfl) rfl
  have hc := Go.Proofs.AnyQ.slices_SortFunc Try.sortFn 2 Try.isAgg23 Try.sizeOf23 encP (fun _ => rfl) (fun x v hv => by simp [encP] at hv; rcases hv with rfl | rfl <;> rfl) cmpP swoP 25 #[] g 0 cap d w eg (cmpLays g 0 d.size w) hH hg (by omega)
  change Calls Try.prog 24 _ _ _ at hc
  refine hc.mono ?_
  rintro e w' ⟨he, d', n, os, ⟨h1, _, h3⟩, _, rfl⟩
  refine ⟨d', he, h1, ?_, Go.Proofs.holdsK_sortWorldK encP 2 w g 0 n d d' os hg hH h1, grown_sorted d'⟩
  rw [← h1] at h3
  have e1 : (d'.extract 0 d'.size) = d' := by simp
  have e2 : (d.extract 0 d'.size) = d := by rw [h1]; simp
  rw [e1, e2] at h3
  exact h3
theorem sort_none (p : Option Addr) (cap : Nat) (fv : Value) (w : World) : Calls Try.prog 24 #[.slice p 0 cap, fv] w fun e w' => e = .returned (.tuple #[]) ∧ w' = w := by
  have hc := Go.Proofs.AnyF.slices_SortFunc_none Try.sortFn p cap fv w
  change Calls Try.prog 24 _ _ _ at hc
  exact hc
/-- The cells of places. -/
def QC : List (Int × Int) → List Value
  | [] => []
  | x :: r => .int .i64 x.1 :: .int .i64 x.2 :: QC r
theorem QC_len (l : List (Int × Int)) : (QC l).length = l.length * 2 := by
  induction l with
  | nil => rfl
  | cons p r ih => simp only [QC, List.length_cons, ih]; omega
theorem QC_app (l q : List (Int × Int)) : QC (l ++ q) = QC l ++ QC q := by
  induction l with
  | nil => rfl
  | cons p r ih => simp [QC, ih]
theorem QC_get (l : List (Int × Int)) (j : Nat) (h : j < l.length * 2) : (QC l)[j]? = some ((encP l.toArray[j / 2]!)[j % 2]!) := by
  induction l generalizing j with
  | nil => simp at h
  | cons x r ih =>
    match j with
    | 0 => rfl
    | 1 => rfl
    | j + 2 =>
      have := ih j (by simp only [List.length_cons] at h; omega)
      show (QC r)[j]? = _
      rw [this, show (j + 2) / 2 = j / 2 + 1 by omega, show (j + 2) % 2 = j % 2 by omega]
      simp
/-- Places in memory. -/
def AtP (w : World) (a : Option Addr) (l : List (Int × Int)) : Prop := ∀ j (h : j < l.length), ∃ g, a = some ⟨g, 0, none⟩ ∧ w.cell? ⟨g, j * 2, none⟩ = some (.int .i64 l[j].1) ∧ w.cell? ⟨g, j * 2 + 1, none⟩ = some (.int .i64 l[j].2)
theorem AtP.keepBut {w w' : World} {a : Option Addr} {l : List (Int × Int)} (h : AtP w a l) (hb : ∀ k, k < w.heap.size → blk a k → w'.heap[k]? = w.heap[k]?) : AtP w' a l := by
  intro j hj
  obtain ⟨g, rfl, h0, h1⟩ := h j hj
  have hk := hb g (World.block_lt_of_cell? w _ h0) ⟨0, none, rfl⟩
  exact ⟨g, rfl, (World.cell?_of_block (w := w) (a := ⟨g, j * 2, none⟩) hk).trans h0, (World.cell?_of_block (w := w) (a := ⟨g, j * 2 + 1, none⟩) hk).trans h1⟩
theorem AtP.keep {w w' : World} {a : Option Addr} {l : List (Int × Int)} (h : AtP w a l) (hb : Below w.heap.size w w') : AtP w' a l := h.keepBut fun k hk _ => hb.block k hk
theorem holds_at {w : World} {g : Nat} {l : List (Int × Int)} (h : Go.Sort.HoldsK encP 2 w g 0 l.toArray) : AtP w (some ⟨g, 0, none⟩) l := by
  intro j hj
  have h0 := (h.cell (i := j) (c := 0) (by simpa using hj) (by omega)).1
  have h1 := (h.cell (i := j) (c := 1) (by simpa using hj) (by omega)).1
  rw [Nat.zero_add] at h0 h1
  refine ⟨g, rfl, ?_, ?_⟩
  · rw [Nat.add_zero] at h0
    rw [h0]
    simp [encP, hj]
  · rw [h1]
    simp [encP, hj]
theorem owns_holds {w : World} {base g n cap : Nat} {l : List (Int × Int)} (hl : l.length = n) (h : w.ownsRow base 23 2 (.slice (some ⟨g, 0, none⟩) n cap) n (QC l)) : Go.Sort.HoldsK encP 2 w g 0 l.toArray ∧ g < w.heap.size ∧ base ≤ g := by
  have hlt := World.ownsRow.lt h g rfl
  refine ⟨fun j hj => ?_, hlt.2, hlt.1⟩
  rw [Go.Sort.size_flatK] at hj
  have hj' : j < l.length * 2 := by simpa using hj
  have := World.ownsRow.cells h (g := g) rfl j _ (QC_get l j hj')
  rw [add_none] at this
  refine ⟨?_, ?_⟩
  · rw [this, Go.Sort.get_flatK _ _ _ _ hj]; rfl
  · rcases h.2 with ⟨e, _⟩ | ⟨g', cap', cur, e, _, hh, _⟩
    · cases e
    · cases e
      exact frozen_of_row w g _ _ _ hh
theorem Try.info23 : (Try.prog.info? 23).map (fun i => (i.zero, i.size, i.bytes)) = some (some (.agg #[.int .i64 0, .int .i64 0]), 2, 16) := by kernel_rfl
/-- A place appended to a row of one's own. -/
theorem run_app_pl (w : World) (base : Nat) (v : Value) (l : List (Int × Int)) (x : Int × Int) (B c : Nat) (ty : TypeId) (h : w.ownsRow base 23 2 v l.length (QC l)) (hs : w.heap[B]? = some (.cells #[.int .i64 x.1, .int .i64 x.2] 23 (0, 0))) (hl : l.length ≤ 100000) (hb : base ≤ w.heap.size) :
    ∃ g cap w', (Builtin.append_ #[35, 35] ty #[v, .slice (some ⟨B, 0, none⟩) 1 c]).run Try.prog w = .ok (.slice (some ⟨g, 0, none⟩) (l.length + 1) cap) w' ∧ w'.ownsRow base 23 2 (.slice (some ⟨g, 0, none⟩) (l.length + 1) cap) (l ++ [x]).length (QC (l ++ [x])) ∧ Rw w v w' (.slice (some ⟨g, 0, none⟩) (l.length + 1) cap) := by
  obtain ⟨i0, hi, hz0, hz1, hz2⟩ := info_parts Try.info23
  obtain ⟨g, cap, w', hr, h2, h3, h4, h5⟩ := run_append_lies (P := Try.prog) w 35 ty base 23 i0 _ 2 16 Try.underlying35 hi hz0 hz1 hz2 rfl (by decide) v l.length (QC l) h ⟨B, 0, none⟩ 1 c [.int .i64 x.1, .int .i64 x.2] rfl (fun j u hu => by
    rw [add_none, cell_of_row _ _ _ _ _ _ hs, Nat.zero_add]
    simpa using hu) (by intro u hu; simp at hu; rcases hu with rfl | rfl <;> rfl) (by decide) (by unfold maxLen; omega) (by omega) hb _ rfl
  refine ⟨g, cap, w', hr, ?_, rw_lies h3 h4 rfl⟩
  rw [List.length_append, QC_app]
  exact h2
def pz (p : Nat × Nat) : Int × Int := (p.1, p.2)
/-- The places of slots. -/
def pll (L : List Fr.Sl) : List (Int × Int) := (Fr.pls L).map pz
theorem pll_step_none (L : List Fr.Sl) (k : Nat) (h : L[k]? = some none) : pll (L.take (k + 1)) = pll (L.take k) := by
  unfold pll Fr.pls
  rw [List.take_add_one, h]
  simp
theorem pll_step_some (L : List Fr.Sl) (k : Nat) (a c : Nat) (t : ByteArray) (h : L[k]? = some (some ((a, c), t))) : pll (L.take (k + 1)) = pll (L.take k) ++ [((a : Int), (c : Int))] := by
  unfold pll Fr.pls
  rw [List.take_add_one, h]
  simp [pz]
theorem pll_len (L : List Fr.Sl) : (pll L).length ≤ L.length := by
  unfold pll Fr.pls
  rw [List.length_map]
  exact List.length_filterMap_le _ _
theorem pll_take_len (L : List Fr.Sl) (k : Nat) : (pll (L.take k)).length ≤ L.length := Nat.le_trans (pll_len _) (by rw [List.length_take]; omega)
/-- What List leaves. -/
def LsOut (w : World) (L : List Fr.Sl) (e : Ending) (w' : World) : Prop := ∃ a cap l, e = .returned (.slice a l.length cap) ∧ l.Perm (pll L) ∧ AtP w' a l ∧ (∀ k, blk a k → w.heap.size ≤ k ∧ k < w'.heap.size) ∧ Below w.heap.size w w'
theorem owns_slice {w : World} {base : Nat} {v : Value} {n : Nat} {cs : List Value} (h : w.ownsRow base 23 2 v n cs) : (v = .slice none 0 0 ∧ n = 0) ∨ ∃ g cap, v = .slice (some ⟨g, 0, none⟩) n cap := by
  rcases h.2 with ⟨rfl, h0⟩ | ⟨g, cap, cur, rfl, _⟩
  · exact .inl ⟨rfl, h0⟩
  · exact .inr ⟨g, cap, rfl⟩
end Go.Proofs.Yticjilpomdahbaa
