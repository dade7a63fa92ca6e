/-
  The document's answers: a new map, a bit, a bit that is made so, the least place.
-/
import Derived.Test.YtigoadfbccpmkaaU
namespace Go.Proofs.Ytigoadfbccpmkaa
open Go.RowKit
set_option linter.unusedVariables false

/-- A document's map that a call returns: where it lies is new. -/
def RMap (w w' : World) (v : Value) (n : Nat) (f : Nat → Bool) : Prop := ∃ a cap, v = .slice a n cap ∧ At w' a Value.bool (bl n f) ∧ ∀ k, blk a k → w.heap.size ≤ k
theorem bl_nof (n : Nat) : bl n M.nof = List.replicate n false := by
  apply List.ext_getElem
  · simp [bl]
  · intro i h1 h2; simp [bl, M.nof]
theorem RowB.rmap {w w' : World} {g n cap : Nat} {f : Nat → Bool} (h : RowB w' g (bl n f)) (hg : w.heap.size ≤ g) : RMap w w' (.slice (some ⟨g, 0, none⟩) n cap) n f :=
  ⟨_, _, rfl, h.at, fun k ⟨_, _, e⟩ => by simp at e; omega⟩
def NewR (w : World) (n : Nat) (e : Ending) (w' : World) : Prop := ∃ v, e = .returned v ∧ RMap w w' v n M.nof ∧ Below w.heap.size w w'
set_option maxHeartbeats 1000000 in
theorem refNew_any (n : Int) (w : World) : Calls Try.prog 10 #[.int .i64 n] w (NewR w (sz n)) := by
  have h3 := sz_le n
  obtain ⟨k, hk⟩ : ∃ k : Nat, max n 0 = (k : Int) := ⟨(max n 0).toNat, by omega⟩
  have h2 : min (k : Int) 4096 = (sz n : Int) := by unfold sz; omega
  generalize sz n = m at *
  obtain ⟨i0, hi, hz0, hz1, hz2⟩ := info_parts Try.info4
  go_enter Try.func10, Try.ntmps10
  go_wp2_with (at_make; refine wpList_make_full _ rfl (.tmp 5) (.tmp 5) 26 rfl w.heap.size 4 i0 (.bool false) 1 Try.underlying26 hi hz0 hz1 .i64 .i64 _ _ m rfl rfl rfl rfl (by rw [hz2]; omega) (by unfold maxLen; omega) (Nat.le_refl _) ?_; intro w1 ho hg; rw [made_bools] at ho; have hrow := rowB_of_owns (by simp) ho; clear ho)
  go_ret
  rw [← bl_nof] at hrow
  exact ⟨_, rfl, hrow.rmap (Nat.le_refl _), (Below.refl w.heap.size w).grown hg (Nat.le_refl _) (by simp)⟩

set_option maxHeartbeats 1000000 in
theorem refGet_any (n : Nat) (f : Nat → Bool) (a : Option Addr) (cap : Nat) (i : Int) (w : World) (hn : n ≤ 4096) (ha : At w a Value.bool (bl n f)) :
    Calls Try.prog 18 #[.slice a n cap, .int .i64 i] w fun e w' => e = .returned (.bool (gt n f i)) ∧ w' = w := by
  by_cases h0 : 0 ≤ i
  · obtain ⟨k, rfl⟩ := Int.eq_ofNat_of_zero_le h0
    by_cases hk : k < n
    · rw [show gt n f (k : Int) = f k by simp [gt]; omega]
      obtain ⟨b, off, rfl, hc⟩ := ha k (by rw [bl_len]; exact hk)
      rw [bl_get] at hc
      generalize f k = v at *
      go_enter Try.func18, Try.ntmps18
      go_wp2
      go_ret
      exact ⟨rfl, rfl⟩
    · rw [show gt n f (k : Int) = false by simp [gt]; omega]
      have hd : decide ((k : Int) < (n : Int)) = false := by simp; omega
      go_enter Try.func18, Try.ntmps18
      go_wp2
      go_ret
      exact ⟨rfl, rfl⟩
  · rw [show gt n f i = false by simp [gt]; omega]
    have hd : decide (0 ≤ i) = false := by simpa using h0
    go_enter Try.func18, Try.ntmps18
    go_wp2
    go_ret
    exact ⟨rfl, rfl⟩

set_option maxRecDepth 100000 in
set_option maxHeartbeats 2000000 in
theorem refFind_any (n : Nat) (f : Nat → Bool) (a : Option Addr) (cap : Nat) (m : Int) (w : World) (hn : n ≤ 4096) (ha : At w a Value.bool (bl n f)) :
    Calls Try.prog 20 #[.slice a n cap, .int .i64 m] w fun e w' => e = .returned (.int .i64 (M.find f n m)) ∧ Below w.heap.size w w' := by
  have hlen := M.runs_len f n false
  have HF0 : Hid (M.find f n m = if m < 1 then -1 else M.fnd m (M.runs f n false)) := rfl
  have hr := refRuns_any n f false a cap w hn ha
  rw [M.rr_eq] at hr
  generalize M.runs f n false = l at *
  go_enter Try.func20, Try.ntmps20
  go_wp2_with fail
  refine hr.mono ?_
  rintro e w1 h
  obtain ⟨v, rfl, hown, hbel⟩ := h
  obtain ⟨a2, cp, rfl, hat, _⟩ := owns_atR hown
  clear hown hr ha
  go_wp2
  go_loopw [6] (fun i wr => ∃ k : Nat, k ≤ l.length ∧ i = .int .i64 k ∧ wr = w1 ∧ Hid (M.fnd m l = M.fnd m (l.drop k) ∨ m < 1)) (fun i _ => l.length - (intOf i).toNat)
  case atStart => exact ⟨0, by omega, rfl, rfl, .inl rfl⟩
  case round =>
    obtain ⟨k, hk, rfl, rfl, HF⟩ := hrel
    by_cases hlt : k < l.length
    · obtain ⟨bb, off, rfl, hc0, hc1⟩ := hat k hlt
      have HS := Hid_of (fnd_drop m l k hlt)
      generalize l[k].1 = p at *
      generalize l[k].2 = q at *
      clear hat
      by_cases hm : 1 ≤ m
      · have hm' : decide (1 ≤ m) = true := by simpa using hm
        have HF1 : Hid (M.fnd m l = M.fnd m (l.drop k)) := HF.out.resolve_right (by omega)
        by_cases hq : m ≤ (q : Int)
        · have hq' : decide (m ≤ (q : Int)) = true := by simpa using hq
          rw [if_pos hq] at HS
          have HX : Hid (M.find f n m = (p : Int)) := by show _ = _; rw [HF0.out, if_neg (by omega), HF1.out, HS.out]
          go_wp2
          go_ret
          rw [HX.out]
          exact ⟨rfl, hbel⟩
        · have hq' : decide (m ≤ (q : Int)) = false := by simpa using hq
          rw [if_neg hq] at HS
          go_wp2
          go_roundw
          case rel => exact ⟨k + 1, by omega, by go_num, by first | rfl | trivial, .inl (HF1.out.trans HS.out)⟩
          case measure => simp [intOf]; omega
      · have hm' : decide (1 ≤ m) = false := by simpa using hm
        go_wp2
        go_roundw
        case rel => exact ⟨k + 1, by omega, by go_num, by first | rfl | trivial, .inr (by omega)⟩
        case measure => simp [intOf]; omega
    · have HX : Hid (M.find f n m = -1) := by
        show _ = _
        rw [HF0.out]
        split
        · rfl
        · rw [HF.out.resolve_right (by assumption), List.drop_of_length_le (by omega)]; rfl
      go_wp2
      go_ret
      rw [HX.out]
      exact ⟨rfl, hbel⟩

/-! a copy, and a bit of it made so -/
theorem owns_bool {w : World} {base N : Nat} {v : Value} {l : List Bool} {k : Nat} (hl : l.length = N) (h : w.ownsRow base 4 1 v N (l.map Value.bool)) (hk : k < N) :
    ∃ g cap, v = .slice (some ⟨g, 0, none⟩) N cap ∧ base ≤ g ∧ (∃ u, w.cell? ⟨g, k, none⟩ = some u) ∧ w.frozen? ⟨g, k, none⟩ = false ∧
      ∀ q : Bool, (w.setCell ⟨g, k, none⟩ (.bool q)).ownsRow base 4 1 v N ((l.set k q).map Value.bool) := by
  rcases h.2 with ⟨rfl, h0⟩ | ⟨g, cap, cur, hv, hb', hh, hc, hm, hs, ht⟩
  · omega
  · refine ⟨g, cap, hv, hb', ⟨.bool (l[k]'(by omega)), ?_⟩, frozen_of_row w g _ _ _ hh, fun q => ⟨by simp; omega, .inr ⟨g, cap, _, hv, hb', heap_setCell_same w g _ _ _ _ hh, hc, hm, by simp; omega, ?_⟩⟩⟩
    · have := h.cells (g := g) (by rw [hv]; rfl) k (.bool (l[k]'(by omega))) (by first | (simp; done) | (simp; omega))
      rwa [show ((⟨g, 0, none⟩ : Addr).add k) = ⟨g, k, none⟩ by unfold Addr.add; split <;> simp_all] at this
    · rw [Array.toList_setIfInBounds, List.take_set, ht, List.map_set]
theorem rmap_of {W w' : World} {v : Value} {n base : Nat} {f : Nat → Bool} (hW : W.heap.size ≤ base) (h : w'.ownsRow base 4 1 v n ((bl n f).map Value.bool)) : RMap W w' v n f := by
  have h' : w'.ownsRow base 4 1 v (bl n f).length ((bl n f).map Value.bool) := by rw [bl_len]; exact h
  obtain ⟨a, cap, hv, hat, hb⟩ := owns_at h'
  rw [bl_len] at hv
  exact ⟨a, cap, hv, hat, fun k hk => Nat.le_trans hW (hb k hk)⟩
theorem at_cells {w : World} {b off : Nat} {l : List Bool} (h : At w (some ⟨b, off, none⟩) Value.bool l) : ∀ (j : Nat) (u : Value), (l.map Value.bool)[j]? = some u → w.cell? ((⟨b, off, none⟩ : Addr).add j) = some u := by
  intro j u hu
  have hj : j < l.length := by
    rcases Nat.lt_or_ge j l.length with h' | h'
    · exact h'
    · rw [List.getElem?_eq_none (by simpa using h')] at hu; cases hu
  obtain ⟨b', off', e, hc⟩ := h j hj
  cases e
  rw [show ((⟨b, off, none⟩ : Addr).add j) = ⟨b, off + j, none⟩ by unfold Addr.add; split <;> simp_all, hc]
  simp [hj] at hu
  rw [hu]
theorem hi4 : Try.prog.info? 4 = some Try.t4 := rfl
theorem bl_set (n : Nat) (f g : Nat → Bool) (k : Nat) (q : Bool) (h1 : g k = q) (h2 : ∀ i, i ≠ k → g i = f i) : (bl n f).set k q = bl n g := by
  apply List.ext_getElem
  · simp [bl]
  · intro i h3 h4
    rw [List.getElem_set]
    simp only [bl, List.getElem_map, List.getElem_range]
    by_cases e : k = i
    · subst e; simp [h1]
    · simp only [e, if_false]
      exact (h2 i (fun h => e h.symm)).symm
/-- What the document's Set returns. -/
def SetR (w : World) (a : Option Addr) (cap n : Nat) (f : Nat → Bool) (i : Int) (on : Bool) (e : Ending) (w' : World) : Prop :=
  Below w.heap.size w w' ∧ ∃ v, e = .returned (.tuple #[v, .bool (inb n i)]) ∧ if inb n i then RMap w w' v n (setf n f i on) else v = .slice a n cap
set_option maxRecDepth 100000 in
set_option maxHeartbeats 1000000 in
theorem refSet_any (n : Nat) (f : Nat → Bool) (a : Option Addr) (cap : Nat) (i : Int) (on : Bool) (w : World) (hn : n ≤ 4096) (ha : At w a Value.bool (bl n f)) :
    Calls Try.prog 11 #[.slice a n cap, .int .i64 i, .bool on] w (SetR w a cap n f i on) := by
  cases hd : inb n i
  · have HK : Hid (SetR w a cap n f i on (.returned (.tuple #[.slice a n cap, .bool false])) w) := ⟨Below.refl _ _, _, by rw [hd], by rw [hd]; rfl⟩
    by_cases h0 : i < 0
    · have hd0 : decide (i < 0) = true := by simpa using h0
      go_enter Try.func11, Try.ntmps11
      go_wp2
      go_ret2
      exact HK.out
    · have hd0 : decide (i < 0) = false := by simpa using h0
      have hd1 : decide ((n : Int) ≤ i) = true := by simp [inb] at hd ⊢; omega
      go_enter Try.func11, Try.ntmps11
      go_wp2
      go_ret2
      exact HK.out
  · have hd' := hd
    simp [inb] at hd
    obtain ⟨k, rfl⟩ := Int.eq_ofNat_of_zero_le hd.1
    have hk : k < n := by omega
    have HB : Hid ((bl n f).set k on = bl n (setf n f k on)) := bl_set n f _ k on (by unfold setf; rw [hd']; cases on <;> simp [M.orf, M.notf, M.rowf]) (fun j hj => by
      unfold setf
      rw [hd']
      have hj' : (decide (k ≤ j) && decide (j < k + 1)) = false := by simp; omega
      cases on <;> simp [M.orf, M.notf, M.rowf, hj'])
    obtain ⟨b, off, rfl, hc⟩ := ha k (by rw [bl_len]; exact hk)
    have hcl := at_cells ha
    have hln : ((bl n f).map Value.bool).length = n * 1 := by simp [bl]
    have hone : ∀ u ∈ (bl n f).map Value.bool, u.oneCell' = true := by
      intro u hu
      obtain ⟨x, _, rfl⟩ := List.mem_map.1 hu
      rfl
    have HI : Hid (inb n (k : Int) = true) := hd'
    have HCL : Hid _ := hcl
    have HLN : Hid _ := hln
    have HON : Hid _ := hone
    clear hc ha hcl hln hone hd hd'
    go_enter Try.func11, Try.ntmps11
    go_wp2_with (at_builtin; refine wpList_append_own _ rfl _ _ 26 rfl w.heap.size 4 Try.t4 _ 1 1 Try.underlying26 hi4 rfl rfl rfl rfl (by decide) _ 0 [] rfl (World.ownsRow_nil _ _ _ _) ⟨b, off, none⟩ n cap ((bl n f).map Value.bool) rfl HLN.out HCL.out HON.out (by unfold maxLen; omega) (by omega) (Nat.le_refl _) ?_; intro v' w3 hown3 hgrow hnil; have hb3 : Below w.heap.size w w3 := (Below.refl w.heap.size w).grown (show w.grownBy w3 none from hgrow) (Nat.le_refl _) (fun k h => by cases h); obtain ⟨g, cp, rfl, hbg, ⟨u, hu⟩, hfr, hset⟩ := owns_bool (N := n) (k := k) (bl_len n f) (by simpa using hown3) hk; have HSET : Hid _ := hset on; clear hown3 hgrow hnil hset)
    go_ret2
    have h9 := HSET.out
    rw [HB.out] at h9
    exact ⟨hb3.setCell hbg _, _, by rw [HI.out]; rfl, by rw [HI.out]; exact rmap_of (Nat.le_refl _) h9⟩

/-- Bits of a row made so. -/
def rowset (f : Nat → Bool) (i m : Nat) (on : Bool) : Nat → Bool := if on then M.orf f (M.rowf i m) else M.notf f (M.rowf i m)
theorem rowset_zero (f : Nat → Bool) (i n : Nat) (on : Bool) : bl n (rowset f i 0 on) = bl n f := by
  apply List.map_congr_left
  intro j _
  cases on <;> simp [rowset, M.orf, M.notf, M.rowf] <;> omega
theorem rowset_step (f : Nat → Bool) (i k n : Nat) (on : Bool) : (bl n (rowset f i k on)).set (i + k) on = bl n (rowset f i (k + 1) on) := by
  refine bl_set n _ _ _ _ ?_ ?_
  · cases on <;> simp [rowset, M.orf, M.notf, M.rowf]
  · intro j hj
    have : (decide (i ≤ j) && decide (j < i + (k + 1))) = (decide (i ≤ j) && decide (j < i + k)) := by
      rw [Bool.eq_iff_iff]; simp; omega
    cases on <;> simp [rowset, M.orf, M.notf, M.rowf, this]
def RowOut (w : World) (n : Nat) (f : Nat → Bool) (e : Ending) (w' : World) : Prop := ∃ v, e = .returned v ∧ RMap w w' v n f ∧ Below w.heap.size w w'
set_option maxRecDepth 100000 in
set_option maxHeartbeats 2000000 in
theorem refRow_any (n : Nat) (f : Nat → Bool) (a : Option Addr) (cap i m : Nat) (on : Bool) (w : World) (hn : n ≤ 4096) (hm : 1 ≤ m) (him : i + m ≤ n) (ha : At w a Value.bool (bl n f)) :
    Calls Try.prog 34 #[.slice a n cap, .agg #[.int .i64 i, .int .i64 m], .bool on] w (RowOut w n (rowset f i m on)) := by
  have hw0 : Below w.heap.size w (w.alloc (.cells #[.int .i64 i, .int .i64 m] 41)) := (Below.refl w.heap.size w).alloc (Nat.le_refl _) _
  have ha1 := ha.keep hw0
  obtain ⟨b, off, rfl, hc⟩ := ha i (by rw [bl_len]; omega)
  have HCL : Hid _ := at_cells ha1
  have HLN : Hid (((bl n f).map Value.bool).length = n * 1) := by show _ = _; simp [bl]
  have HON : Hid (∀ u ∈ (bl n f).map Value.bool, u.oneCell' = true) := by
    intro u hu
    obtain ⟨x, _, rfl⟩ := List.mem_map.1 hu
    rfl
  clear hc ha ha1
  go_enter Try.func34, Try.ntmps34
  go_wp2_with (at_builtin; refine wpList_append_own _ rfl _ _ 26 rfl (w.heap.size + 1) 4 Try.t4 _ 1 1 Try.underlying26 hi4 rfl rfl rfl rfl (by decide) _ 0 [] rfl (World.ownsRow_nil _ _ _ _) ⟨b, off, none⟩ n cap ((bl n f).map Value.bool) rfl HLN.out HCL.out HON.out (by unfold maxLen; omega) (by omega) (by simp) ?_; intro v' w3 hown3 hgrow hnil; have hb3 : Below (w.alloc (.cells #[.int .i64 i, .int .i64 m] 41)).heap.size (w.alloc (.cells #[.int .i64 i, .int .i64 m] 41)) w3 := (Below.refl _ _).grown (show World.grownBy _ w3 none from hgrow) (Nat.le_refl _) (fun k h => by cases h); clear hgrow hnil)
  have B3 := hw0.trans (hb3.mono (by simp))
  have r3 := (hb3.block w.heap.size (by simp)).trans (heap_alloc_last w _)
  have own3 : w3.ownsRow (w.heap.size + 1) 4 1 v' n ((bl n (rowset f i 0 on)).map Value.bool) := by rw [rowset_zero]; simpa using hown3
  obtain ⟨g, cp, rfl, hbg, _⟩ := owns_bool (k := 0) (bl_len n _) own3 (by omega)
  clear hown3 hb3 HCL HLN HON hw0
  go_loopw [8] (fun s wr => ∃ k : Nat, k ≤ m ∧ s = .int .i64 k ∧ Hid (wr.ownsRow (w.heap.size + 1) 4 1 (.slice (some ⟨g, 0, none⟩) n cp) n ((bl n (rowset f i k on)).map Value.bool)) ∧ Below w.heap.size w wr ∧ Hid (wr.heap[w.heap.size]? = some (.cells #[.int .i64 i, .int .i64 m] 41 (0, 0)))) (fun s _ => m - (intOf s).toNat)
  case atStart => exact ⟨0, by omega, rfl, own3, B3, r3⟩
  case round =>
    obtain ⟨k, hk, rfl, HO, hbel, HR⟩ := hrel
    have c0 : wr.cell? ⟨w.heap.size, 0, none⟩ = some (.int .i64 i) := by rw [cell_of_row wr _ 0 _ _ _ HR.out]; rfl
    have c1 : wr.cell? ⟨w.heap.size, 1, none⟩ = some (.int .i64 m) := by rw [cell_of_row wr _ 1 _ _ _ HR.out]; rfl
    clear own3 B3 r3
    by_cases hlt : k < m
    · obtain ⟨g', cp', e', _, ⟨u, hu⟩, hfr, hset⟩ := owns_bool (k := i + k) (bl_len n _) HO.out (by omega)
      cases e'
      have HO2 : Hid ((wr.setCell ⟨g, i + k, none⟩ (.bool on)).ownsRow (w.heap.size + 1) 4 1 (.slice (some ⟨g, 0, none⟩) n cp) n ((bl n (rowset f i (k + 1) on)).map Value.bool)) := by
        have := hset on
        rw [rowset_step] at this
        exact this
      have HB2 : Hid (Below w.heap.size w (wr.setCell ⟨g, i + k, none⟩ (.bool on))) := hbel.setCell (by simp; omega) _
      have HR2 : Hid ((wr.setCell ⟨g, i + k, none⟩ (.bool on)).heap[w.heap.size]? = some (.cells #[.int .i64 i, .int .i64 m] 41 (0, 0))) := (heap_setCell_other wr _ _ _ (by simp; omega)).trans HR.out
      obtain ⟨z, HZ⟩ : ∃ z : Nat, Hid (i + k = z) := ⟨_, rfl⟩
      rw [HZ.out] at hu hfr HO2 HB2 HR2
      have hzz : (i : Int) + k = (z : Int) := by have := HZ.out; omega
      have hzn : z < n := by have := HZ.out; omega
      clear hset HO HR hbel
      go_wp2
      go_roundw
      case rel => exact ⟨k + 1, by omega, by go_num, HO2, HB2.out, HR2⟩
      case measure => simp [intOf]; omega
    · have hkm : k = m := by omega
      subst hkm
      go_wp2
      go_ret
      exact ⟨_, rfl, rmap_of (by omega) HO.out, hbel⟩
end Go.Proofs.Ytigoadfbccpmkaa
