/- A copy of servers; a stripe changed. -/
import Derived.Test.YtgcfpihfoekllaaRD
import Derived.Test.YtgcfpihfoekllaaRE

namespace Go.Proofs.Ytgcfpihfoekllaa

open Go.RowKit

set_option linter.unusedVariables false

open Sm (S)

section
variable {w w' : World} {base b : Nat} {v : Value} {es : List E} {n : Int}
theorem own_some {a : Option Addr} {k c : Nat} {l : List Int} (h : OwnL il 3 w base (.slice a k c) l) (hl : 0 < l.length) : ∃ g, a = some ⟨g, 0, none⟩ := by
  obtain ⟨g, cap, hv, _⟩ := h.set1 0 hl 0 (by decide)
  simp only [Value.slice.injEq] at hv
  exact ⟨g, hv.1⟩
theorem not_nil (w : World) (ad : Addr) (k c : Nat) : (binOp .eql 30 (.slice (some ad) k c) (.slice none 0 0)).run Try.prog w = .ok (.bool false) w := Lib.run_eql_slice_nil w _ _ (some ad) k c 0 0 Try.underlying30
set_option maxRecDepth 100000 in
set_option maxHeartbeats 400000 in
theorem cloned_any (a : Option Addr) (cap : Nat) (l : List Int) (w : World) (hl : l.length ≤ 1000) (h0 : 0 < l.length) (h : AtL il w a l) :
    Calls Try.prog 36 #[.slice a l.length cap] w fun e w' => ∃ g c, e = .returned (.slice (some ⟨g, 0, none⟩) l.length c) ∧ OwnL il 3 w' w.heap.size (.slice (some ⟨g, 0, none⟩) l.length c) l ∧ Below w.heap.size w w' := by
  have hb1 := bel1 w (.cells #[] 3)
  obtain ⟨b, off, rfl, _⟩ := h 0 h0
  have hz := own_row (w := w.alloc (.cells #[] 3)) (base := w.heap.size) (g := w.heap.size) (l := []) (heap_alloc_last w _) (Nat.le_refl _) (by simp)
  obtain ⟨a', c', w3, hr, ho, hrw⟩ := run_appL_ty tiI (w.alloc (.cells #[] 3)) w.heap.size _ [] l b off cap _ hz (h.keep hb1) rfl hb1.size (by simp; omega)
  simp only [List.length_nil, Nat.zero_add, List.nil_append] at hr ho hrw
  obtain ⟨g, rfl⟩ := own_some ho h0
  have HR := Hid_of hr
  have HQ : Hid (OwnL il 3 w3 w.heap.size (.slice (some ⟨g, 0, none⟩) l.length c') l ∧ Below w.heap.size w w3) := Hid_of ⟨ho, hb1.trans (hrw.below (fun k hk => (hz.lt hk).1) hb1.size)⟩
  have hnn := not_nil w ⟨b, off, none⟩ l.length cap
  clear hr ho hrw hz h
  go_enter Try.func36, Try.ntmps36
  go_wp2_with (at_builtin; refine wpList_append_known rfl _ _ 30 rfl _ _ rfl rfl _ _ (HR.out _) ?_)
  go_ret
  exact ⟨g, c', rfl, HQ.out⟩
theorem as_set {i : Nat} (hi : i < es.length) {e : E} (h : e.a = es[i].a) : as' (es.set i e) = as' es := by
  unfold as'
  rw [List.map_set, h]
  refine List.ext_getElem (by simp) fun k h1 h2 => ?_
  rw [List.getElem_set]
  split
  · rename_i e; subst e; simp
  · rfl
theorem fpm_set {i : Nat} (hi : i < es.length) {e : E} (h : e.a = es[i].a) : fpm b v (es.set i e) = fpm b v es := by
  funext k; unfold fpm; rw [as_set hi h]
theorem MI.setE (h : MI w base b v es n) {n' : Int} {i : Nat} (hi : i < es.length) {e : E} (ha : e.a = es[i].a) (hd : e.id = es[i].id) (hrow : w'.heap[b]? = some (mrow v n')) (hown : OwnL stl 34 w' base v (es.set i e)) (hs : Sv w' base e) (hk : ∀ j (hj : j < es.length), j ≠ i → ∀ k, blk es[j].a k → w'.heap[k]? = w.heap[k]?) : MI w' base b v (es.set i e) n' := by
  refine ⟨hrow, hown, fun x hx => ?_, ?_, h.nb, fun x hx => ?_, h.lo, fun j hj => ?_⟩
  · obtain ⟨j, hj, rfl⟩ := List.getElem_of_mem hx
    rw [List.getElem_set]
    have hj2 : j < es.length := by simpa using hj
    split
    · exact hs
    · rename_i hne
      exact (h.sv _ (List.getElem_mem hj2)).keepBut fun k _ hb => hk j hj2 (fun e => hne e.symm) k hb
  · rw [as_set hi ha]; exact h.nd
  · rcases List.mem_or_eq_of_mem_set hx with hx | rfl
    · exact h.ne x hx
    · rw [ha]; exact h.ne _ (List.getElem_mem hi)
  · have hj2 : j < es.length := by simpa using hj
    rw [List.getElem_set]
    split
    · rename_i e; subst e; rw [hd]; exact h.id _ hi
    · exact h.id j hj2
theorem MI.apart (h : MI w base b v es n) {i j : Nat} (hi : i < es.length) (hj : j < es.length) (hij : j ≠ i) {k : Nat} (h1 : blk es[i].a k) (h2 : blk es[j].a k) : False := by
  obtain ⟨g1, e1⟩ := (h.sv _ (List.getElem_mem hi)).1
  obtain ⟨g2, e2⟩ := (h.sv _ (List.getElem_mem hj)).1
  rw [e1] at h1; rw [e2] at h2
  obtain ⟨_, _, q1⟩ := h1
  obtain ⟨_, _, q2⟩ := h2
  simp only [Option.some.injEq, Addr.mk.injEq] at q1 q2
  have e3 : es[i].a = es[j].a := by rw [e1, e2, q1.1, q2.1]
  have hnd := h.nd
  unfold as' List.Nodup at hnd
  rw [List.pairwise_iff_getElem] at hnd
  rcases Nat.lt_or_ge i j with hlt | hge
  · exact hnd i j (by simpa using hi) (by simpa using hj) hlt (by simpa using e3)
  · exact hnd j i (by simpa using hj) (by simpa using hi) (by omega) (by simpa using e3.symm)
theorem MI.setst (h : MI w base b v es n) {i : Nat} (hi : i < es.length) {g cap : Nat} (hv : v = .slice (some ⟨g, 0, none⟩) es.length cap) (x : Int) : MI (w.setCell ⟨g, i * 6 + 1, none⟩ (.int .i64 x)) base b v (es.set i { es[i] with s := { es[i].s with st := x } }) n ∧ Fr w (fpm b v es) (w.setCell ⟨g, i * 6 + 1, none⟩ (.int .i64 x)) (fpm b v es) := by
  obtain ⟨g', cap', hv', _, _, _, _, hset⟩ := h.own.set1 i hi 1 (by decide)
  have hg : g' = g := by rw [hv] at hv'; simp only [Value.slice.injEq, Option.some.injEq, Addr.mk.injEq] at hv'; exact hv'.1.1.symm
  subst hg
  have hgb : v.ownBlock = some g' := by rw [hv]; rfl
  have hne : b ≠ g' := fun e => h.nb (by rw [hgb, e])
  have ho := hset { es[i] with s := { es[i].s with st := x } } (.int .i64 x) rfl
  refine ⟨h.setE hi rfl rfl ((heap_setCell_other w _ b _ hne).trans h.row) ho ?_ (fun j hj hji k hk => heap_setCell_other w _ k _ (fun e => ?_)), fr_set (Fr.refl _ _) (.inr (.inl hgb)) _ _⟩
  · have hsv := h.sv _ (List.getElem_mem hi)
    exact Sv.keepBut (e := { es[i] with s := { es[i].s with st := x } }) hsv fun k _ hk => heap_setCell_other w _ k _ (fun e => by
      have e : k = g' := e
      subst e; exact (h.ne _ (List.getElem_mem hi)).2 _ hgb hk)
  · have e : k = g' := e
    subst e; exact (h.ne _ (List.getElem_mem hj)).2 _ hgb hk
theorem MI.setn (h : MI w base b v es n) (x : Int) : MI (w.setCell ⟨b, 1, none⟩ (.int .i64 x)) base b v es x ∧ Fr w (fpm b v es) (w.setCell ⟨b, 1, none⟩ (.int .i64 x)) (fpm b v es) := by
  refine ⟨⟨?_, h.own.keepBut fun k _ ho => heap_setCell_other w _ k _ (fun e => h.nb (by have e : k = b := e; rw [← e]; exact ho)), fun e he => (h.sv e he).keepBut fun k _ hk => heap_setCell_other w _ k _ (fun e' => (h.ne e he).1 (by have e' : k = b := e'; rw [← e']; exact hk)), h.nd, h.nb, h.ne, h.lo, h.id⟩, fr_set (Fr.refl _ _) (.inl rfl) _ _⟩
  rw [heap_setCell_same w b 1 _ _ _ h.row]
  rfl
theorem cells_same {i : Nat} (hi : i < es.length) {e : E} (h : stl.cs e = stl.cs es[i]) : stl.cells (es.set i e) = stl.cells es := by
  have h5 : stl.cs e = (stl.cs es[i]).set 0 (.int .i64 es[i].id) := by rw [h]; rfl
  rw [← stl.set1 es i hi 0 (by decide) e (.int .i64 es[i].id) h5]
  refine List.ext_getElem (by simp) fun k h1 h2 => ?_
  rw [List.getElem_set]
  split
  · rename_i e
    have := stl.get es i hi 0 (by decide)
    rw [e, List.getElem?_eq_getElem h2] at this
    simp only [Option.some.injEq] at this
    rw [this]; rfl
  · rfl
theorem MI.setsv (h : MI w base b v es n) {i : Nat} (hi : i < es.length) {x : Nat} (hx : x < es[i].s.l.length) {g : Nat} (hg : es[i].a = some ⟨g, 0, none⟩) (y : Int) : MI (w.setCell ⟨g, x, none⟩ (.int .i64 y)) base b v (es.set i { es[i] with s := { es[i].s with l := es[i].s.l.set x y } }) n ∧ Fr w (fpm b v es) (w.setCell ⟨g, x, none⟩ (.int .i64 y)) (fpm b v es) := by
  have hsv := h.sv _ (List.getElem_mem hi)
  have hbg : blk es[i].a g := ⟨0, none, hg⟩
  have hne := h.ne _ (List.getElem_mem hi)
  obtain ⟨g', cap', hv', _, _, _, _, hset⟩ := hsv.2.set1 x hx 0 (by decide)
  have e : g' = g := by rw [hg] at hv'; simp only [Value.slice.injEq, Option.some.injEq, Addr.mk.injEq] at hv'; exact hv'.1.1.symm
  subst e
  have ho := hset y (.int .i64 y) rfl
  rw [show x * il.n + 0 = x by simp [il]] at ho
  refine ⟨h.setE hi rfl rfl ((heap_setCell_other w _ b _ (fun e => hne.1 (by have e : b = g' := e; rw [e]; exact hbg))).trans h.row) ?_ ⟨⟨g', hg⟩, ?_⟩ (fun j hj hji k hk => heap_setCell_other w _ k _ (fun e => ?_)), fr_set (Fr.refl _ _) (.inr (.inr ⟨_, List.mem_map_of_mem (List.getElem_mem hi), hbg⟩)) _ _⟩
  · have ho2 := h.own.keepBut (w1 := w.setCell ⟨g', x, none⟩ (.int .i64 y)) fun k _ hk => heap_setCell_other w _ k _ (fun e => by
      have e : k = g' := e
      subst e; exact hne.2 _ hk hbg)
    unfold OwnL at ho2 ⊢
    rw [cells_same hi (by simp [stl]), List.length_set]
    exact ho2
  · show OwnL il 3 _ base (.slice es[i].a (es[i].s.l.set x y).length es[i].c) (es[i].s.l.set x y)
    rw [List.length_set]
    exact ho
  · have e : k = g' := e
    subst e; exact h.apart hi hj hji hbg hk
theorem become2_any (h : MI w base b v es n) {i : Nat} (hi : i < es.length) {g cap : Nat} (hv : v = .slice (some ⟨g, 0, none⟩) es.length cap) : Calls Try.prog 60 #[.pointer (some ⟨b, 0, none⟩), .pointer (some ⟨g, i * 6, none⟩), .int .i64 2] w fun e w' => e = .returned (.tuple #[]) ∧ MI w' base b v (es.set i { es[i] with s := { es[i].s with st := 2 } }) n ∧ Fr w (fpm b v es) w' (fpm b v es) := by
  have HQ := Hid_of (h.setst hi hv 2)
  obtain ⟨g', cap', hv', ⟨c0, c1, _⟩, cf, _⟩ := h.get i hi
  have e : g' = g := by rw [hv] at hv'; simp only [Value.slice.injEq, Option.some.injEq, Addr.mk.injEq] at hv'; exact hv'.1.1.symm
  subst e
  have f1 := cf (i * 6 + 1)
  clear h hv hv' cf
  go_enter Try.func60, Try.ntmps60
  go_wp2
  go_end0
  exact ⟨rfl, HQ.out⟩
theorem become3_any (h : MI w base b v es n) (hn : 1 ≤ n ∧ n ≤ 100000) {i : Nat} (hi : i < es.length) {g cap : Nat} (hv : v = .slice (some ⟨g, 0, none⟩) es.length cap) : Calls Try.prog 60 #[.pointer (some ⟨b, 0, none⟩), .pointer (some ⟨g, i * 6, none⟩), .int .i64 3] w fun e w' => e = .returned (.tuple #[]) ∧ MI w' base b v (es.set i { es[i] with s := { es[i].s with st := 3 } }) (n - 1) ∧ Fr w (fpm b v es) w' (fpm b v es) := by
  obtain ⟨hm, hf⟩ := h.setn (n - 1)
  obtain ⟨hm2, hf2⟩ := hm.setst hi hv 3
  have HQ := Hid_of (And.intro hm2 (hf.trans hf2))
  obtain ⟨g', cap', hv', ⟨c0, c1, _⟩, cf, _⟩ := hm.get i hi
  have e : g' = g := by rw [hv] at hv'; simp only [Value.slice.injEq, Option.some.injEq, Addr.mk.injEq] at hv'; exact hv'.1.1.symm
  subst e
  have f1 := cf (i * 6 + 1)
  obtain ⟨b0, b1, _, fb1⟩ := h.cells
  have hw : IntKind.i64.wrap (n - 1) = n - 1 := by rw [IntKind.wrap_i64]; omega
  clear h hv hv' cf hm hf hm2 hf2
  go_enter Try.func60, Try.ntmps60
  go_wp2
  go_end0
  exact ⟨rfl, HQ.out⟩
end

end Go.Proofs.Ytgcfpihfoekllaa
